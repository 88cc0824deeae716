/- Facts and walks for the statement. -/
import Derived.Test.YteadfpkihhaadaaGreatDoorPz35
namespace Go.Proofs.YteadfpkihhaadaaGreatDoor
open Go.RowKit Go.Shelf
theorem rndV_len (x : Tr.N × Value) : (rndV x).length = 7 := rfl
theorem NRow.mod {B : Nat} {w : World} {g c : Nat} {qs : List (Tr.N × Value)} (h : NRow B w (.slice (some ⟨g, 0, none⟩) qs.length c) qs) {k j : Nat} (hk : k < qs.length) (hj : j < 7) {u : Value} {G : Tr.N × Value → Tr.N × Value} (hG : ∀ x, rndV (G x) = (rndV x).set j u) (h2 : ∀ x, (G x).2 = x.2) (h1 : ∀ x, (G x).1.al = x.1.al) :
  NRow B (w.setCell ⟨g, k * 7 + j, none⟩ u) (.slice (some ⟨g, 0, none⟩) (qs.modify k G).length c) (qs.modify k G) := by
 obtain ⟨s1, s2⟩ := h.own.stored (k * 7 + j) u
 refine ⟨?_, ?_⟩
 ·rw [← fl_set rndV_len hG hj qs k hk, List.length_modify]
  exact s1
 ·intro x hx
  obtain ⟨n, hn, rfl⟩ := List.getElem_of_mem hx
  rw [List.getElem_modify]
  rw [List.length_modify] at hn
  have ha := h.att _ (List.getElem_mem hn)
  have hb := World.ownsRow.kept ha s2 (own_types ha h.own (by decide))
  split
  ·rename_i e
   unfold OwnA5
   rw [h2, h1]
   exact hb
  ·exact hb
theorem RD.toks {B r : Nat} {w w' : World} {A : Option Addr} {c : Nat} {ps : List RTok} {i : Nat} {nv : Value} {qs : List (Tr.N × Value)} {a0 e0 : Int} {sz : Nat} (h : RD B r w A c ps i nv qs a0 e0 sz) (hg : w.grownBy w' nv.ownBlock) : RRow B w' (.slice A ps.length c) ps := by
 refine h.tok.grown hg (fun k hk => ⟨fun e => ?_, fun x hx e => ?_⟩)
 ·rcases own_types h.tok.own h.row.own (by decide) with h1 | h1
  ·rw [h1] at e; cases e
  ·exact h1 (e.trans hk.symm)
 ·rcases own_types (h.tok.att x hx) h.row.own (by decide) with h1 | h1
  ·rw [h1] at e; cases e
  ·exact h1 (e.trans hk.symm)
theorem RD.apart {B r : Nat} {w : World} {A : Option Addr} {c : Nat} {ps : List RTok} {i : Nat} {nv : Value} {qs : List (Tr.N × Value)} {a0 e0 : Int} {sz : Nat} (h : RD B r w A c ps i nv qs a0 e0 sz) {g : Nat} (hg : nv.ownBlock = some g) : r ≠ g := fun e => by
 obtain ⟨_, _, cs, h2⟩ := own_heap h.row.own hg
 have h1 := h.blk
 unfold IsBlk at h1
 rw [e, h2] at h1
 injection h1 with h1
 injection h1 with _ h1
 exact absurd h1 (by decide)
theorem RD.mod {B r : Nat} {w : World} {A : Option Addr} {c g cn : Nat} {ps : List RTok} {i : Nat} {qs : List (Tr.N × Value)} {a0 e0 : Int} {sz : Nat} (h : RD B r w A c ps i (.slice (some ⟨g, 0, none⟩) qs.length cn) qs a0 e0 sz) {k j : Nat} (hk : k < qs.length) (hj : j < 7) {u : Value} {G : Tr.N × Value → Tr.N × Value} (hG : ∀ x, rndV (G x) = (rndV x).set j u) (h2 : ∀ x, (G x).2 = x.2) (h1 : ∀ x, (G x).1.al = x.1.al) :
  RD B r (w.setCell ⟨g, k * 7 + j, none⟩ u) A c ps i (.slice (some ⟨g, 0, none⟩) (qs.modify k G).length cn) (qs.modify k G) a0 e0 sz ∧ Kr w (w.setCell ⟨g, k * 7 + j, none⟩ u) ∧ Below B w (w.setCell ⟨g, k * 7 + j, none⟩ u) := by
 obtain ⟨s1, s2⟩ := h.row.own.stored (k * 7 + j) u
 obtain ⟨hB, _, cs, hb⟩ := own_heap h.row.own (g := g) rfl
 have hr : r ≠ g := h.apart rfl
 refine ⟨⟨h.base, ?_, h.row.mod hk hj hG h2 h1, h.toks s2⟩, Kr.set (p := ⟨g, _, none⟩) hb (Or.inr rfl) u, (Below.refl _ _).setCell (p := ⟨g, _, none⟩) hB u⟩
 have hq := h.blk
 rw [List.length_modify]
 exact (s2.block r h.blk.lt (fun e => hr (by simpa [Value.ownBlock] using e))).trans hq
theorem RD.app {B r : Nat} {w w9 : World} {A : Option Addr} {c : Nat} {ps : List RTok} {i : Nat} {nv v9 : Value} {qs : List (Tr.N × Value)} {a0 e0 : Int} {sz : Nat} (h : RD B r w A c ps i nv qs a0 e0 sz) {x : Tr.N × Value} (hx : OwnA5 B w x.2 x.1.al) (hgr : w.grownBy w9 nv.ownBlock)
  (hown : w9.ownsRow B 83 7 v9 (qs.length + 1) (qs.flatMap rndV ++ rndV x)) :
  RD B r (w9.setCell ⟨r, 2, none⟩ v9) A c ps i v9 (qs ++ [x]) a0 e0 sz ∧ Kr w (w9.setCell ⟨r, 2, none⟩ v9) := by
 have hN : NRow B w9 v9 (qs ++ [x]) := h.row.snoc hx hgr hown
 have hT := h.toks hgr
 have hb : IsBlk w9 r 61 #[.slice A ps.length c, .int .i64 i, nv, .int .i64 a0, .int .i64 e0, .int .i64 sz] :=
  (hgr.block r h.blk.lt (fun e => h.apart e.symm rfl)).trans h.blk
 have h9 : RD B r (w9.setCell ⟨r, 2, none⟩ v9) A c ps i v9 (qs ++ [x]) a0 e0 sz := by
  have hf : Fr (fun b => b = r) w9 (w9.setCell ⟨r, 2, none⟩ v9) := Fr.set w9 ⟨r, 2, none⟩ v9 rfl
  have hr : ∀ {B' : Nat} {e : TypeId} {size n : Nat} {v : Value} {xs : List Value}, w9.ownsRow B' e size v n xs → 61 ≠ e → (w9.setCell ⟨r, 2, none⟩ v9).ownsRow B' e size v n xs := fun h1 hne => hf.own h1 (fun g hg e => blk_apart hb h1 hne (e ▸ hg))
  exact ⟨h.base, hb.set 2 _, ⟨hr hN.own (by decide), fun y hy => hr (hN.att y hy) (by decide)⟩, ⟨hr hT.own (by decide), fun y hy => hr (hT.att y hy) (by decide), hT.says, hT.apart⟩⟩
 exact ⟨h9, (Kr.grown hgr h.row.own).trans (Kr.set (p := ⟨r, 2, none⟩) hb (Or.inl rfl) v9)⟩
end Go.Proofs.YteadfpkihhaadaaGreatDoor
namespace Go.Proofs.YteadfpkihhaadaaGreatDoor
open Go.RowKit Go.Shelf
def ElQ (R : Tr.Rs) (B r : Nat) (A : Option Addr) (c : Nat) (ps : List RTok) (P : List Tr.N) (a0 e0 : Int) (sz : Nat) (w : World) (e : Ending) (w' : World) : Prop :=
 (match R with
  | .bad a er => e = .returned (.bool false) ∧ ∃ i' nv' qs', RD B r w' A c ps i' nv' qs' (a : Nat) er sz
  | .ok rest M => e = .returned (.bool true) ∧ ∃ i' nv' qs', i' ≤ ps.length ∧ (ps.map (·.t)).drop i' = rest ∧ qs'.map (·.1) = P ++ M ∧ RD B r w' A c ps i' nv' qs' a0 e0 sz) ∧ Kr w w' ∧ Below B w w'
structure ElOk (ps : List RTok) : Prop where
 n : ps.length ≤ 1048576
 kinds : ∀ x ∈ ps, x.t.k = 1 ∨ x.t.k = 2 ∨ x.t.k = 3 ∨ x.t.k = 4
 al : ∀ x ∈ ps, x.al.length ≤ 1048576
 tx : Tk.txs (ps.map (·.t)) ≤ 400000
def ElC (B r : Nat) (A : Option Addr) (c : Nat) (ps : List RTok) (sz f : Nat) : Prop :=
 ∀ (w : World) (i : Nat) (nv : Value) (qs : List (Tr.N × Value)) (a0 e0 pa : Int) (deep : Nat), RD B r w A c ps i nv qs a0 e0 sz → (hi : i < ps.length) → 2 * (ps.length - i) < f → qs.length ≤ 4096 → deep ≤ 65 → (ps[i].t.k = 1 ∨ ps[i].t.k = 3) →
  Calls Tryz.prog 24 #[.pointer (some ⟨r, 0, none⟩), .int .i64 pa, .int .i64 deep] w (ElQ (Tr.elP f sz ((ps.map (·.t)).drop i) qs.length pa deep) B r A c ps (qs.map (·.1)) a0 e0 sz w)
theorem el_app {B r p : Nat} {W2 W5 w9 : World} {A An Av : Option Addr} {c cn na cv g9 cap9 i sz : Nat} {ps : List RTok} {qs : List (Tr.N × Value)} {a0 e0 pa : Int} {X : RTok} {N : ByteArray} {b0 b2 b3 : Value} {Bv : Nat} (h : RD B r W2 A c ps i (.slice An qs.length cn) qs a0 e0 sz)
  (hbx : IsBlk W2 p 64 #[b0, .string N, b2, b3, .int .i64 X.t.p]) (hv : OwnA5 Bv W2 (.slice Av na cv) (Tr.srt X.t.as)) (hBv : B ≤ Bv) (hN : N = ⟨X.t.nm.toArray⟩)
  (hb5 : Below W2.heap.size W2 W5) (hgr9 : W5.grownBy w9 (Value.slice An qs.length cn).ownBlock) (hown9 : w9.ownsRow B 83 7 (.slice (some ⟨g9, 0, none⟩) (qs.length + 1) cap9) (qs.length + 1) (qs.flatMap rndV ++ [.string N, .slice Av na cv, .string ⟨#[]⟩, .int .i64 pa, .int .i64 (-1), .int .i64 (-1), .int .i64 X.t.p])) :
  w9.cell? ⟨p, 1, none⟩ = some (.string N) ∧ w9.cell? ⟨p, 4, none⟩ = some (.int .i64 X.t.p) ∧ w9.cell? ⟨r, 2, none⟩ = some (.slice An qs.length cn) ∧ w9.frozen? ⟨r, 2, none⟩ = false ∧
  RD B r (w9.setCell ⟨r, 2, none⟩ (.slice (some ⟨g9, 0, none⟩) (qs.length + 1) cap9)) A c ps i (.slice (some ⟨g9, 0, none⟩) (qs.length + 1) cap9) (qs ++ [(⟨X.t.nm, Tr.srt X.t.as, [], pa, -1, -1, X.t.p⟩, .slice Av na cv)]) a0 e0 sz ∧ Kr W2 (w9.setCell ⟨r, 2, none⟩ (.slice (some ⟨g9, 0, none⟩) (qs.length + 1) cap9)) ∧
  IsBlk (w9.setCell ⟨r, 2, none⟩ (.slice (some ⟨g9, 0, none⟩) (qs.length + 1) cap9)) p 64 #[b0, .string N, b2, b3, .int .i64 X.t.p] ∧ Below B W2 (w9.setCell ⟨r, 2, none⟩ (.slice (some ⟨g9, 0, none⟩) (qs.length + 1) cap9)) := by
 have hBW : B ≤ W2.heap.size := Nat.le_trans h.base (Nat.le_of_lt h.blk.lt)
 have h5 := h.below hb5
 have hb : IsBlk w9 p 64 #[b0, .string N, b2, b3, .int .i64 X.t.p] := (Kr.grown hgr9 h5.row.own).blk (hbx.below hb5 hbx.lt) (by decide) (by decide)
 have hr : IsBlk w9 r 61 #[.slice A ps.length c, .int .i64 i, .slice An qs.length cn, .int .i64 a0, .int .i64 e0, .int .i64 sz] :=
  (hgr9.block r h5.blk.lt (fun e => h5.apart e.symm rfl)).trans h5.blk
 obtain ⟨q1, q2⟩ := h5.app (x := (⟨X.t.nm, Tr.srt X.t.as, [], pa, -1, -1, X.t.p⟩, .slice Av na cv)) (own_less (own_below hv hb5) hBv) hgr9 (by
  unfold rndV; rw [← hN]; exact hown9)
 exact ⟨hb.at_ 1, hb.at_ 4, hr.at_ 2, hr.fz 2, q1, (Kr.of_below hb5).trans q2, (Kr.set (p := ⟨r, 2, none⟩) hr (Or.inl rfl) _).blk hb (by decide) (by decide),
  (Below.grown (hb5.mono hBW) hgr9 (Nat.le_trans hBW hb5.size) (fun q hq => (h.row.own.lt q hq).1)).setCell (p := ⟨r, 2, none⟩) h.base _⟩
theorem drop_tok {ps : List RTok} {i : Nat} (hi : i < ps.length) : (ps.map (·.t)).drop i = ps[i].t :: (ps.map (·.t)).drop (i + 1) := by
 rw [List.drop_eq_getElem_cons (by rw [List.length_map]; exact hi)]; simp
end Go.Proofs.YteadfpkihhaadaaGreatDoor
