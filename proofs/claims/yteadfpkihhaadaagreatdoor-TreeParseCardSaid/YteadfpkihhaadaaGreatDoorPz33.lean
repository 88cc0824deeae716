/- Facts and walks for the statement. -/
import Derived.Test.YteadfpkihhaadaaGreatDoorPz28
import Derived.Test.YteadfpkihhaadaaGreatDoorPz32
import Derived.BigQuiet
namespace Go.Proofs.YteadfpkihhaadaaGreatDoor
open Go.RowKit Go.Shelf
structure Kr (w w' : World) : Prop where
 os : w'.os = w.os
 tape : w'.tape = w.tape
 output : w'.output = w.output
 size : w.heap.size ≤ w'.heap.size
 block : ∀ (k : Nat) (cs : Array Value) (t : TypeId) (f : Nat × Nat), w.heap[k]? = some (.cells cs t f) → t ≠ 61 → t ≠ 83 → w'.heap[k]? = some (.cells cs t f)
theorem Kr.refl (w : World) : Kr w w := ⟨rfl, rfl, rfl, Nat.le_refl _, fun _ _ _ _ h _ _ => h⟩
theorem Kr.trans {w w1 w2 : World} (h1 : Kr w w1) (h2 : Kr w1 w2) : Kr w w2 :=
 ⟨h2.os.trans h1.os, h2.tape.trans h1.tape, h2.output.trans h1.output, Nat.le_trans h1.size h2.size, fun k cs t f h a b => h2.block k cs t f (h1.block k cs t f h a b) a b⟩
theorem Kr.of_below {w w' : World} (h : Below w.heap.size w w') : Kr w w' := ⟨h.os, h.tape, h.output, h.size, fun k _ _ _ hk _ _ => (h.block k (at_lt hk)).trans hk⟩
theorem Kr.on {w w1 w2 : World} (h1 : Kr w w1) (h2 : Below w1.heap.size w1 w2) : Kr w w2 := h1.trans (Kr.of_below h2)
theorem Kr.blk {w w' : World} {g : Nat} {t : TypeId} {cs : Array Value} (hk : Kr w w') (h : IsBlk w g t cs) (h1 : t ≠ 61) (h2 : t ≠ 83) : IsBlk w' g t cs := hk.block g cs t (0, 0) h h1 h2
theorem Kr.set {w : World} {p : Addr} {cs : Array Value} {t : TypeId} {f : Nat × Nat} (h : w.heap[p.block]? = some (.cells cs t f)) (ht : t = 61 ∨ t = 83) (u : Value) : Kr w (w.setCell p u) :=
 ⟨rfl, rfl, rfl, by simp [World.setCell], fun k cs' t' f' hk a b => by
  rw [Below.heap_setCell w p u k (fun e => by
   rw [e, h] at hk
   injection hk with hk
   injection hk with _ hk _
   rw [hk] at ht
   rcases ht with e | e
   ·exact a e
   ·exact b e)]
  exact hk⟩
theorem Kr.grown {w w' : World} {B size n : Nat} {v : Value} {xs : List Value} (h : w.grownBy w' v.ownBlock) (ho : w.ownsRow B 83 size v n xs) : Kr w w' :=
 ⟨h.os, h.tape, h.output, h.size, fun k cs t f hk a b => by
  rw [h.block k (at_lt hk) (fun e => by
   obtain ⟨_, _, cs2, h2⟩ := own_heap ho e.symm
   rw [hk] at h2
   injection h2 with h2
   injection h2 with _ h2
   exact b h2)]
  exact hk⟩
structure RD (B r : Nat) (w : World) (A : Option Addr) (c : Nat) (ps : List RTok) (i : Nat) (nv : Value) (qs : List (Tr.N × Value)) (a0 e0 : Int) (sz : Nat) : Prop where
 base : B ≤ r
 blk : IsBlk w r 61 #[.slice A ps.length c, .int .i64 i, nv, .int .i64 a0, .int .i64 e0, .int .i64 sz]
 row : NRow B w nv qs
 tok : RRow B w (.slice A ps.length c) ps
theorem RD.below {B r : Nat} {w w' : World} {A : Option Addr} {c : Nat} {ps : List RTok} {i : Nat} {nv : Value} {qs : List (Tr.N × Value)} {a0 e0 : Int} {sz : Nat} (h : RD B r w A c ps i nv qs a0 e0 sz) (hb : Below w.heap.size w w') : RD B r w' A c ps i nv qs a0 e0 sz :=
 ⟨h.base, h.blk.below hb h.blk.lt, h.row.below hb, h.tok.below hb⟩
theorem rd_set {B r : Nat} {w : World} {A : Option Addr} {c : Nat} {ps : List RTok} {i : Nat} {nv : Value} {qs : List (Tr.N × Value)} {a0 e0 : Int} {sz : Nat} (h : RD B r w A c ps i nv qs a0 e0 sz) (j : Nat) (u : Value) :
  NRow B (w.setCell ⟨r, j, none⟩ u) nv qs ∧ RRow B (w.setCell ⟨r, j, none⟩ u) (.slice A ps.length c) ps ∧ Kr w (w.setCell ⟨r, j, none⟩ u) ∧ Below B w (w.setCell ⟨r, j, none⟩ u) := by
 have hk : Kr w (w.setCell ⟨r, j, none⟩ u) := Kr.set (p := ⟨r, j, none⟩) h.blk (Or.inl rfl) u
 have hf : Fr (fun b => b = r) w (w.setCell ⟨r, j, none⟩ u) := Fr.set w ⟨r, j, none⟩ u rfl
 have hr : ∀ {B' : Nat} {e : TypeId} {size n : Nat} {v : Value} {xs : List Value}, w.ownsRow B' e size v n xs → 61 ≠ e → (w.setCell ⟨r, j, none⟩ u).ownsRow B' e size v n xs := fun h1 hne => hf.own h1 (fun g hg e => blk_apart h.blk h1 hne (e ▸ hg))
 exact ⟨⟨hr h.row.own (by decide), fun x hx => hr (h.row.att x hx) (by decide)⟩, ⟨hr h.tok.own (by decide), fun x hx => hr (h.tok.att x hx) (by decide), h.tok.says, h.tok.apart⟩, hk, (Below.refl _ _).setCell (p := ⟨r, j, none⟩) h.base u⟩
theorem RD.seti {B r : Nat} {w : World} {A : Option Addr} {c : Nat} {ps : List RTok} {i : Nat} {nv : Value} {qs : List (Tr.N × Value)} {a0 e0 : Int} {sz : Nat} (h : RD B r w A c ps i nv qs a0 e0 sz) (k : Nat) : RD B r (w.setCell ⟨r, 1, none⟩ (.int .i64 k)) A c ps k nv qs a0 e0 sz :=
 ⟨h.base, h.blk.set 1 _, (rd_set h 1 _).1, (rd_set h 1 _).2.1⟩
theorem RD.seta {B r : Nat} {w : World} {A : Option Addr} {c : Nat} {ps : List RTok} {i : Nat} {nv : Value} {qs : List (Tr.N × Value)} {a0 e0 : Int} {sz : Nat} (h : RD B r w A c ps i nv qs a0 e0 sz) (k : Int) : RD B r (w.setCell ⟨r, 3, none⟩ (.int .i64 k)) A c ps i nv qs k e0 sz :=
 ⟨h.base, h.blk.set 3 _, (rd_set h 3 _).1, (rd_set h 3 _).2.1⟩
theorem RD.sete {B r : Nat} {w : World} {A : Option Addr} {c : Nat} {ps : List RTok} {i : Nat} {nv : Value} {qs : List (Tr.N × Value)} {a0 e0 : Int} {sz : Nat} (h : RD B r w A c ps i nv qs a0 e0 sz) (k : Int) : RD B r (w.setCell ⟨r, 4, none⟩ (.int .i64 k)) A c ps i nv qs a0 k sz :=
 ⟨h.base, h.blk.set 4 _, (rd_set h 4 _).1, (rd_set h 4 _).2.1⟩
theorem RD.cells {B r : Nat} {w : World} {A : Option Addr} {c : Nat} {ps : List RTok} {i : Nat} {nv : Value} {qs : List (Tr.N × Value)} {a0 e0 : Int} {sz : Nat} (h : RD B r w A c ps i nv qs a0 e0 sz) :
  w.cell? ⟨r, 0, none⟩ = some (.slice A ps.length c) ∧ w.cell? ⟨r, 1, none⟩ = some (.int .i64 i) ∧ w.cell? ⟨r, 2, none⟩ = some nv ∧ w.cell? ⟨r, 3, none⟩ = some (.int .i64 a0) ∧ w.cell? ⟨r, 4, none⟩ = some (.int .i64 e0) ∧ w.cell? ⟨r, 5, none⟩ = some (.int .i64 sz) :=
 ⟨h.blk.at_ 0, h.blk.at_ 1, h.blk.at_ 2, h.blk.at_ 3, h.blk.at_ 4, h.blk.at_ 5⟩
theorem rtokV_len (x : RTok) : (rtokV x).length = 5 := rfl
theorem RD.tcells {B r : Nat} {w : World} {A : Option Addr} {c : Nat} {ps : List RTok} {i : Nat} {nv : Value} {qs : List (Tr.N × Value)} {a0 e0 : Int} {sz : Nat} (h : RD B r w A c ps i nv qs a0 e0 sz) {k : Nat} (hk : k < ps.length) : ∃ g, A = some ⟨g, 0, none⟩ ∧ ps.length ≤ c ∧
  w.cell? ⟨g, k * 5, none⟩ = some (.int .u8 ps[k].t.k) ∧ w.cell? ⟨g, k * 5 + 1, none⟩ = some (.string ⟨ps[k].t.nm.toArray⟩) ∧ w.cell? ⟨g, k * 5 + 2, none⟩ = some ps[k].v ∧ w.cell? ⟨g, k * 5 + 3, none⟩ = some (.string ⟨ps[k].t.tx.toArray⟩) ∧ w.cell? ⟨g, k * 5 + 4, none⟩ = some (.int .i64 ps[k].t.p) := by
 have ho := h.tok.own
 obtain ⟨A', c', e, h1, _, h3⟩ := own_sliced ho
 injection e with e1 _ e3
 subst e1 e3
 obtain ⟨g, rfl, _, _⟩ := h3 (by omega)
 have q : ∀ j, j < 5 → w.cell? ⟨g, k * 5 + j, none⟩ = (rtokV ps[k])[j]? := fun j hj => by
  rw [World.ownsRow.cellAt ho (k * 5 + j) (by omega), fl_at rtokV_len ps k j hk hj]
 exact ⟨g, rfl, h1, q 0 (by omega), q 1 (by omega), q 2 (by omega), q 3 (by omega), q 4 (by omega)⟩
theorem rd_drewN {B r : Nat} {w0 w : World} {A : Option Addr} {c : Nat} {ps : List RTok} {i : Nat} {nv : Value} {qs : List (Tr.N × Value)} {a0 e0 : Int} {sz : Nat} (h : RD B r w A c ps i nv qs a0 e0 sz) (hk : Kr w0 w) (hb : Below B w0 w) (n : Nat) :
  RD B r (w.drewN n) A c ps i nv qs a0 e0 sz ∧ Kr w0 (w.drewN n) ∧ Below B w0 (w.drewN n) :=
 have b := below_drewN (Below.refl w.heap.size w) n
 ⟨h.below b, hk.on b, below_drewN hb n⟩
theorem rd_seta {B r : Nat} {w0 w : World} {A : Option Addr} {c : Nat} {ps : List RTok} {i : Nat} {nv : Value} {qs : List (Tr.N × Value)} {a0 e0 : Int} {sz : Nat} (h : RD B r w A c ps i nv qs a0 e0 sz) (hk : Kr w0 w) (hb : Below B w0 w) (n : Nat) (x : Int) :
  RD B r ((w.drewN n).setCell ⟨r, 3, none⟩ (.int .i64 x)) A c ps i nv qs x e0 sz ∧ Kr w0 ((w.drewN n).setCell ⟨r, 3, none⟩ (.int .i64 x)) ∧ Below B w0 ((w.drewN n).setCell ⟨r, 3, none⟩ (.int .i64 x)) :=
 have ⟨q1, q2, q3⟩ := rd_drewN h hk hb n
 ⟨q1.seta x, q2.trans (rd_set q1 3 _).2.2.1, q3.setCell (p := ⟨r, 3, none⟩) h.base _⟩
def atOf (ps : List RTok) (i : Nat) (sz : Nat) : Int := ((ps[i]?).map (fun x => ((x.t.p : Nat) : Int))).getD sz
set_option maxHeartbeats 4000000 in
set_option maxRecDepth 100000 in
theorem fails_any (B r : Nat) (w : World) (A : Option Addr) (c : Nat) (ps : List RTok) (i : Nat) (nv : Value) (qs : List (Tr.N × Value)) (a0 e0 : Int) (sz : Nat) (h : RD B r w A c ps i nv qs a0 e0 sz) (e1 : Int) (hn : ps.length ≤ 1048576) (hi : i ≤ ps.length) :
  Calls Tryz.prog 23 #[.pointer (some ⟨r, 0, none⟩), .int .i64 e1] w fun e w' => e = .returned (.bool false) ∧ RD B r w' A c ps i nv qs (atOf ps i sz) e1 sz ∧ Kr w w' ∧ Below B w w' := by
 have hn' : (ps.length : Int) ≤ 1048576 := by omega
 obtain ⟨W1, hW1⟩ : ∃ W1, W1 = w.setCell ⟨r, 4, none⟩ (.int .i64 e1) := ⟨_, rfl⟩
 obtain ⟨W2, hW2⟩ : ∃ W2, W2 = W1.setCell ⟨r, 3, none⟩ (.int .i64 sz) := ⟨_, rfl⟩
 have r1 : RD B r W1 A c ps i nv qs a0 e1 sz := by rw [hW1]; exact h.sete e1
 have r2 : RD B r W2 A c ps i nv qs sz e1 sz := by rw [hW2]; exact r1.seta sz
 have k1 : Kr w W1 ∧ Below B w W1 := by rw [hW1]; exact ⟨(rd_set h 4 _).2.2.1, (rd_set h 4 _).2.2.2⟩
 have k2 : Kr W1 W2 ∧ Below B W1 W2 := by rw [hW2]; exact ⟨(rd_set r1 3 _).2.2.1, (rd_set r1 3 _).2.2.2⟩
 have HR2 := Lib.hid r2
 have HK2 := Lib.hid (And.intro (k1.1.trans k2.1) (k1.2.trans k2.2))
 have HE1 := Lib.hid hW1
 have HE2 := Lib.hid hW2
 have c5 := r1.cells.2.2.2.2.2
 have f4 : w.frozen? ⟨r, 4, none⟩ = false := h.blk.fz 4
 have f3 : W1.frozen? ⟨r, 3, none⟩ = false := r1.blk.fz 3
 have c4 := h.cells.2.2.2.2.1
 have c3 := r1.cells.2.2.2.1
 rw [hW1] at c5 f3 c3
 clear hW1 hW2 r1 r2 k1 k2 h
 by_cases hlt : i < ps.length
 ·have hlt' : (i : Int) < (ps.length : Int) := by omega
  obtain ⟨g, hA, hgc, -, -, -, -, t4⟩ := HR2.out.tcells hlt
  subst hA
  have hgc' : (ps.length : Int) ≤ (c : Int) := by omega
  have HAT := Lib.hid (show atOf ps i sz = ((ps[i].t.p : Nat) : Int) from by unfold atOf; rw [List.getElem?_eq_getElem hlt]; rfl)
  obtain ⟨d0, d1, _⟩ := HR2.out.cells
  have d3 := HR2.out.cells.2.2.2.1
  have HFIN := Lib.hid (fun (n : Nat) => show Value.bool false = Value.bool false ∧ _ from ⟨rfl, rd_seta HR2.out HK2.out.1 HK2.out.2 n (ps[i].t.p : Int)⟩)
  rw [HAT.out]
  clear HAT
  have f32 : W2.frozen? ⟨r, 3, none⟩ = false := HR2.out.blk.fz 3
  generalize ps[i].t.p = tp at *
  clear hlt d3
  rw [HE2.out, HE1.out] at d0 d1 f32 t4
  go_enter Tryz.func23, Tryz.ntmps23
  go_wp2_with fail
  go_quiet (fail)
  go_wp2_with fail
  go_region
  all_goals
   go_wp2
   go_ret
   rw [← HE1.out, ← HE2.out]
   exact ⟨rfl, (HFIN.out _).2⟩
 ·have hlt' : ¬ ((i : Int) < (ps.length : Int)) := by omega
  have HAT := Lib.hid (show atOf ps i sz = (sz : Int) from by unfold atOf; rw [List.getElem?_eq_none (by omega)]; rfl)
  obtain ⟨d0, d1, _⟩ := HR2.out.cells
  clear hlt
  have HFIN := Lib.hid (fun (n : Nat) => rd_drewN HR2.out HK2.out.1 HK2.out.2 n)
  rw [HE2.out, HE1.out] at d0 d1
  rw [HAT.out]
  clear HAT
  go_enter Tryz.func23, Tryz.ntmps23
  go_wp2_with fail
  go_quiet (fail)
  go_wp2_with fail
  go_ret
  rw [← HE1.out, ← HE2.out]
  exact ⟨rfl, HFIN.out _⟩
end Go.Proofs.YteadfpkihhaadaaGreatDoor
namespace Go.Proofs.YteadfpkihhaadaaGreatDoor
open Go.RowKit Go.Shelf
theorem blanksP_go {ts : List Tk.T} {k : Nat} (hk : k < ts.length) (h4 : ts[k].k = 4) (hb : Tk.allB ts[k].tx = true) : Tr.blanksP (ts.drop k) = Tr.blanksP (ts.drop (k + 1)) := by
 rw [List.drop_eq_getElem_cons hk]
 conv => lhs; unfold Tr.blanksP
 rw [if_pos ⟨h4, hb⟩]
theorem blanksP_stop {ts : List Tk.T} {k : Nat} (hk : k < ts.length) (h : ¬ (ts[k].k = 4 ∧ Tk.allB ts[k].tx = true)) : Tr.blanksP (ts.drop k) = ts.drop k := by
 rw [List.drop_eq_getElem_cons hk]
 conv => lhs; unfold Tr.blanksP
 rw [if_neg h]
theorem blanksP_end {ts : List Tk.T} {k : Nat} (hk : ts.length ≤ k) : Tr.blanksP (ts.drop k) = ts.drop k := by
 rw [List.drop_of_length_le hk]; rfl
def iOf (r : Nat) (w : World) : Nat := ((w.cell? ⟨r, 1, none⟩).map (fun v => (intOf v).toNat)).getD 0
theorem RD.iOf {B r : Nat} {w : World} {A : Option Addr} {c : Nat} {ps : List RTok} {i : Nat} {nv : Value} {qs : List (Tr.N × Value)} {a0 e0 : Int} {sz : Nat} (h : RD B r w A c ps i nv qs a0 e0 sz) : iOf r w = i := by
 unfold Proofs.YteadfpkihhaadaaGreatDoor.iOf
 rw [h.cells.2.1]
 simp [intOf]
theorem rd_next {B r : Nat} {w0 w : World} {A : Option Addr} {c : Nat} {ps : List RTok} {i : Nat} {nv : Value} {qs : List (Tr.N × Value)} {a0 e0 : Int} {sz : Nat} (h : RD B r w A c ps i nv qs a0 e0 sz) (hk : Kr w0 w) (hb : Below B w0 w) (n k : Nat) :
  RD B r ((w.drewN n).setCell ⟨r, 1, none⟩ (.int .i64 k)) A c ps k nv qs a0 e0 sz ∧ Kr w0 ((w.drewN n).setCell ⟨r, 1, none⟩ (.int .i64 k)) ∧ Below B w0 ((w.drewN n).setCell ⟨r, 1, none⟩ (.int .i64 k)) :=
 have ⟨q1, q2, q3⟩ := rd_drewN h hk hb n
 ⟨q1.seti k, q2.trans (rd_set q1 1 _).2.2.1, q3.setCell (p := ⟨r, 1, none⟩) h.base _⟩
structure BlI (B r : Nat) (w : World) (A : Option Addr) (c : Nat) (ps : List RTok) (i : Nat) (nv : Value) (qs : List (Tr.N × Value)) (a0 e0 : Int) (sz : Nat) (wr : World) (k : Nat) : Prop where
 rd : RD B r wr A c ps k nv qs a0 e0 sz
 kr : Kr w wr
 below : Below B w wr
 le : i ≤ k
 eq : Tr.blanksP ((ps.map (·.t)).drop i) = Tr.blanksP ((ps.map (·.t)).drop k)
theorem BlI.go {B r : Nat} {w : World} {A : Option Addr} {c : Nat} {ps : List RTok} {i : Nat} {nv : Value} {qs : List (Tr.N × Value)} {a0 e0 : Int} {sz : Nat} {wr : World} {k : Nat} (h : BlI B r w A c ps i nv qs a0 e0 sz wr k) (hk : k < ps.length) (n : Nat) (h4 : ps[k].t.k = 4) (hb : Tk.allB ps[k].t.tx = true) :
  BlI B r w A c ps i nv qs a0 e0 sz ((wr.drewN n).setCell ⟨r, 1, none⟩ (.int .i64 ((k : Int) + 1))) (k + 1) := by
 rw [show ((k : Int) + 1) = ((k + 1 : Nat) : Int) by omega]
 obtain ⟨q1, q2, q3⟩ := rd_next h.rd h.kr h.below n (k + 1)
 exact ⟨q1, q2, q3, Nat.le_succ_of_le h.le, h.eq.trans (blanksP_go (by rw [List.length_map]; exact hk) (by simpa using h4) (by simpa using hb))⟩
theorem BlI.stop {B r : Nat} {w : World} {A : Option Addr} {c : Nat} {ps : List RTok} {i : Nat} {nv : Value} {qs : List (Tr.N × Value)} {a0 e0 : Int} {sz : Nat} {wr : World} {k : Nat} (h : BlI B r w A c ps i nv qs a0 e0 sz wr k) (hk : k < ps.length) (n : Nat) (h4 : ¬ (ps[k].t.k = 4 ∧ Tk.allB ps[k].t.tx = true)) :
  (∃ i', i' ≤ ps.length ∧ i ≤ i' ∧ Tr.blanksP ((ps.map (·.t)).drop i) = (ps.map (·.t)).drop i' ∧ RD B r (wr.drewN n) A c ps i' nv qs a0 e0 sz) ∧ Kr w (wr.drewN n) ∧ Below B w (wr.drewN n) := by
 obtain ⟨q1, q2, q3⟩ := rd_drewN h.rd h.kr h.below n
 exact ⟨⟨k, Nat.le_of_lt hk, h.le, h.eq.trans (blanksP_stop (by rw [List.length_map]; exact hk) (by simpa using h4)), q1⟩, q2, q3⟩
set_option maxHeartbeats 4000000 in
set_option maxRecDepth 100000 in
theorem rdblanks_any (B r : Nat) (w : World) (A : Option Addr) (c : Nat) (ps : List RTok) (i : Nat) (nv : Value) (qs : List (Tr.N × Value)) (a0 e0 : Int) (sz : Nat) (h : RD B r w A c ps i nv qs a0 e0 sz) (hn : ps.length ≤ 1048576) (hi : i ≤ ps.length) (hx : ∀ x ∈ ps, x.t.tx.length ≤ 1000000) :
  Calls Tryz.prog 22 #[.pointer (some ⟨r, 0, none⟩)] w fun e w' => e = .returned (.tuple #[]) ∧ (∃ i', i' ≤ ps.length ∧ i ≤ i' ∧ Tr.blanksP ((ps.map (·.t)).drop i) = (ps.map (·.t)).drop i' ∧ RD B r w' A c ps i' nv qs a0 e0 sz) ∧ Kr w w' ∧ Below B w w' := by
 have hn' : (ps.length : Int) ≤ 1048576 := by omega
 have HI0 := Lib.hid (show BlI B r w A c ps i nv qs a0 e0 sz w i from ⟨h, Kr.refl _, Below.refl _ _, Nat.le_refl _, rfl⟩)
 have HX := Lib.hid hx
 clear h hx
 go_enter Tryz.func22, Tryz.ntmps22
 go_wp2
 go_loopw [] (fun wr => ∃ k : Nat, k ≤ ps.length ∧ Hid (BlI B r w A c ps i nv qs a0 e0 sz wr k)) (fun wr => ps.length - iOf r wr)
 case atStart => exact ⟨i, hi, HI0⟩
 case round =>
  obtain ⟨k, hk, HI⟩ := hrel
  obtain ⟨d0, d1, _⟩ := HI.out.rd.cells
  have HM := Lib.hid HI.out.rd.iOf
  by_cases hlt : k < ps.length
  ·have hlt' : (k : Int) < (ps.length : Int) := by omega
   have HLT := Lib.hid hlt
   obtain ⟨g, hA, hgc, t0, -, -, t3, -⟩ := HI.out.rd.tcells hlt
   subst hA
   have hgc' : (ps.length : Int) ≤ (c : Int) := by omega
   have f1 : wr.frozen? ⟨r, 1, none⟩ = false := HI.out.rd.blk.fz 1
   have HTX := Lib.hid (HX.out _ (List.getElem_mem hlt))
   have HG := Lib.hid (fun (n : Nat) => HI.out.go hlt n)
   have HS := Lib.hid (fun (n : Nat) => HI.out.stop hlt n)
   generalize ps[k].t = T at *
   clear hlt hgc
   obtain ⟨K, hK⟩ : ∃ K, K = T.k := ⟨_, rfl⟩
   obtain ⟨X, hX⟩ : ∃ X : ByteArray, X = ⟨T.tx.toArray⟩ := ⟨_, rfl⟩
   rw [← hK] at t0
   rw [← hX] at t3
   have HK := Lib.hid hK
   have HXX := Lib.hid hX
   have HXL := Lib.hid (show X.data.toList = T.tx by rw [hX])
   clear hK hX
   by_cases h4 : K = 4
   ·subst h4
    have HB := Lib.hid (fun w0 => rBlank_any X w0 (by have h1 := HTX.out; have h2 : X.size = T.tx.length := (Lib.size_eq X).trans (by rw [HXL.out]); unfold maxLen; omega))
    cases hb : Tk.allB X.data.toList with
    | true =>
     rw [hb] at HB
     have HBB := Lib.hid hb
     clear hb
     go_wp2_with fail
     go_quiet ((go_at_call 51; exact Calls.quiet_of_same ((HB.out _).mono fun _ _ h => ⟨h.1, h.2.symm⟩)))
     go_wp2
     have HN := Lib.hid (HG.out nq HK.out.symm (by rw [← HXL.out]; exact HBB.out))
     have HM2 := HN.out.rd.iOf
     go_roundw
     case rel => exact ⟨k + 1, HLT.out, HN⟩
     case measure => rw [HM.out, HM2]; have := HLT.out; omega
    | false =>
     rw [hb] at HB
     have HBB := Lib.hid hb
     clear hb
     go_wp2_with fail
     go_quiet ((go_at_call 51; exact Calls.quiet_of_same ((HB.out _).mono fun _ _ h => ⟨h.1, h.2.symm⟩)))
     go_wp2
     go_end0
     exact ⟨rfl, HS.out _ (fun e => by have h1 := HBB.out; rw [HXL.out, e.2] at h1; cases h1)⟩
   ·have h4' : ¬ (K : Int) = 4 := by omega
    have h5 : decide ((K : Int) = 4) = false := decide_eq_false h4'
    have h6 : ((K : Int) == 4) = false := by simpa using h4'
    have H4 := Lib.hid h4
    clear h4
    go_wp2_with fail
    go_quiet (fail)
    go_wp2
    go_end0
    exact ⟨rfl, HS.out _ (fun e => H4.out (HK.out.trans e.1))⟩
  ·have hlt' : ¬ (k : Int) < (ps.length : Int) := by omega
   have hd : decide ((k : Int) < (ps.length : Int)) = false := decide_eq_false hlt'
   have hdn : decide (k < ps.length) = false := decide_eq_false hlt
   have HE := Lib.hid (fun (n : Nat) => show _ ∧ _ from ⟨HI.out.eq.trans (blanksP_end (ts := ps.map (·.t)) (k := k) (by rw [List.length_map]; omega)), rd_drewN HI.out.rd HI.out.kr HI.out.below n⟩)
   have HIK := Lib.hid (show k ≤ ps.length ∧ i ≤ k from ⟨hk, HI.out.le⟩)
   clear hlt
   go_wp2_with fail
   go_quiet (fail)
   go_wp2
   go_end0
   exact ⟨rfl, ⟨k, HIK.out.1, HIK.out.2, (HE.out 0).1, ((HE.out _).2).1⟩, (HE.out _).2.2⟩
end Go.Proofs.YteadfpkihhaadaaGreatDoor
