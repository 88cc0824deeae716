/- Facts and walks for the statement. -/
import Derived.Test.YteadfpkihhaadaaGreatDoorPz20
namespace Go.Proofs.YteadfpkihhaadaaGreatDoor
open Go.RowKit
structure InnP (B r : Nat) (w : World) (m : Gm) (eb eo : Nat) (w' : World) : Prop where
 bl : Below w.heap.size w w'
 c0 : w'.cell? ⟨eb, eo, none⟩ = some (.int .i64 (Tr.inn m.g).pl)
 c1 : w'.cell? ⟨eb, eo + 1, none⟩ = some (.int .i64 (Tr.inn m.g).yg)
 lt : eb < w'.heap.size
 or : (m.es = [] ∧ IsBlk w' eb 120 #[.int .i64 (-1), .int .i64 (-1), .slice none 0 0] ∧ eo = 0 ∧ w.heap.size ≤ eb) ∨ (∃ l x n cap, m.es = l ++ [x] ∧ m.ov = .slice (some ⟨eb, 0, none⟩) n cap ∧ eo = l.length * 3)
theorem inn_last {m : Gm} {l : List (Tr.E × Value)} {x : Tr.E × Value} (h : m.es = l ++ [x]) : Tr.inn m.g = x.1 := by
 unfold Tr.inn Gm.g; simp [h]
theorem inn_nil {m : Gm} (h : m.es = []) : Tr.inn m.g = Tr.noE := by
 unfold Tr.inn Gm.g; simp [h]
theorem GS.elcell {B : Nat} {w : World} {r : Nat} {m : Gm} (h : GS B w r m) {l : List (Tr.E × Value)} {x : Tr.E × Value} {og n cap : Nat} (he : m.es = l ++ [x]) (hv : m.ov = .slice (some ⟨og, 0, none⟩) n cap) (j : Nat) (hj : j < 3) :
  w.cell? ⟨og, l.length * 3 + j, none⟩ = (elV x)[j]? ∧ w.frozen? ⟨og, l.length * 3 + j, none⟩ = false := by
 have h1 := h.oown
 rw [hv] at h1
 have hn : n = m.es.length := by
  rcases own_form h1 with ⟨e1, _⟩ | ⟨g, c, e1, _⟩
  ·cases e1
  ·injection e1
 subst hn
 have hl : l.length < m.es.length := by rw [he]; simp
 refine ⟨?_, h1.frozenAt _⟩
 rw [h1.cellAt _ (by omega), fl_at elV_len _ _ _ hl hj]
 simp [he]
set_option maxHeartbeats 2000000 in
theorem inner_any (B : Nat) (w : World) (r : Nat) (m : Gm) (h : GS B w r m) :
  Calls Tryz.prog 64 #[.pointer (some ⟨r, 0, none⟩)] w fun e w' => ∃ eb eo, e = .returned (.pointer (some ⟨eb, eo, none⟩)) ∧ InnP B r w m eb eo w' := by
 rcases List.eq_nil_or_concat m.es with he | ⟨l, x, he⟩
 ·refine (inner_none B w r m h he).mono ?_
  rintro e w' ⟨p, rfl, hp, hb, hw⟩
  refine ⟨p, 0, rfl, hw, ?_, ?_, hb.lt, Or.inl ⟨he, hb, rfl, hp⟩⟩
  ·rw [inn_nil he]; exact hb.at_ 0
  ·rw [inn_nil he]; exact hb.at_ 1
 ·rw [List.concat_eq_append] at he
  obtain ⟨og, n, cap, hv⟩ : ∃ og n cap, m.ov = .slice (some ⟨og, 0, none⟩) n cap := by
   rcases own_form h.oown with ⟨e1, e2⟩ | ⟨g, c, e1, _⟩
   ·rw [he] at e2; simp at e2
   ·exact ⟨_, _, _, e1⟩
  refine (inner_some B w r m h he hv).mono ?_
  rintro e w' ⟨rfl, hw⟩
  have h' := h.below hw
  refine ⟨og, _, rfl, hw, ?_, ?_, Nat.lt_of_lt_of_le (h.oown.lt og (by rw [hv]; rfl)).2 hw.size, Or.inr ⟨l, x, n, cap, he, hv, rfl⟩⟩
  ·rw [inn_last he]; exact (h'.elcell he hv 0 (by omega)).1
  ·rw [inn_last he]; exact (h'.elcell he hv 1 (by omega)).1
theorem modify_snoc {α : Type} (l : List α) (x : α) (f : α → α) : (l ++ [x]).modify l.length f = l ++ [f x] := by
 induction l with
 | nil => rfl
 | cons a l ih => rw [List.cons_append, List.length_cons, List.modify_succ_cons, ih]; rfl
theorem InnP.young {B r : Nat} {w w2 w3 : World} {m : Gm} {eb eo : Nat} {nv : Value} {x : Nd} (h : InnP B r w m eb eo w2) (hg : GS B w r m) (hxl : 0 < x.n.al.length → ∀ a, x.A = some a → a.block < w.heap.size) (h3 : GTo B r w2 m w3 { m with nv := nv, ns := lnkM m.ns (Tr.inn m.g).pl (Tr.inn m.g).yg ++ [x] }) :
  (w3.cell? ⟨eb, eo, none⟩ = some (.int .i64 (Tr.inn m.g).pl) ∧ (w3.setCell ⟨eb, eo + 1, none⟩ (.int .i64 m.ns.length)).cell? ⟨eb, eo, none⟩ = some (.int .i64 (Tr.inn m.g).pl)) ∧
  (∃ u, w3.cell? ⟨eb, eo + 1, none⟩ = some (.int .i64 u)) ∧ w3.frozen? ⟨eb, eo + 1, none⟩ = false ∧ (∃ u, (w3.setCell ⟨eb, eo + 1, none⟩ (.int .i64 m.ns.length)).cell? ⟨eb, eo + 1, none⟩ = some u ∧ u = .int .i64 m.ns.length) ∧
  ∃ es, GTo B r w m (w3.setCell ⟨eb, eo + 1, none⟩ (.int .i64 m.ns.length)) { m with nv := nv, ns := lnkM m.ns (Tr.inn m.g).pl (Tr.inn m.g).yg ++ [x], es := es } ∧ es.map (·.1) = Tr.young (m.es.map (·.1)) m.ns.length ∧ es.length = m.es.length := by
 have h0 : GTo B r w m w2 m := GTo.below hg h.bl
 have h03 := h0.trans h3
 rcases h.or with ⟨he, hb, rfl, hle⟩ | ⟨l, y, n, cap, he, hv, rfl⟩
 ·have hnew : ∀ b, Gm.own { m with nv := nv, ns := lnkM m.ns (Tr.inn m.g).pl (Tr.inn m.g).yg ++ [x] } r b → b ≠ eb := fun b hb' e => by
   subst e
   rcases h3.new _ hb' with h4 | h4
   ·have := (hg.kinds h4).2.1; omega
   ·have := hb.lt; omega
  have hb3 : IsBlk w3 eb 120 #[.int .i64 (-1), .int .i64 (-1), .slice none 0 0] := h3.fr.blk hb (fun ho => by have := (hg.kinds ho).2.1; omega)
  have hA : ∀ y ∈ lnkM m.ns (Tr.inn m.g).pl (Tr.inn m.g).yg ++ [x], 0 < y.n.al.length → ∀ a, y.A = some a → a.block ≠ eb := fun y hy h0' a ha e => by
   have hlt : a.block < w.heap.size := by
    rcases List.mem_append.1 hy with hy | hy
    ·obtain ⟨z, hz, e1, e2⟩ := lnkM_mem hy
     exact hg.attlt z hz (e2 ▸ h0') a (e1 ▸ ha)
    ·simp only [List.mem_singleton] at hy
     subst hy
     exact hxl h0' a ha
   omega
  refine ⟨⟨by rw [inn_nil he]; exact hb3.at_ 0, by rw [inn_nil he]; exact (hb3.set 1 (.int .i64 m.ns.length)).at_ 0⟩, ⟨-1, hb3.at_ 1⟩, hb3.fz 1, ⟨_, (hb3.set 1 (.int .i64 m.ns.length)).at_ 1, rfl⟩, m.es, h03.aside (i := 0 + 1) (u := .int .i64 m.ns.length) hle hnew hA, ?_, rfl⟩
  rw [he]; rfl
 ·have hv3 : ({ m with nv := nv, ns := lnkM m.ns (Tr.inn m.g).pl (Tr.inn m.g).yg ++ [x] } : Gm).ov = .slice (some ⟨eb, 0, none⟩) n cap := hv
  have hc := h3.gs.elcell (l := l) (x := y) he hv3 1 (by omega)
  have hy := GTo.young h3.gs (k := l.length) (y := m.ns.length) hv3 (by simp only; rw [he]; simp) (by simp only [List.length_append, lnkM_len, List.length_cons, List.length_nil]; omega)
  have hc0 := h3.gs.elcell (l := l) (x := y) he hv3 0 (by omega)
  have hc0' : w3.cell? ⟨eb, l.length * 3, none⟩ = some (.int .i64 (Tr.inn m.g).pl) := by rw [inn_last he]; exact hc0.1
  refine ⟨⟨hc0', (World.cell?_setCell_other _ _ _ _ (by intro e; injection e with _ e; omega)).trans hc0'⟩, ⟨_, hc.1⟩, hc.2, ?_, _, h03.trans hy, ?_, by simp⟩
  ·refine ⟨_, World.cell?_setCell_same _ _ _ hc.1, rfl⟩
  ·simp only [he]
   rw [modify_snoc, List.map_append, List.map_append]
   exact (Tr.young_snoc _ _ _).symm
theorem InnP.on {B r : Nat} {w w2 w3 : World} {m : Gm} {eb eo : Nat} (h : InnP B r w m eb eo w2) (hb : Below w2.heap.size w2 w3) : InnP B r w m eb eo w3 :=
 ⟨h.bl.trans (hb.mono h.bl.size), (hb.cell (p := ⟨eb, eo, none⟩) h.lt).trans h.c0, (hb.cell (p := ⟨eb, eo + 1, none⟩) h.lt).trans h.c1, Nat.lt_of_lt_of_le h.lt hb.size,
  h.or.imp (fun ⟨a, b, c, d⟩ => ⟨a, b.below hb b.lt, c, d⟩) id⟩
theorem InnP.ne {B r : Nat} {w w2 : World} {m : Gm} {eb eo p : Nat} (h : InnP B r w m eb eo w2) (hp : p < w.heap.size) (hn : ¬ m.own r p) : eb ≠ p := fun e => by
 rcases h.or with ⟨_, _, _, hle⟩ | ⟨l, x, n, cap, _, hv, _⟩
 ·omega
 ·exact hn (Or.inr (Or.inr (Or.inl (by rw [hv, ← e]; rfl))))
end Go.Proofs.YteadfpkihhaadaaGreatDoor
namespace Go.Proofs.YteadfpkihhaadaaGreatDoor
open Go.RowKit
theorem infoEl : (Tryz.prog.info? 120).map (fun i => (i.zero, i.size, i.bytes)) = some (some (.agg #[.int .i64 0, .int .i64 0, .slice none 0 0]), 3, 40) := by kernel_rfl
def Nd.tr (x : Nd) : Option Addr × Nat × List (List UInt8 × List UInt8) := (x.A, x.c, x.n.al)
theorem lnkM_tr {ns : List Nd} {pa el : Int} {y : Nd} (h : y ∈ lnkM ns pa el) : ∃ z ∈ ns, y.tr = z.tr := by
 have key : ∀ (i : Nat) (f : Nd → Nd), (∀ x, (f x).tr = x.tr) → y ∈ ns.modify i f → ∃ z ∈ ns, y.tr = z.tr := by
  intro i f hf hy
  obtain ⟨k, hk, rfl⟩ := List.mem_iff_getElem.1 hy
  rw [List.length_modify] at hk
  rw [List.getElem_modify]
  split
  ·exact ⟨_, List.getElem_mem hk, hf _⟩
  ·exact ⟨_, List.getElem_mem hk, rfl⟩
 unfold lnkM at h
 split at h
 ·exact key _ (Nd.setNx ns.length) (fun _ => rfl) h
 ·split at h
  ·exact key _ (Nd.setFi ns.length) (fun _ => rfl) h
  ·exact ⟨y, h, rfl⟩
def TrIn (m m' : Gm) (x : Option Nd) : Prop := ∀ y ∈ m'.ns, (∃ z ∈ m.ns, y.tr = z.tr) ∨ ∃ z, x = some z ∧ y.tr = z.tr
theorem TrIn.refl (m : Gm) (x : Option Nd) : TrIn m m x := fun y hy => Or.inl ⟨y, hy, rfl⟩
theorem TrIn.of_ns {m m' : Gm} {x : Option Nd} (h : m'.ns = m.ns) : TrIn m m' x := fun y hy => Or.inl ⟨y, h ▸ hy, rfl⟩
theorem TrIn.more {m m1 m2 : Gm} {x : Option Nd} (h : TrIn m m1 x) (h2 : m2.ns = m1.ns) : TrIn m m2 x := fun y hy => h y (h2 ▸ hy)
theorem TrIn.opn {m m' : Gm} {x : Nd} {x' : Nd} {pa el : Int} (h : m'.ns = lnkM m.ns pa el ++ [x']) (hx : x'.tr = x.tr) : TrIn m m' (some x) := fun y hy => by
 rw [h] at hy
 rcases List.mem_append.1 hy with hy | hy
 ·exact Or.inl (lnkM_tr hy)
 ·simp only [List.mem_singleton] at hy
  subst hy
  exact Or.inr ⟨x, rfl, hx⟩
theorem TrIn.mod {m m' : Gm} {x : Option Nd} {i : Nat} {f : Nd → Nd} (h : m'.ns = m.ns.modify i f) (hf : ∀ x, (f x).tr = x.tr) : TrIn m m' x := fun y hy => by
 rw [h] at hy
 obtain ⟨k, hk, rfl⟩ := List.mem_iff_getElem.1 hy
 rw [List.length_modify] at hk
 rw [List.getElem_modify]
 split
 ·exact Or.inl ⟨_, List.getElem_mem hk, hf _⟩
 ·exact Or.inl ⟨_, List.getElem_mem hk, rfl⟩
def OpenP (B r : Nat) (w : World) (m : Gm) (x : Nd) (e : Ending) (w' : World) : Prop :=
 ∃ m', e = .returned (.tuple #[]) ∧ GTo B r w m w' m' ∧ m'.g = Tr.opn m.g x.n ∧ TrIn m m' (some x)
theorem opn_of {m : Gm} {x : Nd} {nv ov : Value} {es : List (Tr.E × Value)} (h : es.map (·.1) = Tr.young (m.es.map (·.1)) m.ns.length) :
  (⟨nv, lnkM m.ns (Tr.inn m.g).pl (Tr.inn m.g).yg ++ [{ x with n := { x.n with pa := (Tr.inn m.g).pl, fi := -1, nx := -1 } }], ov, es ++ [(⟨m.ns.length, -1, []⟩, .slice none 0 0)]⟩ : Gm).g = Tr.opn m.g x.n := by
 unfold Gm.g Tr.opn Tr.add
 simp only [List.map_append, lnkM_map, h, List.map_cons, List.map_nil, List.length_map]
theorem GTo.first {B r : Nat} {w w1 w2 : World} {m m2 : Gm} (hb : Below w.heap.size w w1) (h : GS B w r m) (h2 : GTo B r w1 m w2 m2) : GTo B r w m w2 m2 := (GTo.below h hb).trans h2
set_option maxHeartbeats 4000000 in
set_option maxRecDepth 100000 in
theorem open_any (B : Nat) (w : World) (r : Nat) (m : Gm) (h : GS B w r m) (x : Nd) (hn : m.ns.length ≤ 1048575) (hm : m.es.length ≤ 64) (hx : NdOk w w.heap.size x) (haw : 0 < x.n.al.length → ∀ a, x.A = some a → ¬ m.own r a.block) :
  Calls Tryz.prog 35 #[.pointer (some ⟨r, 0, none⟩), .agg x.cs] w (OpenP B r w m x) := by
 have hm' : (m.es.length : Int) ≤ 64 := by omega
 obtain ⟨W1, hW1⟩ : ∃ W1, W1 = w.alloc (.cells x.cs 49) := ⟨_, rfl⟩
 obtain ⟨p, hp⟩ : ∃ p, p = w.heap.size := ⟨_, rfl⟩
 have hb1 : Below w.heap.size w W1 := by rw [hW1]; exact (Below.refl _ _).alloc (Nat.le_refl _) _
 have hk1 : IsBlk W1 p 49 x.cs := by rw [hW1, hp]; exact IsBlk.new _ _ _
 have hg1 := h.below hb1
 have HI := Lib.hid (inner_any B W1 r m hg1)
 have HA := Lib.hid (fun w' (hb : Below W1.heap.size W1 w') (pa el : Int) => add_any B w' r m (hg1.below hb) x pa el (by omega) ((hx.below hb1).below (hb.mono hb1.size) |>.more (Nat.le_trans hb1.size hb.size)) haw)
 have hxl : 0 < x.n.al.length → ∀ a, x.A = some a → a.block < w.heap.size := fun h0 a ha => by
  obtain ⟨g, o, e, hg, _⟩ := hx.att h0
  rw [ha] at e
  injection e with e
  subst e
  exact hg
 have HY := Lib.hid (fun (w2 w3 : World) (eb eo : Nat) (nv : Value) (hi : InnP B r W1 m eb eo w2) h3 => InnP.young (x := { x with n := { x.n with pa := (Tr.inn m.g).pl, fi := -1, nx := -1 } }) (w3 := w3) (nv := nv) hi hg1 (fun h0 a ha => Nat.lt_of_lt_of_le (hxl h0 a ha) hb1.size) h3)
 have HW1 := Lib.hid (And.intro hb1 hk1)
 have HG := Lib.hid h
 have HE1 := Lib.hid hW1
 have HP := Lib.hid hp
 have HO := Lib.hid (fun nv ov es h => opn_of (m := m) (x := x) (nv := nv) (ov := ov) (es := es) h)
 obtain ⟨R, hR⟩ : ∃ R, R = Tr.opn m.g x.n := ⟨_, rfl⟩
 unfold OpenP
 rw [← hR] at HO ⊢
 obtain ⟨PL, hPL⟩ : ∃ PL, PL = (Tr.inn m.g).pl := ⟨_, rfl⟩
 obtain ⟨YG, hYG⟩ : ∃ YG, YG = (Tr.inn m.g).yg := ⟨_, rfl⟩
 rw [← hPL, ← hYG] at HY HO
 have HPY := Lib.hid (And.intro hPL hYG)
 clear h hx haw hp hW1 hb1 hk1 hg1 hxl hR hPL hYG
 obtain ⟨⟨nm, al, tx, pa0, fi0, nx0, at0⟩, Ax, cx⟩ := x
 unfold Nd.cs at HE1 HW1 HA ⊢
 simp only at HE1 HW1 HA HY HO ⊢
 obtain ⟨N, hN⟩ : ∃ N : ByteArray, N = ⟨nm.toArray⟩ := ⟨_, rfl⟩
 obtain ⟨X, hX⟩ : ∃ N : ByteArray, N = ⟨tx.toArray⟩ := ⟨_, rfl⟩
 rw [← hN, ← hX] at HE1 HW1 HA ⊢
 clear hN hX
 go_enter Tryz.func35, Tryz.ntmps35
 go_wp2_with fail
 rw [← HE1.out, ← HP.out]
 refine HI.out.mono ?_
 rintro e w2 ⟨eb, eo, rfl, hi⟩
 have HI2 := Lib.hid hi
 have e0 : w2.cell? ⟨eb, eo, none⟩ = some (.int .i64 PL) := by rw [HPY.out.1]; exact hi.c0
 have e1 : w2.cell? ⟨eb, eo + 1, none⟩ = some (.int .i64 YG) := by rw [HPY.out.2]; exact hi.c1
 have hb2 := HW1.out.2.below hi.bl HW1.out.2.lt
 have p0 : w2.cell? ⟨p, 0, none⟩ = some (.string N) := hb2.at_ 0
 have p1 : w2.cell? ⟨p, 1, none⟩ = some (.slice Ax al.length cx) := hb2.at_ 1
 have p2 : w2.cell? ⟨p, 2, none⟩ = some (.string X) := hb2.at_ 2
 have p3 : w2.cell? ⟨p, 3, none⟩ = some (.int .i64 pa0) := hb2.at_ 3
 have p4 : w2.cell? ⟨p, 4, none⟩ = some (.int .i64 fi0) := hb2.at_ 4
 have p5 : w2.cell? ⟨p, 5, none⟩ = some (.int .i64 nx0) := hb2.at_ 5
 have p6 : w2.cell? ⟨p, 6, none⟩ = some (.int .i64 at0) := hb2.at_ 6
 clear hi hb2
 go_wp2_with fail
 refine wp_region_held_drew (S := (fun w' => w'.cell? ⟨p, 0, none⟩ = some (.string N) ∧ w'.cell? ⟨p, 1, none⟩ = some (.slice Ax al.length cx) ∧ w'.cell? ⟨p, 2, none⟩ = some (.string X) ∧ w'.cell? ⟨p, 3, none⟩ = some (.int .i64 pa0) ∧ w'.cell? ⟨p, 4, none⟩ = some (.int .i64 fi0) ∧ w'.cell? ⟨p, 5, none⟩ = some (.int .i64 nx0) ∧ w'.cell? ⟨p, 6, none⟩ = some (.int .i64 at0) ∧ w'.cell? ⟨eb, eo, none⟩ = some (.int .i64 PL))) (by kernel_rfl) ⟨p0, p1, p2, p3, p4, p5, p6, e0⟩ (fun hHeld => ?_)
 refine wpAnyH_take (i := 0) (v := (.pointer (some ⟨eb,eo,none⟩))) rfl (by kernel_rfl) (by kernel_rfl) (by kernel_rfl) (fun _ _ _ h => h) (Or.inl ⟨by rfl, by (intro w hS; go_simp)⟩) hHeld ?_
 try simp only [Act.put, List.getElem_toArray, List.getElem_cons_zero, List.setIfInBounds_toArray, List.set_cons_zero, List.set_cons_succ]
 refine wpAnyH_take (i := 1) (v := (.pointer (some ⟨r,0,none⟩))) rfl (by kernel_rfl) (by kernel_rfl) (by kernel_rfl) (fun _ _ _ h => h) (Or.inl ⟨by rfl, by (intro w hS; try (obtain ⟨s0, s1, s2, s3, s4, s5, s6, s7⟩ := hS); go_simp)⟩) hHeld ?_
 try simp only [Act.put, List.getElem_toArray, List.getElem_cons_succ, List.getElem_cons_zero, List.setIfInBounds_toArray, List.set_cons_zero, List.set_cons_succ]
 refine wpAnyH_take (i := 2) (v := (.pointer (some ⟨r,0,none⟩))) rfl (by kernel_rfl) (by kernel_rfl) (by kernel_rfl) (fun _ _ _ h => h) (Or.inl ⟨by rfl, by (intro w hS; try (obtain ⟨s0, s1, s2, s3, s4, s5, s6, s7⟩ := hS); go_simp)⟩) hHeld ?_
 try simp only [Act.put, List.getElem_toArray, List.getElem_cons_succ, List.getElem_cons_zero, List.setIfInBounds_toArray, List.set_cons_zero, List.set_cons_succ]
 refine wpAnyH_take (i := 3) (v := (.pointer (some ⟨r,0,none⟩))) rfl (by kernel_rfl) (by kernel_rfl) (by kernel_rfl) (fun _ _ _ h => h) (Or.inl ⟨by rfl, by (intro w hS; try (obtain ⟨s0, s1, s2, s3, s4, s5, s6, s7⟩ := hS); go_simp)⟩) hHeld ?_
 try simp only [Act.put, List.getElem_toArray, List.getElem_cons_succ, List.getElem_cons_zero, List.setIfInBounds_toArray, List.set_cons_zero, List.set_cons_succ]
 refine wpAnyH_take (i := 4) (v := (.agg #[.string N, .slice Ax al.length cx, .string X, .int .i64 pa0, .int .i64 fi0, .int .i64 nx0, .int .i64 at0])) rfl (by kernel_rfl) (by kernel_rfl) (by kernel_rfl) (fun _ _ _ h => h) (Or.inl ⟨by rfl, by (intro w hS; try (obtain ⟨s0, s1, s2, s3, s4, s5, s6, s7⟩ := hS); go_simp)⟩) hHeld ?_
 try simp only [Act.put, List.getElem_toArray, List.getElem_cons_succ, List.getElem_cons_zero, List.setIfInBounds_toArray, List.set_cons_zero, List.set_cons_succ]
 refine wpAnyH_take (i := 5) (v := (.pointer (some ⟨eb,eo,none⟩))) rfl (by kernel_rfl) (by kernel_rfl) (by kernel_rfl) (fun _ _ _ h => h) (Or.inl ⟨by rfl, by (intro w hS; try (obtain ⟨s0, s1, s2, s3, s4, s5, s6, s7⟩ := hS); go_simp)⟩) hHeld ?_
 try simp only [Act.put, List.getElem_toArray, List.getElem_cons_succ, List.getElem_cons_zero, List.setIfInBounds_toArray, List.set_cons_zero, List.set_cons_succ]
 refine wpAnyH_take (i := 6) (v := (.pointer (some ⟨eb,eo,none⟩))) rfl (by kernel_rfl) (by kernel_rfl) (by kernel_rfl) (fun _ _ _ h => h) (Or.inl ⟨by rfl, by (intro w hS; try (obtain ⟨s0, s1, s2, s3, s4, s5, s6, s7⟩ := hS); go_simp)⟩) hHeld ?_
 try simp only [Act.put, List.getElem_toArray, List.getElem_cons_succ, List.getElem_cons_zero, List.setIfInBounds_toArray, List.set_cons_zero, List.set_cons_succ]
 refine wpAnyH_take (i := 7) (v := (.pointer (some ⟨eb,eo,none⟩))) rfl (by kernel_rfl) (by kernel_rfl) (by kernel_rfl) (fun _ _ _ h => h) (Or.inl ⟨by rfl, by (intro w hS; try (obtain ⟨s0, s1, s2, s3, s4, s5, s6, s7⟩ := hS); go_simp)⟩) hHeld ?_
 try simp only [Act.put, List.getElem_toArray, List.getElem_cons_succ, List.getElem_cons_zero, List.setIfInBounds_toArray, List.set_cons_zero, List.set_cons_succ]
 refine wpAnyH_take (i := 8) (v := (.int .i64 PL)) rfl (by kernel_rfl) (by kernel_rfl) (by kernel_rfl) (fun _ _ _ h => h) (Or.inl ⟨by rfl, by (intro w hS; try (obtain ⟨s0, s1, s2, s3, s4, s5, s6, s7⟩ := hS); go_simp)⟩) hHeld ?_
 try simp only [Act.put, List.getElem_toArray, List.getElem_cons_succ, List.getElem_cons_zero, List.setIfInBounds_toArray, List.set_cons_zero, List.set_cons_succ]
 refine wpAnyH_take (i := 9) (v := (.pointer (some ⟨eb,eo,none⟩))) rfl (by kernel_rfl) (by kernel_rfl) (by kernel_rfl) (fun _ _ _ h => h) (Or.inl ⟨by rfl, by (intro w hS; try (obtain ⟨s0, s1, s2, s3, s4, s5, s6, s7⟩ := hS); go_simp)⟩) hHeld ?_
 try simp only [Act.put, List.getElem_toArray, List.getElem_cons_succ, List.getElem_cons_zero, List.setIfInBounds_toArray, List.set_cons_zero, List.set_cons_succ]
 refine wpAnyH_take (i := 10) (v := (.pointer (some ⟨eb,eo,none⟩))) rfl (by kernel_rfl) (by kernel_rfl) (by kernel_rfl) (fun _ _ _ h => h) (Or.inl ⟨by rfl, by (intro w hS; try (obtain ⟨s0, s1, s2, s3, s4, s5, s6, s7⟩ := hS); go_simp)⟩) hHeld ?_
 try simp only [Act.put, List.getElem_toArray, List.getElem_cons_succ, List.getElem_cons_zero, List.setIfInBounds_toArray, List.set_cons_zero, List.set_cons_succ]
 refine wpAnyH_take (i := 11) (v := (.pointer (some ⟨eb,eo+1,none⟩))) rfl (by kernel_rfl) (by kernel_rfl) (by kernel_rfl) (fun _ _ _ h => h) (Or.inl ⟨by rfl, by (intro w hS; try (obtain ⟨s0, s1, s2, s3, s4, s5, s6, s7⟩ := hS); go_simp)⟩) hHeld ?_
 try simp only [Act.put, List.getElem_toArray, List.getElem_cons_succ, List.getElem_cons_zero, List.setIfInBounds_toArray, List.set_cons_zero, List.set_cons_succ]
 refine wpAnyH_ready (rs := [12]) (by kernel_rfl) (by simp) ?_
 refine AllReadyH.cons rfl (fun K hK => ?_) AllReadyH.nil
 try simp only [List.getElem_toArray, List.getElem_cons_succ, List.getElem_cons_zero]
 go_simp
 refine hK.out _ _ hHeld (fun hHeld => ?_)
 clear hK K
 try simp only [Act.put, List.getElem_toArray, List.getElem_cons_succ, List.getElem_cons_zero, List.setIfInBounds_toArray, List.set_cons_zero, List.set_cons_succ]
 refine wpAnyH_ready (rs := [13]) (by kernel_rfl) (by simp) ?_
 refine AllReadyH.cons rfl (fun K hK => ?_) AllReadyH.nil
 try simp only [List.getElem_toArray, List.getElem_cons_succ, List.getElem_cons_zero]
 go_simp
 refine (HA.out w2.drew HI2.out.bl.drew _ _).mono ?_
 rintro e w3 ⟨nv3, rfl, h3⟩
 have hi2 := HI2.out.on (Below.refl w2.heap.size w2).drew
 simp only at h3
 obtain ⟨⟨f0, g0⟩, ⟨u1, f1⟩, z1, ⟨u2, g1, hu2⟩, es, hes, hem, hel⟩ := HY.out _ _ _ _ _ hi2 h3
 subst hu2
 have helt3 : eb < w3.heap.size := Nat.lt_of_lt_of_le hi2.lt h3.fr.size
 have hp3 := h3.fr.blk ((HW1.out.2.below HI2.out.bl HW1.out.2.lt).below (Below.refl w2.heap.size w2).drew (HW1.out.2.below HI2.out.bl HW1.out.2.lt).lt) (fun ho => by have := (HG.out.kinds ho).2.1; rw [← HP.out] at this; omega)
 have hnep : p ≠ eb := fun e => HI2.out.ne HW1.out.2.lt (fun ho => by have := (HG.out.kinds ho).2.1; rw [← HP.out] at this; omega) e.symm
 have HP3 := Lib.hid hp3
 have HQ3 := Lib.hid (hp3.far (p := ⟨eb, eo + 1, none⟩) hnep (.int .i64 m.ns.length))
 have HES := Lib.hid (And.intro hes (And.intro hem hel))
 clear h3 hi2 hes hem hel hp3 hnep
 refine hK.out _ _ ⟨HP3.out.at_ 0, HP3.out.at_ 1, HP3.out.at_ 2, HP3.out.at_ 3, HP3.out.at_ 4, HP3.out.at_ 5, HP3.out.at_ 6, f0⟩ (fun hHeld => ?_)
 clear hK K
 try simp only [Act.put, List.getElem_toArray, List.getElem_cons_succ, List.getElem_cons_zero, List.setIfInBounds_toArray, List.set_cons_zero, List.set_cons_succ]
 refine wpAnyH_take (i := 14) (v := (.pointer (some ⟨eb,eo,none⟩))) rfl (by kernel_rfl) (by kernel_rfl) (by kernel_rfl) (fun _ _ _ h => h) (Or.inl ⟨by rfl, by (intro w hS; try (obtain ⟨s0, s1, s2, s3, s4, s5, s6, s7⟩ := hS); go_simp)⟩) hHeld ?_
 try simp only [Act.put, List.getElem_toArray, List.getElem_cons_succ, List.getElem_cons_zero, List.setIfInBounds_toArray, List.set_cons_zero, List.set_cons_succ]
 refine wpAnyH_take (i := 15) (v := (.pointer (some ⟨eb,eo+1,none⟩))) rfl (by kernel_rfl) (by kernel_rfl) (by kernel_rfl) (fun _ _ _ h => h) (Or.inl ⟨by rfl, by (intro w hS; try (obtain ⟨s0, s1, s2, s3, s4, s5, s6, s7⟩ := hS); go_simp)⟩) hHeld ?_
 try simp only [Act.put, List.getElem_toArray, List.getElem_cons_succ, List.getElem_cons_zero, List.setIfInBounds_toArray, List.set_cons_zero, List.set_cons_succ]
 refine wpAnyH_ready (rs := [16]) (by kernel_rfl) (by simp) ?_
 refine AllReadyH.cons rfl (fun K hK => ?_) AllReadyH.nil
 try simp only [List.getElem_toArray, List.getElem_cons_succ, List.getElem_cons_zero]
 go_simp
 refine hK.out _ _ ⟨HQ3.out.at_ 0, HQ3.out.at_ 1, HQ3.out.at_ 2, HQ3.out.at_ 3, HQ3.out.at_ 4, HQ3.out.at_ 5, HQ3.out.at_ 6, g0⟩ (fun hHeld => ?_)
 clear hK K
 try simp only [Act.put, List.getElem_toArray, List.getElem_cons_succ, List.getElem_cons_zero, List.setIfInBounds_toArray, List.set_cons_zero, List.set_cons_succ]
 refine wpAnyH_done (by kernel_rfl) ?_ _
 clear hHeld f0 f1 g0 z1 p0 p1 p2 p3 p4 p5 p6 e0 e1
 obtain ⟨W4, hW4⟩ : ∃ W4, W4 = w3.setCell ⟨eb, eo + 1, none⟩ (.int .i64 m.ns.length) := ⟨_, rfl⟩
 rw [← hW4] at g1 HES ⊢
 have helt : eb < W4.heap.size := by rw [hW4]; simpa [World.setCell] using helt3
 clear hW4 helt3 HP3 HQ3
 obtain ⟨An, cn, Ao, co, hc⟩ := HES.out.1.gs.cells
 have l1 := hc.c1
 simp only [HES.out.2.2] at l1
 have lf : W4.frozen? ⟨r, 1, none⟩ = false := HES.out.1.gs.blk.fz 1
 have HV := Lib.hid hc.ov
 have hlo : (m.es.length : Int) ≤ (co : Int) := by have := hc.lo; simp only [HES.out.2.2] at this; omega
 clear hc
 have hrlt := HES.out.1.gs.blk.lt
 have hB4 : B ≤ W4.heap.size := Nat.le_trans HES.out.1.gs.base (Nat.le_of_lt hrlt)
 obtain ⟨i0, hi, hz0, hz1, hz2⟩ := info_parts infoEl
 have hbig : m.es.length + 1 ≤ maxLen := by unfold maxLen; omega
 go_wp2_with fail
 refine wp_region_held_drew (S := (fun _ => True)) (by kernel_rfl) True.intro (fun hHeld => ?_)
 refine wpAnyH_take (i := 0) (v := (.pointer (some ⟨r,0,none⟩))) rfl (by kernel_rfl) (by kernel_rfl) (by kernel_rfl) (fun _ _ _ h => h) (Or.inl ⟨by rfl, by (intro w hS; go_simp)⟩) hHeld ?_
 try simp only [Act.put, List.getElem_toArray, List.getElem_cons_zero, List.setIfInBounds_toArray, List.set_cons_zero, List.set_cons_succ]
 refine wpAnyH_take (i := 1) (v := (.pointer (some ⟨r,0,none⟩))) rfl (by kernel_rfl) (by kernel_rfl) (by kernel_rfl) (fun _ _ _ h => h) (Or.inl ⟨by rfl, by (intro w hS; try (obtain ⟨s0, s1, s2, s3, s4, s5, s6, s7⟩ := hS); go_simp)⟩) hHeld ?_
 try simp only [Act.put, List.getElem_toArray, List.getElem_cons_succ, List.getElem_cons_zero, List.setIfInBounds_toArray, List.set_cons_zero, List.set_cons_succ]
 refine wpAnyH_take (i := 2) (v := (.pointer (some ⟨r,0,none⟩))) rfl (by kernel_rfl) (by kernel_rfl) (by kernel_rfl) (fun _ _ _ h => h) (Or.inl ⟨by rfl, by (intro w hS; try (obtain ⟨s0, s1, s2, s3, s4, s5, s6, s7⟩ := hS); go_simp)⟩) hHeld ?_
 try simp only [Act.put, List.getElem_toArray, List.getElem_cons_succ, List.getElem_cons_zero, List.setIfInBounds_toArray, List.set_cons_zero, List.set_cons_succ]
 refine wpAnyH_take (i := 3) (v := (.pointer (some ⟨r,1,none⟩))) rfl (by kernel_rfl) (by kernel_rfl) (by kernel_rfl) (fun _ _ _ h => h) (Or.inl ⟨by rfl, by (intro w hS; try (obtain ⟨s0, s1, s2, s3, s4, s5, s6, s7⟩ := hS); go_simp)⟩) hHeld ?_
 try simp only [Act.put, List.getElem_toArray, List.getElem_cons_succ, List.getElem_cons_zero, List.setIfInBounds_toArray, List.set_cons_zero, List.set_cons_succ]
 refine wpAnyH_take (i := 5) (v := (.pointer (some ⟨eb,eo,none⟩))) rfl (by kernel_rfl) (by kernel_rfl) (by kernel_rfl) (fun _ _ _ h => h) (Or.inl ⟨by rfl, by (intro w hS; try (obtain ⟨s0, s1, s2, s3, s4, s5, s6, s7⟩ := hS); go_simp)⟩) hHeld ?_
 try simp only [Act.put, List.getElem_toArray, List.getElem_cons_succ, List.getElem_cons_zero, List.setIfInBounds_toArray, List.set_cons_zero, List.set_cons_succ]
 refine wpAnyH_take (i := 6) (v := (.pointer (some ⟨eb,eo,none⟩))) rfl (by kernel_rfl) (by kernel_rfl) (by kernel_rfl) (fun _ _ _ h => h) (Or.inl ⟨by rfl, by (intro w hS; try (obtain ⟨s0, s1, s2, s3, s4, s5, s6, s7⟩ := hS); go_simp)⟩) hHeld ?_
 try simp only [Act.put, List.getElem_toArray, List.getElem_cons_succ, List.getElem_cons_zero, List.setIfInBounds_toArray, List.set_cons_zero, List.set_cons_succ]
 refine wpAnyH_take (i := 7) (v := (.pointer (some ⟨eb,eo+1,none⟩))) rfl (by kernel_rfl) (by kernel_rfl) (by kernel_rfl) (fun _ _ _ h => h) (Or.inl ⟨by rfl, by (intro w hS; try (obtain ⟨s0, s1, s2, s3, s4, s5, s6, s7⟩ := hS); go_simp)⟩) hHeld ?_
 try simp only [Act.put, List.getElem_toArray, List.getElem_cons_succ, List.getElem_cons_zero, List.setIfInBounds_toArray, List.set_cons_zero, List.set_cons_succ]
 refine wpAnyH_ready (rs := [4, 8]) (by kernel_rfl) (by simp) ?_
 refine AllReadyH.cons rfl (fun K hK => ?_) (AllReadyH.cons rfl (fun K hK => ?_) AllReadyH.nil)
 ·try simp only [List.getElem_toArray, List.getElem_cons_succ, List.getElem_cons_zero]
  go_simp
  refine hK.out _ _ True.intro (fun hHeld => ?_)
  clear hK K
  try simp only [Act.put, List.getElem_toArray, List.getElem_cons_succ, List.getElem_cons_zero, List.setIfInBounds_toArray, List.set_cons_zero, List.set_cons_succ]
  refine wpAnyH_ready (rs := [8]) (by kernel_rfl) (by simp) ?_
  refine AllReadyH.cons rfl (fun K hK => ?_) AllReadyH.nil
  try simp only [List.getElem_toArray, List.getElem_cons_succ, List.getElem_cons_zero]
  go_simp
  refine hK.out _ _ True.intro (fun hHeld => ?_)
  clear hK K
  try simp only [Act.put, List.getElem_toArray, List.getElem_cons_succ, List.getElem_cons_zero, List.setIfInBounds_toArray, List.set_cons_zero, List.set_cons_succ]
  refine wpAnyH_take (i := 9) (v := (.agg #[.int .i64 m.ns.length, .int .i64 (-1), .slice none 0 0])) rfl (by kernel_rfl) (by kernel_rfl) (by kernel_rfl) (fun _ _ _ h => h) (Or.inl ⟨by rfl, by (intro w hS; try (obtain ⟨s0, s1, s2, s3, s4, s5, s6, s7⟩ := hS); go_simp)⟩) hHeld ?_
  try simp only [Act.put, List.getElem_toArray, List.getElem_cons_succ, List.getElem_cons_zero, List.setIfInBounds_toArray, List.set_cons_zero, List.set_cons_succ]
  refine wpAnyH_ready (rs := [10]) (by kernel_rfl) (by simp) ?_
  refine AllReadyH.cons rfl (fun K hK => ?_) AllReadyH.nil
  try simp only [List.getElem_toArray, List.getElem_cons_succ, List.getElem_cons_zero]
  go_simp
  refine hK.out _ _ True.intro (fun hHeld => ?_)
  clear hK K
  try simp only [Act.put, List.getElem_toArray, List.getElem_cons_succ, List.getElem_cons_zero, List.setIfInBounds_toArray, List.set_cons_zero, List.set_cons_succ]
  refine wpAnyH_ready (rs := [11]) (by kernel_rfl) (by simp) ?_
  refine AllReadyH.cons rfl (fun K hK => ?_) AllReadyH.nil
  obtain ⟨W5, hW5⟩ : ∃ W5, W5 = (W4.alloc (.cells #[.int .i64 m.ns.length, .int .i64 (-1), .slice none 0 0] 120)).drew := ⟨_, rfl⟩
  have hb5 : Below W4.heap.size W4 W5 := by rw [hW5]; exact ((Below.refl _ _).alloc (Nat.le_refl _) _).drew
  have hG5 := HES.out.1.gs.below hb5
  have hown := hG5.oown
  rw [HV.out] at hown
  simp only [HES.out.2.2] at hown
  rw [← hW5]
  have hs5 : B ≤ W5.heap.size := Nat.le_trans hB4 hb5.size
  have hz5 : W4.heap.size < W5.heap.size := by rw [hW5]; show W4.heap.size < (W4.alloc _).heap.size; simp
  have hq5 : ∀ i u, (#[.int .i64 m.ns.length, .int .i64 (-1), .slice none 0 0] : Array Value).toList[i]? = some u → W5.cell? ((⟨W4.heap.size, 0, none⟩ : Addr).add i) = some u := by rw [hW5]; exact fun i u hu => news_at W4 _ _ _ rfl i u hu
  refine step_append_lies _ (by rfl) _ _ _ (by rfl) B 120 i0 _ 3 40 Tryz.underlying72 hi hz0 hz1 hz2 rfl (by omega) (.slice Ao m.es.length co) m.es.length (es.flatMap elV) (by rfl) (by exact hown) _ 1 _ [.int .i64 m.ns.length, .int .i64 (-1), .slice none 0 0] (by rfl) rfl (by exact hq5) (by intro u hu; simp at hu; rcases hu with rfl | rfl | rfl <;> rfl) (by omega) hbig (by omega) hs5 _ rfl ?_
  intro g9 cap9 w9 hown9 hgr9 hat9 hlt9
  have hT9 := GTo.eapp hG5 (x := ⟨m.ns.length, -1, []⟩) (g1 := g9) (cap1 := cap9) (by rw [HV.out]; simp only [HES.out.2.2]; exact hgr9) (by simp only [HES.out.2.2]; exact hown9) (by rw [HV.out]; simp only [HES.out.2.2]; exact hat9.imp id (fun h => Nat.le_of_eq h.symm)) rfl (by simp only [List.length_append, lnkM_len, List.length_cons, List.length_nil]; omega) (by simp only [List.length_append, lnkM_len, List.length_cons, List.length_nil]; omega)
  simp only [HES.out.2.2] at hT9
  have hfr9 : some r ≠ (Value.slice Ao m.es.length co).ownBlock := by
   have := blk_apart hG5.blk hG5.oown (by decide)
   rw [HV.out] at this
   simp only [HES.out.2.2] at this
   exact fun e => this e.symm
  have hr9 : IsBlk w9 r 74 #[nv3, .slice Ao m.es.length co] := by
   have := hG5.blk.grown (row := (Value.slice Ao m.es.length co).ownBlock) hgr9 hfr9
   rw [HV.out] at this
   simp only [HES.out.2.2] at this
   exact this
  have y0 : w9.cell? ⟨r, 1, none⟩ = some (.slice Ao m.es.length co) := hr9.at_ 1
  have yf : w9.frozen? ⟨r, 1, none⟩ = false := hr9.fz 1
  have HT := Lib.hid (HES.out.1.trans ((GTo.below HES.out.1.gs hb5).trans hT9))
  clear hT9 hG5 hfr9 hr9 hown hown9 hgr9 hq5
  refine hK.out _ _ True.intro (fun hHeld => ?_)
  clear hK K
  try simp only [Act.put, List.getElem_toArray, List.getElem_cons_succ, List.getElem_cons_zero, List.setIfInBounds_toArray, List.set_cons_zero, List.set_cons_succ]
  refine wpAnyH_take (i := 12) (v := (.pointer (some ⟨r,0,none⟩))) rfl (by kernel_rfl) (by kernel_rfl) (by kernel_rfl) (fun _ _ _ h => h) (Or.inl ⟨by rfl, by (intro w hS; try (obtain ⟨s0, s1, s2, s3, s4, s5, s6, s7⟩ := hS); go_simp)⟩) hHeld ?_
  try simp only [Act.put, List.getElem_toArray, List.getElem_cons_succ, List.getElem_cons_zero, List.setIfInBounds_toArray, List.set_cons_zero, List.set_cons_succ]
  refine wpAnyH_take (i := 13) (v := (.pointer (some ⟨r,1,none⟩))) rfl (by kernel_rfl) (by kernel_rfl) (by kernel_rfl) (fun _ _ _ h => h) (Or.inl ⟨by rfl, by (intro w hS; try (obtain ⟨s0, s1, s2, s3, s4, s5, s6, s7⟩ := hS); go_simp)⟩) hHeld ?_
  try simp only [Act.put, List.getElem_toArray, List.getElem_cons_succ, List.getElem_cons_zero, List.setIfInBounds_toArray, List.set_cons_zero, List.set_cons_succ]
  refine wpAnyH_ready (rs := [14]) (by kernel_rfl) (by simp) ?_
  refine AllReadyH.cons rfl (fun K hK => ?_) AllReadyH.nil
  try simp only [List.getElem_toArray, List.getElem_cons_succ, List.getElem_cons_zero]
  go_simp
  refine hK.out _ _ True.intro (fun hHeld => ?_)
  clear hK K
  try simp only [Act.put, List.getElem_toArray, List.getElem_cons_succ, List.getElem_cons_zero, List.setIfInBounds_toArray, List.set_cons_zero, List.set_cons_succ]
  refine wpAnyH_done (by kernel_rfl) ?_ _
  clear hHeld y0 yf
  go_wp2
  go_end0
  exact ⟨_, rfl, GTo.first HW1.out.1 HG.out (by exact HT.out), HO.out _ _ _ HES.out.2.1, TrIn.opn rfl rfl⟩
 ·try simp only [List.getElem_toArray, List.getElem_cons_succ, List.getElem_cons_zero]
  go_simp
  refine hK.out _ _ True.intro (fun hHeld => ?_)
  clear hK K
  try simp only [Act.put, List.getElem_toArray, List.getElem_cons_succ, List.getElem_cons_zero, List.setIfInBounds_toArray, List.set_cons_zero, List.set_cons_succ]
  refine wpAnyH_take (i := 9) (v := (.agg #[.int .i64 m.ns.length, .int .i64 (-1), .slice none 0 0])) rfl (by kernel_rfl) (by kernel_rfl) (by kernel_rfl) (fun _ _ _ h => h) (Or.inl ⟨by rfl, by (intro w hS; try (obtain ⟨s0, s1, s2, s3, s4, s5, s6, s7⟩ := hS); go_simp)⟩) hHeld ?_
  try simp only [Act.put, List.getElem_toArray, List.getElem_cons_succ, List.getElem_cons_zero, List.setIfInBounds_toArray, List.set_cons_zero, List.set_cons_succ]
  refine wpAnyH_ready (rs := [4, 10]) (by kernel_rfl) (by simp) ?_
  refine AllReadyH.cons rfl (fun K hK => ?_) (AllReadyH.cons rfl (fun K hK => ?_) AllReadyH.nil)
  ·try simp only [List.getElem_toArray, List.getElem_cons_succ, List.getElem_cons_zero]
   go_simp
   refine hK.out _ _ True.intro (fun hHeld => ?_)
   clear hK K
   try simp only [Act.put, List.getElem_toArray, List.getElem_cons_succ, List.getElem_cons_zero, List.setIfInBounds_toArray, List.set_cons_zero, List.set_cons_succ]
   refine wpAnyH_ready (rs := [10]) (by kernel_rfl) (by simp) ?_
   refine AllReadyH.cons rfl (fun K hK => ?_) AllReadyH.nil
   try simp only [List.getElem_toArray, List.getElem_cons_succ, List.getElem_cons_zero]
   go_simp
   refine hK.out _ _ True.intro (fun hHeld => ?_)
   clear hK K
   try simp only [Act.put, List.getElem_toArray, List.getElem_cons_succ, List.getElem_cons_zero, List.setIfInBounds_toArray, List.set_cons_zero, List.set_cons_succ]
   refine wpAnyH_ready (rs := [11]) (by kernel_rfl) (by simp) ?_
   refine AllReadyH.cons rfl (fun K hK => ?_) AllReadyH.nil
   obtain ⟨W5, hW5⟩ : ∃ W5, W5 = (W4.alloc (.cells #[.int .i64 m.ns.length, .int .i64 (-1), .slice none 0 0] 120)).drew := ⟨_, rfl⟩
   have hb5 : Below W4.heap.size W4 W5 := by rw [hW5]; exact ((Below.refl _ _).alloc (Nat.le_refl _) _).drew
   have hG5 := HES.out.1.gs.below hb5
   have hown := hG5.oown
   rw [HV.out] at hown
   simp only [HES.out.2.2] at hown
   rw [← hW5]
   have hs5 : B ≤ W5.heap.size := Nat.le_trans hB4 hb5.size
   have hz5 : W4.heap.size < W5.heap.size := by rw [hW5]; show W4.heap.size < (W4.alloc _).heap.size; simp
   have hq5 : ∀ i u, (#[.int .i64 m.ns.length, .int .i64 (-1), .slice none 0 0] : Array Value).toList[i]? = some u → W5.cell? ((⟨W4.heap.size, 0, none⟩ : Addr).add i) = some u := by rw [hW5]; exact fun i u hu => news_at W4 _ _ _ rfl i u hu
   refine step_append_lies _ (by rfl) _ _ _ (by rfl) B 120 i0 _ 3 40 Tryz.underlying72 hi hz0 hz1 hz2 rfl (by omega) (.slice Ao m.es.length co) m.es.length (es.flatMap elV) (by rfl) (by exact hown) _ 1 _ [.int .i64 m.ns.length, .int .i64 (-1), .slice none 0 0] (by rfl) rfl (by exact hq5) (by intro u hu; simp at hu; rcases hu with rfl | rfl | rfl <;> rfl) (by omega) hbig (by omega) hs5 _ rfl ?_
   intro g9 cap9 w9 hown9 hgr9 hat9 hlt9
   have hT9 := GTo.eapp hG5 (x := ⟨m.ns.length, -1, []⟩) (g1 := g9) (cap1 := cap9) (by rw [HV.out]; simp only [HES.out.2.2]; exact hgr9) (by simp only [HES.out.2.2]; exact hown9) (by rw [HV.out]; simp only [HES.out.2.2]; exact hat9.imp id (fun h => Nat.le_of_eq h.symm)) rfl (by simp only [List.length_append, lnkM_len, List.length_cons, List.length_nil]; omega) (by simp only [List.length_append, lnkM_len, List.length_cons, List.length_nil]; omega)
   simp only [HES.out.2.2] at hT9
   have hfr9 : some r ≠ (Value.slice Ao m.es.length co).ownBlock := by
    have := blk_apart hG5.blk hG5.oown (by decide)
    rw [HV.out] at this
    simp only [HES.out.2.2] at this
    exact fun e => this e.symm
   have hr9 : IsBlk w9 r 74 #[nv3, .slice Ao m.es.length co] := by
    have := hG5.blk.grown (row := (Value.slice Ao m.es.length co).ownBlock) hgr9 hfr9
    rw [HV.out] at this
    simp only [HES.out.2.2] at this
    exact this
   have y0 : w9.cell? ⟨r, 1, none⟩ = some (.slice Ao m.es.length co) := hr9.at_ 1
   have yf : w9.frozen? ⟨r, 1, none⟩ = false := hr9.fz 1
   have HT := Lib.hid (HES.out.1.trans ((GTo.below HES.out.1.gs hb5).trans hT9))
   clear hT9 hG5 hfr9 hr9 hown hown9 hgr9 hq5
   refine hK.out _ _ True.intro (fun hHeld => ?_)
   clear hK K
   try simp only [Act.put, List.getElem_toArray, List.getElem_cons_succ, List.getElem_cons_zero, List.setIfInBounds_toArray, List.set_cons_zero, List.set_cons_succ]
   refine wpAnyH_take (i := 12) (v := (.pointer (some ⟨r,0,none⟩))) rfl (by kernel_rfl) (by kernel_rfl) (by kernel_rfl) (fun _ _ _ h => h) (Or.inl ⟨by rfl, by (intro w hS; try (obtain ⟨s0, s1, s2, s3, s4, s5, s6, s7⟩ := hS); go_simp)⟩) hHeld ?_
   try simp only [Act.put, List.getElem_toArray, List.getElem_cons_succ, List.getElem_cons_zero, List.setIfInBounds_toArray, List.set_cons_zero, List.set_cons_succ]
   refine wpAnyH_take (i := 13) (v := (.pointer (some ⟨r,1,none⟩))) rfl (by kernel_rfl) (by kernel_rfl) (by kernel_rfl) (fun _ _ _ h => h) (Or.inl ⟨by rfl, by (intro w hS; try (obtain ⟨s0, s1, s2, s3, s4, s5, s6, s7⟩ := hS); go_simp)⟩) hHeld ?_
   try simp only [Act.put, List.getElem_toArray, List.getElem_cons_succ, List.getElem_cons_zero, List.setIfInBounds_toArray, List.set_cons_zero, List.set_cons_succ]
   refine wpAnyH_ready (rs := [14]) (by kernel_rfl) (by simp) ?_
   refine AllReadyH.cons rfl (fun K hK => ?_) AllReadyH.nil
   try simp only [List.getElem_toArray, List.getElem_cons_succ, List.getElem_cons_zero]
   go_simp
   refine hK.out _ _ True.intro (fun hHeld => ?_)
   clear hK K
   try simp only [Act.put, List.getElem_toArray, List.getElem_cons_succ, List.getElem_cons_zero, List.setIfInBounds_toArray, List.set_cons_zero, List.set_cons_succ]
   refine wpAnyH_done (by kernel_rfl) ?_ _
   clear hHeld y0 yf
   go_wp2
   go_end0
   exact ⟨_, rfl, GTo.first HW1.out.1 HG.out (by exact HT.out), HO.out _ _ _ HES.out.2.1, TrIn.opn rfl rfl⟩
  ·try simp only [List.getElem_toArray, List.getElem_cons_succ, List.getElem_cons_zero]
   go_simp
   refine hK.out _ _ True.intro (fun hHeld => ?_)
   clear hK K
   try simp only [Act.put, List.getElem_toArray, List.getElem_cons_succ, List.getElem_cons_zero, List.setIfInBounds_toArray, List.set_cons_zero, List.set_cons_succ]
   have l1 : (W4.alloc (.cells #[.int .i64 m.ns.length, .int .i64 (-1), .slice none 0 0] 120)).cell? ⟨r, 1, none⟩ = some (.slice Ao m.es.length co) := (World.cell?_alloc_lt _ _ _ (by show r < W4.heap.size; omega)).trans l1
   refine wpAnyH_ready (rs := [4]) (by kernel_rfl) (by simp) ?_
   refine AllReadyH.cons rfl (fun K hK => ?_) AllReadyH.nil
   try simp only [List.getElem_toArray, List.getElem_cons_succ, List.getElem_cons_zero]
   go_simp
   refine hK.out _ _ True.intro (fun hHeld => ?_)
   clear hK K
   try simp only [Act.put, List.getElem_toArray, List.getElem_cons_succ, List.getElem_cons_zero, List.setIfInBounds_toArray, List.set_cons_zero, List.set_cons_succ]
   clear l1
   refine wpAnyH_ready (rs := [11]) (by kernel_rfl) (by simp) ?_
   refine AllReadyH.cons rfl (fun K hK => ?_) AllReadyH.nil
   obtain ⟨W5, hW5⟩ : ∃ W5, W5 = (W4.alloc (.cells #[.int .i64 m.ns.length, .int .i64 (-1), .slice none 0 0] 120)).drew := ⟨_, rfl⟩
   have hb5 : Below W4.heap.size W4 W5 := by rw [hW5]; exact ((Below.refl _ _).alloc (Nat.le_refl _) _).drew
   have hG5 := HES.out.1.gs.below hb5
   have hown := hG5.oown
   rw [HV.out] at hown
   simp only [HES.out.2.2] at hown
   rw [← hW5]
   have hs5 : B ≤ W5.heap.size := Nat.le_trans hB4 hb5.size
   have hz5 : W4.heap.size < W5.heap.size := by rw [hW5]; show W4.heap.size < (W4.alloc _).heap.size; simp
   have hq5 : ∀ i u, (#[.int .i64 m.ns.length, .int .i64 (-1), .slice none 0 0] : Array Value).toList[i]? = some u → W5.cell? ((⟨W4.heap.size, 0, none⟩ : Addr).add i) = some u := by rw [hW5]; exact fun i u hu => news_at W4 _ _ _ rfl i u hu
   refine step_append_lies _ (by rfl) _ _ _ (by rfl) B 120 i0 _ 3 40 Tryz.underlying72 hi hz0 hz1 hz2 rfl (by omega) (.slice Ao m.es.length co) m.es.length (es.flatMap elV) (by rfl) (by exact hown) _ 1 _ [.int .i64 m.ns.length, .int .i64 (-1), .slice none 0 0] (by rfl) rfl (by exact hq5) (by intro u hu; simp at hu; rcases hu with rfl | rfl | rfl <;> rfl) (by omega) hbig (by omega) hs5 _ rfl ?_
   intro g9 cap9 w9 hown9 hgr9 hat9 hlt9
   have hT9 := GTo.eapp hG5 (x := ⟨m.ns.length, -1, []⟩) (g1 := g9) (cap1 := cap9) (by rw [HV.out]; simp only [HES.out.2.2]; exact hgr9) (by simp only [HES.out.2.2]; exact hown9) (by rw [HV.out]; simp only [HES.out.2.2]; exact hat9.imp id (fun h => Nat.le_of_eq h.symm)) rfl (by simp only [List.length_append, lnkM_len, List.length_cons, List.length_nil]; omega) (by simp only [List.length_append, lnkM_len, List.length_cons, List.length_nil]; omega)
   simp only [HES.out.2.2] at hT9
   have hfr9 : some r ≠ (Value.slice Ao m.es.length co).ownBlock := by
    have := blk_apart hG5.blk hG5.oown (by decide)
    rw [HV.out] at this
    simp only [HES.out.2.2] at this
    exact fun e => this e.symm
   have hr9 : IsBlk w9 r 74 #[nv3, .slice Ao m.es.length co] := by
    have := hG5.blk.grown (row := (Value.slice Ao m.es.length co).ownBlock) hgr9 hfr9
    rw [HV.out] at this
    simp only [HES.out.2.2] at this
    exact this
   have y0 : w9.cell? ⟨r, 1, none⟩ = some (.slice Ao m.es.length co) := hr9.at_ 1
   have yf : w9.frozen? ⟨r, 1, none⟩ = false := hr9.fz 1
   have HT := Lib.hid (HES.out.1.trans ((GTo.below HES.out.1.gs hb5).trans hT9))
   clear hT9 hG5 hfr9 hr9 hown hown9 hgr9 hq5
   refine hK.out _ _ True.intro (fun hHeld => ?_)
   clear hK K
   try simp only [Act.put, List.getElem_toArray, List.getElem_cons_succ, List.getElem_cons_zero, List.setIfInBounds_toArray, List.set_cons_zero, List.set_cons_succ]
   refine wpAnyH_take (i := 12) (v := (.pointer (some ⟨r,0,none⟩))) rfl (by kernel_rfl) (by kernel_rfl) (by kernel_rfl) (fun _ _ _ h => h) (Or.inl ⟨by rfl, by (intro w hS; try (obtain ⟨s0, s1, s2, s3, s4, s5, s6, s7⟩ := hS); go_simp)⟩) hHeld ?_
   try simp only [Act.put, List.getElem_toArray, List.getElem_cons_succ, List.getElem_cons_zero, List.setIfInBounds_toArray, List.set_cons_zero, List.set_cons_succ]
   refine wpAnyH_take (i := 13) (v := (.pointer (some ⟨r,1,none⟩))) rfl (by kernel_rfl) (by kernel_rfl) (by kernel_rfl) (fun _ _ _ h => h) (Or.inl ⟨by rfl, by (intro w hS; try (obtain ⟨s0, s1, s2, s3, s4, s5, s6, s7⟩ := hS); go_simp)⟩) hHeld ?_
   try simp only [Act.put, List.getElem_toArray, List.getElem_cons_succ, List.getElem_cons_zero, List.setIfInBounds_toArray, List.set_cons_zero, List.set_cons_succ]
   refine wpAnyH_ready (rs := [14]) (by kernel_rfl) (by simp) ?_
   refine AllReadyH.cons rfl (fun K hK => ?_) AllReadyH.nil
   try simp only [List.getElem_toArray, List.getElem_cons_succ, List.getElem_cons_zero]
   go_simp
   refine hK.out _ _ True.intro (fun hHeld => ?_)
   clear hK K
   try simp only [Act.put, List.getElem_toArray, List.getElem_cons_succ, List.getElem_cons_zero, List.setIfInBounds_toArray, List.set_cons_zero, List.set_cons_succ]
   refine wpAnyH_done (by kernel_rfl) ?_ _
   clear hHeld y0 yf
   go_wp2
   go_end0
   exact ⟨_, rfl, GTo.first HW1.out.1 HG.out (by exact HT.out), HO.out _ _ _ HES.out.2.1, TrIn.opn rfl rfl⟩
end Go.Proofs.YteadfpkihhaadaaGreatDoor
