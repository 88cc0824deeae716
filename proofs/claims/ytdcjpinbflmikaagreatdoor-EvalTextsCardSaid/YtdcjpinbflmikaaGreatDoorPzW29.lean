/- Facts and walks for the statement. -/
import Derived.Test.YtdcjpinbflmikaaGreatDoorPzW27
import Derived.Test.YtdcjpinbflmikaaGreatDoorPzW28
namespace Go.Proofs.YtdcjpinbflmikaaGreatDoor
open Go.RowKit Ex
structure EvD (w : World) (A : Option Addr) (l : List Nd) (c : Nat) (A2 : Option Addr) (c2 : Nat) (bs : List Ev.Bd) : Prop where
  row : NdR w w.heap.size A l
  cap : l.length ≤ c
  env : BdR w w.heap.size A2 bs
  cap2 : bs.length ≤ c2
  fit : FitB bs
theorem EvD.on {w w' : World} {A : Option Addr} {l : List Nd} {c : Nat} {A2 : Option Addr} {c2 : Nat} {bs : List Ev.Bd} (h : EvD w A l c A2 c2 bs) (hb : Below w.heap.size w w') : EvD w' A l c A2 c2 bs :=
  ⟨(h.row.below hb).more hb.size, h.cap, h.env.on hb, h.cap2, h.fit⟩
structure Bx5 (w : World) (g : Nat) (A : Option Addr) (n c : Nat) (A2 : Option Addr) (m c2 : Nat) (o num : Int) (N : ByteArray) (na nb nc : Int) : Prop where
  lk : IsBlk w g 155 #[.slice A n c, .slice A2 m c2]
  vl : IsBlk w (g + 1) 70 #[.int .u8 0, .int .i64 0, .bool false]
  nd : IsBlk w (g + 1 + 1) 114 #[.int .u8 o, .int .i64 num, .string N, .int .i64 na, .int .i64 nb, .int .i64 nc]
theorem Bx5.below {w w' : World} {g : Nat} {A : Option Addr} {n c : Nat} {A2 : Option Addr} {m c2 : Nat} {o num : Int} {N : ByteArray} {na nb nc : Int} (h : Bx5 w g A n c A2 m c2 o num N na nb nc) (hb : Below w.heap.size w w') : Bx5 w' g A n c A2 m c2 o num N na nb nc := ⟨h.lk.below hb h.lk.lt, h.vl.below hb h.vl.lt, h.nd.below hb h.nd.lt⟩
theorem Bx5.cells {w : World} {g : Nat} {A : Option Addr} {n c : Nat} {A2 : Option Addr} {m c2 : Nat} {o num : Int} {N : ByteArray} {na nb nc : Int} (h : Bx5 w g A n c A2 m c2 o num N na nb nc) :
    (w.cell? ⟨g, 0, none⟩ = some (.slice A n c) ∧ w.cell? ⟨g, 1, none⟩ = some (.slice A2 m c2)) ∧ (w.cell? ⟨g + 1 + 1, 0, none⟩ = some (.int .u8 o) ∧ w.cell? ⟨g + 1 + 1, 1, none⟩ = some (.int .i64 num) ∧ w.cell? ⟨g + 1 + 1, 2, none⟩ = some (.string N) ∧ w.cell? ⟨g + 1 + 1, 3, none⟩ = some (.int .i64 na) ∧ w.cell? ⟨g + 1 + 1, 4, none⟩ = some (.int .i64 nb) ∧ w.cell? ⟨g + 1 + 1, 5, none⟩ = some (.int .i64 nc)) ∧
    (w.cell? ⟨g + 1, 0, none⟩ = some (.int .u8 0) ∧ w.cell? ⟨g + 1, 1, none⟩ = some (.int .i64 0) ∧ w.cell? ⟨g + 1, 2, none⟩ = some (.bool false)) ∧ w.frozen? ⟨g + 1, 0, none⟩ = false ∧ w.frozen? ⟨g + 1, 1, none⟩ = false ∧ w.frozen? ⟨g + 1, 2, none⟩ = false :=
  ⟨⟨h.lk.at_ 0, h.lk.at_ 1⟩, ⟨h.nd.at_ 0, h.nd.at_ 1, h.nd.at_ 2, h.nd.at_ 3, h.nd.at_ 4, h.nd.at_ 5⟩, ⟨h.vl.at_ 0, h.vl.at_ 1, h.vl.at_ 2⟩, h.vl.fz 0, h.vl.fz 1, h.vl.fz 2⟩
theorem pre5 {w : World} {A : Option Addr} {l : List Nd} {c : Nat} {A2 : Option Addr} {c2 : Nat} {bs : List Ev.Bd} (E : EvD w A l c A2 c2 bs) {i : Nat} {op num : Int} {nm : List UInt8} {na nb nc : Int} (hn : l[i]? = some ⟨op, num, nm, na, nb, nc⟩) {w' : World} (hb' : Below w.heap.size w w') :
    ∃ (g o : Nat) (N : ByteArray) (W1 W3 : World), A = some ⟨g, o, none⟩ ∧ N = ⟨nm.toArray⟩ ∧ W1 = (w'.alloc (.cells #[.slice (some ⟨g, o, none⟩) l.length c, .slice A2 bs.length c2] 155)).alloc (.cells #[.int .u8 0, .int .i64 0, .bool false] 70) ∧ W3 = W1.alloc (.cells #[.int .u8 op, .int .i64 num, .string N, .int .i64 na, .int .i64 nb, .int .i64 nc] 114) ∧
      W1.cell? ⟨g, o + i * 6, none⟩ = some (.int .u8 op) ∧ W1.cell? ⟨g, o + i * 6 + 1, none⟩ = some (.int .i64 num) ∧ W1.cell? ⟨g, o + i * 6 + 2, none⟩ = some (.string N) ∧ W1.cell? ⟨g, o + i * 6 + 3, none⟩ = some (.int .i64 na) ∧ W1.cell? ⟨g, o + i * 6 + 4, none⟩ = some (.int .i64 nb) ∧ W1.cell? ⟨g, o + i * 6 + 5, none⟩ = some (.int .i64 nc) ∧
      (i : Int) < (l.length : Int) ∧ (l.length : Int) ≤ (c : Int) ∧ Bx5 W3 w'.heap.size (some ⟨g, o, none⟩) l.length c A2 bs.length c2 op num N na nb nc ∧ Below w'.heap.size w' W3 ∧ EvD W3 (some ⟨g, o, none⟩) l c A2 c2 bs := by
  obtain ⟨hi, hn⟩ := List.getElem?_eq_some_iff.1 hn
  have hE := E.on hb'
  obtain ⟨g, o, hAg, hg, q0, q1, q2, q3, q4, q5⟩ := hE.row i hi
  subst hAg
  rw [hn] at q0 q1 q2 q3 q4 q5
  obtain ⟨W1, hW1⟩ : ∃ W1, W1 = (w'.alloc (.cells #[.slice (some ⟨g, o, none⟩) l.length c, .slice A2 bs.length c2] 155)).alloc (.cells #[.int .u8 0, .int .i64 0, .bool false] 70) := ⟨_, rfl⟩
  have hb1 : Below w'.heap.size w' W1 := by rw [hW1]; exact ((Below.refl _ _).alloc (Nat.le_refl _) _).alloc (by simp) _
  have hs1 : W1.heap.size = w'.heap.size + 1 + 1 := by rw [hW1]; simp
  obtain ⟨W3, hW3⟩ : ∃ W3, W3 = W1.alloc (.cells #[.int .u8 op, .int .i64 num, .string ⟨nm.toArray⟩, .int .i64 na, .int .i64 nb, .int .i64 nc] 114) := ⟨_, rfl⟩
  have hb3 : Below w'.heap.size w' W3 := by rw [hW3]; exact hb1.alloc hb1.size _
  have hx : Bx5 W3 w'.heap.size (some ⟨g, o, none⟩) l.length c A2 bs.length c2 op num ⟨nm.toArray⟩ na nb nc := by
    have h13 : Below W1.heap.size W1 W3 := by rw [hW3]; exact (Below.refl _ _).alloc (Nat.le_refl _) _
    have hv : IsBlk W1 (w'.heap.size + 1) 70 #[.int .u8 0, .int .i64 0, .bool false] := by
      rw [hW1, show w'.heap.size + 1 = (w'.alloc (.cells #[.slice (some ⟨g, o, none⟩) l.length c, .slice A2 bs.length c2] 155)).heap.size by simp]; exact IsBlk.new _ _ _
    have hr : IsBlk W1 w'.heap.size 155 #[.slice (some ⟨g, o, none⟩) l.length c, .slice A2 bs.length c2] := by
      rw [hW1]; exact (IsBlk.new _ _ _).below ((Below.refl _ _).alloc (Nat.le_refl _) _) (IsBlk.new w' _ _).lt
    exact ⟨hr.below h13 hr.lt, hv.below h13 hv.lt, by rw [hW3, ← hs1]; exact IsBlk.new _ _ _⟩
  exact ⟨g, o, _, W1, W3, rfl, rfl, hW1, hW3, (hb1.cell (p := ⟨g, _, none⟩) hg).trans q0, (hb1.cell (p := ⟨g, _, none⟩) hg).trans q1, (hb1.cell (p := ⟨g, _, none⟩) hg).trans q2, (hb1.cell (p := ⟨g, _, none⟩) hg).trans q3, (hb1.cell (p := ⟨g, _, none⟩) hg).trans q4, (hb1.cell (p := ⟨g, _, none⟩) hg).trans q5, by omega, by have := E.cap; omega, hx, hb3, hE.on hb3⟩
set_option maxHeartbeats 1000000 in
set_option maxRecDepth 100000 in
theorem rworth1 {w : World} {A : Option Addr} {l : List Nd} {c : Nat} {A2 : Option Addr} {c2 : Nat} {bs : List Ev.Bd} (E : EvD w A l c A2 c2 bs) {i : Nat} {num : Int} {nm : List UInt8} {na nb nc : Int} (hn : l[i]? = some ⟨1, num, nm, na, nb, nc⟩) : RwC (lkA A l.length c A2 bs.length c2) w i (.ok (Ev.vi num)) := by
  intro w' hb'
  obtain ⟨g, o, N, W1, W3, rfl, hN, hW1, hW3, z0, z1, z2, z3, z4, z5, hi', hc', hx, hb3, hE3⟩ := pre5 E hn hb'
  obtain ⟨⟨x0, x1⟩, ⟨y0, y1, y2, y3, y4, y5⟩, -⟩ := hx.cells
  have HX := Lib.hid hx
  have HB3 := Lib.hid hb3
  have HE3 := Lib.hid hE3
  have hbw := hb'.trans (hb3.mono hb'.size)
  have HT := Lib.hid (rcounted_any num 0 W3)
  rw [hW1] at z0 z1 z2 z3 z4 z5 hW3
  rw [hW3] at x0 x1 y0 y1 y2 y3 y4 y5
  have HW3 := Lib.hid hW3
  unfold lkA at *
  clear hW1 hb3 hx hW3 hb' hE3 E hn hbw hN
  have HT : Hid (Calls _ _ _ _ fun e w'' => e = outZ (resZ (.ok (Ev.vi num))) ∧ _) := HT
  generalize resZ (.ok (Ev.vi num)) = Z at *
  obtain ⟨⟨zk, zn, zb⟩, ze⟩ := Z
  unfold outZ vlA at HT ⊢
  simp only at HT ⊢
  go_enter Tryz.func81, Tryz.ntmps81
  go_wp2_with fail
  rw [← HW3.out]
  refine HT.out.mono ?_
  rintro e w1 ⟨rfl, hb⟩
  obtain ⟨⟨x0, x1⟩, ⟨y0, y1, y2, y3, y4, y5⟩, ⟨k0, k1, k2⟩, f0, f1, f2⟩ := (HX.out.below hb).cells
  have HBF := Lib.hid ((((HB3.out.trans (hb.mono HB3.out.size)).setCell (p := ⟨w'.heap.size + 1, 0, none⟩) (Nat.le_succ _) (.int .u8 (zk : Nat))).setCell (p := ⟨w'.heap.size + 1, 1, none⟩) (Nat.le_succ _) (.int .i64 zn)).setCell (p := ⟨w'.heap.size + 1, 2, none⟩) (Nat.le_succ _) (.bool zb))
  clear hb
  go_wp2
  refine bodyPost_ret (v := .tuple #[.agg #[.int .u8 (zk : Nat), .int .i64 zn, .bool zb], .int .i64 ze]) (by simp [results, Tryz.results81, go_sem, k0, k1, k2]) rfl ?_
  exact ⟨rfl, HBF.out⟩
set_option maxHeartbeats 1000000 in
set_option maxRecDepth 100000 in
theorem rworth3 {w : World} {A : Option Addr} {l : List Nd} {c : Nat} {A2 : Option Addr} {c2 : Nat} {bs : List Ev.Bd} (E : EvD w A l c A2 c2 bs) {i : Nat} {num : Int} {nm : List UInt8} {na nb nc : Int} (hn : l[i]? = some ⟨3, num, nm, na, nb, nc⟩) : RwC (lkA A l.length c A2 bs.length c2) w i (.ok (Ev.vb true)) := by
  intro w' hb'
  obtain ⟨g, o, N, W1, W3, rfl, hN, hW1, hW3, z0, z1, z2, z3, z4, z5, hi', hc', hx, hb3, hE3⟩ := pre5 E hn hb'
  obtain ⟨⟨x0, x1⟩, ⟨y0, y1, y2, y3, y4, y5⟩, -⟩ := hx.cells
  have HX := Lib.hid hx
  have HB3 := Lib.hid hb3
  have HE3 := Lib.hid hE3
  have hbw := hb'.trans (hb3.mono hb'.size)
  have HT := Lib.hid (rtold_any true 0 W3)
  rw [hW1] at z0 z1 z2 z3 z4 z5 hW3
  rw [hW3] at x0 x1 y0 y1 y2 y3 y4 y5
  have HW3 := Lib.hid hW3
  unfold lkA at *
  clear hW1 hb3 hx hW3 hb' hE3 E hn hbw hN
  have HT : Hid (Calls _ _ _ _ fun e w'' => e = outZ (resZ (.ok (Ev.vb true))) ∧ _) := HT
  generalize resZ (.ok (Ev.vb true)) = Z at *
  obtain ⟨⟨zk, zn, zb⟩, ze⟩ := Z
  unfold outZ vlA at HT ⊢
  simp only at HT ⊢
  go_enter Tryz.func81, Tryz.ntmps81
  go_wp2_with fail
  rw [← HW3.out]
  refine HT.out.mono ?_
  rintro e w1 ⟨rfl, hb⟩
  obtain ⟨⟨x0, x1⟩, ⟨y0, y1, y2, y3, y4, y5⟩, ⟨k0, k1, k2⟩, f0, f1, f2⟩ := (HX.out.below hb).cells
  have HBF := Lib.hid ((((HB3.out.trans (hb.mono HB3.out.size)).setCell (p := ⟨w'.heap.size + 1, 0, none⟩) (Nat.le_succ _) (.int .u8 (zk : Nat))).setCell (p := ⟨w'.heap.size + 1, 1, none⟩) (Nat.le_succ _) (.int .i64 zn)).setCell (p := ⟨w'.heap.size + 1, 2, none⟩) (Nat.le_succ _) (.bool zb))
  clear hb
  go_wp2
  refine bodyPost_ret (v := .tuple #[.agg #[.int .u8 (zk : Nat), .int .i64 zn, .bool zb], .int .i64 ze]) (by simp [results, Tryz.results81, go_sem, k0, k1, k2]) rfl ?_
  exact ⟨rfl, HBF.out⟩
set_option maxHeartbeats 1000000 in
set_option maxRecDepth 100000 in
theorem rworth4 {w : World} {A : Option Addr} {l : List Nd} {c : Nat} {A2 : Option Addr} {c2 : Nat} {bs : List Ev.Bd} (E : EvD w A l c A2 c2 bs) {i : Nat} {num : Int} {nm : List UInt8} {na nb nc : Int} (hn : l[i]? = some ⟨4, num, nm, na, nb, nc⟩) : RwC (lkA A l.length c A2 bs.length c2) w i (.ok (Ev.vb false)) := by
  intro w' hb'
  obtain ⟨g, o, N, W1, W3, rfl, hN, hW1, hW3, z0, z1, z2, z3, z4, z5, hi', hc', hx, hb3, hE3⟩ := pre5 E hn hb'
  obtain ⟨⟨x0, x1⟩, ⟨y0, y1, y2, y3, y4, y5⟩, -⟩ := hx.cells
  have HX := Lib.hid hx
  have HB3 := Lib.hid hb3
  have HE3 := Lib.hid hE3
  have hbw := hb'.trans (hb3.mono hb'.size)
  have HT := Lib.hid (rtold_any false 0 W3)
  rw [hW1] at z0 z1 z2 z3 z4 z5 hW3
  rw [hW3] at x0 x1 y0 y1 y2 y3 y4 y5
  have HW3 := Lib.hid hW3
  unfold lkA at *
  clear hW1 hb3 hx hW3 hb' hE3 E hn hbw hN
  have HT : Hid (Calls _ _ _ _ fun e w'' => e = outZ (resZ (.ok (Ev.vb false))) ∧ _) := HT
  generalize resZ (.ok (Ev.vb false)) = Z at *
  obtain ⟨⟨zk, zn, zb⟩, ze⟩ := Z
  unfold outZ vlA at HT ⊢
  simp only at HT ⊢
  go_enter Tryz.func81, Tryz.ntmps81
  go_wp2_with fail
  rw [← HW3.out]
  refine HT.out.mono ?_
  rintro e w1 ⟨rfl, hb⟩
  obtain ⟨⟨x0, x1⟩, ⟨y0, y1, y2, y3, y4, y5⟩, ⟨k0, k1, k2⟩, f0, f1, f2⟩ := (HX.out.below hb).cells
  have HBF := Lib.hid ((((HB3.out.trans (hb.mono HB3.out.size)).setCell (p := ⟨w'.heap.size + 1, 0, none⟩) (Nat.le_succ _) (.int .u8 (zk : Nat))).setCell (p := ⟨w'.heap.size + 1, 1, none⟩) (Nat.le_succ _) (.int .i64 zn)).setCell (p := ⟨w'.heap.size + 1, 2, none⟩) (Nat.le_succ _) (.bool zb))
  clear hb
  go_wp2
  refine bodyPost_ret (v := .tuple #[.agg #[.int .u8 (zk : Nat), .int .i64 zn, .bool zb], .int .i64 ze]) (by simp [results, Tryz.results81, go_sem, k0, k1, k2]) rfl ?_
  exact ⟨rfl, HBF.out⟩
set_option maxHeartbeats 1000000 in
set_option maxRecDepth 100000 in
theorem rworth7 {w : World} {A : Option Addr} {l : List Nd} {c : Nat} {A2 : Option Addr} {c2 : Nat} {bs : List Ev.Bd} (E : EvD w A l c A2 c2 bs) {i : Nat} {num : Int} {nm : List UInt8} {na nb nc : Int} (hn : l[i]? = some ⟨7, num, nm, na, nb, nc⟩) {RA RB : Ev.Rz} (hFA : Ev.Fine RA) (hFB : Ev.Fine RB) (hA : RwC (lkA A l.length c A2 bs.length c2) w na RA) (hB : RwC (lkA A l.length c A2 bs.length c2) w nb RB) : RwC (lkA A l.length c A2 bs.length c2) w i (Ev.two 7 RA RB) := by
  intro w' hb'
  obtain ⟨g, o, N, W1, W3, rfl, hN, hW1, hW3, z0, z1, z2, z3, z4, z5, hi', hc', hx, hb3, hE3⟩ := pre5 E hn hb'
  obtain ⟨⟨x0, x1⟩, ⟨y0, y1, y2, y3, y4, y5⟩, -⟩ := hx.cells
  have HX := Lib.hid hx
  have HB3 := Lib.hid hb3
  have HE3 := Lib.hid hE3
  have hbw := hb'.trans (hb3.mono hb'.size)
  have HT := Lib.hid (r10two7 (some ⟨g, o, none⟩) l.length c A2 bs.length c2 w num N na nb nc RA RB hFA hFB hA hB W3 hbw)
  rw [hW1] at z0 z1 z2 z3 z4 z5 hW3
  rw [hW3] at x0 x1 y0 y1 y2 y3 y4 y5
  have HW3 := Lib.hid hW3
  unfold lkA at *
  clear hW1 hb3 hx hW3 hb' hE3 E hn hbw hN hA hB hFA hFB
  unfold ndX at HT
  generalize resZ (Ev.two 7 RA RB) = Z at *
  obtain ⟨⟨zk, zn, zb⟩, ze⟩ := Z
  unfold outZ vlA at HT ⊢
  simp only at HT ⊢
  go_enter Tryz.func81, Tryz.ntmps81
  go_wp2_with fail
  rw [← HW3.out]
  refine HT.out.mono ?_
  rintro e w1 ⟨rfl, hb⟩
  obtain ⟨⟨x0, x1⟩, ⟨y0, y1, y2, y3, y4, y5⟩, ⟨k0, k1, k2⟩, f0, f1, f2⟩ := (HX.out.below hb).cells
  have HBF := Lib.hid ((((HB3.out.trans (hb.mono HB3.out.size)).setCell (p := ⟨w'.heap.size + 1, 0, none⟩) (Nat.le_succ _) (.int .u8 (zk : Nat))).setCell (p := ⟨w'.heap.size + 1, 1, none⟩) (Nat.le_succ _) (.int .i64 zn)).setCell (p := ⟨w'.heap.size + 1, 2, none⟩) (Nat.le_succ _) (.bool zb))
  clear hb
  go_wp2
  refine bodyPost_ret (v := .tuple #[.agg #[.int .u8 (zk : Nat), .int .i64 zn, .bool zb], .int .i64 ze]) (by simp [results, Tryz.results81, go_sem, k0, k1, k2]) rfl ?_
  exact ⟨rfl, HBF.out⟩
set_option maxHeartbeats 1000000 in
set_option maxRecDepth 100000 in
theorem rworth8 {w : World} {A : Option Addr} {l : List Nd} {c : Nat} {A2 : Option Addr} {c2 : Nat} {bs : List Ev.Bd} (E : EvD w A l c A2 c2 bs) {i : Nat} {num : Int} {nm : List UInt8} {na nb nc : Int} (hn : l[i]? = some ⟨8, num, nm, na, nb, nc⟩) {RA RB : Ev.Rz} (hFA : Ev.Fine RA) (hFB : Ev.Fine RB) (hA : RwC (lkA A l.length c A2 bs.length c2) w na RA) (hB : RwC (lkA A l.length c A2 bs.length c2) w nb RB) : RwC (lkA A l.length c A2 bs.length c2) w i (Ev.two 8 RA RB) := by
  intro w' hb'
  obtain ⟨g, o, N, W1, W3, rfl, hN, hW1, hW3, z0, z1, z2, z3, z4, z5, hi', hc', hx, hb3, hE3⟩ := pre5 E hn hb'
  obtain ⟨⟨x0, x1⟩, ⟨y0, y1, y2, y3, y4, y5⟩, -⟩ := hx.cells
  have HX := Lib.hid hx
  have HB3 := Lib.hid hb3
  have HE3 := Lib.hid hE3
  have hbw := hb'.trans (hb3.mono hb'.size)
  have HT := Lib.hid (r10two8 (some ⟨g, o, none⟩) l.length c A2 bs.length c2 w num N na nb nc RA RB hFA hFB hA hB W3 hbw)
  rw [hW1] at z0 z1 z2 z3 z4 z5 hW3
  rw [hW3] at x0 x1 y0 y1 y2 y3 y4 y5
  have HW3 := Lib.hid hW3
  unfold lkA at *
  clear hW1 hb3 hx hW3 hb' hE3 E hn hbw hN hA hB hFA hFB
  unfold ndX at HT
  generalize resZ (Ev.two 8 RA RB) = Z at *
  obtain ⟨⟨zk, zn, zb⟩, ze⟩ := Z
  unfold outZ vlA at HT ⊢
  simp only at HT ⊢
  go_enter Tryz.func81, Tryz.ntmps81
  go_wp2_with fail
  rw [← HW3.out]
  refine HT.out.mono ?_
  rintro e w1 ⟨rfl, hb⟩
  obtain ⟨⟨x0, x1⟩, ⟨y0, y1, y2, y3, y4, y5⟩, ⟨k0, k1, k2⟩, f0, f1, f2⟩ := (HX.out.below hb).cells
  have HBF := Lib.hid ((((HB3.out.trans (hb.mono HB3.out.size)).setCell (p := ⟨w'.heap.size + 1, 0, none⟩) (Nat.le_succ _) (.int .u8 (zk : Nat))).setCell (p := ⟨w'.heap.size + 1, 1, none⟩) (Nat.le_succ _) (.int .i64 zn)).setCell (p := ⟨w'.heap.size + 1, 2, none⟩) (Nat.le_succ _) (.bool zb))
  clear hb
  go_wp2
  refine bodyPost_ret (v := .tuple #[.agg #[.int .u8 (zk : Nat), .int .i64 zn, .bool zb], .int .i64 ze]) (by simp [results, Tryz.results81, go_sem, k0, k1, k2]) rfl ?_
  exact ⟨rfl, HBF.out⟩
set_option maxHeartbeats 1000000 in
set_option maxRecDepth 100000 in
theorem rworth9 {w : World} {A : Option Addr} {l : List Nd} {c : Nat} {A2 : Option Addr} {c2 : Nat} {bs : List Ev.Bd} (E : EvD w A l c A2 c2 bs) {i : Nat} {num : Int} {nm : List UInt8} {na nb nc : Int} (hn : l[i]? = some ⟨9, num, nm, na, nb, nc⟩) {RA RB : Ev.Rz} (hFA : Ev.Fine RA) (hFB : Ev.Fine RB) (hA : RwC (lkA A l.length c A2 bs.length c2) w na RA) (hB : RwC (lkA A l.length c A2 bs.length c2) w nb RB) : RwC (lkA A l.length c A2 bs.length c2) w i (Ev.two 9 RA RB) := by
  intro w' hb'
  obtain ⟨g, o, N, W1, W3, rfl, hN, hW1, hW3, z0, z1, z2, z3, z4, z5, hi', hc', hx, hb3, hE3⟩ := pre5 E hn hb'
  obtain ⟨⟨x0, x1⟩, ⟨y0, y1, y2, y3, y4, y5⟩, -⟩ := hx.cells
  have HX := Lib.hid hx
  have HB3 := Lib.hid hb3
  have HE3 := Lib.hid hE3
  have hbw := hb'.trans (hb3.mono hb'.size)
  have HT := Lib.hid (r10two9 (some ⟨g, o, none⟩) l.length c A2 bs.length c2 w num N na nb nc RA RB hFA hFB hA hB W3 hbw)
  rw [hW1] at z0 z1 z2 z3 z4 z5 hW3
  rw [hW3] at x0 x1 y0 y1 y2 y3 y4 y5
  have HW3 := Lib.hid hW3
  unfold lkA at *
  clear hW1 hb3 hx hW3 hb' hE3 E hn hbw hN hA hB hFA hFB
  unfold ndX at HT
  generalize resZ (Ev.two 9 RA RB) = Z at *
  obtain ⟨⟨zk, zn, zb⟩, ze⟩ := Z
  unfold outZ vlA at HT ⊢
  simp only at HT ⊢
  go_enter Tryz.func81, Tryz.ntmps81
  go_wp2_with fail
  rw [← HW3.out]
  refine HT.out.mono ?_
  rintro e w1 ⟨rfl, hb⟩
  obtain ⟨⟨x0, x1⟩, ⟨y0, y1, y2, y3, y4, y5⟩, ⟨k0, k1, k2⟩, f0, f1, f2⟩ := (HX.out.below hb).cells
  have HBF := Lib.hid ((((HB3.out.trans (hb.mono HB3.out.size)).setCell (p := ⟨w'.heap.size + 1, 0, none⟩) (Nat.le_succ _) (.int .u8 (zk : Nat))).setCell (p := ⟨w'.heap.size + 1, 1, none⟩) (Nat.le_succ _) (.int .i64 zn)).setCell (p := ⟨w'.heap.size + 1, 2, none⟩) (Nat.le_succ _) (.bool zb))
  clear hb
  go_wp2
  refine bodyPost_ret (v := .tuple #[.agg #[.int .u8 (zk : Nat), .int .i64 zn, .bool zb], .int .i64 ze]) (by simp [results, Tryz.results81, go_sem, k0, k1, k2]) rfl ?_
  exact ⟨rfl, HBF.out⟩
set_option maxHeartbeats 1000000 in
set_option maxRecDepth 100000 in
theorem rworth10 {w : World} {A : Option Addr} {l : List Nd} {c : Nat} {A2 : Option Addr} {c2 : Nat} {bs : List Ev.Bd} (E : EvD w A l c A2 c2 bs) {i : Nat} {num : Int} {nm : List UInt8} {na nb nc : Int} (hn : l[i]? = some ⟨10, num, nm, na, nb, nc⟩) {RA RB : Ev.Rz} (hFA : Ev.Fine RA) (hFB : Ev.Fine RB) (hA : RwC (lkA A l.length c A2 bs.length c2) w na RA) (hB : RwC (lkA A l.length c A2 bs.length c2) w nb RB) : RwC (lkA A l.length c A2 bs.length c2) w i (Ev.two 10 RA RB) := by
  intro w' hb'
  obtain ⟨g, o, N, W1, W3, rfl, hN, hW1, hW3, z0, z1, z2, z3, z4, z5, hi', hc', hx, hb3, hE3⟩ := pre5 E hn hb'
  obtain ⟨⟨x0, x1⟩, ⟨y0, y1, y2, y3, y4, y5⟩, -⟩ := hx.cells
  have HX := Lib.hid hx
  have HB3 := Lib.hid hb3
  have HE3 := Lib.hid hE3
  have hbw := hb'.trans (hb3.mono hb'.size)
  have HT := Lib.hid (r10two10 (some ⟨g, o, none⟩) l.length c A2 bs.length c2 w num N na nb nc RA RB hFA hFB hA hB W3 hbw)
  rw [hW1] at z0 z1 z2 z3 z4 z5 hW3
  rw [hW3] at x0 x1 y0 y1 y2 y3 y4 y5
  have HW3 := Lib.hid hW3
  unfold lkA at *
  clear hW1 hb3 hx hW3 hb' hE3 E hn hbw hN hA hB hFA hFB
  unfold ndX at HT
  generalize resZ (Ev.two 10 RA RB) = Z at *
  obtain ⟨⟨zk, zn, zb⟩, ze⟩ := Z
  unfold outZ vlA at HT ⊢
  simp only at HT ⊢
  go_enter Tryz.func81, Tryz.ntmps81
  go_wp2_with fail
  rw [← HW3.out]
  refine HT.out.mono ?_
  rintro e w1 ⟨rfl, hb⟩
  obtain ⟨⟨x0, x1⟩, ⟨y0, y1, y2, y3, y4, y5⟩, ⟨k0, k1, k2⟩, f0, f1, f2⟩ := (HX.out.below hb).cells
  have HBF := Lib.hid ((((HB3.out.trans (hb.mono HB3.out.size)).setCell (p := ⟨w'.heap.size + 1, 0, none⟩) (Nat.le_succ _) (.int .u8 (zk : Nat))).setCell (p := ⟨w'.heap.size + 1, 1, none⟩) (Nat.le_succ _) (.int .i64 zn)).setCell (p := ⟨w'.heap.size + 1, 2, none⟩) (Nat.le_succ _) (.bool zb))
  clear hb
  go_wp2
  refine bodyPost_ret (v := .tuple #[.agg #[.int .u8 (zk : Nat), .int .i64 zn, .bool zb], .int .i64 ze]) (by simp [results, Tryz.results81, go_sem, k0, k1, k2]) rfl ?_
  exact ⟨rfl, HBF.out⟩
set_option maxHeartbeats 1000000 in
set_option maxRecDepth 100000 in
theorem rworth11 {w : World} {A : Option Addr} {l : List Nd} {c : Nat} {A2 : Option Addr} {c2 : Nat} {bs : List Ev.Bd} (E : EvD w A l c A2 c2 bs) {i : Nat} {num : Int} {nm : List UInt8} {na nb nc : Int} (hn : l[i]? = some ⟨11, num, nm, na, nb, nc⟩) {RA RB : Ev.Rz} (hFA : Ev.Fine RA) (hFB : Ev.Fine RB) (hA : RwC (lkA A l.length c A2 bs.length c2) w na RA) (hB : RwC (lkA A l.length c A2 bs.length c2) w nb RB) : RwC (lkA A l.length c A2 bs.length c2) w i (Ev.two 11 RA RB) := by
  intro w' hb'
  obtain ⟨g, o, N, W1, W3, rfl, hN, hW1, hW3, z0, z1, z2, z3, z4, z5, hi', hc', hx, hb3, hE3⟩ := pre5 E hn hb'
  obtain ⟨⟨x0, x1⟩, ⟨y0, y1, y2, y3, y4, y5⟩, -⟩ := hx.cells
  have HX := Lib.hid hx
  have HB3 := Lib.hid hb3
  have HE3 := Lib.hid hE3
  have hbw := hb'.trans (hb3.mono hb'.size)
  have HT := Lib.hid (r10two11 (some ⟨g, o, none⟩) l.length c A2 bs.length c2 w num N na nb nc RA RB hFA hFB hA hB W3 hbw)
  rw [hW1] at z0 z1 z2 z3 z4 z5 hW3
  rw [hW3] at x0 x1 y0 y1 y2 y3 y4 y5
  have HW3 := Lib.hid hW3
  unfold lkA at *
  clear hW1 hb3 hx hW3 hb' hE3 E hn hbw hN hA hB hFA hFB
  unfold ndX at HT
  generalize resZ (Ev.two 11 RA RB) = Z at *
  obtain ⟨⟨zk, zn, zb⟩, ze⟩ := Z
  unfold outZ vlA at HT ⊢
  simp only at HT ⊢
  go_enter Tryz.func81, Tryz.ntmps81
  go_wp2_with fail
  rw [← HW3.out]
  refine HT.out.mono ?_
  rintro e w1 ⟨rfl, hb⟩
  obtain ⟨⟨x0, x1⟩, ⟨y0, y1, y2, y3, y4, y5⟩, ⟨k0, k1, k2⟩, f0, f1, f2⟩ := (HX.out.below hb).cells
  have HBF := Lib.hid ((((HB3.out.trans (hb.mono HB3.out.size)).setCell (p := ⟨w'.heap.size + 1, 0, none⟩) (Nat.le_succ _) (.int .u8 (zk : Nat))).setCell (p := ⟨w'.heap.size + 1, 1, none⟩) (Nat.le_succ _) (.int .i64 zn)).setCell (p := ⟨w'.heap.size + 1, 2, none⟩) (Nat.le_succ _) (.bool zb))
  clear hb
  go_wp2
  refine bodyPost_ret (v := .tuple #[.agg #[.int .u8 (zk : Nat), .int .i64 zn, .bool zb], .int .i64 ze]) (by simp [results, Tryz.results81, go_sem, k0, k1, k2]) rfl ?_
  exact ⟨rfl, HBF.out⟩
set_option maxHeartbeats 1000000 in
set_option maxRecDepth 100000 in
theorem rworth12 {w : World} {A : Option Addr} {l : List Nd} {c : Nat} {A2 : Option Addr} {c2 : Nat} {bs : List Ev.Bd} (E : EvD w A l c A2 c2 bs) {i : Nat} {num : Int} {nm : List UInt8} {na nb nc : Int} (hn : l[i]? = some ⟨12, num, nm, na, nb, nc⟩) {RA RB : Ev.Rz} (hFA : Ev.Fine RA) (hFB : Ev.Fine RB) (hA : RwC (lkA A l.length c A2 bs.length c2) w na RA) (hB : RwC (lkA A l.length c A2 bs.length c2) w nb RB) : RwC (lkA A l.length c A2 bs.length c2) w i (Ev.two 12 RA RB) := by
  intro w' hb'
  obtain ⟨g, o, N, W1, W3, rfl, hN, hW1, hW3, z0, z1, z2, z3, z4, z5, hi', hc', hx, hb3, hE3⟩ := pre5 E hn hb'
  obtain ⟨⟨x0, x1⟩, ⟨y0, y1, y2, y3, y4, y5⟩, -⟩ := hx.cells
  have HX := Lib.hid hx
  have HB3 := Lib.hid hb3
  have HE3 := Lib.hid hE3
  have hbw := hb'.trans (hb3.mono hb'.size)
  have HT := Lib.hid (r10two12 (some ⟨g, o, none⟩) l.length c A2 bs.length c2 w num N na nb nc RA RB hFA hFB hA hB W3 hbw)
  rw [hW1] at z0 z1 z2 z3 z4 z5 hW3
  rw [hW3] at x0 x1 y0 y1 y2 y3 y4 y5
  have HW3 := Lib.hid hW3
  unfold lkA at *
  clear hW1 hb3 hx hW3 hb' hE3 E hn hbw hN hA hB hFA hFB
  unfold ndX at HT
  generalize resZ (Ev.two 12 RA RB) = Z at *
  obtain ⟨⟨zk, zn, zb⟩, ze⟩ := Z
  unfold outZ vlA at HT ⊢
  simp only at HT ⊢
  go_enter Tryz.func81, Tryz.ntmps81
  go_wp2_with fail
  rw [← HW3.out]
  refine HT.out.mono ?_
  rintro e w1 ⟨rfl, hb⟩
  obtain ⟨⟨x0, x1⟩, ⟨y0, y1, y2, y3, y4, y5⟩, ⟨k0, k1, k2⟩, f0, f1, f2⟩ := (HX.out.below hb).cells
  have HBF := Lib.hid ((((HB3.out.trans (hb.mono HB3.out.size)).setCell (p := ⟨w'.heap.size + 1, 0, none⟩) (Nat.le_succ _) (.int .u8 (zk : Nat))).setCell (p := ⟨w'.heap.size + 1, 1, none⟩) (Nat.le_succ _) (.int .i64 zn)).setCell (p := ⟨w'.heap.size + 1, 2, none⟩) (Nat.le_succ _) (.bool zb))
  clear hb
  go_wp2
  refine bodyPost_ret (v := .tuple #[.agg #[.int .u8 (zk : Nat), .int .i64 zn, .bool zb], .int .i64 ze]) (by simp [results, Tryz.results81, go_sem, k0, k1, k2]) rfl ?_
  exact ⟨rfl, HBF.out⟩
set_option maxHeartbeats 1000000 in
set_option maxRecDepth 100000 in
theorem rworth13 {w : World} {A : Option Addr} {l : List Nd} {c : Nat} {A2 : Option Addr} {c2 : Nat} {bs : List Ev.Bd} (E : EvD w A l c A2 c2 bs) {i : Nat} {num : Int} {nm : List UInt8} {na nb nc : Int} (hn : l[i]? = some ⟨13, num, nm, na, nb, nc⟩) {RA RB : Ev.Rz} (hFA : Ev.Fine RA) (hFB : Ev.Fine RB) (hA : RwC (lkA A l.length c A2 bs.length c2) w na RA) (hB : RwC (lkA A l.length c A2 bs.length c2) w nb RB) : RwC (lkA A l.length c A2 bs.length c2) w i (Ev.two 13 RA RB) := by
  intro w' hb'
  obtain ⟨g, o, N, W1, W3, rfl, hN, hW1, hW3, z0, z1, z2, z3, z4, z5, hi', hc', hx, hb3, hE3⟩ := pre5 E hn hb'
  obtain ⟨⟨x0, x1⟩, ⟨y0, y1, y2, y3, y4, y5⟩, -⟩ := hx.cells
  have HX := Lib.hid hx
  have HB3 := Lib.hid hb3
  have HE3 := Lib.hid hE3
  have hbw := hb'.trans (hb3.mono hb'.size)
  have HT := Lib.hid (r10two13 (some ⟨g, o, none⟩) l.length c A2 bs.length c2 w num N na nb nc RA RB hFA hFB hA hB W3 hbw)
  rw [hW1] at z0 z1 z2 z3 z4 z5 hW3
  rw [hW3] at x0 x1 y0 y1 y2 y3 y4 y5
  have HW3 := Lib.hid hW3
  unfold lkA at *
  clear hW1 hb3 hx hW3 hb' hE3 E hn hbw hN hA hB hFA hFB
  unfold ndX at HT
  generalize resZ (Ev.two 13 RA RB) = Z at *
  obtain ⟨⟨zk, zn, zb⟩, ze⟩ := Z
  unfold outZ vlA at HT ⊢
  simp only at HT ⊢
  go_enter Tryz.func81, Tryz.ntmps81
  go_wp2_with fail
  rw [← HW3.out]
  refine HT.out.mono ?_
  rintro e w1 ⟨rfl, hb⟩
  obtain ⟨⟨x0, x1⟩, ⟨y0, y1, y2, y3, y4, y5⟩, ⟨k0, k1, k2⟩, f0, f1, f2⟩ := (HX.out.below hb).cells
  have HBF := Lib.hid ((((HB3.out.trans (hb.mono HB3.out.size)).setCell (p := ⟨w'.heap.size + 1, 0, none⟩) (Nat.le_succ _) (.int .u8 (zk : Nat))).setCell (p := ⟨w'.heap.size + 1, 1, none⟩) (Nat.le_succ _) (.int .i64 zn)).setCell (p := ⟨w'.heap.size + 1, 2, none⟩) (Nat.le_succ _) (.bool zb))
  clear hb
  go_wp2
  refine bodyPost_ret (v := .tuple #[.agg #[.int .u8 (zk : Nat), .int .i64 zn, .bool zb], .int .i64 ze]) (by simp [results, Tryz.results81, go_sem, k0, k1, k2]) rfl ?_
  exact ⟨rfl, HBF.out⟩
set_option maxHeartbeats 1000000 in
set_option maxRecDepth 100000 in
theorem rworth14 {w : World} {A : Option Addr} {l : List Nd} {c : Nat} {A2 : Option Addr} {c2 : Nat} {bs : List Ev.Bd} (E : EvD w A l c A2 c2 bs) {i : Nat} {num : Int} {nm : List UInt8} {na nb nc : Int} (hn : l[i]? = some ⟨14, num, nm, na, nb, nc⟩) {RA RB : Ev.Rz} (hFA : Ev.Fine RA) (hFB : Ev.Fine RB) (hA : RwC (lkA A l.length c A2 bs.length c2) w na RA) (hB : RwC (lkA A l.length c A2 bs.length c2) w nb RB) : RwC (lkA A l.length c A2 bs.length c2) w i (Ev.two 14 RA RB) := by
  intro w' hb'
  obtain ⟨g, o, N, W1, W3, rfl, hN, hW1, hW3, z0, z1, z2, z3, z4, z5, hi', hc', hx, hb3, hE3⟩ := pre5 E hn hb'
  obtain ⟨⟨x0, x1⟩, ⟨y0, y1, y2, y3, y4, y5⟩, -⟩ := hx.cells
  have HX := Lib.hid hx
  have HB3 := Lib.hid hb3
  have HE3 := Lib.hid hE3
  have hbw := hb'.trans (hb3.mono hb'.size)
  have HT := Lib.hid (r10two14 (some ⟨g, o, none⟩) l.length c A2 bs.length c2 w num N na nb nc RA RB hFA hFB hA hB W3 hbw)
  rw [hW1] at z0 z1 z2 z3 z4 z5 hW3
  rw [hW3] at x0 x1 y0 y1 y2 y3 y4 y5
  have HW3 := Lib.hid hW3
  unfold lkA at *
  clear hW1 hb3 hx hW3 hb' hE3 E hn hbw hN hA hB hFA hFB
  unfold ndX at HT
  generalize resZ (Ev.two 14 RA RB) = Z at *
  obtain ⟨⟨zk, zn, zb⟩, ze⟩ := Z
  unfold outZ vlA at HT ⊢
  simp only at HT ⊢
  go_enter Tryz.func81, Tryz.ntmps81
  go_wp2_with fail
  rw [← HW3.out]
  refine HT.out.mono ?_
  rintro e w1 ⟨rfl, hb⟩
  obtain ⟨⟨x0, x1⟩, ⟨y0, y1, y2, y3, y4, y5⟩, ⟨k0, k1, k2⟩, f0, f1, f2⟩ := (HX.out.below hb).cells
  have HBF := Lib.hid ((((HB3.out.trans (hb.mono HB3.out.size)).setCell (p := ⟨w'.heap.size + 1, 0, none⟩) (Nat.le_succ _) (.int .u8 (zk : Nat))).setCell (p := ⟨w'.heap.size + 1, 1, none⟩) (Nat.le_succ _) (.int .i64 zn)).setCell (p := ⟨w'.heap.size + 1, 2, none⟩) (Nat.le_succ _) (.bool zb))
  clear hb
  go_wp2
  refine bodyPost_ret (v := .tuple #[.agg #[.int .u8 (zk : Nat), .int .i64 zn, .bool zb], .int .i64 ze]) (by simp [results, Tryz.results81, go_sem, k0, k1, k2]) rfl ?_
  exact ⟨rfl, HBF.out⟩
set_option maxHeartbeats 1000000 in
set_option maxRecDepth 100000 in
theorem rworth15 {w : World} {A : Option Addr} {l : List Nd} {c : Nat} {A2 : Option Addr} {c2 : Nat} {bs : List Ev.Bd} (E : EvD w A l c A2 c2 bs) {i : Nat} {num : Int} {nm : List UInt8} {na nb nc : Int} (hn : l[i]? = some ⟨15, num, nm, na, nb, nc⟩) {RA RB : Ev.Rz} (hFA : Ev.Fine RA) (hFB : Ev.Fine RB) (hA : RwC (lkA A l.length c A2 bs.length c2) w na RA) (hB : RwC (lkA A l.length c A2 bs.length c2) w nb RB) : RwC (lkA A l.length c A2 bs.length c2) w i (Ev.two 15 RA RB) := by
  intro w' hb'
  obtain ⟨g, o, N, W1, W3, rfl, hN, hW1, hW3, z0, z1, z2, z3, z4, z5, hi', hc', hx, hb3, hE3⟩ := pre5 E hn hb'
  obtain ⟨⟨x0, x1⟩, ⟨y0, y1, y2, y3, y4, y5⟩, -⟩ := hx.cells
  have HX := Lib.hid hx
  have HB3 := Lib.hid hb3
  have HE3 := Lib.hid hE3
  have hbw := hb'.trans (hb3.mono hb'.size)
  have HT := Lib.hid (r10two15 (some ⟨g, o, none⟩) l.length c A2 bs.length c2 w num N na nb nc RA RB hFA hFB hA hB W3 hbw)
  rw [hW1] at z0 z1 z2 z3 z4 z5 hW3
  rw [hW3] at x0 x1 y0 y1 y2 y3 y4 y5
  have HW3 := Lib.hid hW3
  unfold lkA at *
  clear hW1 hb3 hx hW3 hb' hE3 E hn hbw hN hA hB hFA hFB
  unfold ndX at HT
  generalize resZ (Ev.two 15 RA RB) = Z at *
  obtain ⟨⟨zk, zn, zb⟩, ze⟩ := Z
  unfold outZ vlA at HT ⊢
  simp only at HT ⊢
  go_enter Tryz.func81, Tryz.ntmps81
  go_wp2_with fail
  rw [← HW3.out]
  refine HT.out.mono ?_
  rintro e w1 ⟨rfl, hb⟩
  obtain ⟨⟨x0, x1⟩, ⟨y0, y1, y2, y3, y4, y5⟩, ⟨k0, k1, k2⟩, f0, f1, f2⟩ := (HX.out.below hb).cells
  have HBF := Lib.hid ((((HB3.out.trans (hb.mono HB3.out.size)).setCell (p := ⟨w'.heap.size + 1, 0, none⟩) (Nat.le_succ _) (.int .u8 (zk : Nat))).setCell (p := ⟨w'.heap.size + 1, 1, none⟩) (Nat.le_succ _) (.int .i64 zn)).setCell (p := ⟨w'.heap.size + 1, 2, none⟩) (Nat.le_succ _) (.bool zb))
  clear hb
  go_wp2
  refine bodyPost_ret (v := .tuple #[.agg #[.int .u8 (zk : Nat), .int .i64 zn, .bool zb], .int .i64 ze]) (by simp [results, Tryz.results81, go_sem, k0, k1, k2]) rfl ?_
  exact ⟨rfl, HBF.out⟩
set_option maxHeartbeats 1000000 in
set_option maxRecDepth 100000 in
theorem rworth16 {w : World} {A : Option Addr} {l : List Nd} {c : Nat} {A2 : Option Addr} {c2 : Nat} {bs : List Ev.Bd} (E : EvD w A l c A2 c2 bs) {i : Nat} {num : Int} {nm : List UInt8} {na nb nc : Int} (hn : l[i]? = some ⟨16, num, nm, na, nb, nc⟩) {RA RB : Ev.Rz} (hFA : Ev.Fine RA) (hFB : Ev.Fine RB) (hA : RwC (lkA A l.length c A2 bs.length c2) w na RA) (hB : RwC (lkA A l.length c A2 bs.length c2) w nb RB) : RwC (lkA A l.length c A2 bs.length c2) w i (Ev.two 16 RA RB) := by
  intro w' hb'
  obtain ⟨g, o, N, W1, W3, rfl, hN, hW1, hW3, z0, z1, z2, z3, z4, z5, hi', hc', hx, hb3, hE3⟩ := pre5 E hn hb'
  obtain ⟨⟨x0, x1⟩, ⟨y0, y1, y2, y3, y4, y5⟩, -⟩ := hx.cells
  have HX := Lib.hid hx
  have HB3 := Lib.hid hb3
  have HE3 := Lib.hid hE3
  have hbw := hb'.trans (hb3.mono hb'.size)
  have HT := Lib.hid (r10ali16 (some ⟨g, o, none⟩) l.length c A2 bs.length c2 w num N na nb nc RA RB hFA hFB hA hB W3 hbw)
  rw [hW1] at z0 z1 z2 z3 z4 z5 hW3
  rw [hW3] at x0 x1 y0 y1 y2 y3 y4 y5
  have HW3 := Lib.hid hW3
  unfold lkA at *
  clear hW1 hb3 hx hW3 hb' hE3 E hn hbw hN hA hB hFA hFB
  unfold ndX at HT
  generalize resZ (Ev.two 16 RA RB) = Z at *
  obtain ⟨⟨zk, zn, zb⟩, ze⟩ := Z
  unfold outZ vlA at HT ⊢
  simp only at HT ⊢
  go_enter Tryz.func81, Tryz.ntmps81
  go_wp2_with fail
  rw [← HW3.out]
  refine HT.out.mono ?_
  rintro e w1 ⟨rfl, hb⟩
  obtain ⟨⟨x0, x1⟩, ⟨y0, y1, y2, y3, y4, y5⟩, ⟨k0, k1, k2⟩, f0, f1, f2⟩ := (HX.out.below hb).cells
  have HBF := Lib.hid ((((HB3.out.trans (hb.mono HB3.out.size)).setCell (p := ⟨w'.heap.size + 1, 0, none⟩) (Nat.le_succ _) (.int .u8 (zk : Nat))).setCell (p := ⟨w'.heap.size + 1, 1, none⟩) (Nat.le_succ _) (.int .i64 zn)).setCell (p := ⟨w'.heap.size + 1, 2, none⟩) (Nat.le_succ _) (.bool zb))
  clear hb
  go_wp2
  refine bodyPost_ret (v := .tuple #[.agg #[.int .u8 (zk : Nat), .int .i64 zn, .bool zb], .int .i64 ze]) (by simp [results, Tryz.results81, go_sem, k0, k1, k2]) rfl ?_
  exact ⟨rfl, HBF.out⟩
set_option maxHeartbeats 1000000 in
set_option maxRecDepth 100000 in
theorem rworth17 {w : World} {A : Option Addr} {l : List Nd} {c : Nat} {A2 : Option Addr} {c2 : Nat} {bs : List Ev.Bd} (E : EvD w A l c A2 c2 bs) {i : Nat} {num : Int} {nm : List UInt8} {na nb nc : Int} (hn : l[i]? = some ⟨17, num, nm, na, nb, nc⟩) {RA RB : Ev.Rz} (hFA : Ev.Fine RA) (hFB : Ev.Fine RB) (hA : RwC (lkA A l.length c A2 bs.length c2) w na RA) (hB : RwC (lkA A l.length c A2 bs.length c2) w nb RB) : RwC (lkA A l.length c A2 bs.length c2) w i (Ev.two 17 RA RB) := by
  intro w' hb'
  obtain ⟨g, o, N, W1, W3, rfl, hN, hW1, hW3, z0, z1, z2, z3, z4, z5, hi', hc', hx, hb3, hE3⟩ := pre5 E hn hb'
  obtain ⟨⟨x0, x1⟩, ⟨y0, y1, y2, y3, y4, y5⟩, -⟩ := hx.cells
  have HX := Lib.hid hx
  have HB3 := Lib.hid hb3
  have HE3 := Lib.hid hE3
  have hbw := hb'.trans (hb3.mono hb'.size)
  have HT := Lib.hid (r10ali17 (some ⟨g, o, none⟩) l.length c A2 bs.length c2 w num N na nb nc RA RB hFA hFB hA hB W3 hbw)
  rw [hW1] at z0 z1 z2 z3 z4 z5 hW3
  rw [hW3] at x0 x1 y0 y1 y2 y3 y4 y5
  have HW3 := Lib.hid hW3
  unfold lkA at *
  clear hW1 hb3 hx hW3 hb' hE3 E hn hbw hN hA hB hFA hFB
  unfold ndX at HT
  generalize resZ (Ev.two 17 RA RB) = Z at *
  obtain ⟨⟨zk, zn, zb⟩, ze⟩ := Z
  unfold outZ vlA at HT ⊢
  simp only at HT ⊢
  go_enter Tryz.func81, Tryz.ntmps81
  go_wp2_with fail
  rw [← HW3.out]
  refine HT.out.mono ?_
  rintro e w1 ⟨rfl, hb⟩
  obtain ⟨⟨x0, x1⟩, ⟨y0, y1, y2, y3, y4, y5⟩, ⟨k0, k1, k2⟩, f0, f1, f2⟩ := (HX.out.below hb).cells
  have HBF := Lib.hid ((((HB3.out.trans (hb.mono HB3.out.size)).setCell (p := ⟨w'.heap.size + 1, 0, none⟩) (Nat.le_succ _) (.int .u8 (zk : Nat))).setCell (p := ⟨w'.heap.size + 1, 1, none⟩) (Nat.le_succ _) (.int .i64 zn)).setCell (p := ⟨w'.heap.size + 1, 2, none⟩) (Nat.le_succ _) (.bool zb))
  clear hb
  go_wp2
  refine bodyPost_ret (v := .tuple #[.agg #[.int .u8 (zk : Nat), .int .i64 zn, .bool zb], .int .i64 ze]) (by simp [results, Tryz.results81, go_sem, k0, k1, k2]) rfl ?_
  exact ⟨rfl, HBF.out⟩
set_option maxHeartbeats 1000000 in
set_option maxRecDepth 100000 in
theorem rworth18 {w : World} {A : Option Addr} {l : List Nd} {c : Nat} {A2 : Option Addr} {c2 : Nat} {bs : List Ev.Bd} (E : EvD w A l c A2 c2 bs) {i : Nat} {num : Int} {nm : List UInt8} {na nb nc : Int} (hn : l[i]? = some ⟨18, num, nm, na, nb, nc⟩) {RA RB : Ev.Rz} (hFA : Ev.Fine RA) (hFB : Ev.Fine RB) (hA : RwC (lkA A l.length c A2 bs.length c2) w na RA) (hB : RwC (lkA A l.length c A2 bs.length c2) w nb RB) : RwC (lkA A l.length c A2 bs.length c2) w i (Ev.two 18 RA RB) := by
  intro w' hb'
  obtain ⟨g, o, N, W1, W3, rfl, hN, hW1, hW3, z0, z1, z2, z3, z4, z5, hi', hc', hx, hb3, hE3⟩ := pre5 E hn hb'
  obtain ⟨⟨x0, x1⟩, ⟨y0, y1, y2, y3, y4, y5⟩, -⟩ := hx.cells
  have HX := Lib.hid hx
  have HB3 := Lib.hid hb3
  have HE3 := Lib.hid hE3
  have hbw := hb'.trans (hb3.mono hb'.size)
  have HT := Lib.hid (r10log18 (some ⟨g, o, none⟩) l.length c A2 bs.length c2 w num N na nb nc RA RB hFA hFB hA hB W3 hbw)
  rw [hW1] at z0 z1 z2 z3 z4 z5 hW3
  rw [hW3] at x0 x1 y0 y1 y2 y3 y4 y5
  have HW3 := Lib.hid hW3
  unfold lkA at *
  clear hW1 hb3 hx hW3 hb' hE3 E hn hbw hN hA hB hFA hFB
  unfold ndX at HT
  generalize resZ (Ev.two 18 RA RB) = Z at *
  obtain ⟨⟨zk, zn, zb⟩, ze⟩ := Z
  unfold outZ vlA at HT ⊢
  simp only at HT ⊢
  go_enter Tryz.func81, Tryz.ntmps81
  go_wp2_with fail
  rw [← HW3.out]
  refine HT.out.mono ?_
  rintro e w1 ⟨rfl, hb⟩
  obtain ⟨⟨x0, x1⟩, ⟨y0, y1, y2, y3, y4, y5⟩, ⟨k0, k1, k2⟩, f0, f1, f2⟩ := (HX.out.below hb).cells
  have HBF := Lib.hid ((((HB3.out.trans (hb.mono HB3.out.size)).setCell (p := ⟨w'.heap.size + 1, 0, none⟩) (Nat.le_succ _) (.int .u8 (zk : Nat))).setCell (p := ⟨w'.heap.size + 1, 1, none⟩) (Nat.le_succ _) (.int .i64 zn)).setCell (p := ⟨w'.heap.size + 1, 2, none⟩) (Nat.le_succ _) (.bool zb))
  clear hb
  go_wp2
  refine bodyPost_ret (v := .tuple #[.agg #[.int .u8 (zk : Nat), .int .i64 zn, .bool zb], .int .i64 ze]) (by simp [results, Tryz.results81, go_sem, k0, k1, k2]) rfl ?_
  exact ⟨rfl, HBF.out⟩
set_option maxHeartbeats 1000000 in
set_option maxRecDepth 100000 in
theorem rworth19 {w : World} {A : Option Addr} {l : List Nd} {c : Nat} {A2 : Option Addr} {c2 : Nat} {bs : List Ev.Bd} (E : EvD w A l c A2 c2 bs) {i : Nat} {num : Int} {nm : List UInt8} {na nb nc : Int} (hn : l[i]? = some ⟨19, num, nm, na, nb, nc⟩) {RA RB : Ev.Rz} (hFA : Ev.Fine RA) (hFB : Ev.Fine RB) (hA : RwC (lkA A l.length c A2 bs.length c2) w na RA) (hB : RwC (lkA A l.length c A2 bs.length c2) w nb RB) : RwC (lkA A l.length c A2 bs.length c2) w i (Ev.two 19 RA RB) := by
  intro w' hb'
  obtain ⟨g, o, N, W1, W3, rfl, hN, hW1, hW3, z0, z1, z2, z3, z4, z5, hi', hc', hx, hb3, hE3⟩ := pre5 E hn hb'
  obtain ⟨⟨x0, x1⟩, ⟨y0, y1, y2, y3, y4, y5⟩, -⟩ := hx.cells
  have HX := Lib.hid hx
  have HB3 := Lib.hid hb3
  have HE3 := Lib.hid hE3
  have hbw := hb'.trans (hb3.mono hb'.size)
  have HT := Lib.hid (r10log19 (some ⟨g, o, none⟩) l.length c A2 bs.length c2 w num N na nb nc RA RB hFA hFB hA hB W3 hbw)
  rw [hW1] at z0 z1 z2 z3 z4 z5 hW3
  rw [hW3] at x0 x1 y0 y1 y2 y3 y4 y5
  have HW3 := Lib.hid hW3
  unfold lkA at *
  clear hW1 hb3 hx hW3 hb' hE3 E hn hbw hN hA hB hFA hFB
  unfold ndX at HT
  generalize resZ (Ev.two 19 RA RB) = Z at *
  obtain ⟨⟨zk, zn, zb⟩, ze⟩ := Z
  unfold outZ vlA at HT ⊢
  simp only at HT ⊢
  go_enter Tryz.func81, Tryz.ntmps81
  go_wp2_with fail
  rw [← HW3.out]
  refine HT.out.mono ?_
  rintro e w1 ⟨rfl, hb⟩
  obtain ⟨⟨x0, x1⟩, ⟨y0, y1, y2, y3, y4, y5⟩, ⟨k0, k1, k2⟩, f0, f1, f2⟩ := (HX.out.below hb).cells
  have HBF := Lib.hid ((((HB3.out.trans (hb.mono HB3.out.size)).setCell (p := ⟨w'.heap.size + 1, 0, none⟩) (Nat.le_succ _) (.int .u8 (zk : Nat))).setCell (p := ⟨w'.heap.size + 1, 1, none⟩) (Nat.le_succ _) (.int .i64 zn)).setCell (p := ⟨w'.heap.size + 1, 2, none⟩) (Nat.le_succ _) (.bool zb))
  clear hb
  go_wp2
  refine bodyPost_ret (v := .tuple #[.agg #[.int .u8 (zk : Nat), .int .i64 zn, .bool zb], .int .i64 ze]) (by simp [results, Tryz.results81, go_sem, k0, k1, k2]) rfl ?_
  exact ⟨rfl, HBF.out⟩
set_option maxHeartbeats 1000000 in
set_option maxRecDepth 100000 in
theorem rworth20 {w : World} {A : Option Addr} {l : List Nd} {c : Nat} {A2 : Option Addr} {c2 : Nat} {bs : List Ev.Bd} (E : EvD w A l c A2 c2 bs) {i : Nat} {num : Int} {nm : List UInt8} {na nb nc : Int} (hn : l[i]? = some ⟨20, num, nm, na, nb, nc⟩) {RA RB : Ev.Rz} (hFA : Ev.Fine RA) (hFB : Ev.Fine RB) (hA : RwC (lkA A l.length c A2 bs.length c2) w na RA) (hB : RwC (lkA A l.length c A2 bs.length c2) w nb RB) : RwC (lkA A l.length c A2 bs.length c2) w i (Ev.two 20 RA RB) := by
  intro w' hb'
  obtain ⟨g, o, N, W1, W3, rfl, hN, hW1, hW3, z0, z1, z2, z3, z4, z5, hi', hc', hx, hb3, hE3⟩ := pre5 E hn hb'
  obtain ⟨⟨x0, x1⟩, ⟨y0, y1, y2, y3, y4, y5⟩, -⟩ := hx.cells
  have HX := Lib.hid hx
  have HB3 := Lib.hid hb3
  have HE3 := Lib.hid hE3
  have hbw := hb'.trans (hb3.mono hb'.size)
  have HT := Lib.hid (r10log20 (some ⟨g, o, none⟩) l.length c A2 bs.length c2 w num N na nb nc RA RB hFA hFB hA hB W3 hbw)
  rw [hW1] at z0 z1 z2 z3 z4 z5 hW3
  rw [hW3] at x0 x1 y0 y1 y2 y3 y4 y5
  have HW3 := Lib.hid hW3
  unfold lkA at *
  clear hW1 hb3 hx hW3 hb' hE3 E hn hbw hN hA hB hFA hFB
  unfold ndX at HT
  generalize resZ (Ev.two 20 RA RB) = Z at *
  obtain ⟨⟨zk, zn, zb⟩, ze⟩ := Z
  unfold outZ vlA at HT ⊢
  simp only at HT ⊢
  go_enter Tryz.func81, Tryz.ntmps81
  go_wp2_with fail
  rw [← HW3.out]
  refine HT.out.mono ?_
  rintro e w1 ⟨rfl, hb⟩
  obtain ⟨⟨x0, x1⟩, ⟨y0, y1, y2, y3, y4, y5⟩, ⟨k0, k1, k2⟩, f0, f1, f2⟩ := (HX.out.below hb).cells
  have HBF := Lib.hid ((((HB3.out.trans (hb.mono HB3.out.size)).setCell (p := ⟨w'.heap.size + 1, 0, none⟩) (Nat.le_succ _) (.int .u8 (zk : Nat))).setCell (p := ⟨w'.heap.size + 1, 1, none⟩) (Nat.le_succ _) (.int .i64 zn)).setCell (p := ⟨w'.heap.size + 1, 2, none⟩) (Nat.le_succ _) (.bool zb))
  clear hb
  go_wp2
  refine bodyPost_ret (v := .tuple #[.agg #[.int .u8 (zk : Nat), .int .i64 zn, .bool zb], .int .i64 ze]) (by simp [results, Tryz.results81, go_sem, k0, k1, k2]) rfl ?_
  exact ⟨rfl, HBF.out⟩
set_option maxHeartbeats 1000000 in
set_option maxRecDepth 100000 in
theorem rworth21 {w : World} {A : Option Addr} {l : List Nd} {c : Nat} {A2 : Option Addr} {c2 : Nat} {bs : List Ev.Bd} (E : EvD w A l c A2 c2 bs) {i : Nat} {num : Int} {nm : List UInt8} {na nb nc : Int} (hn : l[i]? = some ⟨21, num, nm, na, nb, nc⟩) {RA RB : Ev.Rz} (hFA : Ev.Fine RA) (hFB : Ev.Fine RB) (hA : RwC (lkA A l.length c A2 bs.length c2) w na RA) (hB : RwC (lkA A l.length c A2 bs.length c2) w nb RB) : RwC (lkA A l.length c A2 bs.length c2) w i (Ev.two 21 RA RB) := by
  intro w' hb'
  obtain ⟨g, o, N, W1, W3, rfl, hN, hW1, hW3, z0, z1, z2, z3, z4, z5, hi', hc', hx, hb3, hE3⟩ := pre5 E hn hb'
  obtain ⟨⟨x0, x1⟩, ⟨y0, y1, y2, y3, y4, y5⟩, -⟩ := hx.cells
  have HX := Lib.hid hx
  have HB3 := Lib.hid hb3
  have HE3 := Lib.hid hE3
  have hbw := hb'.trans (hb3.mono hb'.size)
  have HT := Lib.hid (r10log21 (some ⟨g, o, none⟩) l.length c A2 bs.length c2 w num N na nb nc RA RB hFA hFB hA hB W3 hbw)
  rw [hW1] at z0 z1 z2 z3 z4 z5 hW3
  rw [hW3] at x0 x1 y0 y1 y2 y3 y4 y5
  have HW3 := Lib.hid hW3
  unfold lkA at *
  clear hW1 hb3 hx hW3 hb' hE3 E hn hbw hN hA hB hFA hFB
  unfold ndX at HT
  generalize resZ (Ev.two 21 RA RB) = Z at *
  obtain ⟨⟨zk, zn, zb⟩, ze⟩ := Z
  unfold outZ vlA at HT ⊢
  simp only at HT ⊢
  go_enter Tryz.func81, Tryz.ntmps81
  go_wp2_with fail
  rw [← HW3.out]
  refine HT.out.mono ?_
  rintro e w1 ⟨rfl, hb⟩
  obtain ⟨⟨x0, x1⟩, ⟨y0, y1, y2, y3, y4, y5⟩, ⟨k0, k1, k2⟩, f0, f1, f2⟩ := (HX.out.below hb).cells
  have HBF := Lib.hid ((((HB3.out.trans (hb.mono HB3.out.size)).setCell (p := ⟨w'.heap.size + 1, 0, none⟩) (Nat.le_succ _) (.int .u8 (zk : Nat))).setCell (p := ⟨w'.heap.size + 1, 1, none⟩) (Nat.le_succ _) (.int .i64 zn)).setCell (p := ⟨w'.heap.size + 1, 2, none⟩) (Nat.le_succ _) (.bool zb))
  clear hb
  go_wp2
  refine bodyPost_ret (v := .tuple #[.agg #[.int .u8 (zk : Nat), .int .i64 zn, .bool zb], .int .i64 ze]) (by simp [results, Tryz.results81, go_sem, k0, k1, k2]) rfl ?_
  exact ⟨rfl, HBF.out⟩
end Go.Proofs.YtdcjpinbflmikaaGreatDoor
