/- Layer 6's reference: Plus, walked. Conditions: the digits lie in memory, and are few. -/
import Derived.Test.YtbeoobgnpcbnnaaDoorNuLong
import Derived.Deep.RegionHeld3
namespace Go.Proofs.YtbeoobgnpcbnnaaDoor
open Go.RowKit

theorem sz (w : World) (o : Obj) : (w.alloc o).heap.size = w.heap.size + 1 := by simp
theorem plus_same (b : Bool) (x y : Nat) : sg b x + sg b y = sg b (x + y) := by cases b <;> simp [sg] <;> omega
theorem plus_less (b : Bool) {x y : Nat} (h : x < y) : sg b x + sg (!b) y = sg (!b) (y - x) := by cases b <;> simp [sg] <;> omega
theorem plus_more (b : Bool) {x y : Nat} (h : ¬ x < y) : sg b x + sg (!b) y = sg b (x - y) := by cases b <;> simp [sg] <;> omega
theorem Dr.far {w : World} {A : Option Addr} {c : Nat} {l : List Nat} (h : Dr w A c l) {r : Nat} {u0 : Option Addr} {n0 c0 : Nat} (hk : w.cell? ⟨r, 0, none⟩ = some (.slice u0 n0 c0)) (v0 v1 : Value) : Dr ((w.setCell ⟨r, 0, none⟩ v0).setCell ⟨r, 1, none⟩ v1) A c l :=
  ⟨h.1, fun j hj => by
    obtain ⟨g, h1, h2, h3⟩ := h.2 j hj
    obtain ⟨g', q1, q2, q3⟩ := h.2 0 (by omega)
    have hgr : g ≠ r := by
      rintro rfl
      obtain rfl : g' = g := by rw [h1] at q1; injection q1 with q1; injection q1 with q1; exact q1.symm
      rw [hk] at q3
      cases q3
    refine ⟨g, h1, by simp [World.setCell]; exact h2, ?_⟩
    have e1 := Below.heap_setCell w ⟨r, 0, none⟩ v0 g hgr
    have e2 := Below.heap_setCell (w.setCell ⟨r, 0, none⟩ v0) ⟨r, 1, none⟩ v1 g hgr
    rw [World.cell?_of_block (a := ⟨g, j, none⟩) (e2.trans e1)]
    exact h3⟩
theorem s4 {W w3 : World} {a : Nat} {u0 u1 u2 u3 v0 v1 : Value} (hb : Below (a + 2) W w3) (t0 : W.cell? ⟨a, 0, none⟩ = some u0) (t1 : W.cell? ⟨a, 1, none⟩ = some u1) (t2 : W.cell? ⟨a + 1, 0, none⟩ = some u2) (t3 : W.cell? ⟨a + 1, 1, none⟩ = some u3) :
    ((w3.setCell ⟨a + 1 + 1, 0, none⟩ v0).setCell ⟨a + 1 + 1, 1, none⟩ v1).cell? ⟨a, 0, none⟩ = some u0 ∧ ((w3.setCell ⟨a + 1 + 1, 0, none⟩ v0).setCell ⟨a + 1 + 1, 1, none⟩ v1).cell? ⟨a, 1, none⟩ = some u1 ∧
    ((w3.setCell ⟨a + 1 + 1, 0, none⟩ v0).setCell ⟨a + 1 + 1, 1, none⟩ v1).cell? ⟨a + 1, 0, none⟩ = some u2 ∧ ((w3.setCell ⟨a + 1 + 1, 0, none⟩ v0).setCell ⟨a + 1 + 1, 1, none⟩ v1).cell? ⟨a + 1, 1, none⟩ = some u3 := by
  have h := (hb.setCell (p := ⟨a + 1 + 1, 0, none⟩) (by show a + 2 ≤ a + 1 + 1; omega) v0).setCell (p := ⟨a + 1 + 1, 1, none⟩) (by show a + 2 ≤ a + 1 + 1; omega) v1
  exact ⟨(h.cell (p := ⟨a, 0, none⟩) (by show a < a + 2; omega)).trans t0, (h.cell (p := ⟨a, 1, none⟩) (by show a < a + 2; omega)).trans t1, (h.cell (p := ⟨a + 1, 0, none⟩) (by show a + 1 < a + 2; omega)).trans t2, (h.cell (p := ⟨a + 1, 1, none⟩) (by show a + 1 < a + 2; omega)).trans t3⟩
theorem below_two {w w3 : World} (h : Below w.heap.size w w3) (v0 v1 : Value) : Below w.heap.size w ((w3.setCell ⟨w.heap.size + 1 + 1, 0, none⟩ v0).setCell ⟨w.heap.size + 1 + 1, 1, none⟩ v1) :=
  (h.setCell (p := ⟨_, 0, none⟩) (by show w.heap.size ≤ w.heap.size + 1 + 1; omega) v0).setCell (p := ⟨_, 1, none⟩) (by show w.heap.size ≤ w.heap.size + 1 + 1; omega) v1
set_option maxHeartbeats 2000000 in
set_option maxRecDepth 100000 in
theorem plus_any (w : World) (A A2 : Option Addr) (c c2 x y : Nat) (b b2 : Bool) (h : Dr w A c (Nu.dig x)) (h2 : Dr w A2 c2 (Nu.dig y)) (hx : (Nu.dig x).length ≤ 400) (hy : (Nu.dig y).length ≤ 400) :
    Calls Tryd.prog 28 #[.agg #[.slice A (Nu.dig x).length c, .bool b], .agg #[.slice A2 (Nu.dig y).length c2, .bool b2]] w (LgP w (sg b x + sg b2 y)) := by
  obtain ⟨W0, hW0⟩ : ∃ W0, W0 = ((w.alloc (.cells #[.slice A (Nu.dig x).length c, .bool b] 40)).alloc (.cells #[.slice A2 (Nu.dig y).length c2, .bool b2] 40)).alloc (.cells #[.slice none 0 0, .bool false] 40) := ⟨_, rfl⟩
  have hb0 : Below w.heap.size w W0 := by rw [hW0]; exact (((Below.refl _ _).alloc (Nat.le_refl _) _).alloc (by simp) _).alloc (by simp only [sz]; omega) _
  have hk0 : IsBlk W0 w.heap.size 40 #[.slice A (Nu.dig x).length c, .bool b] := by
    rw [hW0]
    refine IsBlk.below (B := w.heap.size + 1) (IsBlk.new w _ _) ?_ (by omega)
    exact ((Below.refl _ _).alloc (by simp) _).alloc (by simp) _
  have hk1 : IsBlk W0 (w.heap.size + 1) 40 #[.slice A2 (Nu.dig y).length c2, .bool b2] := by
    rw [hW0]
    have := IsBlk.new (w.alloc (.cells #[.slice A (Nu.dig x).length c, .bool b] 40)) 40 #[.slice A2 (Nu.dig y).length c2, .bool b2]
    rw [sz] at this
    refine IsBlk.below (B := w.heap.size + 2) this ?_ (by omega)
    exact (Below.refl _ _).alloc (by simp) _
  have hk2 : IsBlk W0 (w.heap.size + 2) 40 #[.slice none 0 0, .bool false] := by
    rw [hW0]
    have := IsBlk.new ((w.alloc (.cells #[.slice A (Nu.dig x).length c, .bool b] 40)).alloc (.cells #[.slice A2 (Nu.dig y).length c2, .bool b2] 40)) 40 #[.slice none 0 0, .bool false]
    rw [sz, sz] at this
    exact this
  have HK2 := Lib.hid hk2
  clear hk2
  have hs0 : W0.heap.size = w.heap.size + 3 := by rw [hW0]; simp
  have t0 := hk0.at_ 0
  have t1 := hk0.at_ 1
  have t2 := hk1.at_ 0
  have t3 := hk1.at_ 1
  simp only [List.getElem?_toArray, List.getElem?_cons_zero, List.getElem?_cons_succ] at t0 t1 t2 t3
  have HADD := Lib.hid (fun w1 (hb : Below W0.heap.size W0 w1) => add_dig w1 A A2 c c2 x y ((h.below2 hb0).below2 hb) ((h2.below2 hb0).below2 hb) (by omega) (by omega))
  have HLESS := Lib.hid (less_any W0 A A2 c c2 x y (h.below2 hb0) (h2.below2 hb0) (by omega))
  have HTK := Lib.hid (fun w1 (hb : Below W0.heap.size W0 w1) (hyx : y ≤ x) => take_dig w1 A A2 c c2 x y ((h.below2 hb0).below2 hb) ((h2.below2 hb0).below2 hb) (by omega) hyx)
  have HTK2 := Lib.hid (fun w1 (hb : Below W0.heap.size W0 w1) (hxy : x ≤ y) => take_dig w1 A2 A c2 c y x ((h2.below2 hb0).below2 hb) ((h.below2 hb0).below2 hb) (by omega) hxy)
  generalize (Nu.dig x).length = n at *
  generalize (Nu.dig y).length = m at *
  have HL := Lib.hid (show w.heap.size < W0.heap.size ∧ w.heap.size + 1 < W0.heap.size by omega)
  have HW0 := Lib.hid hW0
  have HB0 := Lib.hid hb0
  clear h h2 hW0 hb0 hk0 hk1
  by_cases hbb : b = b2
  · subst hbb
    rw [plus_same]
    clear HLESS HTK HTK2
    go_enter Tryd.func28, Tryd.ntmps28
    go_wp2
    rw [← HW0.out]
    go_region_held3 (fun w' => w'.cell? ⟨w.heap.size, 0, none⟩ = some (.slice A n c) ∧ w'.cell? ⟨w.heap.size, 1, none⟩ = some (.bool b) ∧ w'.cell? ⟨w.heap.size + 1, 0, none⟩ = some (.slice A2 m c2) ∧ w'.cell? ⟨w.heap.size + 1, 1, none⟩ = some (.bool b))
        (first | exact ⟨t0, t1, t2, t3⟩ | exact ⟨(h3.cell (p := ⟨w.heap.size, 0, none⟩) HL.out.1).trans t0, (h3.cell (p := ⟨w.heap.size, 1, none⟩) HL.out.1).trans t1, (h3.cell (p := ⟨w.heap.size + 1, 0, none⟩) HL.out.2).trans t2, (h3.cell (p := ⟨w.heap.size + 1, 1, none⟩) HL.out.2).trans t3⟩ | exact s4 (h3.mono HL.out.2) t0 t1 t2 t3)
        (first | (go_at_call 39; refine (HADD.out _ ((Below.refl _ _).drew)).mono ?_; rintro e w3 ⟨A3, c3, rfl, hd3, h3⟩; have kb := HK2.out.below ((Below.refl W0.heap.size W0).drew.trans h3) HK2.out.lt; have k0 := kb.at_ 0; have k1 := kb.at_ 1; have f0 := kb.fz 0; have f1 := kb.fz 1; have KB := Lib.hid kb; have HD3 := Lib.hid hd3; clear kb hd3; simp only [List.getElem?_toArray, List.getElem?_cons_zero, List.getElem?_cons_succ] at k0 k1))
    go_wp2
    refine bodyPost_ret (v := .agg #[.slice A3 (Nu.dig (x + y)).length c3, .bool b]) (by simp [results, Tryd.results28, go_sem, k0, k1]) rfl ?_
    exact ⟨A3, c3, b, x + y, rfl, HD3.out.far k0 _ _, rfl, below_two (HB0.out.trans (((Below.refl W0.heap.size W0).drew.trans h3).mono HB0.out.size)) _ _⟩
  · have HBN := Lib.hid (show b2 = !b by cases b <;> cases b2 <;> simp_all)
    have hne1 : (b == b2) = false := by cases b <;> cases b2 <;> simp_all
    clear hbb HADD
    by_cases hlt : x < y
    · rw [show sg b x + sg b2 y = sg b2 (y - x) by rw [HBN.out]; exact plus_less b hlt]
      have hle : x ≤ y := Nat.le_of_lt hlt
      rw [decide_eq_true hlt] at HLESS
      have HT := Lib.hid (fun w1 hb => HTK2.out w1 hb hle)
      clear hlt hle HTK HTK2
      go_enter Tryd.func28, Tryd.ntmps28
      go_wp2_with fail
      rw [← HW0.out]
      refine HLESS.out.mono ?_
      rintro e w1 ⟨rfl, h1⟩
      replace t0 := (h1.cell (p := ⟨w.heap.size, 0, none⟩) HL.out.1).trans t0
      replace t1 := (h1.cell (p := ⟨w.heap.size, 1, none⟩) HL.out.1).trans t1
      replace t2 := (h1.cell (p := ⟨w.heap.size + 1, 0, none⟩) HL.out.2).trans t2
      replace t3 := (h1.cell (p := ⟨w.heap.size + 1, 1, none⟩) HL.out.2).trans t3
      have HT1 := Lib.hid (fun w2 (hb : Below w1.heap.size w1 w2) => HT.out w2 (h1.trans (hb.mono h1.size)))
      replace HK2 := Lib.hid (HK2.out.below h1 HK2.out.lt)
      replace HL := Lib.hid (show w.heap.size < w1.heap.size ∧ w.heap.size + 1 < w1.heap.size from ⟨Nat.lt_of_lt_of_le HL.out.1 h1.size, Nat.lt_of_lt_of_le HL.out.2 h1.size⟩)
      replace HB0 := Lib.hid (HB0.out.trans (h1.mono HB0.out.size))
      clear HT HW0 HLESS h1 hs0
      clear W0
      obtain ⟨W0, hW0⟩ : ∃ W, W = w1 := ⟨_, rfl⟩
      subst hW0
      go_wp2
      go_region_held3 (fun w' => w'.cell? ⟨w.heap.size, 0, none⟩ = some (.slice A n c) ∧ w'.cell? ⟨w.heap.size, 1, none⟩ = some (.bool b) ∧ w'.cell? ⟨w.heap.size + 1, 0, none⟩ = some (.slice A2 m c2) ∧ w'.cell? ⟨w.heap.size + 1, 1, none⟩ = some (.bool b2))
          (first | exact ⟨t0, t1, t2, t3⟩ | exact ⟨(h3.cell (p := ⟨w.heap.size, 0, none⟩) HL.out.1).trans t0, (h3.cell (p := ⟨w.heap.size, 1, none⟩) HL.out.1).trans t1, (h3.cell (p := ⟨w.heap.size + 1, 0, none⟩) HL.out.2).trans t2, (h3.cell (p := ⟨w.heap.size + 1, 1, none⟩) HL.out.2).trans t3⟩ | exact s4 (h3.mono HL.out.2) t0 t1 t2 t3)
          (first | (go_at_call 41; refine (HT1.out _ ((Below.refl _ _).drew)).mono ?_; rintro e w3 ⟨A3, c3, rfl, hd3, h3⟩; have kb := HK2.out.below ((Below.refl W0.heap.size W0).drew.trans h3) HK2.out.lt; have k0 := kb.at_ 0; have k1 := kb.at_ 1; have f0 := kb.fz 0; have f1 := kb.fz 1; have KB := Lib.hid kb; have HD3 := Lib.hid hd3; clear kb hd3; simp only [List.getElem?_toArray, List.getElem?_cons_zero, List.getElem?_cons_succ] at k0 k1))
      go_wp2
      refine bodyPost_ret (v := .agg #[.slice A3 (Nu.dig (y - x)).length c3, .bool b2]) (by simp [results, Tryd.results28, go_sem, k0, k1]) rfl ?_
      exact ⟨A3, c3, b2, y - x, rfl, HD3.out.far k0 _ _, rfl, below_two (HB0.out.trans (((Below.refl W0.heap.size W0).drew.trans h3).mono HB0.out.size)) _ _⟩
    · rw [show sg b x + sg b2 y = sg b (x - y) by rw [HBN.out]; exact plus_more b hlt]
      have hle : y ≤ x := by omega
      rw [decide_eq_false hlt] at HLESS
      have HT := Lib.hid (fun w1 hb => HTK.out w1 hb hle)
      clear hlt hle HTK HTK2
      go_enter Tryd.func28, Tryd.ntmps28
      go_wp2_with fail
      rw [← HW0.out]
      refine HLESS.out.mono ?_
      rintro e w1 ⟨rfl, h1⟩
      replace t0 := (h1.cell (p := ⟨w.heap.size, 0, none⟩) HL.out.1).trans t0
      replace t1 := (h1.cell (p := ⟨w.heap.size, 1, none⟩) HL.out.1).trans t1
      replace t2 := (h1.cell (p := ⟨w.heap.size + 1, 0, none⟩) HL.out.2).trans t2
      replace t3 := (h1.cell (p := ⟨w.heap.size + 1, 1, none⟩) HL.out.2).trans t3
      have HT1 := Lib.hid (fun w2 (hb : Below w1.heap.size w1 w2) => HT.out w2 (h1.trans (hb.mono h1.size)))
      replace HK2 := Lib.hid (HK2.out.below h1 HK2.out.lt)
      replace HL := Lib.hid (show w.heap.size < w1.heap.size ∧ w.heap.size + 1 < w1.heap.size from ⟨Nat.lt_of_lt_of_le HL.out.1 h1.size, Nat.lt_of_lt_of_le HL.out.2 h1.size⟩)
      replace HB0 := Lib.hid (HB0.out.trans (h1.mono HB0.out.size))
      clear HT HW0 HLESS h1 hs0
      clear W0
      obtain ⟨W0, hW0⟩ : ∃ W, W = w1 := ⟨_, rfl⟩
      subst hW0
      go_wp2
      go_region_held3 (fun w' => w'.cell? ⟨w.heap.size, 0, none⟩ = some (.slice A n c) ∧ w'.cell? ⟨w.heap.size, 1, none⟩ = some (.bool b) ∧ w'.cell? ⟨w.heap.size + 1, 0, none⟩ = some (.slice A2 m c2) ∧ w'.cell? ⟨w.heap.size + 1, 1, none⟩ = some (.bool b2))
          (first | exact ⟨t0, t1, t2, t3⟩ | exact ⟨(h3.cell (p := ⟨w.heap.size, 0, none⟩) HL.out.1).trans t0, (h3.cell (p := ⟨w.heap.size, 1, none⟩) HL.out.1).trans t1, (h3.cell (p := ⟨w.heap.size + 1, 0, none⟩) HL.out.2).trans t2, (h3.cell (p := ⟨w.heap.size + 1, 1, none⟩) HL.out.2).trans t3⟩ | exact s4 (h3.mono HL.out.2) t0 t1 t2 t3)
          (first | (go_at_call 41; refine (HT1.out _ ((Below.refl _ _).drew)).mono ?_; rintro e w3 ⟨A3, c3, rfl, hd3, h3⟩; have kb := HK2.out.below ((Below.refl W0.heap.size W0).drew.trans h3) HK2.out.lt; have k0 := kb.at_ 0; have k1 := kb.at_ 1; have f0 := kb.fz 0; have f1 := kb.fz 1; have KB := Lib.hid kb; have HD3 := Lib.hid hd3; clear kb hd3; simp only [List.getElem?_toArray, List.getElem?_cons_zero, List.getElem?_cons_succ] at k0 k1))
      go_wp2
      refine bodyPost_ret (v := .agg #[.slice A3 (Nu.dig (x - y)).length c3, .bool b]) (by simp [results, Tryd.results28, go_sem, k0, k1]) rfl ?_
      exact ⟨A3, c3, b, x - y, rfl, HD3.out.far k0 _ _, rfl, below_two (HB0.out.trans (((Below.refl W0.heap.size W0).drew.trans h3).mono HB0.out.size)) _ _⟩
end Go.Proofs.YtbeoobgnpcbnnaaDoor
