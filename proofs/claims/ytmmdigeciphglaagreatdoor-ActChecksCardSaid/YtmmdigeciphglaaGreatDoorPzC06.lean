/- Facts and walks for the statement. -/
import Derived.Test.YtmmdigeciphglaaGreatDoorPzB26
import Derived.Test.YtmmdigeciphglaaGreatDoorPzC05
namespace Go.Proofs.YtmmdigeciphglaaGreatDoor
open Go.RowKit Ex
set_option maxHeartbeats 2000000 in
set_option maxRecDepth 100000 in
theorem rkind7 {w : World} {A : Option Addr} {l : List Nd} {c : Nat} {A2 : Option Addr} {c2 : Nat} {ns : List Ty.Nm} (E : KdD w A l c A2 c2 ns) {i : Nat} {num na nb : Int} {nm : List UInt8} (hn : l[i]? = some ⟨7, num, nm, na, nb, -1⟩) (hna : 0 ≤ na) (hnb0 : 0 ≤ nb) {ka kb : Nat} (hka : ka ≤ 2) (hkb : kb ≤ 2) (hA : RkC A l.length c A2 ns.length c2 w na ka) (hB : RkC A l.length c A2 ns.length c2 w nb kb) : RkC A l.length c A2 ns.length c2 w i (if ka = 1 ∧ kb = 1 then 1 else 0) := by
    obtain ⟨hi, hn⟩ := List.getElem?_eq_some_iff.1 hn
    intro w' hb'
    obtain ⟨g, o, hAg, hg, q0, q1, q2, q3, q4, q5⟩ := (E.row.to hb') i hi
    subst hAg
    rw [hn] at q0 q1 q2 q3 q4 q5
    obtain ⟨N, hN⟩ : ∃ N : ByteArray, N = ⟨nm.toArray⟩ := ⟨_, rfl⟩
    rw [← hN] at q2
    obtain ⟨W1, hW1⟩ : ∃ W1, W1 = w'.alloc (.cells #[.int .u8 7, .int .i64 num, .string N, .int .i64 na, .int .i64 nb, .int .i64 (-1)] 104) := ⟨_, rfl⟩
    have hb1 : Below w'.heap.size w' W1 := by rw [hW1]; exact (Below.refl _ _).alloc (Nat.le_refl _) _
    have hnb : IsBlk W1 w'.heap.size 104 #[.int .u8 7, .int .i64 num, .string N, .int .i64 na, .int .i64 nb, .int .i64 (-1)] := by rw [hW1]; exact IsBlk.new _ _ _
    have hi' : (i : Int) < (l.length : Int) := by omega
    have hlc : (l.length : Int) ≤ (c : Int) := by have := E.cap; omega
    have hl1 : (l.length : Int) ≤ 1000000 := by have := E.len.1; omega
    have HNM := Lib.hid hN
    have HX := Lib.hid hnb
    have HB1 := Lib.hid hb1
    have HW1 := Lib.hid hW1
    have HBW := Lib.hid (hb'.trans (hb1.mono hb'.size))
    have x0 := hnb.at_ 0
    have x1 := hnb.at_ 1
    have x2 := hnb.at_ 2
    have x3 := hnb.at_ 3
    have x4 := hnb.at_ 4
    have x5 := hnb.at_ 5
    simp only [List.getElem?_toArray, List.getElem?_cons_zero, List.getElem?_cons_succ] at x0 x1 x2 x3 x4 x5
    have HA := Lib.hid (hA W1 HBW.out)
    have HB := Lib.hid (fun v (h : Below w.heap.size w v) => hB v h)
    generalize ns.length = m at *
    clear E hA hB
    rcases (by omega : ka = 0 ∨ ka = 1 ∨ ka = 2) with rfl | rfl | rfl
    all_goals
      rcases (by omega : kb = 0 ∨ kb = 1 ∨ kb = 2) with rfl | rfl | rfl
      all_goals
        rw [hW1] at x0 x1 x2 x3 x4 x5
        clear hnb hb1 hW1 hb' hi hn hN
        go_enter Tryz.func114, Tryz.ntmps114
        go_wp2_with fail
        rw [← HW1.out]
        refine (HA.out).mono ?_
        rintro e w1 ⟨rfl, hb⟩
        have HB2 := Lib.hid (HB1.out.trans (hb.mono HB1.out.size))
        have hk := HX.out.below ((Below.refl W1.heap.size W1).trans (hb)) HX.out.lt
        have hb9 := hb
        clear hb x0 x1 x2 x3 x4 x5
        have x0 := hk.at_ 0
        have x1 := hk.at_ 1
        have x2 := hk.at_ 2
        have x3 := hk.at_ 3
        have x4 := hk.at_ 4
        have x5 := hk.at_ 5
        simp only [List.getElem?_toArray, List.getElem?_cons_zero, List.getElem?_cons_succ] at x0 x1 x2 x3 x4 x5
        clear hk
        go_wp2_with fail
        refine (HB.out _ (HBW.out.trans (hb9.mono HBW.out.size))).mono ?_
        rintro e w2 ⟨rfl, hb⟩
        have HB3 := Lib.hid (HB2.out.trans (hb.mono HB2.out.size))
        have hk := HX.out.below (hb9.trans (hb.mono hb9.size)) HX.out.lt
        clear hb hb9 x0 x1 x2 x3 x4 x5
        have x0 := hk.at_ 0
        have x1 := hk.at_ 1
        have x2 := hk.at_ 2
        have x3 := hk.at_ 3
        have x4 := hk.at_ 4
        have x5 := hk.at_ 5
        simp only [List.getElem?_toArray, List.getElem?_cons_zero, List.getElem?_cons_succ] at x0 x1 x2 x3 x4 x5
        clear hk
        go_wp2
        go_ret
        exact ⟨rfl, HB3.out⟩
set_option maxHeartbeats 2000000 in
set_option maxRecDepth 100000 in
theorem rkind8 {w : World} {A : Option Addr} {l : List Nd} {c : Nat} {A2 : Option Addr} {c2 : Nat} {ns : List Ty.Nm} (E : KdD w A l c A2 c2 ns) {i : Nat} {num na nb : Int} {nm : List UInt8} (hn : l[i]? = some ⟨8, num, nm, na, nb, -1⟩) (hna : 0 ≤ na) (hnb0 : 0 ≤ nb) {ka kb : Nat} (hka : ka ≤ 2) (hkb : kb ≤ 2) (hA : RkC A l.length c A2 ns.length c2 w na ka) (hB : RkC A l.length c A2 ns.length c2 w nb kb) : RkC A l.length c A2 ns.length c2 w i (if ka = 1 ∧ kb = 1 then 1 else 0) := by
    obtain ⟨hi, hn⟩ := List.getElem?_eq_some_iff.1 hn
    intro w' hb'
    obtain ⟨g, o, hAg, hg, q0, q1, q2, q3, q4, q5⟩ := (E.row.to hb') i hi
    subst hAg
    rw [hn] at q0 q1 q2 q3 q4 q5
    obtain ⟨N, hN⟩ : ∃ N : ByteArray, N = ⟨nm.toArray⟩ := ⟨_, rfl⟩
    rw [← hN] at q2
    obtain ⟨W1, hW1⟩ : ∃ W1, W1 = w'.alloc (.cells #[.int .u8 8, .int .i64 num, .string N, .int .i64 na, .int .i64 nb, .int .i64 (-1)] 104) := ⟨_, rfl⟩
    have hb1 : Below w'.heap.size w' W1 := by rw [hW1]; exact (Below.refl _ _).alloc (Nat.le_refl _) _
    have hnb : IsBlk W1 w'.heap.size 104 #[.int .u8 8, .int .i64 num, .string N, .int .i64 na, .int .i64 nb, .int .i64 (-1)] := by rw [hW1]; exact IsBlk.new _ _ _
    have hi' : (i : Int) < (l.length : Int) := by omega
    have hlc : (l.length : Int) ≤ (c : Int) := by have := E.cap; omega
    have hl1 : (l.length : Int) ≤ 1000000 := by have := E.len.1; omega
    have HNM := Lib.hid hN
    have HX := Lib.hid hnb
    have HB1 := Lib.hid hb1
    have HW1 := Lib.hid hW1
    have HBW := Lib.hid (hb'.trans (hb1.mono hb'.size))
    have x0 := hnb.at_ 0
    have x1 := hnb.at_ 1
    have x2 := hnb.at_ 2
    have x3 := hnb.at_ 3
    have x4 := hnb.at_ 4
    have x5 := hnb.at_ 5
    simp only [List.getElem?_toArray, List.getElem?_cons_zero, List.getElem?_cons_succ] at x0 x1 x2 x3 x4 x5
    have HA := Lib.hid (hA W1 HBW.out)
    have HB := Lib.hid (fun v (h : Below w.heap.size w v) => hB v h)
    generalize ns.length = m at *
    clear E hA hB
    rcases (by omega : ka = 0 ∨ ka = 1 ∨ ka = 2) with rfl | rfl | rfl
    all_goals
      rcases (by omega : kb = 0 ∨ kb = 1 ∨ kb = 2) with rfl | rfl | rfl
      all_goals
        rw [hW1] at x0 x1 x2 x3 x4 x5
        clear hnb hb1 hW1 hb' hi hn hN
        go_enter Tryz.func114, Tryz.ntmps114
        go_wp2_with fail
        rw [← HW1.out]
        refine (HA.out).mono ?_
        rintro e w1 ⟨rfl, hb⟩
        have HB2 := Lib.hid (HB1.out.trans (hb.mono HB1.out.size))
        have hk := HX.out.below ((Below.refl W1.heap.size W1).trans (hb)) HX.out.lt
        have hb9 := hb
        clear hb x0 x1 x2 x3 x4 x5
        have x0 := hk.at_ 0
        have x1 := hk.at_ 1
        have x2 := hk.at_ 2
        have x3 := hk.at_ 3
        have x4 := hk.at_ 4
        have x5 := hk.at_ 5
        simp only [List.getElem?_toArray, List.getElem?_cons_zero, List.getElem?_cons_succ] at x0 x1 x2 x3 x4 x5
        clear hk
        go_wp2_with fail
        refine (HB.out _ (HBW.out.trans (hb9.mono HBW.out.size))).mono ?_
        rintro e w2 ⟨rfl, hb⟩
        have HB3 := Lib.hid (HB2.out.trans (hb.mono HB2.out.size))
        have hk := HX.out.below (hb9.trans (hb.mono hb9.size)) HX.out.lt
        clear hb hb9 x0 x1 x2 x3 x4 x5
        have x0 := hk.at_ 0
        have x1 := hk.at_ 1
        have x2 := hk.at_ 2
        have x3 := hk.at_ 3
        have x4 := hk.at_ 4
        have x5 := hk.at_ 5
        simp only [List.getElem?_toArray, List.getElem?_cons_zero, List.getElem?_cons_succ] at x0 x1 x2 x3 x4 x5
        clear hk
        go_wp2
        go_ret
        exact ⟨rfl, HB3.out⟩
set_option maxHeartbeats 2000000 in
set_option maxRecDepth 100000 in
theorem rkind9 {w : World} {A : Option Addr} {l : List Nd} {c : Nat} {A2 : Option Addr} {c2 : Nat} {ns : List Ty.Nm} (E : KdD w A l c A2 c2 ns) {i : Nat} {num na nb : Int} {nm : List UInt8} (hn : l[i]? = some ⟨9, num, nm, na, nb, -1⟩) (hna : 0 ≤ na) (hnb0 : 0 ≤ nb) {ka kb : Nat} (hka : ka ≤ 2) (hkb : kb ≤ 2) (hA : RkC A l.length c A2 ns.length c2 w na ka) (hB : RkC A l.length c A2 ns.length c2 w nb kb) : RkC A l.length c A2 ns.length c2 w i (if ka = 1 ∧ kb = 1 then 1 else 0) := by
    obtain ⟨hi, hn⟩ := List.getElem?_eq_some_iff.1 hn
    intro w' hb'
    obtain ⟨g, o, hAg, hg, q0, q1, q2, q3, q4, q5⟩ := (E.row.to hb') i hi
    subst hAg
    rw [hn] at q0 q1 q2 q3 q4 q5
    obtain ⟨N, hN⟩ : ∃ N : ByteArray, N = ⟨nm.toArray⟩ := ⟨_, rfl⟩
    rw [← hN] at q2
    obtain ⟨W1, hW1⟩ : ∃ W1, W1 = w'.alloc (.cells #[.int .u8 9, .int .i64 num, .string N, .int .i64 na, .int .i64 nb, .int .i64 (-1)] 104) := ⟨_, rfl⟩
    have hb1 : Below w'.heap.size w' W1 := by rw [hW1]; exact (Below.refl _ _).alloc (Nat.le_refl _) _
    have hnb : IsBlk W1 w'.heap.size 104 #[.int .u8 9, .int .i64 num, .string N, .int .i64 na, .int .i64 nb, .int .i64 (-1)] := by rw [hW1]; exact IsBlk.new _ _ _
    have hi' : (i : Int) < (l.length : Int) := by omega
    have hlc : (l.length : Int) ≤ (c : Int) := by have := E.cap; omega
    have hl1 : (l.length : Int) ≤ 1000000 := by have := E.len.1; omega
    have HNM := Lib.hid hN
    have HX := Lib.hid hnb
    have HB1 := Lib.hid hb1
    have HW1 := Lib.hid hW1
    have HBW := Lib.hid (hb'.trans (hb1.mono hb'.size))
    have x0 := hnb.at_ 0
    have x1 := hnb.at_ 1
    have x2 := hnb.at_ 2
    have x3 := hnb.at_ 3
    have x4 := hnb.at_ 4
    have x5 := hnb.at_ 5
    simp only [List.getElem?_toArray, List.getElem?_cons_zero, List.getElem?_cons_succ] at x0 x1 x2 x3 x4 x5
    have HA := Lib.hid (hA W1 HBW.out)
    have HB := Lib.hid (fun v (h : Below w.heap.size w v) => hB v h)
    generalize ns.length = m at *
    clear E hA hB
    rcases (by omega : ka = 0 ∨ ka = 1 ∨ ka = 2) with rfl | rfl | rfl
    all_goals
      rcases (by omega : kb = 0 ∨ kb = 1 ∨ kb = 2) with rfl | rfl | rfl
      all_goals
        rw [hW1] at x0 x1 x2 x3 x4 x5
        clear hnb hb1 hW1 hb' hi hn hN
        go_enter Tryz.func114, Tryz.ntmps114
        go_wp2_with fail
        rw [← HW1.out]
        refine (HA.out).mono ?_
        rintro e w1 ⟨rfl, hb⟩
        have HB2 := Lib.hid (HB1.out.trans (hb.mono HB1.out.size))
        have hk := HX.out.below ((Below.refl W1.heap.size W1).trans (hb)) HX.out.lt
        have hb9 := hb
        clear hb x0 x1 x2 x3 x4 x5
        have x0 := hk.at_ 0
        have x1 := hk.at_ 1
        have x2 := hk.at_ 2
        have x3 := hk.at_ 3
        have x4 := hk.at_ 4
        have x5 := hk.at_ 5
        simp only [List.getElem?_toArray, List.getElem?_cons_zero, List.getElem?_cons_succ] at x0 x1 x2 x3 x4 x5
        clear hk
        go_wp2_with fail
        refine (HB.out _ (HBW.out.trans (hb9.mono HBW.out.size))).mono ?_
        rintro e w2 ⟨rfl, hb⟩
        have HB3 := Lib.hid (HB2.out.trans (hb.mono HB2.out.size))
        have hk := HX.out.below (hb9.trans (hb.mono hb9.size)) HX.out.lt
        clear hb hb9 x0 x1 x2 x3 x4 x5
        have x0 := hk.at_ 0
        have x1 := hk.at_ 1
        have x2 := hk.at_ 2
        have x3 := hk.at_ 3
        have x4 := hk.at_ 4
        have x5 := hk.at_ 5
        simp only [List.getElem?_toArray, List.getElem?_cons_zero, List.getElem?_cons_succ] at x0 x1 x2 x3 x4 x5
        clear hk
        go_wp2
        go_ret
        exact ⟨rfl, HB3.out⟩
set_option maxHeartbeats 2000000 in
set_option maxRecDepth 100000 in
theorem rkind10 {w : World} {A : Option Addr} {l : List Nd} {c : Nat} {A2 : Option Addr} {c2 : Nat} {ns : List Ty.Nm} (E : KdD w A l c A2 c2 ns) {i : Nat} {num na nb : Int} {nm : List UInt8} (hn : l[i]? = some ⟨10, num, nm, na, nb, -1⟩) (hna : 0 ≤ na) (hnb0 : 0 ≤ nb) {ka kb : Nat} (hka : ka ≤ 2) (hkb : kb ≤ 2) (hA : RkC A l.length c A2 ns.length c2 w na ka) (hB : RkC A l.length c A2 ns.length c2 w nb kb) : RkC A l.length c A2 ns.length c2 w i (if ka = 1 ∧ kb = 1 then 1 else 0) := by
    obtain ⟨hi, hn⟩ := List.getElem?_eq_some_iff.1 hn
    intro w' hb'
    obtain ⟨g, o, hAg, hg, q0, q1, q2, q3, q4, q5⟩ := (E.row.to hb') i hi
    subst hAg
    rw [hn] at q0 q1 q2 q3 q4 q5
    obtain ⟨N, hN⟩ : ∃ N : ByteArray, N = ⟨nm.toArray⟩ := ⟨_, rfl⟩
    rw [← hN] at q2
    obtain ⟨W1, hW1⟩ : ∃ W1, W1 = w'.alloc (.cells #[.int .u8 10, .int .i64 num, .string N, .int .i64 na, .int .i64 nb, .int .i64 (-1)] 104) := ⟨_, rfl⟩
    have hb1 : Below w'.heap.size w' W1 := by rw [hW1]; exact (Below.refl _ _).alloc (Nat.le_refl _) _
    have hnb : IsBlk W1 w'.heap.size 104 #[.int .u8 10, .int .i64 num, .string N, .int .i64 na, .int .i64 nb, .int .i64 (-1)] := by rw [hW1]; exact IsBlk.new _ _ _
    have hi' : (i : Int) < (l.length : Int) := by omega
    have hlc : (l.length : Int) ≤ (c : Int) := by have := E.cap; omega
    have hl1 : (l.length : Int) ≤ 1000000 := by have := E.len.1; omega
    have HNM := Lib.hid hN
    have HX := Lib.hid hnb
    have HB1 := Lib.hid hb1
    have HW1 := Lib.hid hW1
    have HBW := Lib.hid (hb'.trans (hb1.mono hb'.size))
    have x0 := hnb.at_ 0
    have x1 := hnb.at_ 1
    have x2 := hnb.at_ 2
    have x3 := hnb.at_ 3
    have x4 := hnb.at_ 4
    have x5 := hnb.at_ 5
    simp only [List.getElem?_toArray, List.getElem?_cons_zero, List.getElem?_cons_succ] at x0 x1 x2 x3 x4 x5
    have HA := Lib.hid (hA W1 HBW.out)
    have HB := Lib.hid (fun v (h : Below w.heap.size w v) => hB v h)
    generalize ns.length = m at *
    clear E hA hB
    rcases (by omega : ka = 0 ∨ ka = 1 ∨ ka = 2) with rfl | rfl | rfl
    all_goals
      rcases (by omega : kb = 0 ∨ kb = 1 ∨ kb = 2) with rfl | rfl | rfl
      all_goals
        rw [hW1] at x0 x1 x2 x3 x4 x5
        clear hnb hb1 hW1 hb' hi hn hN
        go_enter Tryz.func114, Tryz.ntmps114
        go_wp2_with fail
        rw [← HW1.out]
        refine (HA.out).mono ?_
        rintro e w1 ⟨rfl, hb⟩
        have HB2 := Lib.hid (HB1.out.trans (hb.mono HB1.out.size))
        have hk := HX.out.below ((Below.refl W1.heap.size W1).trans (hb)) HX.out.lt
        have hb9 := hb
        clear hb x0 x1 x2 x3 x4 x5
        have x0 := hk.at_ 0
        have x1 := hk.at_ 1
        have x2 := hk.at_ 2
        have x3 := hk.at_ 3
        have x4 := hk.at_ 4
        have x5 := hk.at_ 5
        simp only [List.getElem?_toArray, List.getElem?_cons_zero, List.getElem?_cons_succ] at x0 x1 x2 x3 x4 x5
        clear hk
        go_wp2_with fail
        refine (HB.out _ (HBW.out.trans (hb9.mono HBW.out.size))).mono ?_
        rintro e w2 ⟨rfl, hb⟩
        have HB3 := Lib.hid (HB2.out.trans (hb.mono HB2.out.size))
        have hk := HX.out.below (hb9.trans (hb.mono hb9.size)) HX.out.lt
        clear hb hb9 x0 x1 x2 x3 x4 x5
        have x0 := hk.at_ 0
        have x1 := hk.at_ 1
        have x2 := hk.at_ 2
        have x3 := hk.at_ 3
        have x4 := hk.at_ 4
        have x5 := hk.at_ 5
        simp only [List.getElem?_toArray, List.getElem?_cons_zero, List.getElem?_cons_succ] at x0 x1 x2 x3 x4 x5
        clear hk
        go_wp2
        go_ret
        exact ⟨rfl, HB3.out⟩
set_option maxHeartbeats 2000000 in
set_option maxRecDepth 100000 in
theorem rkind11 {w : World} {A : Option Addr} {l : List Nd} {c : Nat} {A2 : Option Addr} {c2 : Nat} {ns : List Ty.Nm} (E : KdD w A l c A2 c2 ns) {i : Nat} {num na nb : Int} {nm : List UInt8} (hn : l[i]? = some ⟨11, num, nm, na, nb, -1⟩) (hna : 0 ≤ na) (hnb0 : 0 ≤ nb) {ka kb : Nat} (hka : ka ≤ 2) (hkb : kb ≤ 2) (hA : RkC A l.length c A2 ns.length c2 w na ka) (hB : RkC A l.length c A2 ns.length c2 w nb kb) : RkC A l.length c A2 ns.length c2 w i (if ka = 1 ∧ kb = 1 then 1 else 0) := by
    obtain ⟨hi, hn⟩ := List.getElem?_eq_some_iff.1 hn
    intro w' hb'
    obtain ⟨g, o, hAg, hg, q0, q1, q2, q3, q4, q5⟩ := (E.row.to hb') i hi
    subst hAg
    rw [hn] at q0 q1 q2 q3 q4 q5
    obtain ⟨N, hN⟩ : ∃ N : ByteArray, N = ⟨nm.toArray⟩ := ⟨_, rfl⟩
    rw [← hN] at q2
    obtain ⟨W1, hW1⟩ : ∃ W1, W1 = w'.alloc (.cells #[.int .u8 11, .int .i64 num, .string N, .int .i64 na, .int .i64 nb, .int .i64 (-1)] 104) := ⟨_, rfl⟩
    have hb1 : Below w'.heap.size w' W1 := by rw [hW1]; exact (Below.refl _ _).alloc (Nat.le_refl _) _
    have hnb : IsBlk W1 w'.heap.size 104 #[.int .u8 11, .int .i64 num, .string N, .int .i64 na, .int .i64 nb, .int .i64 (-1)] := by rw [hW1]; exact IsBlk.new _ _ _
    have hi' : (i : Int) < (l.length : Int) := by omega
    have hlc : (l.length : Int) ≤ (c : Int) := by have := E.cap; omega
    have hl1 : (l.length : Int) ≤ 1000000 := by have := E.len.1; omega
    have HNM := Lib.hid hN
    have HX := Lib.hid hnb
    have HB1 := Lib.hid hb1
    have HW1 := Lib.hid hW1
    have HBW := Lib.hid (hb'.trans (hb1.mono hb'.size))
    have x0 := hnb.at_ 0
    have x1 := hnb.at_ 1
    have x2 := hnb.at_ 2
    have x3 := hnb.at_ 3
    have x4 := hnb.at_ 4
    have x5 := hnb.at_ 5
    simp only [List.getElem?_toArray, List.getElem?_cons_zero, List.getElem?_cons_succ] at x0 x1 x2 x3 x4 x5
    have HA := Lib.hid (hA W1 HBW.out)
    have HB := Lib.hid (fun v (h : Below w.heap.size w v) => hB v h)
    generalize ns.length = m at *
    clear E hA hB
    rcases (by omega : ka = 0 ∨ ka = 1 ∨ ka = 2) with rfl | rfl | rfl
    all_goals
      rcases (by omega : kb = 0 ∨ kb = 1 ∨ kb = 2) with rfl | rfl | rfl
      all_goals
        rw [hW1] at x0 x1 x2 x3 x4 x5
        clear hnb hb1 hW1 hb' hi hn hN
        go_enter Tryz.func114, Tryz.ntmps114
        go_wp2_with fail
        rw [← HW1.out]
        refine (HA.out).mono ?_
        rintro e w1 ⟨rfl, hb⟩
        have HB2 := Lib.hid (HB1.out.trans (hb.mono HB1.out.size))
        have hk := HX.out.below ((Below.refl W1.heap.size W1).trans (hb)) HX.out.lt
        have hb9 := hb
        clear hb x0 x1 x2 x3 x4 x5
        have x0 := hk.at_ 0
        have x1 := hk.at_ 1
        have x2 := hk.at_ 2
        have x3 := hk.at_ 3
        have x4 := hk.at_ 4
        have x5 := hk.at_ 5
        simp only [List.getElem?_toArray, List.getElem?_cons_zero, List.getElem?_cons_succ] at x0 x1 x2 x3 x4 x5
        clear hk
        go_wp2_with fail
        refine (HB.out _ (HBW.out.trans (hb9.mono HBW.out.size))).mono ?_
        rintro e w2 ⟨rfl, hb⟩
        have HB3 := Lib.hid (HB2.out.trans (hb.mono HB2.out.size))
        have hk := HX.out.below (hb9.trans (hb.mono hb9.size)) HX.out.lt
        clear hb hb9 x0 x1 x2 x3 x4 x5
        have x0 := hk.at_ 0
        have x1 := hk.at_ 1
        have x2 := hk.at_ 2
        have x3 := hk.at_ 3
        have x4 := hk.at_ 4
        have x5 := hk.at_ 5
        simp only [List.getElem?_toArray, List.getElem?_cons_zero, List.getElem?_cons_succ] at x0 x1 x2 x3 x4 x5
        clear hk
        go_wp2
        go_ret
        exact ⟨rfl, HB3.out⟩
end Go.Proofs.YtmmdigeciphglaaGreatDoor
