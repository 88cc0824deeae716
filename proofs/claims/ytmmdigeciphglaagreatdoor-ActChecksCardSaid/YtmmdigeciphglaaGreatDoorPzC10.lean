/- Facts and walks for the statement. -/
import Derived.Test.YtmmdigeciphglaaGreatDoorPzB26
import Derived.Test.YtmmdigeciphglaaGreatDoorPzC05
import Derived.Test.YtmmdigeciphglaaGreatDoorPzC06
import Derived.Test.YtmmdigeciphglaaGreatDoorPzC07
import Derived.Test.YtmmdigeciphglaaGreatDoorPzC08
import Derived.Test.YtmmdigeciphglaaGreatDoorPzC09
import Derived.Test.YtmmdigeciphglaaGreatDoorPzC01
import Derived.Test.YtmmdigeciphglaaGreatDoorPzC02
namespace Go.Proofs.YtmmdigeciphglaaGreatDoor
open Go.RowKit Ex
set_option maxHeartbeats 2000000 in
set_option maxRecDepth 100000 in
theorem rkind22 {w : World} {A : Option Addr} {l : List Nd} {c : Nat} {A2 : Option Addr} {c2 : Nat} {ns : List Ty.Nm} (E : KdD w A l c A2 c2 ns) {i : Nat} {num na nb nc : Int} {nm : List UInt8} (hn : l[i]? = some ⟨22, num, nm, na, nb, nc⟩) (hna : 0 ≤ na) (hnb0 : 0 ≤ nb) (hnc0 : 0 ≤ nc) {ka kb kc : Nat} (hka : ka ≤ 2) (hA : RkC A l.length c A2 ns.length c2 w na ka) (hB : RkC A l.length c A2 ns.length c2 w nb kb) (hC : RkC A l.length c A2 ns.length c2 w nc kc) : RkC A l.length c A2 ns.length c2 w i (if ka = 2 ∧ kb = kc then kb else 0) := by
  obtain ⟨hi, hn⟩ := List.getElem?_eq_some_iff.1 hn
  intro w' hb'
  obtain ⟨g, o, hAg, hg, q0, q1, q2, q3, q4, q5⟩ := (E.row.to hb') i hi
  subst hAg
  rw [hn] at q0 q1 q2 q3 q4 q5
  obtain ⟨N, hN⟩ : ∃ N : ByteArray, N = ⟨nm.toArray⟩ := ⟨_, rfl⟩
  rw [← hN] at q2
  obtain ⟨W1, hW1⟩ : ∃ W1, W1 = w'.alloc (.cells #[.int .u8 22, .int .i64 num, .string N, .int .i64 na, .int .i64 nb, .int .i64 nc] 104) := ⟨_, rfl⟩
  have hb1 : Below w'.heap.size w' W1 := by rw [hW1]; exact (Below.refl _ _).alloc (Nat.le_refl _) _
  have hnb : IsBlk W1 w'.heap.size 104 #[.int .u8 22, .int .i64 num, .string N, .int .i64 na, .int .i64 nb, .int .i64 nc] := by rw [hW1]; exact IsBlk.new _ _ _
  have hi' : (i : Int) < (l.length : Int) := by omega
  have hlc : (l.length : Int) ≤ (c : Int) := by have := E.cap; omega
  have hl1 : (l.length : Int) ≤ 1000000 := by have := E.len.1; omega
  have HNM := Lib.hid hN
  have HX := Lib.hid hnb
  have HB1 := Lib.hid hb1
  have HW1 := Lib.hid hW1
  have HBW := Lib.hid (hb'.trans (hb1.mono hb'.size))
  have x0 := hnb.at_ 0
  have x1 := hnb.at_ 1
  have x2 := hnb.at_ 2
  have x3 := hnb.at_ 3
  have x4 := hnb.at_ 4
  have x5 := hnb.at_ 5
  simp only [List.getElem?_toArray, List.getElem?_cons_zero, List.getElem?_cons_succ] at x0 x1 x2 x3 x4 x5
  have HA := Lib.hid (hA W1 HBW.out)
  have HB := Lib.hid (fun v (h : Below w.heap.size w v) => hB v h)
  have HC := Lib.hid (fun v (h : Below w.heap.size w v) => hC v h)
  generalize ns.length = m at *
  clear E hA hB hC
  by_cases hbc : kb = kc
  · subst hbc
    rcases (by omega : ka = 0 ∨ ka = 1 ∨ ka = 2) with rfl | rfl | rfl
    · rw [show (if 0 = 2 ∧ kb = kb then kb else 0) = 0 from by simp]
      have sK : ((kb : Int) == (kb : Int)) = true := beq_self_eq_true _
      rw [hW1] at x0 x1 x2 x3 x4 x5
      clear hnb hb1 hW1 hb' hi hn hN
      go_enter Tryz.func114, Tryz.ntmps114
      go_wp2_with fail
      rw [← HW1.out]
      have hb0 := Below.refl W1.heap.size W1
      refine (HA.out).mono ?_
      rintro e w1 ⟨rfl, hb⟩
      have hc := hb0.trans (hb.mono hb0.size)
      have HB2 := Lib.hid (HB1.out.trans (hc.mono HB1.out.size))
      have hk := HX.out.below hc HX.out.lt
      clear hb x0 x1 x2 x3 x4 x5
      have x0 := hk.at_ 0
      have x1 := hk.at_ 1
      have x2 := hk.at_ 2
      have x3 := hk.at_ 3
      have x4 := hk.at_ 4
      have x5 := hk.at_ 5
      simp only [List.getElem?_toArray, List.getElem?_cons_zero, List.getElem?_cons_succ] at x0 x1 x2 x3 x4 x5
      clear hk
      have hb7 := hc
      clear hc
      go_wp2_with fail
      refine (HB.out _ (HBW.out.trans (hb7.mono HBW.out.size))).mono ?_
      rintro e w2 ⟨rfl, hb⟩
      have hc := hb7.trans (hb.mono hb7.size)
      have HB3 := Lib.hid (HB1.out.trans (hc.mono HB1.out.size))
      have hk := HX.out.below hc HX.out.lt
      clear hb x0 x1 x2 x3 x4 x5
      have x0 := hk.at_ 0
      have x1 := hk.at_ 1
      have x2 := hk.at_ 2
      have x3 := hk.at_ 3
      have x4 := hk.at_ 4
      have x5 := hk.at_ 5
      simp only [List.getElem?_toArray, List.getElem?_cons_zero, List.getElem?_cons_succ] at x0 x1 x2 x3 x4 x5
      clear hk
      have hb8 := hc
      clear hc
      go_wp2_with fail
      refine (HC.out _ (HBW.out.trans (hb8.mono HBW.out.size))).mono ?_
      rintro e w3 ⟨rfl, hb⟩
      have hc := hb8.trans (hb.mono hb8.size)
      have HB4 := Lib.hid (HB1.out.trans (hc.mono HB1.out.size))
      have hk := HX.out.below hc HX.out.lt
      clear hb x0 x1 x2 x3 x4 x5
      have x0 := hk.at_ 0
      have x1 := hk.at_ 1
      have x2 := hk.at_ 2
      have x3 := hk.at_ 3
      have x4 := hk.at_ 4
      have x5 := hk.at_ 5
      simp only [List.getElem?_toArray, List.getElem?_cons_zero, List.getElem?_cons_succ] at x0 x1 x2 x3 x4 x5
      clear hk
      have hb9 := hc
      clear hc
      clear hb0 hb7 hb8 hb9
      go_wp2
      go_ret
      exact ⟨rfl, HB4.out⟩
    · rw [show (if 1 = 2 ∧ kb = kb then kb else 0) = 0 from by simp]
      have sK : ((kb : Int) == (kb : Int)) = true := beq_self_eq_true _
      rw [hW1] at x0 x1 x2 x3 x4 x5
      clear hnb hb1 hW1 hb' hi hn hN
      go_enter Tryz.func114, Tryz.ntmps114
      go_wp2_with fail
      rw [← HW1.out]
      have hb0 := Below.refl W1.heap.size W1
      refine (HA.out).mono ?_
      rintro e w1 ⟨rfl, hb⟩
      have hc := hb0.trans (hb.mono hb0.size)
      have HB2 := Lib.hid (HB1.out.trans (hc.mono HB1.out.size))
      have hk := HX.out.below hc HX.out.lt
      clear hb x0 x1 x2 x3 x4 x5
      have x0 := hk.at_ 0
      have x1 := hk.at_ 1
      have x2 := hk.at_ 2
      have x3 := hk.at_ 3
      have x4 := hk.at_ 4
      have x5 := hk.at_ 5
      simp only [List.getElem?_toArray, List.getElem?_cons_zero, List.getElem?_cons_succ] at x0 x1 x2 x3 x4 x5
      clear hk
      have hb7 := hc
      clear hc
      go_wp2_with fail
      refine (HB.out _ (HBW.out.trans (hb7.mono HBW.out.size))).mono ?_
      rintro e w2 ⟨rfl, hb⟩
      have hc := hb7.trans (hb.mono hb7.size)
      have HB3 := Lib.hid (HB1.out.trans (hc.mono HB1.out.size))
      have hk := HX.out.below hc HX.out.lt
      clear hb x0 x1 x2 x3 x4 x5
      have x0 := hk.at_ 0
      have x1 := hk.at_ 1
      have x2 := hk.at_ 2
      have x3 := hk.at_ 3
      have x4 := hk.at_ 4
      have x5 := hk.at_ 5
      simp only [List.getElem?_toArray, List.getElem?_cons_zero, List.getElem?_cons_succ] at x0 x1 x2 x3 x4 x5
      clear hk
      have hb8 := hc
      clear hc
      go_wp2_with fail
      refine (HC.out _ (HBW.out.trans (hb8.mono HBW.out.size))).mono ?_
      rintro e w3 ⟨rfl, hb⟩
      have hc := hb8.trans (hb.mono hb8.size)
      have HB4 := Lib.hid (HB1.out.trans (hc.mono HB1.out.size))
      have hk := HX.out.below hc HX.out.lt
      clear hb x0 x1 x2 x3 x4 x5
      have x0 := hk.at_ 0
      have x1 := hk.at_ 1
      have x2 := hk.at_ 2
      have x3 := hk.at_ 3
      have x4 := hk.at_ 4
      have x5 := hk.at_ 5
      simp only [List.getElem?_toArray, List.getElem?_cons_zero, List.getElem?_cons_succ] at x0 x1 x2 x3 x4 x5
      clear hk
      have hb9 := hc
      clear hc
      clear hb0 hb7 hb8 hb9
      go_wp2
      go_ret
      exact ⟨rfl, HB4.out⟩
    · rw [show (if 2 = 2 ∧ kb = kb then kb else 0) = kb from by simp]
      have sK : ((kb : Int) == (kb : Int)) = true := beq_self_eq_true _
      rw [hW1] at x0 x1 x2 x3 x4 x5
      clear hnb hb1 hW1 hb' hi hn hN
      go_enter Tryz.func114, Tryz.ntmps114
      go_wp2_with fail
      rw [← HW1.out]
      have hb0 := Below.refl W1.heap.size W1
      refine (HA.out).mono ?_
      rintro e w1 ⟨rfl, hb⟩
      have hc := hb0.trans (hb.mono hb0.size)
      have HB2 := Lib.hid (HB1.out.trans (hc.mono HB1.out.size))
      have hk := HX.out.below hc HX.out.lt
      clear hb x0 x1 x2 x3 x4 x5
      have x0 := hk.at_ 0
      have x1 := hk.at_ 1
      have x2 := hk.at_ 2
      have x3 := hk.at_ 3
      have x4 := hk.at_ 4
      have x5 := hk.at_ 5
      simp only [List.getElem?_toArray, List.getElem?_cons_zero, List.getElem?_cons_succ] at x0 x1 x2 x3 x4 x5
      clear hk
      have hb7 := hc
      clear hc
      go_wp2_with fail
      refine (HB.out _ (HBW.out.trans (hb7.mono HBW.out.size))).mono ?_
      rintro e w2 ⟨rfl, hb⟩
      have hc := hb7.trans (hb.mono hb7.size)
      have HB3 := Lib.hid (HB1.out.trans (hc.mono HB1.out.size))
      have hk := HX.out.below hc HX.out.lt
      clear hb x0 x1 x2 x3 x4 x5
      have x0 := hk.at_ 0
      have x1 := hk.at_ 1
      have x2 := hk.at_ 2
      have x3 := hk.at_ 3
      have x4 := hk.at_ 4
      have x5 := hk.at_ 5
      simp only [List.getElem?_toArray, List.getElem?_cons_zero, List.getElem?_cons_succ] at x0 x1 x2 x3 x4 x5
      clear hk
      have hb8 := hc
      clear hc
      go_wp2_with fail
      refine (HC.out _ (HBW.out.trans (hb8.mono HBW.out.size))).mono ?_
      rintro e w3 ⟨rfl, hb⟩
      have hc := hb8.trans (hb.mono hb8.size)
      have HB4 := Lib.hid (HB1.out.trans (hc.mono HB1.out.size))
      have hk := HX.out.below hc HX.out.lt
      clear hb x0 x1 x2 x3 x4 x5
      have x0 := hk.at_ 0
      have x1 := hk.at_ 1
      have x2 := hk.at_ 2
      have x3 := hk.at_ 3
      have x4 := hk.at_ 4
      have x5 := hk.at_ 5
      simp only [List.getElem?_toArray, List.getElem?_cons_zero, List.getElem?_cons_succ] at x0 x1 x2 x3 x4 x5
      clear hk
      have hb9 := hc
      clear hc
      clear hb0 hb7 hb8 hb9
      go_wp2
      go_ret
      exact ⟨rfl, HB4.out⟩
  · have hbc' : ((kb : Int) == (kc : Int)) = false := beq_eq_false_iff_ne.2 (by omega)
    rw [show (if ka = 2 ∧ kb = kc then kb else 0) = 0 from if_neg (fun e => hbc e.2)]
    clear hbc
    rcases (by omega : ka = 0 ∨ ka = 1 ∨ ka = 2) with rfl | rfl | rfl
    all_goals
      rw [hW1] at x0 x1 x2 x3 x4 x5
      clear hnb hb1 hW1 hb' hi hn hN
      go_enter Tryz.func114, Tryz.ntmps114
      go_wp2_with fail
      rw [← HW1.out]
      have hb0 := Below.refl W1.heap.size W1
      refine (HA.out).mono ?_
      rintro e w1 ⟨rfl, hb⟩
      have hc := hb0.trans (hb.mono hb0.size)
      have HB2 := Lib.hid (HB1.out.trans (hc.mono HB1.out.size))
      have hk := HX.out.below hc HX.out.lt
      clear hb x0 x1 x2 x3 x4 x5
      have x0 := hk.at_ 0
      have x1 := hk.at_ 1
      have x2 := hk.at_ 2
      have x3 := hk.at_ 3
      have x4 := hk.at_ 4
      have x5 := hk.at_ 5
      simp only [List.getElem?_toArray, List.getElem?_cons_zero, List.getElem?_cons_succ] at x0 x1 x2 x3 x4 x5
      clear hk
      have hb7 := hc
      clear hc
      go_wp2_with fail
      refine (HB.out _ (HBW.out.trans (hb7.mono HBW.out.size))).mono ?_
      rintro e w2 ⟨rfl, hb⟩
      have hc := hb7.trans (hb.mono hb7.size)
      have HB3 := Lib.hid (HB1.out.trans (hc.mono HB1.out.size))
      have hk := HX.out.below hc HX.out.lt
      clear hb x0 x1 x2 x3 x4 x5
      have x0 := hk.at_ 0
      have x1 := hk.at_ 1
      have x2 := hk.at_ 2
      have x3 := hk.at_ 3
      have x4 := hk.at_ 4
      have x5 := hk.at_ 5
      simp only [List.getElem?_toArray, List.getElem?_cons_zero, List.getElem?_cons_succ] at x0 x1 x2 x3 x4 x5
      clear hk
      have hb8 := hc
      clear hc
      go_wp2_with fail
      refine (HC.out _ (HBW.out.trans (hb8.mono HBW.out.size))).mono ?_
      rintro e w3 ⟨rfl, hb⟩
      have hc := hb8.trans (hb.mono hb8.size)
      have HB4 := Lib.hid (HB1.out.trans (hc.mono HB1.out.size))
      have hk := HX.out.below hc HX.out.lt
      clear hb x0 x1 x2 x3 x4 x5
      have x0 := hk.at_ 0
      have x1 := hk.at_ 1
      have x2 := hk.at_ 2
      have x3 := hk.at_ 3
      have x4 := hk.at_ 4
      have x5 := hk.at_ 5
      simp only [List.getElem?_toArray, List.getElem?_cons_zero, List.getElem?_cons_succ] at x0 x1 x2 x3 x4 x5
      clear hk
      have hb9 := hc
      clear hc
      clear hb0 hb7 hb8 hb9
      go_wp2
      go_ret
      exact ⟨rfl, HB4.out⟩
end Go.Proofs.YtmmdigeciphglaaGreatDoor
namespace Go.Proofs.YtmmdigeciphglaaGreatDoor
open Go.RowKit Ex
theorem kx_le (ns : List Ty.Nm) : ∀ x : Ex.E, Ev.kx ns x ≤ 2
  | .num _ => by show 1 ≤ 2; decide
  | .name s => by show (if s ∈ ns then 1 else 0) ≤ 2; split <;> decide
  | .tt => by show 2 ≤ 2; decide
  | .ff => by show 2 ≤ 2; decide
  | .un op a => by unfold Ev.kx; repeat (first | decide | split)
  | .bin op a b => by unfold Ev.kx; repeat (first | decide | split)
  | .ite a b c => by
    unfold Ev.kx
    split
    · exact kx_le ns b
    · decide
theorem rkind_at {w : World} {A : Option Addr} {l : List Nd} {c : Nat} {A2 : Option Addr} {c2 : Nat} {ns : List Ty.Nm} (E : KdD w A l c A2 c2 ns) : ∀ (x : Ex.E) (s : Nat), At l s x → wr x → RkC A l.length c A2 ns.length c2 w ((s + Ex.sz x : Nat) - 1) (Ev.kx ns x)
  | .num v, s, h, _ => by
    have q2 := at_one.1 h.1
    rw [show ((s + Ex.sz (.num v) : Nat) : Int) - 1 = (s : Int) by simp only [Ex.sz]; omega]
    exact rkind1 E q2
  | .name v, s, h, _ => by
    have q2 := at_one.1 h.1
    rw [show ((s + Ex.sz (.name v) : Nat) : Int) - 1 = (s : Int) by simp only [Ex.sz]; omega]
    exact rkind2 E q2
  | .tt, s, h, _ => by
    have q2 := at_one.1 h.1
    rw [show ((s + Ex.sz .tt : Nat) : Int) - 1 = (s : Int) by simp only [Ex.sz]; omega]
    exact rkind3 E q2
  | .ff, s, h, _ => by
    have q2 := at_one.1 h.1
    rw [show ((s + Ex.sz .ff : Nat) : Int) - 1 = (s : Int) by simp only [Ex.sz]; omega]
    exact rkind4 E q2
  | .un op a, s, h, hw => by
    obtain ⟨ha, q⟩ := at_un h
    have pa := Ex.sz_pos a
    rw [show ((s + Ex.sz (.un op a) : Nat) : Int) - 1 = ((s + Ex.sz a : Nat) : Int) by simp only [Ex.sz]; omega]
    have iA := rkind_at E a s ha hw.2
    rcases hw.1 with rfl | rfl
    · exact rkind5 E q (by omega) (kx_le ns a) iA
    · exact rkind6 E q (by omega) (kx_le ns a) iA
  | .bin op a b, s, h, hw => by
    obtain ⟨ha, hb, q⟩ := at_bin h
    have pa := Ex.sz_pos a
    have pb := Ex.sz_pos b
    rw [show ((s + Ex.sz (.bin op a b) : Nat) : Int) - 1 = ((s + Ex.sz a + Ex.sz b : Nat) : Int) by simp only [Ex.sz]; omega]
    obtain ⟨h7, h21, hwa, hwb⟩ := hw
    have iA := rkind_at E a s ha hwa
    have iB := rkind_at E b (s + Ex.sz a) hb hwb
    have e : op = 7 ∨ op = 8 ∨ op = 9 ∨ op = 10 ∨ op = 11 ∨ op = 12 ∨ op = 13 ∨ op = 14 ∨ op = 15 ∨ op = 16 ∨ op = 17 ∨ op = 18 ∨ op = 19 ∨ op = 20 ∨ op = 21 := by omega
    rcases e with rfl | rfl | rfl | rfl | rfl | rfl | rfl | rfl | rfl | rfl | rfl | rfl | rfl | rfl | rfl
    · exact rkind7 E q (by omega) (by omega) (kx_le ns a) (kx_le ns b) iA iB
    · exact rkind8 E q (by omega) (by omega) (kx_le ns a) (kx_le ns b) iA iB
    · exact rkind9 E q (by omega) (by omega) (kx_le ns a) (kx_le ns b) iA iB
    · exact rkind10 E q (by omega) (by omega) (kx_le ns a) (kx_le ns b) iA iB
    · exact rkind11 E q (by omega) (by omega) (kx_le ns a) (kx_le ns b) iA iB
    · exact rkind12 E q (by omega) (by omega) (kx_le ns a) (kx_le ns b) iA iB
    · exact rkind13 E q (by omega) (by omega) (kx_le ns a) (kx_le ns b) iA iB
    · exact rkind14 E q (by omega) (by omega) (kx_le ns a) (kx_le ns b) iA iB
    · exact rkind15 E q (by omega) (by omega) (kx_le ns a) (kx_le ns b) iA iB
    · exact rkind16 E q (by omega) (by omega) (kx_le ns a) (kx_le ns b) iA iB
    · exact rkind17 E q (by omega) (by omega) (kx_le ns a) (kx_le ns b) iA iB
    · exact rkind18 E q (by omega) (by omega) (kx_le ns a) (kx_le ns b) iA iB
    · exact rkind19 E q (by omega) (by omega) (kx_le ns a) (kx_le ns b) iA iB
    · exact rkind20 E q (by omega) (by omega) (kx_le ns a) (kx_le ns b) iA iB
    · exact rkind21 E q (by omega) (by omega) (kx_le ns a) (kx_le ns b) iA iB
  | .ite a b c', s, h, hw => by
    obtain ⟨ha, hb, hcx, q⟩ := at_ite h
    have pa := Ex.sz_pos a
    have pb := Ex.sz_pos b
    have pc := Ex.sz_pos c'
    rw [show ((s + Ex.sz (.ite a b c') : Nat) : Int) - 1 = ((s + Ex.sz a + Ex.sz b + Ex.sz c' : Nat) : Int) by simp only [Ex.sz]; omega]
    exact rkind22 E q (by omega) (by omega) (by omega) (kx_le ns a) (rkind_at E a s ha hw.1) (rkind_at E b (s + Ex.sz a) hb hw.2.1) (rkind_at E c' (s + Ex.sz a + Ex.sz b) hcx hw.2.2)
end Go.Proofs.YtmmdigeciphglaaGreatDoor
namespace Go.Proofs.YtmmdigeciphglaaGreatDoor
open Go.RowKit Ex
theorem at_kx (ns : List Ty.Nm) {l : List Nd} : ∀ (x : Ex.E) (s i : Nat), At l s x → wr x → s ≤ i → i < s + Ex.sz x → ∃ y t, At l t y ∧ wr y ∧ i + 1 = t + Ex.sz y ∧ (Ev.kxs ns x)[i - s]? = some (Ev.kx ns y) := by
  have self : ∀ (x : Ex.E) (s i : Nat), At l s x → wr x → s ≤ i → i < s + Ex.sz x → s + Ex.sz x ≤ i + 1 → ∃ y t, At l t y ∧ wr y ∧ i + 1 = t + Ex.sz y ∧ (Ev.kxs ns x)[i - s]? = some (Ev.kx ns y) := fun x s i h hw h1 h2 h3 => by
    obtain ⟨k, e1, e2⟩ := Ev.kxs_last ns x
    refine ⟨x, s, h, hw, by omega, ?_⟩
    have hp := Ex.sz_pos x
    rw [e1, List.getElem?_append_right (by omega), show i - s - k.length = 0 by omega]; rfl
  intro x
  induction x with
  | num v => intro s i h hw h1 h2; exact self _ s i h hw h1 h2 (by simp only [Ex.sz] at h2 ⊢; omega)
  | name v => intro s i h hw h1 h2; exact self _ s i h hw h1 h2 (by simp only [Ex.sz] at h2 ⊢; omega)
  | tt => intro s i h hw h1 h2; exact self _ s i h hw h1 h2 (by simp only [Ex.sz] at h2 ⊢; omega)
  | ff => intro s i h hw h1 h2; exact self _ s i h hw h1 h2 (by simp only [Ex.sz] at h2 ⊢; omega)
  | un op a iha =>
    intro s i h hw h1 h2
    by_cases he : s + Ex.sz (.un op a) ≤ i + 1
    · exact self _ s i h hw h1 h2 he
    · simp only [Ex.sz] at he
      obtain ⟨y, t, q1, q2, q3, q4⟩ := iha s i (at_un h).1 hw.2 h1 (by omega)
      refine ⟨y, t, q1, q2, q3, ?_⟩
      unfold Ev.kxs
      rw [List.getElem?_append_left (by rw [Ev.kxs_len]; omega)]; exact q4
  | bin op a b iha ihb =>
    intro s i h hw h1 h2
    by_cases he : s + Ex.sz (.bin op a b) ≤ i + 1
    · exact self _ s i h hw h1 h2 he
    · simp only [Ex.sz] at he
      have hs := at_bin h
      unfold Ev.kxs
      rw [List.getElem?_append_left (by rw [List.length_append, Ev.kxs_len, Ev.kxs_len]; omega)]
      by_cases ha : i < s + Ex.sz a
      · obtain ⟨y, t, q1, q2, q3, q4⟩ := iha s i hs.1 hw.2.2.1 h1 ha
        exact ⟨y, t, q1, q2, q3, by rw [List.getElem?_append_left (by rw [Ev.kxs_len]; omega)]; exact q4⟩
      · obtain ⟨y, t, q1, q2, q3, q4⟩ := ihb (s + Ex.sz a) i hs.2.1 hw.2.2.2 (by omega) (by omega)
        exact ⟨y, t, q1, q2, q3, by rw [List.getElem?_append_right (by rw [Ev.kxs_len]; omega), Ev.kxs_len, Nat.sub_sub]; exact q4⟩
  | ite a b c iha ihb ihc =>
    intro s i h hw h1 h2
    by_cases he : s + Ex.sz (.ite a b c) ≤ i + 1
    · exact self _ s i h hw h1 h2 he
    · simp only [Ex.sz] at he
      have hs := at_ite h
      unfold Ev.kxs
      rw [List.getElem?_append_left (by rw [List.length_append, List.length_append, Ev.kxs_len, Ev.kxs_len, Ev.kxs_len]; omega)]
      by_cases ha : i < s + Ex.sz a
      · obtain ⟨y, t, q1, q2, q3, q4⟩ := iha s i hs.1 hw.1 h1 ha
        exact ⟨y, t, q1, q2, q3, by rw [List.append_assoc, List.getElem?_append_left (by rw [Ev.kxs_len]; omega)]; exact q4⟩
      · by_cases hb : i < s + Ex.sz a + Ex.sz b
        · obtain ⟨y, t, q1, q2, q3, q4⟩ := ihb (s + Ex.sz a) i hs.2.1 hw.2.1 (by omega) hb
          exact ⟨y, t, q1, q2, q3, by rw [List.append_assoc, List.getElem?_append_right (by rw [Ev.kxs_len]; omega), List.getElem?_append_left (by rw [Ev.kxs_len, Ev.kxs_len]; omega), Ev.kxs_len, Nat.sub_sub]; exact q4⟩
        · obtain ⟨y, t, q1, q2, q3, q4⟩ := ihc (s + Ex.sz a + Ex.sz b) i hs.2.2.1 hw.2.2 (by omega) (by omega)
          exact ⟨y, t, q1, q2, q3, by rw [List.getElem?_append_right (by rw [List.length_append, Ev.kxs_len, Ev.kxs_len]; omega), List.length_append, Ev.kxs_len, Ev.kxs_len, Nat.sub_sub, ← Nat.add_assoc]; exact q4⟩
structure RkI (w : World) (K : List Nat) (wr : World) (v : Value) (i : Nat) : Prop where
  below : Below w.heap.size w wr
  own : wr.ownsRow w.heap.size 5 1 v i ((K.take i).map kiV)
  nz : Ev.Nz (K.take i)
set_option maxHeartbeats 4000000 in
set_option maxRecDepth 100000 in
theorem rkinds_any (w : World) (A : Option Addr) (c : Nat) (l : List Nd) (hl : NdR w w.heap.size A l) (hc : l.length ≤ c) (hf : FitR l) (A2 : Option Addr) (c2 : Nat) (ns : List Ty.Nm) (hn : NsR w w.heap.size A2 ns) (hc2 : ns.length ≤ c2) (hnl : ns.length ≤ 1000000) :
    Calls Tryz.prog 81 #[.slice A l.length c, .slice A2 ns.length c2] w (KiP (kds l ns) w) := by
  have HCK := Lib.hid (rCheck_any A c l hc hf w hl)
  obtain ⟨R, hR⟩ : ∃ R, R = kds l ns := ⟨_, rfl⟩
  rw [← hR]
  unfold kds at hR
  obtain ⟨z, hz⟩ : ∃ z, z = chk l := ⟨_, rfl⟩
  rw [← hz] at HCK hR
  by_cases hz0 : z = 0
  · rw [if_neg (fun h => h hz0)] at hR
    have hd : dep l ≠ 0 := fun h => by
      rw [hz] at hz0
      unfold chk at hz0
      rw [if_pos h] at hz0
      cases hz0
    obtain ⟨x, hw, hx, _⟩ := dep_row hd
    have hR2 : R = if Ev.Nz (Ev.kxs ns x) then (Ev.kxs ns x, 0, 0) else ([], Ev.fz (Ev.kxs ns x), 90) := by rw [hR, hx]; exact Ev.kgo_all hw
    obtain ⟨n, hln⟩ : ∃ n, n = l.length := ⟨_, rfl⟩
    have hKn : (Ev.kxs ns x).length = n := by rw [Ev.kxs_len, hln, hx, flat_len]
    have hn6 : n ≤ 1000000 := by rw [hln]; exact hf.1
    have HK := Lib.hid (fun (i : Nat) (hi : i < n) => (show ∃ k, (Ev.kxs ns x)[i]? = some k ∧ k ≤ 2 ∧ RkC A l.length c A2 ns.length c2 w i k from by
      have hAt : At l 0 x := ⟨by rw [List.drop_zero, hx, ← flat_len x 0, List.take_length], by rw [hx, flat_len]; omega⟩
      obtain ⟨y, t, q1, q2, q3, q4⟩ := at_kx ns x 0 i hAt hw (Nat.zero_le _) (by rw [Nat.zero_add, ← Ev.kxs_len ns x, hKn]; exact hi)
      have q := rkind_at (w := w) (A := A) (l := l) (c := c) (A2 := A2) (c2 := c2) (ns := ns) ⟨hl, hc, hn, hc2, hf.1, hnl⟩ y t q1 q2
      rw [← q3, show (((i + 1 : Nat) : Int) - 1) = (i : Int) by omega] at q
      exact ⟨_, q4, kx_le ns y, q⟩))
    rw [← hln] at HK HCK
    generalize Ev.kxs ns x = K at *
    rw [← hln] at hc ⊢
    have hcI : (n : Int) ≤ (c : Int) := by omega
    have HR := Lib.hid hR2
    have HKN := Lib.hid hKn
    obtain ⟨m, hm⟩ : ∃ m, m = ns.length := ⟨_, rfl⟩
    rw [← hm] at HK hc2 ⊢
    have hc2I : (m : Int) ≤ (c2 : Int) := by omega
    obtain ⟨i0, hi, hy0, hy1, hy2⟩ := info_parts infoU8
    subst hz0
    clear hR hR2 hz hl hc hf hn hc2 hnl hd hw hx hln hKn hm
    go_enter Tryz.func81, Tryz.ntmps81
    go_wp2_with fail
    refine HCK.out.mono ?_
    rintro en w1 ⟨rfl, hb1⟩
    have H0 := Lib.hid (show RkI w K w1 (.slice none 0 0) 0 from ⟨hb1, World.ownsRow_nil _ _ _ _, fun _ hk => nomatch hk⟩)
    clear hb1 HCK
    go_wp2
    go_loopw [8, 9, 10] (fun v0 iv _ wr => ∃ (v : Value) (i : Nat), v = v0 ∧ iv = .int .i64 i ∧ i ≤ n ∧ Hid (RkI w K wr v i)) (fun _ iv _ _ => n - (intOf iv).toNat)
    case atStart => exact ⟨_, 0, rfl, rfl, Nat.zero_le _, H0⟩
    case round =>
      obtain ⟨v, i, hv0, rfl, hil, HI⟩ := hrel
      subst hv0
      by_cases hin : i < n
      · have hin' : (i : Int) < (n : Int) := by omega
        obtain ⟨k, hk, hk2, hkc⟩ := HK.out i hin
        have hKi : i < K.length := by rw [HKN.out]; exact hin
        have hget : K[i] = k := by rw [List.getElem?_eq_getElem hKi] at hk; injection hk
        have HTK := Lib.hid (show K.take (i + 1) = K.take i ++ [k] by rw [List.take_succ_eq_append_getElem hKi, hget])
        have HDR := Lib.hid (show K = K.take i ++ k :: K.drop (i + 1) by
          conv => lhs; rw [← List.take_append_drop i K, List.drop_eq_getElem_cons hKi, hget])
        have HC := Lib.hid (hkc wr HI.out.below)
        have HIN := Lib.hid hin
        obtain ⟨Av, cv, rfl, hic, _, _⟩ := own_sliced HI.out.own
        have hi6 : (i : Int) < 1000000 := by omega
        have hki : (k : Int) ≤ 2 := by omega
        clear hk hkc hKi hget hin hic
        go_wp2_with fail
        refine HC.out.mono ?_
        rintro en w3 ⟨rfl, hb3⟩
        have HB3 := Lib.hid (HI.out.below.trans (hb3.mono HI.out.below.size))
        have HO3 := Lib.hid (own_below HI.out.own hb3)
        clear hb3 HC
        by_cases hk0 : k = 0
        · have HE := Lib.hid (show R = ([], i, 90) from by
            have hnz : ¬ Ev.Nz K := fun h => by
              rw [HDR.out] at h
              exact (Ev.nz_app.1 h).2 k (List.mem_cons_self ..) hk0
            rw [HR.out, if_neg hnz]
            have e : Ev.fz K = i := by
              rw [HDR.out, Ev.fz_right HI.out.nz, List.length_take, HKN.out, hk0]
              show min i n + 0 = i
              omega
            rw [e])
          subst hk0
          go_wp2
          go_ret3
          exact ⟨.slice none 0 0, by rw [HE.out]; exact World.ownsRow_nil _ _ _ _, by rw [HE.out]; rfl, HB3.out⟩
        · have hk0' : ((k : Int) == 0) = false := beq_eq_false_iff_ne.2 (by omega)
          have hwr : IntKind.u8.wrap (k : Int) = (k : Int) := IntWalk.u8_in _ (by omega)
          have HNZ := Lib.hid (show Ev.Nz (K.take (i + 1)) from by
            rw [HTK.out]
            exact Ev.nz_app.2 ⟨HI.out.nz, fun q hq => by rw [List.mem_singleton.1 hq]; exact hk0⟩)
          have hbig : i + 1 ≤ maxLen := by unfold maxLen; omega
          have hbw := Lib.hid (show ∀ q, (Value.slice Av i cv).ownBlock = some q → w.heap.size ≤ q from fun q hq => (HO3.out.lt q hq).1)
          have hsa := HB3.out.size
          clear hk0
          go_wp2_with (at_builtin; (refine wpList_append_own _ rfl _ _ _ rfl w.heap.size 5 i0 _ 1 1 Tryz.underlying152 hi hy0 hy1 hy2 rfl (by omega) (.slice Av i cv) i ((K.take i).map kiV) (by rfl) (by exact World.ownsRow.alloc HO3.out _) _ 1 _ [.int .u8 (k : Nat)] (by rfl) rfl (by intro j u hu; exact news_at _ _ _ _ (by simp) j u hu) (by intro u hu; simp at hu; subst hu; rfl) hbig (by omega) (by simp; omega) ?_); intro v9 w9 hown9 hgr9 _; have HR9 := Lib.hid (And.intro hown9 (show Below w.heap.size w w9 from Below.grown (HB3.out.alloc hsa _) hgr9 (by simp; omega) hbw.out)); clear hown9 hgr9)
          go_roundw
          case rel => exact ⟨v9, i + 1, rfl, by go_num, HIN.out, Lib.hid ⟨HR9.out.2, by
            rw [HTK.out, List.map_append]; exact HR9.out.1, HNZ.out⟩⟩
          case measure => have := HIN.out; simp [intOf]; omega
      · obtain rfl : i = n := by omega
        have hin' : ¬ (i : Int) < (i : Int) := by omega
        have htk : K.take i = K := List.take_of_length_le (by rw [HKN.out]; exact Nat.le_refl _)
        have HE := Lib.hid (show R = (K, 0, 0) from by rw [HR.out, if_pos (by have h := HI.out.nz; rwa [htk] at h)])
        have HOW := Lib.hid (show wr.ownsRow w.heap.size 5 1 v i (K.map kiV) from by have h := HI.out.own; rwa [htk] at h)
        clear hin htk
        go_wp2
        go_ret3
        exact ⟨v, by rw [HE.out]; simp only; rw [HKN.out]; exact HOW.out, by rw [HE.out]; rfl, HI.out.below⟩
  · have hz2 : (z != 0) = true := by simpa using hz0
    rw [if_pos hz0] at hR
    have HE := Lib.hid hR
    clear hR hl hn hf hnl hz hz0 hc hc2
    go_enter Tryz.func81, Tryz.ntmps81
    go_wp2_with fail
    refine HCK.out.mono ?_
    rintro en w1 ⟨rfl, hb1⟩
    have HB1 := Lib.hid hb1
    clear hb1
    go_wp2
    go_ret3
    exact ⟨.slice none 0 0, by rw [HE.out]; exact World.ownsRow_nil _ _ _ _, by rw [HE.out]; rfl, HB1.out⟩
set_option maxHeartbeats 4000000 in
set_option maxRecDepth 100000 in
theorem rof_any (w : World) (A : Option Addr) (c : Nat) (l : List Nd) (hl : NdR w w.heap.size A l) (hc : l.length ≤ c) (hf : FitR l) (A2 : Option Addr) (c2 : Nat) (ns : List Ty.Nm) (hn : NsR w w.heap.size A2 ns) (hc2 : ns.length ≤ c2) (hnl : ns.length ≤ 1000000) :
    Calls Tryz.prog 48 #[.slice A l.length c, .slice A2 ns.length c2] w fun e w' => e = .returned (.tuple #[.int .u8 ((ofs (kds l ns)).1 : Nat), .int .i64 ((ofs (kds l ns)).2.1 : Nat), .int .i64 (ofs (kds l ns)).2.2]) ∧ Below w.heap.size w w' := by
  have HKI := Lib.hid (rkinds_any w A c l hl hc hf A2 c2 ns hn hc2 hnl)
  have HOK := Lib.hid (@kds_ok l ns)
  have hl6 := hf.1
  generalize kds l ns = X at *
  obtain ⟨K, a, z⟩ := X
  simp only at HOK
  clear hl hn hf hnl
  by_cases hz : z = 0
  · subst hz
    obtain ⟨_, h1, h2, h3, _⟩ := HOK.out rfl
    subst h1
    have hR : ofs (K, 0, 0) = (K.getLastD 0, 0, 0) := if_neg (fun h => h rfl)
    rw [hR]
    simp only
    obtain ⟨q, hq⟩ : ∃ q, q = K.getLastD 0 := ⟨_, rfl⟩
    rw [← hq]
    have HQ := Lib.hid (show ∀ (hj : K.length - 1 < K.length), K[K.length - 1] = q from fun hj => by
      rw [hq, List.getLastD_eq_getLast?, List.getLast?_eq_getElem?, List.getElem?_eq_getElem hj]; rfl)
    obtain ⟨n, hnk⟩ : ∃ n, n = K.length := ⟨_, rfl⟩
    have hn1 : 1 ≤ n := by omega
    have hn6 : (n : Int) ≤ 1000000 := by omega
    have hidx : ((n : Int) - 1) < (n : Int) := by omega
    have HN := Lib.hid hnk
    clear h2 h3 hR hq HOK
    go_enter Tryz.func48, Tryz.ntmps48
    go_wp2_with fail
    refine HKI.out.mono ?_
    rintro en w1 ⟨v, ho, rfl, hb1⟩
    simp only at ho
    obtain ⟨A3, c3, rfl, hic, _, hg3⟩ := own_sliced ho
    obtain ⟨g, rfl, _, _⟩ := hg3 (by omega)
    have hj : n - 1 < K.length := by omega
    have c0 : w1.cell? ⟨g, n - 1, none⟩ = some (.int .u8 (q : Nat)) := by
      have h := own_cell ho (j := n - 1) (u := kiV K[n - 1]) (by rw [List.getElem?_map, List.getElem?_eq_getElem hj]; rfl)
      rw [h]
      have h2 := HQ.out (by omega)
      simp only [HN.out, kiV, h2]
    have HB1 := Lib.hid hb1
    have hc3 : (n : Int) ≤ (c3 : Int) := by omega
    obtain ⟨p, hp⟩ : ∃ p, n = p + 1 := ⟨n - 1, by omega⟩
    rw [← HN.out]
    subst hp
    have hpp : ((p + 1 : Nat) : Int) - 1 = (p : Int) := by omega
    rw [Nat.add_sub_cancel] at c0
    clear hb1 ho hg3 hj HKI hnk
    go_wp2
    go_ret3
    exact ⟨rfl, HB1.out⟩
  · have hz2 : (z != 0) = true := by simpa using hz
    have hR : ofs (K, a, z) = (0, a, z) := if_pos hz
    rw [hR]
    clear hR hz HOK
    go_enter Tryz.func48, Tryz.ntmps48
    go_wp2_with fail
    refine HKI.out.mono ?_
    rintro en w1 ⟨v, ho, rfl, hb1⟩
    have HB1 := Lib.hid hb1
    clear hb1 ho HKI
    go_wp2
    go_ret3
    exact ⟨rfl, HB1.out⟩
end Go.Proofs.YtmmdigeciphglaaGreatDoor
