/- Layer 7's reference: longest, walked. Condition: a text's length fits. -/
import Derived.Test.YtdcjpinbflmikaaGreatDoorLxRef2
namespace Go.Proofs.YtdcjpinbflmikaaGreatDoor
open Go.RowKit

theorem lx_ext (s : ByteArray) (a k : Nat) : (s.extract a (a + k)).data.toList = (s.data.toList.drop a).take k := by
  rw [← Lib.toList_data, Lib.extract_toList, show a + k - a = k by omega]
theorem lngo_end {l : List UInt8} {f k n : Nat} (h : l.length < k) : Lx.lngo l f k n = n := by
  cases f with
  | zero => rfl
  | succ f => unfold Lx.lngo; rw [if_pos h]
theorem lngo_stop {l : List UInt8} {f k n : Nat} (h : 3 ≤ k) (h2 : n ≠ k - 1) : Lx.lngo l f k n = n := by
  cases f with
  | zero => rfl
  | succ f => unfold Lx.lngo; split; rfl; rw [if_pos ⟨h, h2⟩]
theorem lngo_on {l : List UInt8} {f k n : Nat} (h : k ≤ l.length) (h2 : k < 3 ∨ n = k - 1) : Lx.lngo l (f + 1) k n = Lx.lngo l f (k + 1) (if Lx.whole (l.take k) ≠ 0 then k else n) := by
  rw [Lx.lngo, if_neg (by omega), if_neg (by omega)]
theorem kind_bd (l : List UInt8) : 0 ≤ Lx.whole l ∧ Lx.whole l ≤ 4 := by
  unfold Lx.whole
  repeat' split
  all_goals omega
set_option maxHeartbeats 4000000 in
theorem longest_any (s : ByteArray) (a : Nat) (w : World) (hs : s.size ≤ 1000000000) (ha : a ≤ s.size) :
    Calls Tryz.prog 106 #[.string s, .int .i64 a] w fun e w' => e = .returned (.int .i64 ((Lx.lng (s.data.toList.drop a) : Nat) : Int)) ∧ Below w.heap.size w w' := by
  have HL := Lib.hid (show (s.data.toList.drop a).length = s.size - a by rw [List.length_drop, ← Lib.size_eq])
  have HX := Lib.hid (fun (k : Nat) (hk : a + k ≤ s.size) w0 => show Calls Tryz.prog 107 #[.string (s.extract a (a + k))] w0 fun e w' => e = .returned (.int .u8 (Lx.whole ((s.data.toList.drop a).take k))) ∧ Below w0.heap.size w0 w' by
    rw [← lx_ext]
    exact whole_any (s.extract a (a + k)) w0 (by rw [ByteArray.size_extract]; omega))
  obtain ⟨R, hR⟩ : ∃ R, R = Lx.lng (s.data.toList.drop a) := ⟨_, rfl⟩
  rw [← hR]
  have HR := Lib.hid (show R = Lx.lngo (s.data.toList.drop a) (s.size - a + 2 - 1) 1 0 by rw [hR]; unfold Lx.lng; rw [HL.out]; rfl)
  clear hR
  generalize s.data.toList.drop a = l at *
  go_enter Tryz.func106, Tryz.ntmps106
  go_wp2
  go_loopw [5, 6] (fun vn vk wr => ∃ (n k : Nat), vn = .int .i64 n ∧ vk = .int .i64 k ∧ 1 ≤ k ∧ n < k ∧ a + k ≤ s.size + 1 ∧ Below w.heap.size w wr ∧ Hid (R = Lx.lngo l (s.size - a + 2 - k) k n)) (fun _ vk _ => s.size + 1 - (intOf vk).toNat)
  case atStart => exact ⟨0, 1, rfl, rfl, Nat.le_refl _, Nat.zero_lt_one, by omega, Below.refl _ _, HR⟩
  case round =>
    obtain ⟨n, k, rfl, rfl, hk1, hnk, hka, hB, HI⟩ := hrel
    have HB := Lib.hid hB
    clear hB
    by_cases hlt : a + k ≤ s.size
    · have hlt' : (a : Int) + (k : Int) ≤ (s.size : Int) := by omega
      by_cases hgo : k < 3 ∨ n = k - 1
      · have HN := Lib.hid (show R = Lx.lngo l (s.size - a + 2 - (k + 1)) (k + 1) (if Lx.whole (l.take k) ≠ 0 then k else n) by
          rw [HI.out, show s.size - a + 2 - k = (s.size - a + 2 - (k + 1)) + 1 by omega, lngo_on (by rw [HL.out]; omega) hgo])
        have hbd := kind_bd (l.take k)
        have HW := Lib.hid (HX.out k hlt)
        generalize Lx.whole (l.take k) = z at *
        by_cases hz : z = 0
        · have HN2 := Lib.hid (show R = Lx.lngo l (s.size - a + 2 - (k + 1)) (k + 1) n by rw [HN.out, if_neg (by omega)])
          have hz' : (z != 0) = false := by simp [hz]
          clear hz HN
          by_cases h3 : k < 3
          · have h3' : (k : Int) < 3 := by omega
            clear hgo
            go_wp2_with fail
            refine (HW.out _).mono ?_
            rintro e w1 ⟨rfl, h1⟩
            have HB1 := Lib.hid (HB.out.trans (h1.mono HB.out.size))
            clear h1
            go_wp2
            go_round
            case rel => exact ⟨n, k + 1, rfl, by go_num, by omega, by omega, by omega, HB1.out, HN2⟩
            case measure => simp [intOf]; omega
          · have h3' : ¬ (k : Int) < 3 := by omega
            have hn' : ((n : Int) == (k : Int) - 1) = true := beq_iff_eq.2 (by omega)
            clear hgo
            go_wp2_with fail
            refine (HW.out _).mono ?_
            rintro e w1 ⟨rfl, h1⟩
            have HB1 := Lib.hid (HB.out.trans (h1.mono HB.out.size))
            clear h1
            go_wp2
            go_round
            case rel => exact ⟨n, k + 1, rfl, by go_num, by omega, by omega, by omega, HB1.out, HN2⟩
            case measure => simp [intOf]; omega
        · have HN2 := Lib.hid (show R = Lx.lngo l (s.size - a + 2 - (k + 1)) (k + 1) k by rw [HN.out, if_pos hz])
          have hz' : (z != 0) = true := by simp [hz]
          clear hz HN
          by_cases h3 : k < 3
          · have h3' : (k : Int) < 3 := by omega
            clear hgo
            go_wp2_with fail
            refine (HW.out _).mono ?_
            rintro e w1 ⟨rfl, h1⟩
            have HB1 := Lib.hid (HB.out.trans (h1.mono HB.out.size))
            clear h1
            go_wp2
            go_round
            case rel => exact ⟨k, k + 1, rfl, by go_num, by omega, by omega, by omega, HB1.out, HN2⟩
            case measure => simp [intOf]; omega
          · have h3' : ¬ (k : Int) < 3 := by omega
            have hn' : ((n : Int) == (k : Int) - 1) = true := beq_iff_eq.2 (by omega)
            clear hgo
            go_wp2_with fail
            refine (HW.out _).mono ?_
            rintro e w1 ⟨rfl, h1⟩
            have HB1 := Lib.hid (HB.out.trans (h1.mono HB.out.size))
            clear h1
            go_wp2
            go_round
            case rel => exact ⟨k, k + 1, rfl, by go_num, by omega, by omega, by omega, HB1.out, HN2⟩
            case measure => simp [intOf]; omega
      · have HE := Lib.hid (show R = n by rw [HI.out, lngo_stop (by omega) (by omega)])
        have h3' : ¬ (k : Int) < 3 := by omega
        have hn' : ((n : Int) == (k : Int) - 1) = false := beq_eq_false_iff_ne.2 (by omega)
        clear hgo
        go_wp2
        go_ret
        exact ⟨by rw [HE.out]; rfl, HB.out⟩
    · have HE := Lib.hid (show R = n by rw [HI.out, lngo_end (by rw [HL.out]; omega)])
      have hlt' : ¬ (a : Int) + (k : Int) ≤ (s.size : Int) := by omega
      clear hlt
      go_wp2
      go_ret
      exact ⟨by rw [HE.out]; rfl, HB.out⟩
end Go.Proofs.YtdcjpinbflmikaaGreatDoor
