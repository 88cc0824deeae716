/- The functions of package name, walked: each does, on every text, what the plain facts tell, and turns nothing that was there. Condition: a text's length fits. -/
import Derived.Test.YthncfhakbobkkaaGreatDoorShelf
import Derived.Test.YthncfhakbobkkaaGreatDoorNmPlain
import Derived.WalkKit
import Derived.WalkLawsBesides
import Derived.Outline
import Derived.Handy
import Derived.Lib.OthersKept
import Derived.Lib.Hide
import Derived.WalkSmall
import Derived.Deep.DeepFit
import Derived.Deep.QuietTactic
import Derived.BigQuiet
import Derived.WalkSpells
namespace Go.Proofs.YthncfhakbobkkaaGreatDoor.NmW
open Go.RowKit

theorem ret_bool {a b : Bool} (h : a = b) : Ending.returned (.bool a) = .returned (.bool b) := by rw [h]
theorem ret_int {k : IntKind} {a b : Int} (h : a = b) : Ending.returned (.int k a) = .returned (.int k b) := by rw [h]
theorem u8_bd (b : UInt8) : 0 ≤ (b.toNat : Int) ∧ (b.toNat : Int) ≤ 255 := by
  have := UInt8.toNat_lt b; omega

set_option maxHeartbeats 1000000 in
theorem part_any (c : Int) (w : World) (h0 : 0 ≤ c) (h1 : c ≤ 255) :
    Calls Tryz.prog 102 #[.int .u8 c] w fun e w' => e = .returned (.int .i64 (Nm.partZ c)) ∧ w = w' := by
  go_enter Tryz.func102, Tryz.ntmps102
  go_wp2
  all_goals go_ret
  all_goals refine ⟨ret_int ?_, rfl⟩
  all_goals
    unfold Nm.partZ Nm.letZ Nm.mayZ
    simp only [decide_eq_true_eq]
    try simp only [beq_iff_eq, beq_eq_false_iff_ne, ne_eq] at *
    first
      | rw [if_pos (by omega)]
      | rw [if_neg (by omega), if_pos (by omega)]
      | rw [if_neg (by omega), if_neg (by omega)]

set_option maxHeartbeats 1000000 in
theorem leading_any (s : ByteArray) (w : World) (hs : s.size ≤ maxLen) :
    Calls Tryz.prog 91 #[.string s] w fun e w' => e = .returned (.int .i64 (Nm.lg 2 s.data.toList)) ∧ w = w' := by
  unfold maxLen at hs
  have HP := Lib.hid part_any
  have hlen := Lib.hid (Lib.size_eq s)
  go_enter Tryz.func91, Tryz.ntmps91
  go_wp2
  go_loop [3, 7] (fun m i => ∃ (k : Nat) (a : Int), k ≤ s.size ∧ 1 ≤ a ∧ a ≤ 2 ∧ i = .int .i64 k ∧ m = .int .i64 a ∧ Hid (Nm.lg 2 s.data.toList = k + Nm.lg a (s.data.toList.drop k))) (fun _ i => s.size - (intOf i).toNat)
  case atStart => exact ⟨0, 2, Nat.zero_le _, by omega, by omega, rfl, rfl, Lib.hid (by simp)⟩
  case round =>
    obtain ⟨k, a, hk, ha1, ha2, rfl, rfl, HS⟩ := hrel
    by_cases hlt : k < s.size
    · have hb := u8_bd s[k]
      have hk' : k < s.data.toList.length := by rw [← hlen.out]; exact hlt
      have hpb := Nm.partZ_bd (s[k].toNat : Int)
      have HC := Lib.hid (HP.out (s[k].toNat : Int) w hb.1 hb.2)
      by_cases hp : Nm.partZ (s[k].toNat : Int) < a
      · have hf := Nm.lg_stop (l := s.data.toList) (m := a) hk' hp
        have HF := Lib.hid (HS.out.trans (by rw [hf]))
        clear hf
        generalize Nm.partZ (s[k].toNat : Int) = q at *
        go_wp2_with fail
        refine HC.out.mono ?_
        rintro e w1 ⟨rfl, rfl⟩
        go_wp2
        go_ret
        exact ⟨ret_int (by rw [HF.out]; omega), rfl⟩
      · have hf := Nm.lg_go (l := s.data.toList) (m := a) hk' hp
        have HF := Lib.hid (HS.out.trans (by rw [hf]))
        clear hf
        generalize Nm.partZ (s[k].toNat : Int) = q at *
        go_wp2_with fail
        refine HC.out.mono ?_
        rintro e w1 ⟨rfl, rfl⟩
        go_wp2
        go_round
        case rel => exact ⟨k + 1, 1, by omega, by omega, by omega, by go_num, rfl, Lib.hid (by rw [HF.out]; omega)⟩
        case measure => simp [intOf]; omega
    · have hnil : s.data.toList.drop k = [] := List.drop_of_length_le (by have := hlen.out; omega)
      have HF := Lib.hid (HS.out.trans (by rw [hnil]; rfl : _ = k))
      clear hnil
      go_wp2
      go_ret
      exact ⟨ret_int (by rw [HF.out]; omega), rfl⟩

theorem isEmpty_iff (s : ByteArray) : s.toList.isEmpty = decide (s.size = 0) := by
  rw [Lib.toList_data, Lib.size_eq]
  cases s.data.toList <;> simp

end Go.Proofs.YthncfhakbobkkaaGreatDoor.NmW
