/- hopscotchref01.number and hopscotchref01.Next, walked: what so many bytes would be; the first character, bytes of each length tried. Condition: the text is of a length that fits. -/
import Derived.Test.YthncfhakbobkkaaGreatDoorU8Ref
import Derived.PlainAid
namespace Go.Proofs.YthncfhakbobkkaaGreatDoor
open Go.RowKit Go.PlainAid

theorem bt_bn (s : ByteArray) (k : Nat) : bt s k = U8.bn s.data.toList k := by
  unfold bt U8.bn
  by_cases h : k < s.size
  · rw [dif_pos h, List.getD_eq_getElem?_getD, Lib.data_getElem? s k h]; rfl
  · rw [dif_neg h, List.getD_eq_getElem?_getD, List.getElem?_eq_none (by rw [← Lib.size_eq]; omega)]; rfl

theorem ret_int {k : IntKind} {a b : Int} (h : a = b) : Ending.returned (.int k a) = .returned (.int k b) := by rw [h]

set_option maxHeartbeats 1000000 in
theorem number1 (s : ByteArray) (w : World) (hs : 1 ≤ s.size) :
    Calls Tryz.prog 48 #[.string s, .int .i64 1] w fun e w' => e = .returned (.int .i64 (U8.num s.data.toList 1)) ∧ Below w.heap.size w w' := by
  have hz : (0 : Int) < (s.size : Int) := by omega
  have e0 := Lib.hid (bt_bn s 0)
  have b0 := bt_nonneg s 0; have b0' := bt_le s 0
  have hb := get_bt s
  go_enter Tryz.func48, Tryz.ntmps48
  go_wp2
  go_ret
  exact ⟨by rw [e0.out]; rfl, by go_grown⟩

set_option maxHeartbeats 1000000 in
theorem number2 (s : ByteArray) (w : World) (hs : 2 ≤ s.size) :
    Calls Tryz.prog 48 #[.string s, .int .i64 2] w fun e w' => e = .returned (.int .i64 (U8.num s.data.toList 2)) ∧ Below w.heap.size w w' := by
  have hz0 : (0 : Int) < (s.size : Int) := by omega
  have hz1 : (1 : Int) < (s.size : Int) := by omega
  have e0 := Lib.hid (bt_bn s 0)
  have b0 := bt_nonneg s 0; have c0 := bt_le s 0
  have e1 := Lib.hid (bt_bn s 1)
  have b1 := bt_nonneg s 1; have c1 := bt_le s 1
  have hb := get_bt s
  go_enter Tryz.func48, Tryz.ntmps48
  go_wp2
  go_quiet (fail)
  go_wp2
  go_rounds 4
  go_ret
  exact ⟨ret_int (by rw [e0.out, e1.out]; rfl), below_drewN (by go_grown) _⟩

set_option maxHeartbeats 1000000 in
theorem number3 (s : ByteArray) (w : World) (hs : 3 ≤ s.size) :
    Calls Tryz.prog 48 #[.string s, .int .i64 3] w fun e w' => e = .returned (.int .i64 (U8.num s.data.toList 3)) ∧ Below w.heap.size w w' := by
  have hz0 : (0 : Int) < (s.size : Int) := by omega
  have hz1 : (1 : Int) < (s.size : Int) := by omega
  have hz2 : (2 : Int) < (s.size : Int) := by omega
  have e0 := Lib.hid (bt_bn s 0)
  have b0 := bt_nonneg s 0; have c0 := bt_le s 0
  have e1 := Lib.hid (bt_bn s 1)
  have b1 := bt_nonneg s 1; have c1 := bt_le s 1
  have e2 := Lib.hid (bt_bn s 2)
  have b2 := bt_nonneg s 2; have c2 := bt_le s 2
  have hb := get_bt s
  go_enter Tryz.func48, Tryz.ntmps48
  go_wp2
  go_quiet (fail)
  go_wp2
  go_rounds 4
  go_ret
  exact ⟨ret_int (by rw [e0.out, e1.out, e2.out]; rfl), below_drewN (by go_grown) _⟩

set_option maxHeartbeats 1000000 in
theorem number4 (s : ByteArray) (w : World) (hs : 4 ≤ s.size) :
    Calls Tryz.prog 48 #[.string s, .int .i64 4] w fun e w' => e = .returned (.int .i64 (U8.num s.data.toList 4)) ∧ Below w.heap.size w w' := by
  have hz0 : (0 : Int) < (s.size : Int) := by omega
  have hz1 : (1 : Int) < (s.size : Int) := by omega
  have hz2 : (2 : Int) < (s.size : Int) := by omega
  have hz3 : (3 : Int) < (s.size : Int) := by omega
  have e0 := Lib.hid (bt_bn s 0)
  have b0 := bt_nonneg s 0; have c0 := bt_le s 0
  have e1 := Lib.hid (bt_bn s 1)
  have b1 := bt_nonneg s 1; have c1 := bt_le s 1
  have e2 := Lib.hid (bt_bn s 2)
  have b2 := bt_nonneg s 2; have c2 := bt_le s 2
  have e3 := Lib.hid (bt_bn s 3)
  have b3 := bt_nonneg s 3; have c3 := bt_le s 3
  have hb := get_bt s
  go_enter Tryz.func48, Tryz.ntmps48
  go_wp2
  go_quiet (fail)
  go_wp2
  go_rounds 4
  go_ret
  exact ⟨ret_int (by rw [e0.out, e1.out, e2.out, e3.out]; rfl), below_drewN (by go_grown) _⟩

/-- At every length that is tried. -/
theorem number_any (s : ByteArray) (n : Nat) (w : World) (h1 : 1 ≤ n) (h4 : n ≤ 4) (hs : n ≤ s.size) :
    Calls Tryz.prog 48 #[.string s, .int .i64 n] w fun e w' => e = .returned (.int .i64 (U8.num s.data.toList n)) ∧ Below w.heap.size w w' := by
  have : n = 1 ∨ n = 2 ∨ n = 3 ∨ n = 4 := by omega
  rcases this with rfl | rfl | rfl | rfl
  · exact number1 s w hs
  · exact number2 s w hs
  · exact number3 s w hs
  · exact number4 s w hs
theorem num_bd (l : List UInt8) (n : Nat) : -2147483648 ≤ U8.num l n ∧ U8.num l n ≤ 2147483647 := by
  have b0 := U8.bn_lt l 0; have b1 := U8.bn_lt l 1; have b2 := U8.bn_lt l 2; have b3 := U8.bn_lt l 3
  unfold U8.num
  split
  · omega
  · split
    · omega
    · split <;> omega

/-! ### Next -/
/-- One length that is tried. -/
theorem hit_false {l : List UInt8} {n : Nat} (h : U8.isCh (U8.num l n) = false) : U8.hit l n = false := by
  unfold U8.hit; rw [h]; simp
theorem hit_eq {l : List UInt8} {n : Nat} (hn : n ≤ l.length) (h : U8.isCh (U8.num l n) = true) : U8.hit l n = (U8.put (U8.num l n) == l.take n) := by
  unfold U8.hit; rw [h, decide_eq_true hn]; simp
end Go.Proofs.YthncfhakbobkkaaGreatDoor
