/- The chapter's examples that every statement of layer 1 asks again (hopscotchlaw01.works): walked: they hold. Condition: the tables hold what their texts lay. -/
import Derived.Test.YtnlohpemnohmiaaDoorU8Next
namespace Go.Proofs.YtnlohpemnohmiaaDoor
open Go.RowKit

theorem next_lit (s : ByteArray) (c n z : Int) (h : U8.nx s.data.toList = (c, n.toNat, z)) (hn : 0 ≤ n) (w : World) (T : Tabs w) :
    Calls Tryd.prog 9 #[.string s] w fun e w' => e = .returned (.tuple #[.int .i32 c, .int .i64 n, .int .i64 z]) ∧ Below w.heap.size w w' := by
  have := next_any s w T
  rw [h] at this
  simp only [Int.toNat_of_nonneg hn] at this
  exact this
theorem put_lit (c : Int) (a : Array UInt8) (h : (U8.put c).toArray = a) (h0 : -2147483648 ≤ c) (h1 : c ≤ 2147483647) (w : World) (T : Tabs w) :
    Calls Tryd.prog 11 #[.int .i32 c] w fun e w' => e = .returned (.string ⟨a⟩) ∧ Below w.heap.size w w' := by
  have := put_any c w T h0 h1
  rw [h] at this
  exact this
theorem valid_lit (s : ByteArray) (a z : Int) (h : vld s.data.toList = (a, z)) (hs : s.size ≤ maxLen) (w : World) (T : Tabs w) :
    Calls Tryd.prog 14 #[.string s] w fun e w' => e = .returned (.tuple #[.int .i64 a, .int .i64 z]) ∧ Below w.heap.size w w' := by
  have := valid_any s w T hs
  rw [h] at this
  exact this
theorem count_lit (s : ByteArray) (n : Int) (h : ((U8.lead s.data.toList).1 : Int) = n) (hs : s.size ≤ maxLen) (w : World) (T : Tabs w) :
    Calls Tryd.prog 16 #[.string s] w fun e w' => e = .returned (.int .i64 n) ∧ Below w.heap.size w w' := by
  have := count_any s w T hs
  rw [h] at this
  exact this

theorem size_lit (a : Array UInt8) (h : a.size ≤ 1000) : (ByteArray.mk a).size ≤ maxLen := by
  unfold maxLen; show a.size ≤ _; omega

set_option maxHeartbeats 2000000 in
theorem works_any (w : World) (T : Tabs w) :
    Calls Tryd.prog 8 #[] w fun e w' => e = .returned (.bool true) ∧ Below w.heap.size w w' := by
  have n1 := Lib.hid (next_lit ⟨#[226, 130, 172, 120]⟩ 8364 3 0 (by decide) (by decide))
  have n2 := Lib.hid (next_lit ⟨#[192, 128]⟩ 0 0 10 (by decide) (by decide))
  have n3 := Lib.hid (next_lit ⟨#[239, 191, 190]⟩ 0 0 10 (by decide) (by decide))
  have v4 := Lib.hid (valid_lit ⟨#[97, 98, 255, 99]⟩ 2 10 (by decide) (size_lit _ (by decide)))
  have p5 := Lib.hid (put_lit 1114111 #[244, 143, 191, 191] (by decide) (by decide) (by decide))
  have p6 := Lib.hid (put_lit 8 #[] (by decide) (by decide) (by decide))
  have p7 := Lib.hid (put_lit 55296 #[] (by decide) (by decide) (by decide))
  have c8 := Lib.hid (count_lit ⟨#[97, 98, 255, 99]⟩ 2 (by decide) (size_lit _ (by decide)))
  go_enter Tryd.func8, Tryd.ntmps8
  go_wp2_with fail
  refine (n1.out _ T).mono ?_
  rintro e w1 ⟨rfl, h1⟩
  have T1 := T.below h1 (Nat.le_refl _)
  go_wp2_with fail
  refine (n2.out _ T1).mono ?_
  rintro e w2 ⟨rfl, h2⟩
  have T2 := T1.below h2 (Nat.le_refl _)
  have b2 := h1.trans (h2.mono h1.size)
  clear h1 h2 T1
  go_wp2_with fail
  refine (n3.out _ T2).mono ?_
  rintro e w3 ⟨rfl, h3⟩
  have T3 := T2.below h3 (Nat.le_refl _)
  have b3 := b2.trans (h3.mono b2.size)
  clear h3 T2 b2
  go_wp2_with fail
  refine (v4.out _ T3).mono ?_
  rintro e w4 ⟨rfl, h4⟩
  have T4 := T3.below h4 (Nat.le_refl _)
  have b4 := b3.trans (h4.mono b3.size)
  clear h4 T3 b3
  go_wp2_with fail
  refine (p5.out _ T4).mono ?_
  rintro e w5 ⟨rfl, h5⟩
  have T5 := T4.below h5 (Nat.le_refl _)
  have b5 := b4.trans (h5.mono b4.size)
  clear h5 T4 b4
  go_wp2_with fail
  refine (p6.out _ T5).mono ?_
  rintro e w6 ⟨rfl, h6⟩
  have T6 := T5.below h6 (Nat.le_refl _)
  have b6 := b5.trans (h6.mono b5.size)
  clear h6 T5 b5
  go_wp2_with fail
  refine (p7.out _ T6).mono ?_
  rintro e w7 ⟨rfl, h7⟩
  have T7 := T6.below h7 (Nat.le_refl _)
  have b7 := b6.trans (h7.mono b6.size)
  clear h7 T6 b6
  go_wp2_with fail
  refine (c8.out _ T7).mono ?_
  rintro e w8 ⟨rfl, h8⟩
  have b8 := b7.trans (h8.mono b7.size)
  clear h8 T7 b7
  go_wp2
  go_ret
  exact ⟨rfl, b8⟩
end Go.Proofs.YtnlohpemnohmiaaDoor
