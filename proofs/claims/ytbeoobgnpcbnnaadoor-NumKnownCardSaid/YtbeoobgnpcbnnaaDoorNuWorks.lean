/- The statements' works of layer 6, walked: it answers true. Conditions: the listed table and the sentinel hold what their texts lay. -/
import Derived.Test.YtbeoobgnpcbnnaaDoorNuSum
import Derived.Test.YtbeoobgnpcbnnaaDoorNuRText
namespace Go.Proofs.YtbeoobgnpcbnnaaDoor
open Go.RowKit

theorem v1 : Nu.div (-7) 2 = (-3, 0) := by decide
theorem v2 : Nu.mod (-7) 2 = (-1, 0) := by decide
theorem v3 : Nu.mod 7 (-2) = (1, 0) := by decide
theorem v4 : Nu.div (-9223372036854775808) (-1) = (0, 60) := by decide
theorem v5 : Nu.mod (-9223372036854775808) (-1) = (0, 0) := by decide
theorem v6 : Nu.tell (-(-9223372036854775808)) = (0, 60) := by decide
abbrev t0_ : ByteArray := ⟨#[45, 48]⟩
abbrev t1_ : ByteArray := ⟨#[48, 48, 55]⟩
abbrev t2_ : ByteArray := ⟨#[57, 50, 50, 51, 51, 55, 50, 48, 51, 54, 56, 53, 52, 55, 55, 53, 56, 48, 56]⟩
theorem v7 : Nu.prs t0_.data.toList = (0, 2) := by decide
theorem v8 : Nu.prs t1_.data.toList = (0, 2) := by decide
theorem v9 : Nu.prs t2_.data.toList = (0, 60) := by decide
theorem v10 : Nu.sumz 0 [9223372036854775807, 1, -1] = (0, 60) := by decide
theorem rz_new (w : World) (t : TypeId) (l : List Int) : RzI (w.alloc (.cells (l.map (Value.int .i64)).toArray t)) (some ⟨w.heap.size, 0, none⟩) l := fun j hj =>
  ⟨w.heap.size, 0, rfl, by simp, by
    rw [Nat.zero_add, World.cell?_alloc_mark w _ t (0, 0) j, List.getElem?_toArray, List.getElem?_map, List.getElem?_eq_getElem hj]; rfl⟩
set_option maxHeartbeats 4000000 in
set_option maxRecDepth 100000 in
theorem works_nu (w : World) (T : Tb w) :
    Calls Tryd.prog 20 #[] w fun e w' => e = .returned (.bool true) ∧ Below w.heap.size w w' := by
  have H1 := Lib.hid (div_any (-7) 2 w (by decide) (by decide))
  have H2 := Lib.hid (mod_any (-7) 2 w (by decide))
  have H3 := Lib.hid (mod_any 7 (-2) w (by decide))
  have H4 := Lib.hid (div_any (-9223372036854775808) (-1) w (by decide) (by decide))
  have H5 := Lib.hid (mod_any (-9223372036854775808) (-1) w (by decide))
  have H6 := Lib.hid (neg_any (-9223372036854775808) w (by decide))
  have H7 := Lib.hid (fun w0 (T0 : Tb w0) => parse_any t0_ w0 T0 (by decide))
  have H8 := Lib.hid (fun w0 (T0 : Tb w0) => parse_any t1_ w0 T0 (by decide))
  have H9 := Lib.hid (fun w0 (T0 : Tb w0) => parse_any t2_ w0 T0 (by decide))
  have H10 := Lib.hid (fun (w0 : World) (A : Option Addr) (h : RzI w0 A [9223372036854775807, 1, -1]) => sum_any w0 A 3 [9223372036854775807, 1, -1] (by decide) h (by decide))
  rw [v1] at H1
  rw [v2] at H2
  rw [v3] at H3
  rw [v4] at H4
  rw [v5] at H5
  rw [v6] at H6
  rw [v7] at H7
  rw [v8] at H8
  rw [v9] at H9
  rw [v10] at H10
  unfold tv at H1 H2 H3 H4 H5 H6 H7 H8 H9 H10
  have T0 := Lib.hid T
  have B0 := Lib.hid (Below.refl w.heap.size w)
  clear T
  go_enter Tryd.func20, Tryd.ntmps20
  go_wp2_with fail
  refine (H1.out).mono ?_
  rintro e w1 ⟨rfl, rfl⟩
  go_wp2_with fail
  refine (H2.out).mono ?_
  rintro e w1 ⟨rfl, rfl⟩
  go_wp2_with fail
  refine (H3.out).mono ?_
  rintro e w1 ⟨rfl, rfl⟩
  go_wp2_with fail
  refine (H4.out).mono ?_
  rintro e w1 ⟨rfl, rfl⟩
  go_wp2_with fail
  refine (H5.out).mono ?_
  rintro e w1 ⟨rfl, rfl⟩
  go_wp2_with fail
  refine (H6.out).mono ?_
  rintro e w1 ⟨rfl, rfl⟩
  go_wp2_with fail
  refine (H7.out _ T0.out).mono ?_
  rintro e w1 ⟨rfl, h1⟩
  have B1 := Lib.hid (B0.out.trans (h1.mono B0.out.size))
  have T1 := Lib.hid (T0.out.below h1 (Nat.le_refl _))
  clear h1
  go_wp2_with fail
  refine (H8.out _ T1.out).mono ?_
  rintro e w2 ⟨rfl, h2⟩
  have B2 := Lib.hid (B1.out.trans (h2.mono B1.out.size))
  have T2 := Lib.hid (T1.out.below h2 (Nat.le_refl _))
  clear h2
  go_wp2_with fail
  refine (H9.out _ T2.out).mono ?_
  rintro e w3 ⟨rfl, h3⟩
  have B3 := Lib.hid (B2.out.trans (h3.mono B2.out.size))
  have T3 := Lib.hid (T2.out.below h3 (Nat.le_refl _))
  clear h3
  go_wp2_with fail
  refine (H10.out _ _ (rz_new w3 2 [9223372036854775807, 1, -1])).mono ?_
  rintro e w4 ⟨rfl, rfl⟩
  go_wp2
  go_ret
  exact ⟨rfl, B3.out.alloc B3.out.size _⟩
end Go.Proofs.YtbeoobgnpcbnnaaDoor
