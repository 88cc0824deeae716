/- The statements of layer 2 on single texts (NameSplits, NameBegins), and the chapter's examples, walked: each answers true. Condition: a text's length fits. -/
import Derived.Test.YtgccffhnblhopaaNmRef
namespace Go.Proofs.Ytgccffhnblhopaa
open Go.RowKit

theorem size_lit (a : ByteArray) (h : a.size ≤ 300) : a.size ≤ maxLen := by unfold maxLen; omega

def tXmi : ByteArray := ⟨#[120, 109, 105, 58, 105, 100]⟩
theorem c1 (w : World) : Calls Try.prog 8 #[.string ⟨#[120, 109, 105, 58, 105, 100]⟩] w fun e w' => e = .returned (.tuple #[.string ⟨#[120, 109, 105]⟩, .string ⟨#[105, 100]⟩, .bool true]) ∧ Below w.heap.size w w' := by
  have := split_any ⟨#[120, 109, 105, 58, 105, 100]⟩ w (size_lit _ (by decide))
  rw [show Nm.split (ByteArray.mk #[120, 109, 105, 58, 105, 100]).data.toList = ([120, 109, 105], [105, 100], true) by decide] at this
  exact this
theorem c2 (w : World) : Calls Try.prog 8 #[.string ⟨#[110, 97, 109, 101]⟩] w fun e w' => e = .returned (.tuple #[.string ⟨#[]⟩, .string ⟨#[110, 97, 109, 101]⟩, .bool true]) ∧ Below w.heap.size w w' := by
  have := split_any ⟨#[110, 97, 109, 101]⟩ w (size_lit _ (by decide))
  rw [show Nm.split (ByteArray.mk #[110, 97, 109, 101]).data.toList = ([], [110, 97, 109, 101], true) by decide] at this
  exact this
theorem c3 (s : ByteArray) (b : Bool) (hs : s.size ≤ 300) (h : Nm.isn s.data.toList = b) (w : World) : Calls Try.prog 10 #[.string s] w fun e w' => e = .returned (.bool b) ∧ Below w.heap.size w w' := by
  rw [← h]; exact is_any s w (size_lit _ hs)
theorem c4 (s : ByteArray) (n : Nat) (hs : s.size ≤ 300) (h : Nm.bg s.data.toList = n) (w : World) : Calls Try.prog 13 #[.string s] w fun e w' => e = .returned (.int .i64 n) ∧ w = w' := by
  rw [← h]; exact begin_any s w (size_lit _ hs)

set_option maxHeartbeats 2000000 in
set_option maxRecDepth 100000 in
theorem works_any (w : World) :
    Calls Try.prog 7 #[] w fun e w' => e = .returned (.bool true) ∧ Below w.heap.size w w' := by
  have A1 := Lib.hid c1
  have A2 := Lib.hid c2
  have A3 := Lib.hid (c3 ⟨#[49, 97]⟩ false (by decide) (by decide))
  have A4 := Lib.hid (c3 ⟨#[97, 58, 98, 58, 99]⟩ false (by decide) (by decide))
  have A5 := Lib.hid (c3 ⟨#[58, 97]⟩ false (by decide) (by decide))
  have A6 := Lib.hid (c3 ⟨#[97, 45, 98, 46, 99, 95, 57]⟩ true (by decide) (by decide))
  have A7 := Lib.hid (c4 ⟨#[120, 109, 105, 58, 105, 100, 61, 34, 51, 34]⟩ 6 (by decide) (by decide))
  have A8 := Lib.hid (c4 ⟨#[97, 58, 49]⟩ 1 (by decide) (by decide))
  go_enter Try.func7, Try.ntmps7
  go_wp2_with fail
  refine (A1.out _).mono ?_
  rintro e w1 ⟨rfl, b1⟩
  go_wp2_with fail
  refine (A2.out _).mono ?_
  rintro e w2 ⟨rfl, h2⟩
  have b2 := b1.trans (h2.mono b1.size)
  clear b1 h2
  go_wp2_with fail
  refine (A3.out _).mono ?_
  rintro e w3 ⟨rfl, h3⟩
  have b3 := b2.trans (h3.mono b2.size)
  clear b2 h3
  go_wp2_with fail
  refine (A4.out _).mono ?_
  rintro e w4 ⟨rfl, h4⟩
  have b4 := b3.trans (h4.mono b3.size)
  clear b3 h4
  go_wp2_with fail
  refine (A5.out _).mono ?_
  rintro e w5 ⟨rfl, h5⟩
  have b5 := b4.trans (h5.mono b4.size)
  clear b4 h5
  go_wp2_with fail
  refine (A6.out _).mono ?_
  rintro e w6 ⟨rfl, h6⟩
  have b6 := b5.trans (h6.mono b5.size)
  clear b5 h6
  go_wp2_with fail
  refine (A7.out _).mono ?_
  rintro e w7 ⟨rfl, rfl⟩
  go_wp2_with fail
  refine (A8.out _).mono ?_
  rintro e w7 ⟨rfl, rfl⟩
  go_wp2
  go_ret
  exact ⟨rfl, b6⟩

set_option maxHeartbeats 1000000 in
set_option maxRecDepth 100000 in
theorem lawSplits (s : ByteArray) (w : World) (hs : s.size ≤ maxLen) :
    Calls Try.prog 3 #[.string s] w fun e w' => e = .returned (.bool true) ∧ Below w.heap.size w w' := by
  have W := Lib.hid works_any
  by_cases hl : s.size ≤ 300
  · have hl' : ¬ (300 : Int) < (s.size : Int) := by omega
    have HS := Lib.hid (fun w0 => split_any s w0 hs)
    have HR := Lib.hid (fun w0 => rsplit_any s w0 hs)
    have HI := Lib.hid (fun w0 => is_any s w0 hs)
    have HP := Lib.hid (fun w0 => plain_any s w0 hs)
    have HQ := Lib.hid (fun w0 => rplain_any s w0 hs)
    unfold Nm.isn at HI
    generalize Nm.split s.data.toList = d at *
    obtain ⟨p, q, b⟩ := d
    simp only at HS HR HI
    generalize Nm.plain s.data.toList = x at *
    obtain ⟨P, hP⟩ : ∃ P, P = ByteArray.mk p.toArray := ⟨_, rfl⟩
    obtain ⟨Q, hQ⟩ : ∃ Q, Q = ByteArray.mk q.toArray := ⟨_, rfl⟩
    rw [← hP, ← hQ] at HS HR
    unfold maxLen at hs
    clear hP hQ
    go_enter Try.func3, Try.ntmps3
    go_wp2_with fail
    refine (HS.out _).mono ?_
    rintro e w1 ⟨rfl, b1⟩
    go_wp2_with fail
    refine (HR.out _).mono ?_
    rintro e w2 ⟨rfl, h2⟩
    have b2 := b1.trans (h2.mono b1.size)
    clear b1 h2
    go_wp2_with fail
    refine (HI.out _).mono ?_
    rintro e w3 ⟨rfl, h3⟩
    have b3 := b2.trans (h3.mono b2.size)
    clear b2 h3
    go_wp2_with fail
    refine (HP.out _).mono ?_
    rintro e w4 ⟨rfl, rfl⟩
    go_wp2_with fail
    refine (HQ.out _).mono ?_
    rintro e w4 ⟨rfl, rfl⟩
    go_wp2_with fail
    refine (W.out _).mono ?_
    rintro e w4 ⟨rfl, h4⟩
    have b4 := b3.trans (h4.mono b3.size)
    clear b3 h4
    go_wp2
    go_ret
    exact ⟨rfl, b4⟩
  · have hl' : (300 : Int) < (s.size : Int) := by omega
    unfold maxLen at hs
    go_enter Try.func3, Try.ntmps3
    go_wp2_with fail
    refine (W.out _).mono ?_
    rintro e w4 ⟨rfl, h4⟩
    go_wp2
    go_ret
    exact ⟨rfl, h4⟩

set_option maxHeartbeats 1000000 in
set_option maxRecDepth 100000 in
theorem lawBegins (s : ByteArray) (w : World) (hs : s.size ≤ maxLen) :
    Calls Try.prog 4 #[.string s] w fun e w' => e = .returned (.bool true) ∧ Below w.heap.size w w' := by
  have W := Lib.hid works_any
  have HB := Lib.hid (fun w0 => begin_any s w0 hs)
  have HR := Lib.hid (fun w0 => rbegin_any s w0 hs)
  unfold maxLen at hs
  generalize Nm.bg s.data.toList = n at *
  by_cases hl : s.size ≤ 300
  · have hl' : ¬ (300 : Int) < (s.size : Int) := by omega
    go_enter Try.func4, Try.ntmps4
    go_wp2_with fail
    refine (HB.out _).mono ?_
    rintro e w1 ⟨rfl, rfl⟩
    go_wp2_with fail
    refine (HR.out _).mono ?_
    rintro e w2 ⟨rfl, b2⟩
    go_wp2_with fail
    refine (W.out _).mono ?_
    rintro e w4 ⟨rfl, h4⟩
    have b4 := b2.trans (h4.mono b2.size)
    clear b2 h4
    go_wp2
    go_ret
    exact ⟨rfl, b4⟩
  · have hl' : (300 : Int) < (s.size : Int) := by omega
    go_enter Try.func4, Try.ntmps4
    go_wp2_with fail
    refine (W.out _).mono ?_
    rintro e w4 ⟨rfl, h4⟩
    go_wp2
    go_ret
    exact ⟨rfl, h4⟩
end Go.Proofs.Ytgccffhnblhopaa
