/- The statements of layer 1 on single texts and numbers (UtfNext, UtfPut, UtfValid), walked: each answers true. Condition: the tables hold what their texts lay; a text's length fits. -/
import Derived.Test.YtnlohpemnohmiaaDoorU8Works
namespace Go.Proofs.YtnlohpemnohmiaaDoor
open Go.RowKit

theorem nx_bd (l : List UInt8) : 0 ≤ (U8.nx l).1 ∧ (U8.nx l).1 ≤ 1114111 := by
  by_cases h : l = []
  · subst h; decide
  · rcases U8.nx_cases l h with ⟨c, hc, _, _, e⟩ | ⟨e, _, _⟩
    · have := U8.isCh_lo hc
      rw [e]; simp only; omega
    · rw [e]; decide
theorem data_append (a b : ByteArray) : (a ++ b).data.toList = a.data.toList ++ b.data.toList := by
  rw [ByteArray.data_append, Array.toList_append]

set_option maxHeartbeats 1000000 in
theorem lawNext (s : ByteArray) (w : World) (T : Tabs w) (hs : s.size ≤ maxLen) :
    Calls Tryd.prog 3 #[.string s] w fun e w' => e = .returned (.bool true) ∧ Below w.heap.size w w' := by
  have W := Lib.hid works_any
  have HN := Lib.hid (fun w0 T0 => next_any s w0 T0)
  have HR := Lib.hid (fun w0 => rnext_any s w0 hs)
  unfold maxLen at hs
  have hbd := nx_bd s.data.toList
  generalize U8.nx s.data.toList = d at *
  obtain ⟨c, k, z⟩ := d
  simp only at HN HR hbd
  by_cases hl : s.size ≤ 300
  · have hl' : ¬ (300 : Int) < (s.size : Int) := by omega
    go_enter Tryd.func3, Tryd.ntmps3
    go_wp2_with fail
    refine (HN.out _ T).mono ?_
    rintro e w1 ⟨rfl, h1⟩
    have T1 := T.below h1 (Nat.le_refl _)
    go_wp2_with fail
    refine (HR.out _).mono ?_
    rintro e w2 ⟨rfl, h2⟩
    have T2 := T1.below h2 (Nat.le_refl _)
    have b2 := h1.trans (h2.mono h1.size)
    clear h1 h2 T1
    go_wp2_with fail
    refine (W.out _ T2).mono ?_
    rintro e w3 ⟨rfl, h3⟩
    go_wp2
    go_ret
    exact ⟨rfl, b2.trans (h3.mono b2.size)⟩
  · have hl' : (300 : Int) < (s.size : Int) := by omega
    go_enter Tryd.func3, Tryd.ntmps3
    go_wp2_with fail
    refine (W.out _ T).mono ?_
    rintro e w3 ⟨rfl, h3⟩
    go_wp2
    go_ret
    exact ⟨rfl, h3⟩

set_option maxHeartbeats 1000000 in
theorem lawValid (s : ByteArray) (w : World) (T : Tabs w) (hs : s.size ≤ maxLen) :
    Calls Tryd.prog 5 #[.string s] w fun e w' => e = .returned (.bool true) ∧ Below w.heap.size w w' := by
  have W := Lib.hid works_any
  have HV := Lib.hid (fun w0 T0 => valid_any s w0 T0 hs)
  have HR := Lib.hid (fun w0 => rvalid_any s w0 hs)
  have HC := Lib.hid (fun w0 T0 => count_any s w0 T0 hs)
  have HQ := Lib.hid (fun w0 => rcount_any s w0 hs)
  unfold maxLen at hs
  generalize vld s.data.toList = d at *
  obtain ⟨c, z⟩ := d
  simp only at HV HR
  generalize (U8.lead s.data.toList).1 = n at *
  by_cases hl : s.size ≤ 600
  · have hl' : ¬ (600 : Int) < (s.size : Int) := by omega
    go_enter Tryd.func5, Tryd.ntmps5
    go_wp2_with fail
    refine (HV.out _ T).mono ?_
    rintro e w1 ⟨rfl, h1⟩
    have T1 := T.below h1 (Nat.le_refl _)
    go_wp2_with fail
    refine (HR.out _).mono ?_
    rintro e w2 ⟨rfl, h2⟩
    have T2 := T1.below h2 (Nat.le_refl _)
    have b2 := h1.trans (h2.mono h1.size)
    clear h1 h2 T1
    go_wp2_with fail
    refine (HC.out _ T2).mono ?_
    rintro e w3 ⟨rfl, h3⟩
    have T3 := T2.below h3 (Nat.le_refl _)
    have b3 := b2.trans (h3.mono b2.size)
    clear h3 T2 b2
    go_wp2_with fail
    refine (HQ.out _).mono ?_
    rintro e w4 ⟨rfl, h4⟩
    have T4 := T3.below h4 (Nat.le_refl _)
    have b4 := b3.trans (h4.mono b3.size)
    clear h4 T3 b3
    go_wp2_with fail
    refine (W.out _ T4).mono ?_
    rintro e w5 ⟨rfl, h5⟩
    go_wp2
    go_ret
    exact ⟨rfl, b4.trans (h5.mono b4.size)⟩
  · have hl' : (600 : Int) < (s.size : Int) := by omega
    go_enter Tryd.func5, Tryd.ntmps5
    go_wp2_with fail
    refine (W.out _ T).mono ?_
    rintro e w3 ⟨rfl, h3⟩
    go_wp2
    go_ret
    exact ⟨rfl, h3⟩

set_option maxHeartbeats 1000000 in
theorem lawPut (c : Int) (b : ByteArray) (w : World) (T : Tabs w) (hb : b.size ≤ maxLen) (h0 : -2147483648 ≤ c) (h1 : c ≤ 2147483647) :
    Calls Tryd.prog 4 #[.int .i32 c, .string b] w fun e w' => e = .returned (.bool true) ∧ Below w.heap.size w w' := by
  have W := Lib.hid works_any
  have HP := Lib.hid (fun w0 T0 => put_any c w0 T0 h0 h1)
  have HR := Lib.hid (fun w0 => rput_any c w0 h0 h1)
  have HI := Lib.hid (fun w0 => is_any c w0 h0 h1)
  unfold maxLen at hb
  by_cases hl : b.size ≤ 100
  · have hl' : ¬ (100 : Int) < (b.size : Int) := by omega
    cases hc : U8.isCh c with
    | true =>
      rw [hc] at HI
      have hx := U8.nx_put hc b.data.toList
      have hlen := U8.put_length hc
      have hwd := U8.width_bd c
      have he := U8.put_isEmpty c
      rw [hc] at he
      obtain ⟨p, hp⟩ : ∃ p, p = U8.put c := ⟨_, rfl⟩
      rw [← hp] at HP HR hx hlen he
      have hpe : p.isEmpty = false := he
      have hpl : p.length ≤ 4 := by omega
      have HN := Lib.hid (fun w0 T0 => next_any (⟨p.toArray⟩ ++ b) w0 T0)
      rw [data_append, show (ByteArray.mk p.toArray).data.toList = p by simp, hx] at HN
      generalize U8.width c = k at *
      subst hlen
      clear he hp hc hx
      go_enter Tryd.func4, Tryd.ntmps4
      go_wp2_with fail
      refine (HP.out _ T).mono ?_
      rintro e w1 ⟨rfl, h1⟩
      have T1 := T.below h1 (Nat.le_refl _)
      go_wp2_with fail
      refine (HR.out _).mono ?_
      rintro e w2 ⟨rfl, h2⟩
      have T2 := T1.below h2 (Nat.le_refl _)
      have b2 := h1.trans (h2.mono h1.size)
      clear h1 h2 T1
      go_wp2_with fail
      refine (HI.out _).mono ?_
      rintro e w3 ⟨rfl, rfl⟩
      go_wp2_with fail
      refine (HN.out _ T2).mono ?_
      rintro e w3 ⟨rfl, h3⟩
      have T3 := T2.below h3 (Nat.le_refl _)
      have b3 := b2.trans (h3.mono b2.size)
      clear h3 T2 b2
      go_wp2_with fail
      refine (W.out _ T3).mono ?_
      rintro e w5 ⟨rfl, h5⟩
      go_wp2
      go_ret
      exact ⟨rfl, b3.trans (h5.mono b3.size)⟩
    | false =>
      rw [hc] at HI
      rw [U8.put_no hc] at HP HR
      clear hc
      go_enter Tryd.func4, Tryd.ntmps4
      go_wp2_with fail
      refine (HP.out _ T).mono ?_
      rintro e w1 ⟨rfl, h1⟩
      have T1 := T.below h1 (Nat.le_refl _)
      go_wp2_with fail
      refine (HR.out _).mono ?_
      rintro e w2 ⟨rfl, h2⟩
      have T2 := T1.below h2 (Nat.le_refl _)
      have b2 := h1.trans (h2.mono h1.size)
      clear h1 h2 T1
      go_wp2_with fail
      refine (HI.out _).mono ?_
      rintro e w3 ⟨rfl, rfl⟩
      go_wp2_with fail
      refine (W.out _ T2).mono ?_
      rintro e w5 ⟨rfl, h5⟩
      go_wp2
      go_ret
      exact ⟨rfl, b2.trans (h5.mono b2.size)⟩
  · have hl' : (100 : Int) < (b.size : Int) := by omega
    go_enter Tryd.func4, Tryd.ntmps4
    go_wp2_with fail
    refine (W.out _ T).mono ?_
    rintro e w3 ⟨rfl, h3⟩
    go_wp2
    go_ret
    exact ⟨rfl, h3⟩
end Go.Proofs.YtnlohpemnohmiaaDoor
