/- The statement NameBack, walked, case by case: it answers true. Condition: texts' lengths fit. -/
import Derived.Test.YtgccffhnblhopaaNmLaws
import Derived.Laws.BytesArg
namespace Go.Proofs.Ytgccffhnblhopaa
open Go.RowKit

def toB (c : Int) : UInt8 := UInt8.ofNat c.toNat
theorem z_toB {c : Int} (h0 : 0 ≤ c) (h1 : c ≤ 255) : Nm.z (toB c) = c := by
  unfold Nm.z toB
  rw [UInt8.toNat_ofNat']
  omega
/-- string([]byte{c}), of a row that was just made. -/
theorem conv_new (w : World) (xs : List Int) (cap : Nat) :
    (convert 28 9 (.slice (some ⟨w.heap.size, 0, none⟩) xs.length cap)).run Try.prog (w.alloc (.cells (xs.map (Value.int .u8)).toArray 5)) = .ok (.string ⟨(xs.map toB).toArray⟩) (w.alloc (.cells (xs.map (Value.int .u8)).toArray 5)) := by
  have h := run_convert_bytes_arg (P := Try.prog) (w.alloc (.cells (xs.map (Value.int .u8)).toArray 5)) 28 5 Try.underlying28 Try.underlying5 w.heap.size 0 xs.length cap xs rfl (fun i hi => by
    have := World.cell?_alloc_mark w (xs.map (Value.int .u8)).toArray 5 (0, 0) (0 + i)
    rw [this]
    simp [hi]) 9 Try.underlying9
  exact h
theorem conv1 (w : World) (a : Int) : (convert 28 9 (.slice (some ⟨w.heap.size, 0, none⟩) 1 1)).run Try.prog (w.alloc (.cells #[.int .u8 a] 5)) = .ok (.string ⟨#[toB a]⟩) (w.alloc (.cells #[.int .u8 a] 5)) := conv_new w [a] 1
theorem data_append (a b : ByteArray) : (a ++ b).data.toList = a.data.toList ++ b.data.toList := by
  rw [ByteArray.data_append, Array.toList_append]
theorem join_data (s t : ByteArray) (c : UInt8) : (s ++ ⟨#[c]⟩ ++ t).data.toList = s.data.toList ++ c :: t.data.toList := by
  rw [data_append, data_append]
  simp
theorem join_size (s t : ByteArray) (c : UInt8) : (s ++ ⟨#[c]⟩ ++ t).size = s.size + 1 + t.size := by
  rw [Lib.size_eq, join_data, List.length_append, List.length_cons, ← Lib.size_eq, ← Lib.size_eq]; omega
theorem ne_empty {s : ByteArray} (h : s.data.toList ≠ []) : s.toList.isEmpty = false := by
  rw [Lib.toList_data]
  cases e : s.data.toList with
  | nil => exact absurd e h
  | cons _ _ => rfl

/-- Texts that are too long. -/
theorem back_long (s t : ByteArray) (c : Int) (w : World) (hs : s.size ≤ maxLen) (ht : t.size ≤ maxLen) (hl : 200 < s.size ∨ 200 < t.size) :
    Calls Try.prog 5 #[.string s, .string t, .int .u8 c] w fun e w' => e = .returned (.bool true) ∧ Below w.heap.size w w' := by
  have W := Lib.hid works_any
  unfold maxLen at hs ht
  by_cases h1 : 200 < s.size
  · have h1' : (200 : Int) < (s.size : Int) := by omega
    go_enter Try.func5, Try.ntmps5
    go_wp2_with fail
    refine (W.out _).mono ?_
    rintro e w4 ⟨rfl, h4⟩
    go_wp2
    go_ret
    exact ⟨rfl, h4⟩
  · have h1' : ¬ (200 : Int) < (s.size : Int) := by omega
    have h2' : (200 : Int) < (t.size : Int) := by omega
    go_enter Try.func5, Try.ntmps5
    go_wp2_with fail
    refine (W.out _).mono ?_
    rintro e w4 ⟨rfl, h4⟩
    go_wp2
    go_ret
    exact ⟨rfl, h4⟩

set_option maxHeartbeats 1000000 in
set_option maxRecDepth 100000 in
theorem back_none (s t : ByteArray) (c : Int) (w : World) (hs : s.size ≤ 200) (ht : t.size ≤ 200)
    (hn : Nm.isn s.data.toList = false) :
    Calls Try.prog 5 #[.string s, .string t, .int .u8 c] w fun e w' => e = .returned (.bool true) ∧ Below w.heap.size w w' := by
  have W := Lib.hid works_any
  have hs1 : s.size ≤ maxLen := by unfold maxLen; omega
  have ht1 : t.size ≤ maxLen := by unfold maxLen; omega
  have hs' : ¬ (200 : Int) < (s.size : Int) := by omega
  have ht' : ¬ (200 : Int) < (t.size : Int) := by omega
  have hp : Nm.plain s.data.toList = false := by
    cases e : Nm.plain s.data.toList with
    | false => rfl
    | true => rw [(Nm.isn_iff _).2 (Or.inl e)] at hn; cases hn
  have HP := Lib.hid (fun w0 => plain_any s w0 hs1)
  have HS := Lib.hid (fun w0 => split_any s w0 hs1)
  have HI := Lib.hid (fun w0 => is_any s w0 hs1)
  rw [hp] at HP
  rw [Nm.split_isn_false hn] at HS
  rw [hn] at HI
  clear hn hp hs1 ht1
  go_enter Try.func5, Try.ntmps5
  go_wp2_with fail
  refine (HP.out _).mono ?_
  rintro e wq ⟨rfl, rfl⟩
  go_wp2_with fail
  refine (HS.out _).mono ?_
  rintro e w1 ⟨rfl, b1⟩
  go_wp2_with fail
  refine (HI.out _).mono ?_
  rintro e w2 ⟨rfl, h2⟩
  have b2 := b1.trans (h2.mono b1.size)
  clear b1 h2
  go_wp2_with fail
  refine (W.out _).mono ?_
  rintro e w3 ⟨rfl, h3⟩
  have b3 := b2.trans (h3.mono b2.size)
  clear b2 h3
  go_wp2
  go_ret
  exact ⟨rfl, b3⟩

set_option maxHeartbeats 1000000 in
set_option maxRecDepth 100000 in
theorem back_plain_no_may (s t : ByteArray) (c : Int) (w : World) (hs : s.size ≤ 200) (ht : t.size ≤ 200)
    (h0 : 0 ≤ c) (h1 : c ≤ 255) (hm : Nm.mayZ c = true) (hp : Nm.plain s.data.toList = true) (hy : Nm.plain t.data.toList = false) :
    Calls Try.prog 5 #[.string s, .string t, .int .u8 c] w fun e w' => e = .returned (.bool true) ∧ Below w.heap.size w w' := by
  have W := Lib.hid works_any
  have hs1 : s.size ≤ maxLen := by unfold maxLen; omega
  have ht1 : t.size ≤ maxLen := by unfold maxLen; omega
  have hs' : ¬ (200 : Int) < (s.size : Int) := by omega
  have ht' : ¬ (200 : Int) < (t.size : Int) := by omega
  have hisn : Nm.isn s.data.toList = true := (Nm.isn_iff _).2 (Or.inl hp)
  have HP := Lib.hid (fun w0 => plain_any s w0 hs1)
  have HS := Lib.hid (fun w0 => split_any s w0 hs1)
  have HT := Lib.hid (fun w0 => plain_any t w0 ht1)
  rw [hp] at HP
  rw [hy] at HT
  rw [Nm.split_plain hp] at HS
  simp only [mk_data] at HS
  have HM := Lib.hid (fun w0 => may_any c w0 h0 h1)
  rw [hm] at HM
  clear hm
  clear hp hy hisn hs1 ht1
  go_enter Try.func5, Try.ntmps5
  go_wp2_with fail
  refine (HP.out _).mono ?_
  rintro e wq ⟨rfl, rfl⟩
  go_wp2_with fail
  refine (HT.out _).mono ?_
  rintro e wq ⟨rfl, rfl⟩
  go_wp2_with fail
  refine (HS.out _).mono ?_
  rintro e w1 ⟨rfl, b1⟩
  go_wp2_with fail
  refine (HP.out _).mono ?_
  rintro e wq ⟨rfl, rfl⟩
  go_wp2_with fail
  refine (HM.out _).mono ?_
  rintro e wq ⟨rfl, rfl⟩
  go_wp2_with fail
  refine (W.out _).mono ?_
  rintro e w2 ⟨rfl, h2⟩
  have b2 := b1.trans (h2.mono b1.size)
  clear b1 h2
  go_wp2
  go_ret
  exact ⟨rfl, b2⟩

set_option maxHeartbeats 1000000 in
set_option maxRecDepth 100000 in
theorem back_plain_no_colon (s t : ByteArray) (c : Int) (w : World) (hs : s.size ≤ 200) (ht : t.size ≤ 200)
    (h0 : 0 ≤ c) (h1 : c ≤ 255) (hm : c = 58) (hp : Nm.plain s.data.toList = true) (hy : Nm.plain t.data.toList = false) :
    Calls Try.prog 5 #[.string s, .string t, .int .u8 c] w fun e w' => e = .returned (.bool true) ∧ Below w.heap.size w w' := by
  have W := Lib.hid works_any
  have hs1 : s.size ≤ maxLen := by unfold maxLen; omega
  have ht1 : t.size ≤ maxLen := by unfold maxLen; omega
  have hs' : ¬ (200 : Int) < (s.size : Int) := by omega
  have ht' : ¬ (200 : Int) < (t.size : Int) := by omega
  have hisn : Nm.isn s.data.toList = true := (Nm.isn_iff _).2 (Or.inl hp)
  have HP := Lib.hid (fun w0 => plain_any s w0 hs1)
  have HS := Lib.hid (fun w0 => split_any s w0 hs1)
  have HT := Lib.hid (fun w0 => plain_any t w0 ht1)
  rw [hp] at HP
  rw [hy] at HT
  rw [Nm.split_plain hp] at HS
  simp only [mk_data] at HS
  subst hm
  have HM := Lib.hid (fun w0 => may_any 58 w0 h0 h1)
  rw [show Nm.mayZ 58 = false by decide] at HM
  clear hp hy hisn hs1 ht1
  go_enter Try.func5, Try.ntmps5
  go_wp2_with fail
  refine (HP.out _).mono ?_
  rintro e wq ⟨rfl, rfl⟩
  go_wp2_with fail
  refine (HT.out _).mono ?_
  rintro e wq ⟨rfl, rfl⟩
  go_wp2_with fail
  refine (HS.out _).mono ?_
  rintro e w1 ⟨rfl, b1⟩
  go_wp2_with fail
  refine (HP.out _).mono ?_
  rintro e wq ⟨rfl, rfl⟩
  go_wp2_with fail
  refine (HM.out _).mono ?_
  rintro e wq ⟨rfl, rfl⟩
  go_wp2_with fail
  refine (W.out _).mono ?_
  rintro e w2 ⟨rfl, h2⟩
  have b2 := b1.trans (h2.mono b1.size)
  clear b1 h2
  go_wp2
  go_ret
  exact ⟨rfl, b2⟩

set_option maxHeartbeats 1000000 in
set_option maxRecDepth 100000 in
theorem back_plain_no_else (s t : ByteArray) (c : Int) (w : World) (hs : s.size ≤ 200) (ht : t.size ≤ 200)
    (h0 : 0 ≤ c) (h1 : c ≤ 255) (hm : Nm.mayZ c = false) (hc : c ≠ 58) (hp : Nm.plain s.data.toList = true) (hy : Nm.plain t.data.toList = false) :
    Calls Try.prog 5 #[.string s, .string t, .int .u8 c] w fun e w' => e = .returned (.bool true) ∧ Below w.heap.size w w' := by
  have W := Lib.hid works_any
  have hs1 : s.size ≤ maxLen := by unfold maxLen; omega
  have ht1 : t.size ≤ maxLen := by unfold maxLen; omega
  have hs' : ¬ (200 : Int) < (s.size : Int) := by omega
  have ht' : ¬ (200 : Int) < (t.size : Int) := by omega
  have hisn : Nm.isn s.data.toList = true := (Nm.isn_iff _).2 (Or.inl hp)
  have HP := Lib.hid (fun w0 => plain_any s w0 hs1)
  have HS := Lib.hid (fun w0 => split_any s w0 hs1)
  have HT := Lib.hid (fun w0 => plain_any t w0 ht1)
  rw [hp] at HP
  rw [hy] at HT
  rw [Nm.split_plain hp] at HS
  simp only [mk_data] at HS
  have HM := Lib.hid (fun w0 => may_any c w0 h0 h1)
  rw [hm] at HM
  have hcb : (c == 58) = false := beq_eq_false_iff_ne.2 hc
  have HB := Lib.hid (fun w0 => begin_any (s ++ ⟨#[toB c]⟩ ++ t) w0 (by unfold maxLen; rw [join_size]; omega))
  have hne : toB c ≠ 58 := fun e => hc (by have := z_toB h0 h1; rw [e] at this; exact this.symm)
  rw [join_data, Nm.bg_behind hisn (by rw [z_toB h0 h1]; exact hm) hne, ← Lib.size_eq] at HB
  have HG := Lib.hid (fun w0 => begin_any s w0 hs1)
  rw [Nm.bg_self hisn, ← Lib.size_eq] at HG
  have k1 := conv1
  clear hm hc hne
  clear hp hy hisn hs1 ht1
  go_enter Try.func5, Try.ntmps5
  go_wp2_with fail
  refine (HP.out _).mono ?_
  rintro e wq ⟨rfl, rfl⟩
  go_wp2_with fail
  refine (HT.out _).mono ?_
  rintro e wq ⟨rfl, rfl⟩
  go_wp2_with fail
  refine (HS.out _).mono ?_
  rintro e w1 ⟨rfl, b1⟩
  go_wp2_with fail
  refine (HP.out _).mono ?_
  rintro e wq ⟨rfl, rfl⟩
  go_wp2_with fail
  refine (HM.out _).mono ?_
  rintro e wq ⟨rfl, rfl⟩
  go_wp2_with fail
  refine (HB.out _).mono ?_
  rintro e wq ⟨rfl, rfl⟩
  have b9 := b1.trans (((Below.refl w1.heap.size w1).alloc (Nat.le_refl _) (.cells #[.int .u8 c] 5)).mono b1.size)
  clear b1
  go_wp2_with fail
  refine (HG.out _).mono ?_
  rintro e wq ⟨rfl, rfl⟩
  go_wp2_with fail
  refine (W.out _).mono ?_
  rintro e w10 ⟨rfl, h10⟩
  have b10 := b9.trans (h10.mono b9.size)
  clear b9 h10
  go_wp2
  go_ret
  exact ⟨rfl, b10⟩

set_option maxHeartbeats 1000000 in
set_option maxRecDepth 100000 in
theorem back_plain_short_may (s t : ByteArray) (c : Int) (w : World) (hs : s.size ≤ 200) (ht : t.size ≤ 200)
    (h0 : 0 ≤ c) (h1 : c ≤ 255) (hm : Nm.mayZ c = true) (hp : Nm.plain s.data.toList = true) (hy : Nm.plain t.data.toList = true) (hj : s.size + 1 + t.size ≤ 64) :
    Calls Try.prog 5 #[.string s, .string t, .int .u8 c] w fun e w' => e = .returned (.bool true) ∧ Below w.heap.size w w' := by
  have W := Lib.hid works_any
  have hs1 : s.size ≤ maxLen := by unfold maxLen; omega
  have ht1 : t.size ≤ maxLen := by unfold maxLen; omega
  have hs' : ¬ (200 : Int) < (s.size : Int) := by omega
  have ht' : ¬ (200 : Int) < (t.size : Int) := by omega
  have hisn : Nm.isn s.data.toList = true := (Nm.isn_iff _).2 (Or.inl hp)
  have HP := Lib.hid (fun w0 => plain_any s w0 hs1)
  have HS := Lib.hid (fun w0 => split_any s w0 hs1)
  have HT := Lib.hid (fun w0 => plain_any t w0 ht1)
  rw [hp] at HP
  rw [hy] at HT
  rw [Nm.split_plain hp] at HS
  simp only [mk_data] at HS
  have HJ := Lib.hid (fun w0 => split_any (s ++ ⟨#[58]⟩ ++ t) w0 (by unfold maxLen; rw [join_size]; omega))
  rw [join_data, Nm.split_join hp hy, ← Lib.size_eq, ← Lib.size_eq] at HJ
  rw [if_pos hj] at HJ
  simp only [mk_data] at HJ
  have hj' : (s.size : Int) + 1 + (t.size : Int) ≤ 64 := by omega
  clear hj
  have HM := Lib.hid (fun w0 => may_any c w0 h0 h1)
  rw [hm] at HM
  clear hm
  clear hp hy hisn hs1 ht1
  go_enter Try.func5, Try.ntmps5
  go_wp2_with fail
  refine (HP.out _).mono ?_
  rintro e wq ⟨rfl, rfl⟩
  go_wp2_with fail
  refine (HT.out _).mono ?_
  rintro e wq ⟨rfl, rfl⟩
  go_wp2_with fail
  refine (HJ.out _).mono ?_
  rintro e w1 ⟨rfl, b1⟩
  go_wp2_with fail
  refine (HS.out _).mono ?_
  rintro e w2 ⟨rfl, h2⟩
  have b2 := b1.trans (h2.mono b1.size)
  clear b1 h2
  go_wp2_with fail
  refine (HP.out _).mono ?_
  rintro e wq ⟨rfl, rfl⟩
  go_wp2_with fail
  refine (HM.out _).mono ?_
  rintro e wq ⟨rfl, rfl⟩
  go_wp2_with fail
  refine (W.out _).mono ?_
  rintro e w3 ⟨rfl, h3⟩
  have b3 := b2.trans (h3.mono b2.size)
  clear b2 h3
  go_wp2
  go_ret
  exact ⟨rfl, b3⟩

set_option maxHeartbeats 1000000 in
set_option maxRecDepth 100000 in
theorem back_plain_short_colon (s t : ByteArray) (c : Int) (w : World) (hs : s.size ≤ 200) (ht : t.size ≤ 200)
    (h0 : 0 ≤ c) (h1 : c ≤ 255) (hm : c = 58) (hp : Nm.plain s.data.toList = true) (hy : Nm.plain t.data.toList = true) (hj : s.size + 1 + t.size ≤ 64) :
    Calls Try.prog 5 #[.string s, .string t, .int .u8 c] w fun e w' => e = .returned (.bool true) ∧ Below w.heap.size w w' := by
  have W := Lib.hid works_any
  have hs1 : s.size ≤ maxLen := by unfold maxLen; omega
  have ht1 : t.size ≤ maxLen := by unfold maxLen; omega
  have hs' : ¬ (200 : Int) < (s.size : Int) := by omega
  have ht' : ¬ (200 : Int) < (t.size : Int) := by omega
  have hisn : Nm.isn s.data.toList = true := (Nm.isn_iff _).2 (Or.inl hp)
  have HP := Lib.hid (fun w0 => plain_any s w0 hs1)
  have HS := Lib.hid (fun w0 => split_any s w0 hs1)
  have HT := Lib.hid (fun w0 => plain_any t w0 ht1)
  rw [hp] at HP
  rw [hy] at HT
  rw [Nm.split_plain hp] at HS
  simp only [mk_data] at HS
  have HJ := Lib.hid (fun w0 => split_any (s ++ ⟨#[58]⟩ ++ t) w0 (by unfold maxLen; rw [join_size]; omega))
  rw [join_data, Nm.split_join hp hy, ← Lib.size_eq, ← Lib.size_eq] at HJ
  rw [if_pos hj] at HJ
  simp only [mk_data] at HJ
  have hj' : (s.size : Int) + 1 + (t.size : Int) ≤ 64 := by omega
  clear hj
  subst hm
  have HM := Lib.hid (fun w0 => may_any 58 w0 h0 h1)
  rw [show Nm.mayZ 58 = false by decide] at HM
  clear hp hy hisn hs1 ht1
  go_enter Try.func5, Try.ntmps5
  go_wp2_with fail
  refine (HP.out _).mono ?_
  rintro e wq ⟨rfl, rfl⟩
  go_wp2_with fail
  refine (HT.out _).mono ?_
  rintro e wq ⟨rfl, rfl⟩
  go_wp2_with fail
  refine (HJ.out _).mono ?_
  rintro e w1 ⟨rfl, b1⟩
  go_wp2_with fail
  refine (HS.out _).mono ?_
  rintro e w2 ⟨rfl, h2⟩
  have b2 := b1.trans (h2.mono b1.size)
  clear b1 h2
  go_wp2_with fail
  refine (HP.out _).mono ?_
  rintro e wq ⟨rfl, rfl⟩
  go_wp2_with fail
  refine (HM.out _).mono ?_
  rintro e wq ⟨rfl, rfl⟩
  go_wp2_with fail
  refine (W.out _).mono ?_
  rintro e w3 ⟨rfl, h3⟩
  have b3 := b2.trans (h3.mono b2.size)
  clear b2 h3
  go_wp2
  go_ret
  exact ⟨rfl, b3⟩

set_option maxHeartbeats 1000000 in
set_option maxRecDepth 100000 in
theorem back_plain_short_else (s t : ByteArray) (c : Int) (w : World) (hs : s.size ≤ 200) (ht : t.size ≤ 200)
    (h0 : 0 ≤ c) (h1 : c ≤ 255) (hm : Nm.mayZ c = false) (hc : c ≠ 58) (hp : Nm.plain s.data.toList = true) (hy : Nm.plain t.data.toList = true) (hj : s.size + 1 + t.size ≤ 64) :
    Calls Try.prog 5 #[.string s, .string t, .int .u8 c] w fun e w' => e = .returned (.bool true) ∧ Below w.heap.size w w' := by
  have W := Lib.hid works_any
  have hs1 : s.size ≤ maxLen := by unfold maxLen; omega
  have ht1 : t.size ≤ maxLen := by unfold maxLen; omega
  have hs' : ¬ (200 : Int) < (s.size : Int) := by omega
  have ht' : ¬ (200 : Int) < (t.size : Int) := by omega
  have hisn : Nm.isn s.data.toList = true := (Nm.isn_iff _).2 (Or.inl hp)
  have HP := Lib.hid (fun w0 => plain_any s w0 hs1)
  have HS := Lib.hid (fun w0 => split_any s w0 hs1)
  have HT := Lib.hid (fun w0 => plain_any t w0 ht1)
  rw [hp] at HP
  rw [hy] at HT
  rw [Nm.split_plain hp] at HS
  simp only [mk_data] at HS
  have HJ := Lib.hid (fun w0 => split_any (s ++ ⟨#[58]⟩ ++ t) w0 (by unfold maxLen; rw [join_size]; omega))
  rw [join_data, Nm.split_join hp hy, ← Lib.size_eq, ← Lib.size_eq] at HJ
  rw [if_pos hj] at HJ
  simp only [mk_data] at HJ
  have hj' : (s.size : Int) + 1 + (t.size : Int) ≤ 64 := by omega
  clear hj
  have HM := Lib.hid (fun w0 => may_any c w0 h0 h1)
  rw [hm] at HM
  have hcb : (c == 58) = false := beq_eq_false_iff_ne.2 hc
  have HB := Lib.hid (fun w0 => begin_any (s ++ ⟨#[toB c]⟩ ++ t) w0 (by unfold maxLen; rw [join_size]; omega))
  have hne : toB c ≠ 58 := fun e => hc (by have := z_toB h0 h1; rw [e] at this; exact this.symm)
  rw [join_data, Nm.bg_behind hisn (by rw [z_toB h0 h1]; exact hm) hne, ← Lib.size_eq] at HB
  have HG := Lib.hid (fun w0 => begin_any s w0 hs1)
  rw [Nm.bg_self hisn, ← Lib.size_eq] at HG
  have k1 := conv1
  clear hm hc hne
  clear hp hy hisn hs1 ht1
  go_enter Try.func5, Try.ntmps5
  go_wp2_with fail
  refine (HP.out _).mono ?_
  rintro e wq ⟨rfl, rfl⟩
  go_wp2_with fail
  refine (HT.out _).mono ?_
  rintro e wq ⟨rfl, rfl⟩
  go_wp2_with fail
  refine (HJ.out _).mono ?_
  rintro e w1 ⟨rfl, b1⟩
  go_wp2_with fail
  refine (HS.out _).mono ?_
  rintro e w2 ⟨rfl, h2⟩
  have b2 := b1.trans (h2.mono b1.size)
  clear b1 h2
  go_wp2_with fail
  refine (HP.out _).mono ?_
  rintro e wq ⟨rfl, rfl⟩
  go_wp2_with fail
  refine (HM.out _).mono ?_
  rintro e wq ⟨rfl, rfl⟩
  go_wp2_with fail
  refine (HB.out _).mono ?_
  rintro e wq ⟨rfl, rfl⟩
  have b9 := b2.trans (((Below.refl w2.heap.size w2).alloc (Nat.le_refl _) (.cells #[.int .u8 c] 5)).mono b2.size)
  clear b2
  go_wp2_with fail
  refine (HG.out _).mono ?_
  rintro e wq ⟨rfl, rfl⟩
  go_wp2_with fail
  refine (W.out _).mono ?_
  rintro e w10 ⟨rfl, h10⟩
  have b10 := b9.trans (h10.mono b9.size)
  clear b9 h10
  go_wp2
  go_ret
  exact ⟨rfl, b10⟩

set_option maxHeartbeats 1000000 in
set_option maxRecDepth 100000 in
theorem back_plain_long_may (s t : ByteArray) (c : Int) (w : World) (hs : s.size ≤ 200) (ht : t.size ≤ 200)
    (h0 : 0 ≤ c) (h1 : c ≤ 255) (hm : Nm.mayZ c = true) (hp : Nm.plain s.data.toList = true) (hy : Nm.plain t.data.toList = true) (hj : 64 < s.size + 1 + t.size) :
    Calls Try.prog 5 #[.string s, .string t, .int .u8 c] w fun e w' => e = .returned (.bool true) ∧ Below w.heap.size w w' := by
  have W := Lib.hid works_any
  have hs1 : s.size ≤ maxLen := by unfold maxLen; omega
  have ht1 : t.size ≤ maxLen := by unfold maxLen; omega
  have hs' : ¬ (200 : Int) < (s.size : Int) := by omega
  have ht' : ¬ (200 : Int) < (t.size : Int) := by omega
  have hisn : Nm.isn s.data.toList = true := (Nm.isn_iff _).2 (Or.inl hp)
  have HP := Lib.hid (fun w0 => plain_any s w0 hs1)
  have HS := Lib.hid (fun w0 => split_any s w0 hs1)
  have HT := Lib.hid (fun w0 => plain_any t w0 ht1)
  rw [hp] at HP
  rw [hy] at HT
  rw [Nm.split_plain hp] at HS
  simp only [mk_data] at HS
  have HJ := Lib.hid (fun w0 => split_any (s ++ ⟨#[58]⟩ ++ t) w0 (by unfold maxLen; rw [join_size]; omega))
  rw [join_data, Nm.split_join hp hy, ← Lib.size_eq, ← Lib.size_eq] at HJ
  rw [if_neg (by omega)] at HJ
  simp only at HJ
  have hj' : ¬ (s.size : Int) + 1 + (t.size : Int) ≤ 64 := by omega
  clear hj
  have HM := Lib.hid (fun w0 => may_any c w0 h0 h1)
  rw [hm] at HM
  clear hm
  clear hp hy hisn hs1 ht1
  go_enter Try.func5, Try.ntmps5
  go_wp2_with fail
  refine (HP.out _).mono ?_
  rintro e wq ⟨rfl, rfl⟩
  go_wp2_with fail
  refine (HT.out _).mono ?_
  rintro e wq ⟨rfl, rfl⟩
  go_wp2_with fail
  refine (HJ.out _).mono ?_
  rintro e w1 ⟨rfl, b1⟩
  go_wp2_with fail
  refine (HS.out _).mono ?_
  rintro e w2 ⟨rfl, h2⟩
  have b2 := b1.trans (h2.mono b1.size)
  clear b1 h2
  go_wp2_with fail
  refine (HP.out _).mono ?_
  rintro e wq ⟨rfl, rfl⟩
  go_wp2_with fail
  refine (HM.out _).mono ?_
  rintro e wq ⟨rfl, rfl⟩
  go_wp2_with fail
  refine (W.out _).mono ?_
  rintro e w3 ⟨rfl, h3⟩
  have b3 := b2.trans (h3.mono b2.size)
  clear b2 h3
  go_wp2
  go_ret
  exact ⟨rfl, b3⟩

set_option maxHeartbeats 1000000 in
set_option maxRecDepth 100000 in
theorem back_plain_long_colon (s t : ByteArray) (c : Int) (w : World) (hs : s.size ≤ 200) (ht : t.size ≤ 200)
    (h0 : 0 ≤ c) (h1 : c ≤ 255) (hm : c = 58) (hp : Nm.plain s.data.toList = true) (hy : Nm.plain t.data.toList = true) (hj : 64 < s.size + 1 + t.size) :
    Calls Try.prog 5 #[.string s, .string t, .int .u8 c] w fun e w' => e = .returned (.bool true) ∧ Below w.heap.size w w' := by
  have W := Lib.hid works_any
  have hs1 : s.size ≤ maxLen := by unfold maxLen; omega
  have ht1 : t.size ≤ maxLen := by unfold maxLen; omega
  have hs' : ¬ (200 : Int) < (s.size : Int) := by omega
  have ht' : ¬ (200 : Int) < (t.size : Int) := by omega
  have hisn : Nm.isn s.data.toList = true := (Nm.isn_iff _).2 (Or.inl hp)
  have HP := Lib.hid (fun w0 => plain_any s w0 hs1)
  have HS := Lib.hid (fun w0 => split_any s w0 hs1)
  have HT := Lib.hid (fun w0 => plain_any t w0 ht1)
  rw [hp] at HP
  rw [hy] at HT
  rw [Nm.split_plain hp] at HS
  simp only [mk_data] at HS
  have HJ := Lib.hid (fun w0 => split_any (s ++ ⟨#[58]⟩ ++ t) w0 (by unfold maxLen; rw [join_size]; omega))
  rw [join_data, Nm.split_join hp hy, ← Lib.size_eq, ← Lib.size_eq] at HJ
  rw [if_neg (by omega)] at HJ
  simp only at HJ
  have hj' : ¬ (s.size : Int) + 1 + (t.size : Int) ≤ 64 := by omega
  clear hj
  subst hm
  have HM := Lib.hid (fun w0 => may_any 58 w0 h0 h1)
  rw [show Nm.mayZ 58 = false by decide] at HM
  clear hp hy hisn hs1 ht1
  go_enter Try.func5, Try.ntmps5
  go_wp2_with fail
  refine (HP.out _).mono ?_
  rintro e wq ⟨rfl, rfl⟩
  go_wp2_with fail
  refine (HT.out _).mono ?_
  rintro e wq ⟨rfl, rfl⟩
  go_wp2_with fail
  refine (HJ.out _).mono ?_
  rintro e w1 ⟨rfl, b1⟩
  go_wp2_with fail
  refine (HS.out _).mono ?_
  rintro e w2 ⟨rfl, h2⟩
  have b2 := b1.trans (h2.mono b1.size)
  clear b1 h2
  go_wp2_with fail
  refine (HP.out _).mono ?_
  rintro e wq ⟨rfl, rfl⟩
  go_wp2_with fail
  refine (HM.out _).mono ?_
  rintro e wq ⟨rfl, rfl⟩
  go_wp2_with fail
  refine (W.out _).mono ?_
  rintro e w3 ⟨rfl, h3⟩
  have b3 := b2.trans (h3.mono b2.size)
  clear b2 h3
  go_wp2
  go_ret
  exact ⟨rfl, b3⟩

set_option maxHeartbeats 1000000 in
set_option maxRecDepth 100000 in
theorem back_plain_long_else (s t : ByteArray) (c : Int) (w : World) (hs : s.size ≤ 200) (ht : t.size ≤ 200)
    (h0 : 0 ≤ c) (h1 : c ≤ 255) (hm : Nm.mayZ c = false) (hc : c ≠ 58) (hp : Nm.plain s.data.toList = true) (hy : Nm.plain t.data.toList = true) (hj : 64 < s.size + 1 + t.size) :
    Calls Try.prog 5 #[.string s, .string t, .int .u8 c] w fun e w' => e = .returned (.bool true) ∧ Below w.heap.size w w' := by
  have W := Lib.hid works_any
  have hs1 : s.size ≤ maxLen := by unfold maxLen; omega
  have ht1 : t.size ≤ maxLen := by unfold maxLen; omega
  have hs' : ¬ (200 : Int) < (s.size : Int) := by omega
  have ht' : ¬ (200 : Int) < (t.size : Int) := by omega
  have hisn : Nm.isn s.data.toList = true := (Nm.isn_iff _).2 (Or.inl hp)
  have HP := Lib.hid (fun w0 => plain_any s w0 hs1)
  have HS := Lib.hid (fun w0 => split_any s w0 hs1)
  have HT := Lib.hid (fun w0 => plain_any t w0 ht1)
  rw [hp] at HP
  rw [hy] at HT
  rw [Nm.split_plain hp] at HS
  simp only [mk_data] at HS
  have HJ := Lib.hid (fun w0 => split_any (s ++ ⟨#[58]⟩ ++ t) w0 (by unfold maxLen; rw [join_size]; omega))
  rw [join_data, Nm.split_join hp hy, ← Lib.size_eq, ← Lib.size_eq] at HJ
  rw [if_neg (by omega)] at HJ
  simp only at HJ
  have hj' : ¬ (s.size : Int) + 1 + (t.size : Int) ≤ 64 := by omega
  clear hj
  have HM := Lib.hid (fun w0 => may_any c w0 h0 h1)
  rw [hm] at HM
  have hcb : (c == 58) = false := beq_eq_false_iff_ne.2 hc
  have HB := Lib.hid (fun w0 => begin_any (s ++ ⟨#[toB c]⟩ ++ t) w0 (by unfold maxLen; rw [join_size]; omega))
  have hne : toB c ≠ 58 := fun e => hc (by have := z_toB h0 h1; rw [e] at this; exact this.symm)
  rw [join_data, Nm.bg_behind hisn (by rw [z_toB h0 h1]; exact hm) hne, ← Lib.size_eq] at HB
  have HG := Lib.hid (fun w0 => begin_any s w0 hs1)
  rw [Nm.bg_self hisn, ← Lib.size_eq] at HG
  have k1 := conv1
  clear hm hc hne
  clear hp hy hisn hs1 ht1
  go_enter Try.func5, Try.ntmps5
  go_wp2_with fail
  refine (HP.out _).mono ?_
  rintro e wq ⟨rfl, rfl⟩
  go_wp2_with fail
  refine (HT.out _).mono ?_
  rintro e wq ⟨rfl, rfl⟩
  go_wp2_with fail
  refine (HJ.out _).mono ?_
  rintro e w1 ⟨rfl, b1⟩
  go_wp2_with fail
  refine (HS.out _).mono ?_
  rintro e w2 ⟨rfl, h2⟩
  have b2 := b1.trans (h2.mono b1.size)
  clear b1 h2
  go_wp2_with fail
  refine (HP.out _).mono ?_
  rintro e wq ⟨rfl, rfl⟩
  go_wp2_with fail
  refine (HM.out _).mono ?_
  rintro e wq ⟨rfl, rfl⟩
  go_wp2_with fail
  refine (HB.out _).mono ?_
  rintro e wq ⟨rfl, rfl⟩
  have b9 := b2.trans (((Below.refl w2.heap.size w2).alloc (Nat.le_refl _) (.cells #[.int .u8 c] 5)).mono b2.size)
  clear b2
  go_wp2_with fail
  refine (HG.out _).mono ?_
  rintro e wq ⟨rfl, rfl⟩
  go_wp2_with fail
  refine (W.out _).mono ?_
  rintro e w10 ⟨rfl, h10⟩
  have b10 := b9.trans (h10.mono b9.size)
  clear b9 h10
  go_wp2
  go_ret
  exact ⟨rfl, b10⟩

set_option maxHeartbeats 1000000 in
set_option maxRecDepth 100000 in
theorem back_parts_any_may (s t P Q : ByteArray) (c : Int) (w : World) (hs : s.size ≤ 200) (ht : t.size ≤ 200)
    (h0 : 0 ≤ c) (h1 : c ≤ 255) (hm : Nm.mayZ c = true) (hq : Nm.split s.data.toList = (P.data.toList, Q.data.toList, true)) (hp1 : Nm.plain P.data.toList = true) (hp2 : Nm.plain Q.data.toList = true) (he : P ++ ⟨#[58]⟩ ++ Q = s) :
    Calls Try.prog 5 #[.string s, .string t, .int .u8 c] w fun e w' => e = .returned (.bool true) ∧ Below w.heap.size w w' := by
  have W := Lib.hid works_any
  have hs1 : s.size ≤ maxLen := by unfold maxLen; omega
  have ht1 : t.size ≤ maxLen := by unfold maxLen; omega
  have hs' : ¬ (200 : Int) < (s.size : Int) := by omega
  have ht' : ¬ (200 : Int) < (t.size : Int) := by omega
  have hisn : Nm.isn s.data.toList = true := by unfold Nm.isn; rw [hq]
  have hps : P.size ≤ s.size ∧ Q.size ≤ s.size := by rw [← he, join_size]; omega
  have hpl : Nm.plain s.data.toList = false := by rw [← he, join_data]; exact Nm.join_not_plain _ _
  have HP := Lib.hid (fun w0 => plain_any s w0 hs1)
  have HS := Lib.hid (fun w0 => split_any s w0 hs1)
  have H1 := Lib.hid (fun w0 => plain_any P w0 (by omega))
  have H2 := Lib.hid (fun w0 => plain_any Q w0 (by omega))
  rw [hpl] at HP
  rw [hp1] at H1
  rw [hp2] at H2
  rw [hq] at HS
  simp only [mk_data] at HS
  have hPne := ne_empty (Nm.plain_ne hp1)
  have hPne2 : P.toList ≠ [] := by intro e; rw [e] at hPne; cases hPne
  have hPle : P.size ≤ 200 ∧ Q.size ≤ 200 := by omega
  have HM := Lib.hid (fun w0 => may_any c w0 h0 h1)
  rw [hm] at HM
  clear hm
  clear hq hp1 hp2 hpl hisn hs1 ht1 hps
  go_enter Try.func5, Try.ntmps5
  go_wp2_with fail
  refine (HP.out _).mono ?_
  rintro e wq ⟨rfl, rfl⟩
  go_wp2_with fail
  refine (HS.out _).mono ?_
  rintro e w1 ⟨rfl, b1⟩
  go_wp2_with fail
  refine (H1.out _).mono ?_
  rintro e wq ⟨rfl, rfl⟩
  go_wp2_with fail
  refine (H2.out _).mono ?_
  rintro e wq ⟨rfl, rfl⟩
  go_wp2_with fail
  refine (HM.out _).mono ?_
  rintro e wq ⟨rfl, rfl⟩
  go_wp2_with fail
  refine (W.out _).mono ?_
  rintro e w2 ⟨rfl, h2⟩
  have b2 := b1.trans (h2.mono b1.size)
  clear b1 h2
  go_wp2
  go_ret
  exact ⟨rfl, b2⟩

set_option maxHeartbeats 1000000 in
set_option maxRecDepth 100000 in
theorem back_parts_any_colon (s t P Q : ByteArray) (c : Int) (w : World) (hs : s.size ≤ 200) (ht : t.size ≤ 200)
    (h0 : 0 ≤ c) (h1 : c ≤ 255) (hm : c = 58) (hq : Nm.split s.data.toList = (P.data.toList, Q.data.toList, true)) (hp1 : Nm.plain P.data.toList = true) (hp2 : Nm.plain Q.data.toList = true) (he : P ++ ⟨#[58]⟩ ++ Q = s) :
    Calls Try.prog 5 #[.string s, .string t, .int .u8 c] w fun e w' => e = .returned (.bool true) ∧ Below w.heap.size w w' := by
  have W := Lib.hid works_any
  have hs1 : s.size ≤ maxLen := by unfold maxLen; omega
  have ht1 : t.size ≤ maxLen := by unfold maxLen; omega
  have hs' : ¬ (200 : Int) < (s.size : Int) := by omega
  have ht' : ¬ (200 : Int) < (t.size : Int) := by omega
  have hisn : Nm.isn s.data.toList = true := by unfold Nm.isn; rw [hq]
  have hps : P.size ≤ s.size ∧ Q.size ≤ s.size := by rw [← he, join_size]; omega
  have hpl : Nm.plain s.data.toList = false := by rw [← he, join_data]; exact Nm.join_not_plain _ _
  have HP := Lib.hid (fun w0 => plain_any s w0 hs1)
  have HS := Lib.hid (fun w0 => split_any s w0 hs1)
  have H1 := Lib.hid (fun w0 => plain_any P w0 (by omega))
  have H2 := Lib.hid (fun w0 => plain_any Q w0 (by omega))
  rw [hpl] at HP
  rw [hp1] at H1
  rw [hp2] at H2
  rw [hq] at HS
  simp only [mk_data] at HS
  have hPne := ne_empty (Nm.plain_ne hp1)
  have hPne2 : P.toList ≠ [] := by intro e; rw [e] at hPne; cases hPne
  have hPle : P.size ≤ 200 ∧ Q.size ≤ 200 := by omega
  subst hm
  have HM := Lib.hid (fun w0 => may_any 58 w0 h0 h1)
  rw [show Nm.mayZ 58 = false by decide] at HM
  clear hq hp1 hp2 hpl hisn hs1 ht1 hps
  go_enter Try.func5, Try.ntmps5
  go_wp2_with fail
  refine (HP.out _).mono ?_
  rintro e wq ⟨rfl, rfl⟩
  go_wp2_with fail
  refine (HS.out _).mono ?_
  rintro e w1 ⟨rfl, b1⟩
  go_wp2_with fail
  refine (H1.out _).mono ?_
  rintro e wq ⟨rfl, rfl⟩
  go_wp2_with fail
  refine (H2.out _).mono ?_
  rintro e wq ⟨rfl, rfl⟩
  go_wp2_with fail
  refine (HM.out _).mono ?_
  rintro e wq ⟨rfl, rfl⟩
  go_wp2_with fail
  refine (W.out _).mono ?_
  rintro e w2 ⟨rfl, h2⟩
  have b2 := b1.trans (h2.mono b1.size)
  clear b1 h2
  go_wp2
  go_ret
  exact ⟨rfl, b2⟩

set_option maxHeartbeats 1000000 in
set_option maxRecDepth 100000 in
theorem back_parts_any_else (s t P Q : ByteArray) (c : Int) (w : World) (hs : s.size ≤ 200) (ht : t.size ≤ 200)
    (h0 : 0 ≤ c) (h1 : c ≤ 255) (hm : Nm.mayZ c = false) (hc : c ≠ 58) (hq : Nm.split s.data.toList = (P.data.toList, Q.data.toList, true)) (hp1 : Nm.plain P.data.toList = true) (hp2 : Nm.plain Q.data.toList = true) (he : P ++ ⟨#[58]⟩ ++ Q = s) :
    Calls Try.prog 5 #[.string s, .string t, .int .u8 c] w fun e w' => e = .returned (.bool true) ∧ Below w.heap.size w w' := by
  have W := Lib.hid works_any
  have hs1 : s.size ≤ maxLen := by unfold maxLen; omega
  have ht1 : t.size ≤ maxLen := by unfold maxLen; omega
  have hs' : ¬ (200 : Int) < (s.size : Int) := by omega
  have ht' : ¬ (200 : Int) < (t.size : Int) := by omega
  have hisn : Nm.isn s.data.toList = true := by unfold Nm.isn; rw [hq]
  have hps : P.size ≤ s.size ∧ Q.size ≤ s.size := by rw [← he, join_size]; omega
  have hpl : Nm.plain s.data.toList = false := by rw [← he, join_data]; exact Nm.join_not_plain _ _
  have HP := Lib.hid (fun w0 => plain_any s w0 hs1)
  have HS := Lib.hid (fun w0 => split_any s w0 hs1)
  have H1 := Lib.hid (fun w0 => plain_any P w0 (by omega))
  have H2 := Lib.hid (fun w0 => plain_any Q w0 (by omega))
  rw [hpl] at HP
  rw [hp1] at H1
  rw [hp2] at H2
  rw [hq] at HS
  simp only [mk_data] at HS
  have hPne := ne_empty (Nm.plain_ne hp1)
  have hPne2 : P.toList ≠ [] := by intro e; rw [e] at hPne; cases hPne
  have hPle : P.size ≤ 200 ∧ Q.size ≤ 200 := by omega
  have HM := Lib.hid (fun w0 => may_any c w0 h0 h1)
  rw [hm] at HM
  have hcb : (c == 58) = false := beq_eq_false_iff_ne.2 hc
  have HB := Lib.hid (fun w0 => begin_any (s ++ ⟨#[toB c]⟩ ++ t) w0 (by unfold maxLen; rw [join_size]; omega))
  have hne : toB c ≠ 58 := fun e => hc (by have := z_toB h0 h1; rw [e] at this; exact this.symm)
  rw [join_data, Nm.bg_behind hisn (by rw [z_toB h0 h1]; exact hm) hne, ← Lib.size_eq] at HB
  have HG := Lib.hid (fun w0 => begin_any s w0 hs1)
  rw [Nm.bg_self hisn, ← Lib.size_eq] at HG
  have k1 := conv1
  clear hm hc hne
  clear hq hp1 hp2 hpl hisn hs1 ht1 hps
  go_enter Try.func5, Try.ntmps5
  go_wp2_with fail
  refine (HP.out _).mono ?_
  rintro e wq ⟨rfl, rfl⟩
  go_wp2_with fail
  refine (HS.out _).mono ?_
  rintro e w1 ⟨rfl, b1⟩
  go_wp2_with fail
  refine (H1.out _).mono ?_
  rintro e wq ⟨rfl, rfl⟩
  go_wp2_with fail
  refine (H2.out _).mono ?_
  rintro e wq ⟨rfl, rfl⟩
  go_wp2_with fail
  refine (HM.out _).mono ?_
  rintro e wq ⟨rfl, rfl⟩
  go_wp2_with fail
  refine (HB.out _).mono ?_
  rintro e wq ⟨rfl, rfl⟩
  have b9 := b1.trans (((Below.refl w1.heap.size w1).alloc (Nat.le_refl _) (.cells #[.int .u8 c] 5)).mono b1.size)
  clear b1
  go_wp2_with fail
  refine (HG.out _).mono ?_
  rintro e wq ⟨rfl, rfl⟩
  go_wp2_with fail
  refine (W.out _).mono ?_
  rintro e w10 ⟨rfl, h10⟩
  have b10 := b9.trans (h10.mono b9.size)
  clear b9 h10
  go_wp2
  go_ret
  exact ⟨rfl, b10⟩

theorem lawBack (s t : ByteArray) (c : Int) (w : World) (hs : s.size ≤ maxLen) (ht : t.size ≤ maxLen) (h0 : 0 ≤ c) (h1 : c ≤ 255) :
    Calls Try.prog 5 #[.string s, .string t, .int .u8 c] w fun e w' => e = .returned (.bool true) ∧ Below w.heap.size w w' := by
  by_cases hl : 200 < s.size ∨ 200 < t.size
  · exact back_long s t c w hs ht hl
  · have hs2 : s.size ≤ 200 := by omega
    have ht2 : t.size ≤ 200 := by omega
    rcases Nm.split_cases s.data.toList with h | ⟨hp, _⟩ | ⟨p, q, hq, hp1, hp2, he, _⟩
    · exact back_none s t c w hs2 ht2 (by unfold Nm.isn; rw [h])
    · cases hy : Nm.plain t.data.toList with
      | false =>
        cases hm : Nm.mayZ c with
        | true => exact back_plain_no_may s t c w hs2 ht2 h0 h1 hm hp hy
        | false =>
          by_cases hc : c = 58
          · exact back_plain_no_colon s t c w hs2 ht2 h0 h1 hc hp hy
          · exact back_plain_no_else s t c w hs2 ht2 h0 h1 hm hc hp hy
      | true =>
        by_cases hj : s.size + 1 + t.size ≤ 64
        · cases hm : Nm.mayZ c with
          | true => exact back_plain_short_may s t c w hs2 ht2 h0 h1 hm hp hy hj
          | false =>
            by_cases hc : c = 58
            · exact back_plain_short_colon s t c w hs2 ht2 h0 h1 hc hp hy hj
            · exact back_plain_short_else s t c w hs2 ht2 h0 h1 hm hc hp hy hj
        · cases hm : Nm.mayZ c with
          | true => exact back_plain_long_may s t c w hs2 ht2 h0 h1 hm hp hy (by omega)
          | false =>
            by_cases hc : c = 58
            · exact back_plain_long_colon s t c w hs2 ht2 h0 h1 hc hp hy (by omega)
            · exact back_plain_long_else s t c w hs2 ht2 h0 h1 hm hc hp hy (by omega)
    · have e : (ByteArray.mk p.toArray) ++ ⟨#[58]⟩ ++ (ByteArray.mk q.toArray) = s := ba_eq (by rw [join_data, data_mk, data_mk]; exact he.symm)
      have hq' : Nm.split s.data.toList = ((ByteArray.mk p.toArray).data.toList, (ByteArray.mk q.toArray).data.toList, true) := by rw [data_mk, data_mk]; exact hq
      have g1 : Nm.plain (ByteArray.mk p.toArray).data.toList = true := by rw [data_mk]; exact hp1
      have g2 : Nm.plain (ByteArray.mk q.toArray).data.toList = true := by rw [data_mk]; exact hp2
      cases hm : Nm.mayZ c with
      | true => exact back_parts_any_may s t _ _ c w hs2 ht2 h0 h1 hm hq' g1 g2 e
      | false =>
        by_cases hc : c = 58
        · exact back_parts_any_colon s t _ _ c w hs2 ht2 h0 h1 hc hq' g1 g2 e
        · exact back_parts_any_else s t _ _ c w hs2 ht2 h0 h1 hm hc hq' g1 g2 e
end Go.Proofs.Ytgccffhnblhopaa
