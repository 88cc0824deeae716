/- The functions of package utf, walked: each does, on every text, what the plain facts tell, and turns nothing that was there. Condition: the tables of unicode/utf8 and of utf hold what their texts lay. -/
import Derived.Test.YthncfhakbobkkaaGreatDoorShelf
import Derived.Test.YthncfhakbobkkaaGreatDoorU8Plain
import Derived.WalkKit
import Derived.WalkLawsBesides
import Derived.Outline
import Derived.Handy
import Derived.Lib.OthersKept
import Derived.Lib.Hide
import Derived.WalkSmall
import Derived.Deep.DeepFit
namespace Go.Proofs.YthncfhakbobkkaaGreatDoor
open Go.RowKit

theorem ret_bool {a b : Bool} (h : a = b) : Ending.returned (.bool a) = .returned (.bool b) := by rw [h]
theorem isCh_no {c : Int} (h : ¬ (c = 9 ∨ c = 10 ∨ c = 13 ∨ (32 ≤ c ∧ c ≤ 55295) ∨ (57344 ≤ c ∧ c ≤ 65533) ∨ (65536 ≤ c ∧ c ≤ 1114111))) : U8.isCh c = false := decide_eq_false h

/-- The tables, as their texts lay them. -/
structure Tabs (w : World) : Prop where
  u : Lib.Utf8Tabs 1 2 w
  c0 : w.cell? ⟨0, 0, none⟩ = some (.int .i32 9)
  c1 : w.cell? ⟨0, 1, none⟩ = some (.int .i32 10)
  c2 : w.cell? ⟨0, 2, none⟩ = some (.int .i32 13)
  c3 : w.cell? ⟨0, 3, none⟩ = some (.int .i32 13)
  c4 : w.cell? ⟨0, 4, none⟩ = some (.int .i32 32)
  c5 : w.cell? ⟨0, 5, none⟩ = some (.int .i32 55295)
  c6 : w.cell? ⟨0, 6, none⟩ = some (.int .i32 57344)
  c7 : w.cell? ⟨0, 7, none⟩ = some (.int .i32 65533)
  c8 : w.cell? ⟨0, 8, none⟩ = some (.int .i32 65536)
  c9 : w.cell? ⟨0, 9, none⟩ = some (.int .i32 1114111)
theorem block_lt {w : World} {a : Addr} {v : Value} (hc : w.cell? a = some v) : a.block < w.heap.size := by
  rcases Nat.lt_or_ge a.block w.heap.size with h | h
  · exact h
  · simp [World.cell?, Array.getElem?_eq_none h] at hc
theorem cell_below {B : Nat} {w w' : World} (hb : Below B w w') (hB : w.heap.size ≤ B) {a : Addr} {v : Value} (hc : w.cell? a = some v) : w'.cell? a = some v := by
  rw [hb.cell (Nat.lt_of_lt_of_le (block_lt hc) hB)]; exact hc
theorem Tabs.below {B : Nat} {w w' : World} (h : Tabs w) (hb : Below B w w') (hB : w.heap.size ≤ B) : Tabs w' :=
  ⟨Utf8Tabs_below h.u (hb.mono hB), cell_below hb hB h.c0, cell_below hb hB h.c1, cell_below hb hB h.c2, cell_below hb hB h.c3, cell_below hb hB h.c4, cell_below hb hB h.c5, cell_below hb hB h.c6, cell_below hb hB h.c7, cell_below hb hB h.c8, cell_below hb hB h.c9⟩

/-! ### Go's decoder on what is left of a text -/
theorem get!_getD (s : ByteArray) (i : Nat) : s.get! i = s.data.toList.getD i 0 := by
  obtain ⟨⟨l⟩⟩ := s
  show (Array.mk l)[i]! = _
  by_cases h : i < l.length
  · simp [h]
  · simp [h]; rfl
theorem bn_drop (l : List UInt8) (i k : Nat) : U8.bn (l.drop i) k = (l.getD (i + k) 0).toNat := by
  unfold U8.bn; simp [List.getD_eq_getElem?_getD]
theorem decode_drop (s : ByteArray) (i : Nat) : Utf8.decode s i = U8.dec (s.data.toList.drop i) := by
  rw [Lib.decode_at]
  unfold U8.dec
  rw [bn_drop, bn_drop, bn_drop, bn_drop, get!_getD, get!_getD, get!_getD, get!_getD, List.length_drop, ← Lib.size_eq]
  rfl
theorem decodeGo_dec (s : ByteArray) (h : s.data.toList ≠ []) : Lib.decodeGo s = U8.dec s.data.toList := by
  have hz : s.size ≠ 0 := by rw [Lib.size_eq]; intro e; exact h (List.eq_nil_of_length_eq_zero e)
  unfold Lib.decodeGo
  rw [if_neg hz, decode_drop, List.drop_zero]
theorem dec_le (l : List UInt8) : ((U8.dec l).1 : Int) ≤ 2097151 ∧ 1 ≤ (U8.dec l).2 := by
  have b0 := U8.bn_lt l 0; have b1 := U8.bn_lt l 1; have b2 := U8.bn_lt l 2; have b3 := U8.bn_lt l 3
  rcases U8.decN_cases l.length (U8.bn l 0) (U8.bn l 1) (U8.bn l 2) (U8.bn l 3) with ⟨hd, _⟩ | ⟨hd, _⟩ | ⟨hd, _⟩ | ⟨hd, _⟩ | ⟨hd, _⟩
  all_goals
    have e1 : (U8.dec l).1 = _ := congrArg Prod.fst hd
    have e2 : (U8.dec l).2 = _ := congrArg Prod.snd hd
    simp only at e1 e2
    omega
theorem valid_of {n : Nat} (h : n < 55296 ∨ (57344 ≤ n ∧ n ≤ 1114111)) : Utf8.valid (n : Int) = true := by
  have h' : ((n : Int) < 55296) ∨ (57344 ≤ (n : Int) ∧ (n : Int) ≤ 1114111) := by omega
  have h0 : 0 ≤ (n : Int) := by omega
  unfold Utf8.valid
  rcases h' with h | ⟨h1, h2⟩
  · rw [decide_eq_true h0, decide_eq_true h]; rfl
  · rw [decide_eq_true h1, decide_eq_true h2]; simp
def encN (n : Nat) : List UInt8 :=
  if n < 128 then [UInt8.ofNat n] else if n < 2048 then [UInt8.ofNat (192 + n / 64), UInt8.ofNat (128 + n % 64)]
  else if n < 65536 then [UInt8.ofNat (224 + n / 4096), UInt8.ofNat (128 + n / 64 % 64), UInt8.ofNat (128 + n % 64)]
  else [UInt8.ofNat (240 + n / 262144), UInt8.ofNat (128 + n / 4096 % 64), UInt8.ofNat (128 + n / 64 % 64), UInt8.ofNat (128 + n % 64)]
theorem encode_encN {n : Nat} (h : Utf8.valid (n : Int) = true) : (Utf8.encode (n : Int)).data.toList = encN n := by
  unfold Utf8.encode encN
  simp only [h, if_true, Int.toNat_natCast]
  by_cases h1 : n < 128
  · simp only [h1, if_true]
  · by_cases h2 : n < 2048
    · simp only [h1, h2, if_true, if_false]
    · by_cases h3 : n < 65536
      · simp only [h1, h2, h3, if_true, if_false]
      · simp only [h1, h2, h3, if_false]
theorem toB_ofNat {x : Int} {m : Nat} (h : x.toNat = m) : U8.toB x = UInt8.ofNat m := by rw [← h]; rfl
theorem put_encN {n : Nat} (h : U8.isCh (n : Int) = true) : U8.put (n : Int) = encN n := by
  unfold U8.put U8.putZ encN
  rw [if_pos h]
  by_cases h1 : n < 128
  · rw [if_pos h1, if_pos (by omega), List.map_cons, List.map_nil, toB_ofNat (m := n) (by omega)]
  · rw [if_neg h1, if_neg (by omega)]
    by_cases h2 : n < 2048
    · rw [if_pos h2, if_pos (by omega)]
      simp only [List.map_cons, List.map_nil]
      rw [toB_ofNat (x := 192 + (n : Int) / 64) (m := 192 + n / 64) (by omega), toB_ofNat (x := 128 + (n : Int) % 64) (m := 128 + n % 64) (by omega)]
    · rw [if_neg h2, if_neg (by omega)]
      by_cases h3 : n < 65536
      · rw [if_pos h3, if_pos (by omega)]
        simp only [List.map_cons, List.map_nil]
        rw [toB_ofNat (x := 224 + (n : Int) / 4096) (m := 224 + n / 4096) (by omega), toB_ofNat (x := 128 + (n : Int) / 64 % 64) (m := 128 + n / 64 % 64) (by omega), toB_ofNat (x := 128 + (n : Int) % 64) (m := 128 + n % 64) (by omega)]
      · rw [if_neg h3, if_neg (by omega)]
        simp only [List.map_cons, List.map_nil]
        rw [toB_ofNat (x := 240 + (n : Int) / 262144) (m := 240 + n / 262144) (by omega), toB_ofNat (x := 128 + (n : Int) / 4096 % 64) (m := 128 + n / 4096 % 64) (by omega), toB_ofNat (x := 128 + (n : Int) / 64 % 64) (m := 128 + n / 64 % 64) (by omega), toB_ofNat (x := 128 + (n : Int) % 64) (m := 128 + n % 64) (by omega)]
theorem encode_put {c : Int} (h : U8.isCh c = true) : (Utf8.encode c).data.toList = U8.put c := by
  have hb := U8.isCh_lo h
  have hc := (U8.isCh_iff c).1 h
  obtain ⟨n, rfl⟩ := Int.eq_ofNat_of_zero_le (show 0 ≤ c by omega)
  rw [encode_encN (valid_of (by omega)), put_encN h]
theorem encode_err : (Utf8.encode 65533).data.toList = [239, 191, 189] := by rw [encode_put (by decide)]; decide

/-! ### the walks -/
set_option maxHeartbeats 1000000 in
theorem isCharacter_any (c : Int) (w : World) (T : Tabs w) (h0 : -2147483648 ≤ c) (h1 : c ≤ 2147483647) :
    Calls Tryz.prog 71 #[.int .i32 c] w fun e w' => e = .returned (.bool (U8.isCh c)) ∧ Below w.heap.size w w' := by
  obtain ⟨_, c0, c1, c2, c3, c4, c5, c6, c7, c8, c9⟩ := T
  have i0 : ∀ w, (Instr.index 125 (.agg #[.int .i32 9, .int .i32 10, .int .i32 13, .int .i32 13, .int .i32 32, .int .i32 55295, .int .i32 57344, .int .i32 65533, .int .i32 65536, .int .i32 1114111]) (.int .i64 0)).run Tryz.prog w = .ok (.agg #[.int .i32 9, .int .i32 10]) w := fun _ => by kernel_rfl
  have i1 : ∀ w, (Instr.index 125 (.agg #[.int .i32 9, .int .i32 10, .int .i32 13, .int .i32 13, .int .i32 32, .int .i32 55295, .int .i32 57344, .int .i32 65533, .int .i32 65536, .int .i32 1114111]) (.int .i64 1)).run Tryz.prog w = .ok (.agg #[.int .i32 13, .int .i32 13]) w := fun _ => by kernel_rfl
  have i2 : ∀ w, (Instr.index 125 (.agg #[.int .i32 9, .int .i32 10, .int .i32 13, .int .i32 13, .int .i32 32, .int .i32 55295, .int .i32 57344, .int .i32 65533, .int .i32 65536, .int .i32 1114111]) (.int .i64 2)).run Tryz.prog w = .ok (.agg #[.int .i32 32, .int .i32 55295]) w := fun _ => by kernel_rfl
  have i3 : ∀ w, (Instr.index 125 (.agg #[.int .i32 9, .int .i32 10, .int .i32 13, .int .i32 13, .int .i32 32, .int .i32 55295, .int .i32 57344, .int .i32 65533, .int .i32 65536, .int .i32 1114111]) (.int .i64 3)).run Tryz.prog w = .ok (.agg #[.int .i32 57344, .int .i32 65533]) w := fun _ => by kernel_rfl
  have i4 : ∀ w, (Instr.index 125 (.agg #[.int .i32 9, .int .i32 10, .int .i32 13, .int .i32 13, .int .i32 32, .int .i32 55295, .int .i32 57344, .int .i32 65533, .int .i32 65536, .int .i32 1114111]) (.int .i64 4)).run Tryz.prog w = .ok (.agg #[.int .i32 65536, .int .i32 1114111]) w := fun _ => by kernel_rfl
  go_enter Tryz.func71, Tryz.ntmps71
  go_wp2
  go_rounds 6
  all_goals go_ret
  all_goals refine ⟨ret_bool ?_, by go_grown⟩
  all_goals first
    | exact ((U8.isCh_iff c).2 (by omega)).symm
    | exact (isCh_no (by omega)).symm

set_option maxHeartbeats 1000000 in
theorem begins_any (s : ByteArray) (c : Int) (w : World) (T : Tabs w) (h0 : -2147483648 ≤ c) (h1 : c ≤ 2147483647) :
    Calls Tryz.prog 53 #[.string s, .int .i32 c] w fun e w' => e = .returned (.bool (U8.begB s.data.toList c)) ∧ Below w.heap.size w w' := by
  by_cases hc : c = 65533
  · subst hc
    go_enter Tryz.func53, Tryz.ntmps53
    go_wp2_with fail
    refine (Tryz.strings_HasPrefix _ _ _).mono ?_
    rintro e w' ⟨rfl, rfl⟩
    go_wp2
    go_ret
    exact ⟨ret_bool (by rw [encode_err]; rfl), Below.refl _ _⟩
  · have hb : (c == 65533) = false := by simpa using hc
    have he : U8.begB s.data.toList c = U8.isCh c := by unfold U8.begB; rw [if_neg hc]
    rw [he]
    clear he
    go_enter Tryz.func53, Tryz.ntmps53
    go_wp2_with fail
    refine (isCharacter_any c _ T h0 h1).mono ?_
    rintro e w' ⟨rfl, hw⟩
    go_wp2
    go_ret
    exact ⟨rfl, hw⟩

/-- Go's decoder, in the plain facts' words. -/
theorem decode_any (s : ByteArray) (w : World) (T : Tabs w) (hne : s.data.toList ≠ []) :
    Calls Tryz.prog 65 #[.string s] w fun e w' => e = .returned (.tuple #[.int .i32 (U8.dec s.data.toList).1, .int .i64 (U8.dec s.data.toList).2]) ∧ Below w.heap.size w w' := by
  have := Tryz.utf8_DecodeRuneInString s w T.u
  rw [decodeGo_dec s hne] at this
  exact this

set_option maxHeartbeats 1000000 in
theorem next_any (s : ByteArray) (w : World) (T : Tabs w) :
    Calls Tryz.prog 76 #[.string s] w fun e w' => e = .returned (.tuple #[.int .i32 (U8.nx s.data.toList).1, .int .i64 (U8.nx s.data.toList).2.1, .int .i64 (U8.nx s.data.toList).2.2]) ∧ Below w.heap.size w w' := by
  by_cases h0 : s.data.toList = []
  · have hne : s.toList = [] := by rw [Lib.toList_data]; exact h0
    rw [h0, show U8.nx [] = (0, 0, 0) from rfl]
    go_enter Tryz.func76, Tryz.ntmps76
    go_wp2
    go_ret3
    exact ⟨rfl, Below.refl _ _⟩
  · have hne : s.toList.isEmpty = false := by
      rw [Lib.toList_data]
      cases h : s.data.toList with
      | nil => exact absurd h h0
      | cons _ _ => rfl
    have hd := dec_le s.data.toList
    have hD := decode_any s w T h0
    have hB := fun w T => begins_any s ((U8.dec s.data.toList).1 : Nat) w T (by omega) (by omega)
    have hN := Lib.hid (U8.nx_dec h0)
    generalize U8.dec s.data.toList = d at *
    obtain ⟨r, k⟩ := d
    generalize U8.nx s.data.toList = n at *
    simp only at hD hB hd
    have HB := Lib.hid hB; clear hB
    have HD := Lib.hid hD; clear hD
    generalize hb : U8.begB s.data.toList (r : Int) = b at *
    clear hb h0
    go_enter Tryz.func76, Tryz.ntmps76
    go_wp2_with fail
    refine HD.out.mono ?_
    rintro e w1 ⟨rfl, hw1⟩
    go_wp2_with fail
    refine (HB.out _ (T.below hw1 (Nat.le_refl _))).mono ?_
    rintro e w2 ⟨rfl, hw2⟩
    have hw := hw1.trans (hw2.mono hw1.size)
    have e := hN.out
    cases b with
    | true =>
      simp only [if_true] at e
      subst e
      go_wp2
      go_ret3
      exact ⟨rfl, hw⟩
    | false =>
      simp only [Bool.false_eq_true, if_false] at e
      subst e
      go_wp2
      go_ret3
      exact ⟨rfl, hw⟩

set_option maxHeartbeats 1000000 in
theorem put_any (c : Int) (w : World) (T : Tabs w) (h0 : -2147483648 ≤ c) (h1 : c ≤ 2147483647) :
    Calls Tryz.prog 89 #[.int .i32 c] w fun e w' => e = .returned (.string ⟨(U8.put c).toArray⟩) ∧ Below w.heap.size w w' := by
  cases hc : U8.isCh c with
  | true =>
    have e : Utf8.encode c = ⟨(U8.put c).toArray⟩ := by rw [← encode_put hc]
    have hI := Lib.hid (isCharacter_any c w T h0 h1)
    rw [hc] at hI
    have E := Lib.hid e; clear e hc
    go_enter Tryz.func89, Tryz.ntmps89
    go_wp2_with fail
    refine hI.out.mono ?_
    rintro e w1 ⟨rfl, hw1⟩
    go_wp2
    go_ret
    exact ⟨by rw [E.out]; rfl, hw1⟩
  | false =>
    have hI := Lib.hid (isCharacter_any c w T h0 h1)
    rw [hc] at hI
    rw [U8.put_no hc]
    clear hc
    go_enter Tryz.func89, Tryz.ntmps89
    go_wp2_with fail
    refine hI.out.mono ?_
    rintro e w1 ⟨rfl, hw1⟩
    go_wp2
    go_ret
    exact ⟨rfl, hw1⟩
end Go.Proofs.YthncfhakbobkkaaGreatDoor
