/- Plain facts on the tokens of expressions: the token at the head by its first byte, its kind and its length at once. No program is named here; no condition. -/
import Derived.Test.YtdcjpinbflmikaaGreatDoorLxMore
namespace Go.Proofs.YtdcjpinbflmikaaGreatDoor
namespace Lx

def chk (l : List UInt8) (k : Int) (n : Nat) : Int × Nat := if n = 0 ∨ 64 < n then (0, 0) else (if words.contains (l.take n) then 3 else k, n)
/-- The token at the head: its kind, and how many bytes it has (0, 0: none). -/
def fst (l : List UInt8) : Int × Nat := if run isD l ≠ 0 then chk l 1 (run isD l) else if run isN l ≠ 0 then chk l 2 (run isN l) else chk l 4 (sgn l)
theorem words_signs : ∀ w ∈ signs, words.contains w = false := by decide
theorem whole_digits {l : List UInt8} (h : l ≠ []) (ha : l.all isD = true) : whole l = if words.contains l then 3 else 1 := by
  unfold whole
  rw [if_neg (fun e => by
    have := (signs_len _ (List.contains_iff_mem.1 e)).2.2.2
    rw [ha] at this; cases this), if_neg h, if_pos ha]
theorem whole_name {l : List UInt8} (h : lead l = true) (ha : l.all isN = true) : whole l = if words.contains l then 3 else 2 := by
  unfold whole
  have hne : l ≠ [] := fun e => by rw [e] at h; cases h
  rw [if_neg (fun e => by
    have := (signs_len _ (List.contains_iff_mem.1 e)).2.2.1
    rw [h] at this; cases this), if_neg hne, if_neg (show ¬ (l.all isD = true) from fun e => by
    cases l with
    | nil => exact hne rfl
    | cons c r =>
      have h1 : isL c = true := h
      rw [List.all_cons, Bool.and_eq_true] at e
      rw [isD_not e.1] at h1; cases h1), if_pos (show (lead l && l.all isN) = true by rw [h, ha]; rfl)]
theorem whole_sign {l : List UInt8} (h : l ∈ signs) : whole l = 4 := by
  unfold whole
  rw [if_pos (List.contains_iff_mem.2 h)]
theorem fst_lng (l : List UInt8) : fst l = if lng l = 0 ∨ 64 < lng l then (0, 0) else (whole (l.take (lng l)), lng l) := by
  have hch : ∀ (k : Int), (lng l ≠ 0 → whole (l.take (lng l)) = if words.contains (l.take (lng l)) then 3 else k) → chk l k (lng l) = if lng l = 0 ∨ 64 < lng l then (0, 0) else (whole (l.take (lng l)), lng l) := fun k hk => by
    unfold chk
    split
    · rfl
    · rename_i hn
      rw [hk (by omega)]
  cases hl : l with
  | nil => decide
  | cons c r =>
    rw [← hl]
    cases hd : isD c with
    | true =>
      have hg : lng l = run isD l := by rw [hl]; exact lng_digit hd
      have hr : run isD l ≠ 0 := by rw [hl]; unfold run; rw [if_pos hd]; omega
      unfold fst
      rw [if_pos hr, ← hg]
      refine hch 1 fun hn => whole_digits (fun e => ?_) ((run_all isD l _ (lng_le l)).2 (by omega))
      rcases List.take_eq_nil_iff.1 e with e | e
      · exact hn e
      · rw [hl] at e; cases e
    | false =>
      have hr : run isD l = 0 := by rw [hl]; unfold run; rw [if_neg (by rw [hd]; decide)]
      unfold fst
      rw [if_neg (by omega)]
      cases hL : isL c with
      | true =>
        have hg : lng l = run isN l := by rw [hl]; exact lng_letter hL
        have hr2 : run isN l ≠ 0 := by rw [hl]; unfold run; rw [if_pos (by unfold isN; rw [hL]; rfl)]; omega
        rw [if_pos hr2, ← hg]
        refine hch 2 fun hn => whole_name ?_ ((run_all isN l _ (lng_le l)).2 (by omega))
        obtain ⟨m, hm⟩ : ∃ m, lng l = m + 1 := ⟨lng l - 1, by omega⟩
        rw [hm, hl, List.take_succ_cons]
        exact hL
      | false =>
        have hg : lng l = sgn l := by rw [hl]; exact lng_other hd hL
        have hr2 : run isN l = 0 := by rw [hl]; unfold run; rw [if_neg (by unfold isN; rw [hL, hd]; decide)]
        rw [if_neg (by omega), ← hg]
        refine hch 4 fun hn => ?_
        have hw := lng_good hn
        have hm : l.take (lng l) ∈ signs := by
          obtain ⟨m, hm⟩ : ∃ m, lng l = m + 1 := ⟨lng l - 1, by omega⟩
          have h3 := hw
          rw [hm, hl, List.take_succ_cons] at h3 ⊢
          exact (kind_other hd hL).1 h3
        rw [whole_sign hm, words_signs _ hm]
        rfl
theorem fst_le (l : List UInt8) : (fst l).2 ≤ l.length ∧ (fst l).2 ≤ 64 ∧ 0 ≤ (fst l).1 := by
  rw [fst_lng]
  have := lng_le l
  split
  · exact ⟨Nat.zero_le _, by decide, by decide⟩
  · refine ⟨this, ?_, ?_⟩
    · show lng l ≤ 64
      omega
    · show 0 ≤ whole _
      unfold whole
      repeat (first | split | omega)
theorem is_fst (l : List UInt8) : is l = if (fst l).2 < l.length then 0 else (fst l).1 := by
  rw [fst_lng]
  have hle := lng_le l
  have hno : lng l ≠ l.length → whole l = 0 := fun h => Decidable.byContradiction fun hn => h (lng_tok hn)
  unfold is
  by_cases h : lng l = 0 ∨ 64 < lng l
  · rw [if_pos h]
    simp only
    rw [show (if 0 < l.length then (0 : Int) else 0) = 0 from ite_self _]
    split
    · rfl
    · by_cases he : lng l = l.length
      · have h0 : l = [] := List.length_eq_zero_iff.1 (by omega)
        rw [h0]; rfl
      · exact hno he
  · rw [if_neg h]
    simp only
    by_cases he : lng l = l.length
    · rw [if_neg (by omega), if_neg (by omega), he, List.take_length]
    · rw [if_pos (show lng l < l.length by omega), hno he, ite_self]
theorem fst_no {l : List UInt8} : (fst l).1 = 0 ↔ (lng l = 0 ∨ 64 < lng l) := by
  rw [fst_lng]
  split
  · rename_i h; exact ⟨fun _ => h, fun _ => rfl⟩
  · rename_i h
    exact ⟨fun e => absurd e (lng_good (by omega)), fun e => absurd e h⟩
end Lx
end Go.Proofs.YtdcjpinbflmikaaGreatDoor
