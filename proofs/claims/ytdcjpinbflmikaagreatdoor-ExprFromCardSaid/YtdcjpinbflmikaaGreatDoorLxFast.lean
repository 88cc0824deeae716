/- Plain facts on the tokens of expressions: the token at a place by its first byte (a run of digits; a run of letters and digits; a sign of two bytes, or of one). No program is named here; no condition. -/
import Derived.Test.YtdcjpinbflmikaaGreatDoorLxPlain
namespace Go.Proofs.YtdcjpinbflmikaaGreatDoor
namespace Lx

/-- How many bytes at the head are such. -/
def run (p : UInt8 → Bool) : List UInt8 → Nat
  | [] => 0
  | c :: r => if p c then 1 + run p r else 0
theorem run_le (p : UInt8 → Bool) : ∀ l : List UInt8, run p l ≤ l.length
  | [] => Nat.le_refl _
  | c :: r => by
    have := run_le p r
    unfold run
    split <;> simp <;> omega
theorem run_all (p : UInt8 → Bool) : ∀ (l : List UInt8) (k : Nat), k ≤ l.length → ((l.take k).all p = true ↔ k ≤ run p l)
  | [], k, h => by simp at h; subst h; simp
  | c :: r, 0, _ => by simp
  | c :: r, k + 1, h => by
    have := run_all p r k (by simpa using h)
    unfold run
    rw [List.take_succ_cons, List.all_cons, Bool.and_eq_true]
    cases hc : p c with
    | true => rw [if_pos rfl]; simp only [true_and]; rw [this]; omega
    | false => rw [if_neg (by decide)]; simp
theorem isD_not {c : UInt8} (h : isD c = true) : isL c = false := by
  have := of_decide_eq_true h
  exact decide_eq_false (by omega)
theorem words_all : ∀ w ∈ words, lead w = true ∧ w.all isN = true := by decide
theorem signs_len : ∀ w ∈ signs, w ≠ [] ∧ w.length ≤ 2 ∧ lead w = false ∧ w.all isD = false := by decide
theorem signs_head : ∀ w ∈ signs, ∀ c ∈ w.head?, isD c = false ∧ isL c = false := by decide
theorem whole_ne (l : List UInt8) : whole l ≠ 0 ↔ l ∈ signs ∨ (l ≠ [] ∧ l.all isD = true) ∨ (lead l = true ∧ l.all isN = true) := by
  unfold whole
  by_cases h1 : l ∈ signs
  · rw [if_pos (List.contains_iff_mem.2 h1)]
    exact ⟨fun _ => Or.inl h1, fun _ => by decide⟩
  · rw [if_neg (fun h => h1 (List.contains_iff_mem.1 h))]
    by_cases h2 : l ∈ words
    · rw [if_pos (List.contains_iff_mem.2 h2)]
      exact ⟨fun _ => Or.inr (Or.inr (words_all l h2)), fun _ => by decide⟩
    · rw [if_neg (fun h => h2 (List.contains_iff_mem.1 h))]
      by_cases h3 : l = []
      · subst h3; simp [lead, signs]
      · rw [if_neg h3]
        by_cases h4 : l.all isD = true
        · rw [if_pos h4]
          exact ⟨fun _ => Or.inr (Or.inl ⟨h3, h4⟩), fun _ => by decide⟩
        · rw [if_neg h4]
          by_cases h5 : (lead l && l.all isN) = true
          · rw [if_pos h5]
            rw [Bool.and_eq_true] at h5
            exact ⟨fun _ => Or.inr (Or.inr h5), fun _ => by decide⟩
          · rw [if_neg h5]
            rw [Bool.and_eq_true] at h5
            constructor
            · intro h; exact absurd rfl h
            · rintro (h | h | h)
              · exact absurd h h1
              · exact absurd h.2 h4
              · exact absurd h h5
/-- The kind by the first byte. -/
theorem kind_digit {c : UInt8} {r : List UInt8} (h : isD c = true) : whole (c :: r) ≠ 0 ↔ (c :: r).all isD = true := by
  rw [whole_ne]
  constructor
  · rintro (h1 | h1 | h1)
    · have := (signs_head _ h1 c rfl).1
      rw [h] at this; cases this
    · exact h1.2
    · have : isL c = true := h1.1
      rw [isD_not h] at this; cases this
  · intro h1; exact Or.inr (Or.inl ⟨by simp, h1⟩)
theorem kind_letter {c : UInt8} {r : List UInt8} (h : isL c = true) : whole (c :: r) ≠ 0 ↔ (c :: r).all isN = true := by
  rw [whole_ne]
  constructor
  · rintro (h1 | h1 | h1)
    · have := (signs_head _ h1 c rfl).2
      rw [h] at this; cases this
    · have h2 := h1.2
      rw [List.all_cons, Bool.and_eq_true] at h2
      have := isD_not h2.1
      rw [h] at this; cases this
    · exact h1.2
  · intro h1; exact Or.inr (Or.inr ⟨h, h1⟩)
theorem kind_other {c : UInt8} {r : List UInt8} (h : isD c = false) (h' : isL c = false) : whole (c :: r) ≠ 0 ↔ c :: r ∈ signs := by
  rw [whole_ne]
  constructor
  · rintro (h1 | h1 | h1)
    · exact h1
    · have h2 := h1.2
      rw [List.all_cons, h] at h2; cases h2
    · have : isL c = true := h1.1
      rw [h'] at this; cases this
  · intro h1; exact Or.inl h1
/-- All lengths tried: nothing more is a token. -/
theorem lngo_no {l : List UInt8} : ∀ (f k n : Nat), (∀ j, k ≤ j → j ≤ l.length → whole (l.take j) = 0) → lngo l f k n = n
  | 0, _, _, _ => rfl
  | f + 1, k, n, h => by
    unfold lngo
    split
    · rfl
    · rename_i hk
      split
      · rfl
      · rw [if_neg (by rw [h k (Nat.le_refl _) (by omega)]; simp)]
        exact lngo_no f (k + 1) n (fun j hj hl => h j (by omega) hl)
theorem lngo_run {l : List UInt8} {m : Nat} (hm : m ≤ l.length) (h1 : ∀ j, 1 ≤ j → j ≤ m → whole (l.take j) ≠ 0) (h2 : ∀ j, m < j → j ≤ l.length → whole (l.take j) = 0) : ∀ (f k : Nat), 1 ≤ k → k ≤ m + 1 → m + 1 ≤ f + k → lngo l f k (k - 1) = m
  | 0, k, hk, hkm, hf => by unfold lngo; omega
  | f + 1, k, hk, hkm, hf => by
    by_cases hkm2 : k = m + 1
    · subst hkm2
      exact lngo_no _ _ _ (fun j hj hl => h2 j (by omega) hl)
    · unfold lngo
      rw [if_neg (by omega), if_neg (by omega), if_pos (h1 k hk (by omega))]
      have := lngo_run hm h1 h2 f (k + 1) (by omega) (by omega) (by omega)
      simpa using this
theorem lng_run {l : List UInt8} {m : Nat} (hm : m ≤ l.length) (h1 : ∀ j, 1 ≤ j → j ≤ m → whole (l.take j) ≠ 0) (h2 : ∀ j, m < j → j ≤ l.length → whole (l.take j) = 0) : lng l = m :=
  lngo_run hm h1 h2 _ 1 (Nat.le_refl _) (by omega) (by omega)
theorem lng_digit {c : UInt8} {r : List UInt8} (h : isD c = true) : lng (c :: r) = run isD (c :: r) := by
  have hk : ∀ j, 1 ≤ j → j ≤ (c :: r).length → (whole ((c :: r).take j) ≠ 0 ↔ j ≤ run isD (c :: r)) := fun j hj hl => by
    rw [← run_all isD (c :: r) j hl]
    obtain ⟨j, rfl⟩ : ∃ i, j = i + 1 := ⟨j - 1, by omega⟩
    rw [List.take_succ_cons]
    exact kind_digit h
  refine lng_run (run_le _ _) (fun j hj hl => (hk j hj (Nat.le_trans hl (run_le _ _))).2 hl) (fun j hj hl => ?_)
  refine Decidable.byContradiction fun hn => ?_
  have := (hk j (by omega) hl).1 hn
  omega
theorem lng_letter {c : UInt8} {r : List UInt8} (h : isL c = true) : lng (c :: r) = run isN (c :: r) := by
  have hk : ∀ j, 1 ≤ j → j ≤ (c :: r).length → (whole ((c :: r).take j) ≠ 0 ↔ j ≤ run isN (c :: r)) := fun j hj hl => by
    rw [← run_all isN (c :: r) j hl]
    obtain ⟨j, rfl⟩ : ∃ i, j = i + 1 := ⟨j - 1, by omega⟩
    rw [List.take_succ_cons]
    exact kind_letter h
  refine lng_run (run_le _ _) (fun j hj hl => (hk j hj (Nat.le_trans hl (run_le _ _))).2 hl) (fun j hj hl => ?_)
  refine Decidable.byContradiction fun hn => ?_
  have := (hk j (by omega) hl).1 hn
  omega
/-- How long the sign at the head is. -/
def sgn : List UInt8 → Nat
  | [] => 0
  | [c] => if signs.contains [c] then 1 else 0
  | c :: d :: _ => if signs.contains [c, d] then 2 else if signs.contains [c] then 1 else 0
theorem lng_other {c : UInt8} {r : List UInt8} (h : isD c = false) (h' : isL c = false) : lng (c :: r) = sgn (c :: r) := by
  have h3 : ∀ j, 3 ≤ j → j ≤ (c :: r).length → whole ((c :: r).take j) = 0 := fun j hj hl => by
    refine Decidable.byContradiction fun hn => ?_
    obtain ⟨j, rfl⟩ : ∃ i, j = i + 1 := ⟨j - 1, by omega⟩
    rw [List.take_succ_cons] at hn
    have := (signs_len _ ((kind_other h h').1 hn)).2.1
    rw [List.length_cons, List.length_take] at this
    simp at hl
    omega
  have k1 : whole [c] ≠ 0 ↔ [c] ∈ signs := kind_other h h'
  cases r with
  | nil =>
    show lng [c] = if signs.contains [c] then 1 else 0
    by_cases hc : [c] ∈ signs
    · rw [if_pos (List.contains_iff_mem.2 hc)]
      refine lng_run (by simp) (fun j hj hl => ?_) (fun j hj hl => by simp at hl; omega)
      obtain rfl : j = 1 := by omega
      exact k1.2 hc
    · rw [if_neg (fun e => hc (List.contains_iff_mem.1 e))]
      refine lng_run (by simp) (fun j hj hl => by omega) (fun j hj hl => ?_)
      obtain rfl : j = 1 := by simp at hl; omega
      exact Decidable.byContradiction fun hn => hc (k1.1 hn)
  | cons d r =>
    have k2 : whole [c, d] ≠ 0 ↔ [c, d] ∈ signs := kind_other h h'
    show lng (c :: d :: r) = if signs.contains [c, d] then 2 else if signs.contains [c] then 1 else 0
    by_cases h2 : [c, d] ∈ signs
    · rw [if_pos (List.contains_iff_mem.2 h2)]
      unfold lng
      rw [show (c :: d :: r).length + 1 = (r.length + 1) + 1 + 1 by simp]
      rw [lngo, if_neg (by simp), if_neg (by omega), lngo, if_neg (by simp), if_neg (by omega), if_pos (show whole (List.take (1 + 1) (c :: d :: r)) ≠ 0 from k2.2 h2)]
      exact lngo_no _ _ _ (fun j hj hl => h3 j (by omega) hl)
    · rw [if_neg (fun e => h2 (List.contains_iff_mem.1 e))]
      have n2 : whole [c, d] = 0 := Decidable.byContradiction fun hn => h2 (k2.1 hn)
      by_cases hc : [c] ∈ signs
      · rw [if_pos (List.contains_iff_mem.2 hc)]
        refine lng_run (by simp) (fun j hj hl => ?_) (fun j hj hl => ?_)
        · obtain rfl : j = 1 := by omega
          exact k1.2 hc
        · by_cases hj3 : 3 ≤ j
          · exact h3 j hj3 hl
          · obtain rfl : j = 2 := by omega
            exact n2
      · rw [if_neg (fun e => hc (List.contains_iff_mem.1 e))]
        have n1 : whole [c] = 0 := Decidable.byContradiction fun hn => hc (k1.1 hn)
        refine lng_run (by simp) (fun j hj hl => by omega) (fun j hj hl => ?_)
        by_cases hj3 : 3 ≤ j
        · exact h3 j hj3 hl
        · by_cases hj2 : j = 2
          · subst hj2; exact n2
          · obtain rfl : j = 1 := by omega
            exact n1
end Lx
end Go.Proofs.YtdcjpinbflmikaaGreatDoor
