/- Plain facts on the tokens of expressions: a token is the longest one; what separates leaves it as it is; blanks and what stands behind them. No program is named here; no condition. -/
import Derived.Test.YtdcjpinbflmikaaGreatDoorLxFast
namespace Go.Proofs.YtdcjpinbflmikaaGreatDoor
namespace Lx

theorem lngo_good (l : List UInt8) : ∀ (f k n : Nat), (n ≠ 0 → whole (l.take n) ≠ 0) → lngo l f k n ≠ 0 → whole (l.take (lngo l f k n)) ≠ 0
  | 0, _, _, h, h0 => h h0
  | f + 1, k, n, h, h0 => by
    unfold lngo at h0 ⊢
    split
    · rename_i hk; rw [if_pos hk] at h0; exact h h0
    · rename_i hk
      rw [if_neg hk] at h0
      split
      · rename_i hk2; rw [if_pos hk2] at h0; exact h h0
      · rename_i hk2
        rw [if_neg hk2] at h0
        refine lngo_good l f _ _ ?_ h0
        intro hn
        by_cases hw : whole (l.take k) ≠ 0
        · rw [if_pos hw] at hn ⊢; exact hw
        · rw [if_neg hw] at hn ⊢; exact h hn
theorem lng_good {l : List UInt8} (h : lng l ≠ 0) : whole (l.take (lng l)) ≠ 0 := lngo_good l _ _ _ (fun h => absurd rfl h) h
theorem sign2 : ∀ w ∈ signs, sgn w = w.length := by decide
theorem lng_tok {x : List UInt8} (h : whole x ≠ 0) : lng x = x.length := by
  cases x with
  | nil => exact absurd rfl h
  | cons c r =>
    cases hd : isD c with
    | true =>
      rw [lng_digit hd]
      have h2 := (kind_digit hd).1 h
      have h3 := (run_all isD (c :: r) (c :: r).length (Nat.le_refl _)).1 (by rw [List.take_length]; exact h2)
      have := run_le isD (c :: r)
      omega
    | false =>
      cases hl : isL c with
      | true =>
        rw [lng_letter hl]
        have h2 := (kind_letter hl).1 h
        have h3 := (run_all isN (c :: r) (c :: r).length (Nat.le_refl _)).1 (by rw [List.take_length]; exact h2)
        have := run_le isN (c :: r)
        omega
      | false =>
        rw [lng_other hd hl]
        exact sign2 _ ((kind_other hd hl).1 h)
theorem lng_max {l : List UInt8} (h : lng l < l.length) : whole (l.take (lng l + 1)) = 0 := by
  refine Decidable.byContradiction fun hn => ?_
  cases l with
  | nil => exact absurd h (Nat.not_lt_zero _)
  | cons c r =>
    cases hd : isD c with
    | true =>
      rw [lng_digit hd] at h hn
      rw [List.take_succ_cons] at hn
      have h2 := (kind_digit hd).1 hn
      rw [← List.take_succ_cons, run_all _ _ _ (by omega)] at h2
      omega
    | false =>
      cases hl : isL c with
      | true =>
        rw [lng_letter hl] at h hn
        rw [List.take_succ_cons] at hn
        have h2 := (kind_letter hl).1 hn
        rw [← List.take_succ_cons, run_all _ _ _ (by omega)] at h2
        omega
      | false =>
        rw [lng_other hd hl] at h hn
        rw [List.take_succ_cons] at hn
        have h2 := (kind_other hd hl).1 hn
        have h3 := (signs_len _ h2).2.1
        rw [List.length_cons, List.length_take] at h3
        rw [List.length_cons] at h
        cases r with
        | nil =>
          have : sgn [c] = 0 := by simp at h; omega
          rw [this] at h2
          have h4 : (if signs.contains [c] then 1 else 0) = 0 := this
          rw [if_pos (List.contains_iff_mem.2 (show [c] ∈ signs from h2))] at h4
          cases h4
        | cons d r =>
          have hs : sgn (c :: d :: r) = if signs.contains [c, d] then 2 else if signs.contains [c] then 1 else 0 := rfl
          rw [hs] at h h2 h3
          by_cases e2 : signs.contains [c, d] = true
          · rw [if_pos e2] at h h3
            simp at h h3
            omega
          · rw [if_neg e2] at h h2
            by_cases e1 : signs.contains [c] = true
            · rw [if_pos e1] at h2
              exact e2 (List.contains_iff_mem.2 h2)
            · rw [if_neg e1] at h2
              exact e1 (List.contains_iff_mem.2 h2)
/-- What separates: the bytes 10 and 32. -/
def isQ (q : UInt8) : Prop := q = 10 ∨ q = 32
theorem run_sep {p : UInt8 → Bool} {q : UInt8} (h : p q = false) (y : List UInt8) : ∀ x : List UInt8, run p (x ++ q :: y) = run p x
  | [] => by show (if p q then _ else _) = 0; rw [h]; rfl
  | c :: r => by
    show (if p c then 1 + run p (r ++ q :: y) else 0) = if p c then 1 + run p r else 0
    rw [run_sep h y r]
theorem sign_sep : ∀ w ∈ signs, w.contains 10 = false ∧ w.contains 32 = false := by decide
theorem lng_sep {q : UInt8} (hq : isQ q) {x : List UInt8} (hx : x ≠ []) (y : List UInt8) : lng (x ++ q :: y) = lng x := by
  have q1 : isD q = false := by rcases hq with rfl | rfl <;> decide
  have q2 : isN q = false := by rcases hq with rfl | rfl <;> decide
  cases x with
  | nil => exact absurd rfl hx
  | cons c r =>
    rw [List.cons_append]
    cases hd : isD c with
    | true => rw [lng_digit hd, lng_digit hd, ← List.cons_append, run_sep q1]
    | false =>
      cases hl : isL c with
      | true => rw [lng_letter hl, lng_letter hl, ← List.cons_append, run_sep q2]
      | false =>
        rw [lng_other hd hl, lng_other hd hl]
        cases r with
        | nil =>
          show (if signs.contains [c, q] then 2 else if signs.contains [c] then 1 else 0) = if signs.contains [c] then 1 else 0
          rw [if_neg]
          intro h
          have := sign_sep _ (List.contains_iff_mem.1 h)
          rcases hq with rfl | rfl
          · have h1 := this.1; simp at h1
          · have h1 := this.2; simp at h1
        | cons d r => rfl
theorem blk_cat (y : List UInt8) : ∀ (m : Bool) (x : List UInt8), blk m (x ++ 10 :: y) = if blk m x = x.length then x.length + 1 + blk false y else blk m x
  | true, [] => by simp [blk]
  | false, [] => by simp [blk, isB]
  | true, c :: r => by
    have h1 := blk_cat y false r
    have h2 := blk_cat y true r
    have e : blk true (c :: r) = if c.toNat = 10 then 1 + blk false r else 1 + blk true r := rfl
    have e' : blk true (c :: r ++ 10 :: y) = if c.toNat = 10 then 1 + blk false (r ++ 10 :: y) else 1 + blk true (r ++ 10 :: y) := rfl
    rw [e, e', h1, h2, List.length_cons]
    by_cases hc : c.toNat = 10
    · rw [if_pos hc, if_pos hc]
      split <;> split <;> omega
    · rw [if_neg hc, if_neg hc]
      split <;> split <;> omega
  | false, c :: r => by
    have h1 := blk_cat y false r
    have h2 := blk_cat y true r
    have e : blk false (c :: r) = if isB c then 1 + blk false r else if c.toNat = 45 ∧ r.head? = some 45 then 1 + blk true r else 0 := rfl
    have e' : blk false (c :: r ++ 10 :: y) = if isB c then 1 + blk false (r ++ 10 :: y) else if c.toNat = 45 ∧ (r ++ 10 :: y).head? = some 45 then 1 + blk true (r ++ 10 :: y) else 0 := rfl
    have hh : (r ++ 10 :: y).head? = some 45 ↔ r.head? = some 45 := by
      cases r with
      | nil => simp
      | cons d r => simp
    rw [e, e', h1, h2, List.length_cons]
    by_cases hb : isB c = true
    · rw [if_pos hb, if_pos hb]
      split <;> split <;> omega
    · rw [if_neg hb, if_neg hb]
      by_cases hc : c.toNat = 45 ∧ r.head? = some 45
      · rw [if_pos hc, if_pos ⟨hc.1, hh.2 hc.2⟩]
        split <;> split <;> omega
      · rw [if_neg hc, if_neg (fun h => hc ⟨h.1, hh.1 h.2⟩)]
        split <;> omega
theorem blk_pos {r : List UInt8} {d : UInt8} (h : r.head? = some d) : 1 ≤ blk true r := by
  cases r with
  | nil => cases h
  | cons c r =>
    show 1 ≤ if c.toNat = 10 then 1 + blk false r else 1 + blk true r
    split <;> omega
theorem blk_take : ∀ (m : Bool) (l : List UInt8), blk m (l.take (blk m l)) = blk m l
  | _, [] => by cases ‹Bool› <;> simp [blk]
  | true, c :: r => by
    have h1 := blk_take false r
    have h2 := blk_take true r
    have e : ∀ r, blk true (c :: r) = if c.toNat = 10 then 1 + blk false r else 1 + blk true r := fun _ => rfl
    rw [e]
    by_cases hc : c.toNat = 10
    · rw [if_pos hc, Nat.add_comm, List.take_succ_cons, e, if_pos hc, h1]; omega
    · rw [if_neg hc, Nat.add_comm, List.take_succ_cons, e, if_neg hc, h2]; omega
  | false, c :: r => by
    have h1 := blk_take false r
    have h2 := blk_take true r
    have e : ∀ r : List UInt8, blk false (c :: r) = if isB c then 1 + blk false r else if c.toNat = 45 ∧ r.head? = some 45 then 1 + blk true r else 0 := fun _ => rfl
    rw [e]
    by_cases hb : isB c = true
    · rw [if_pos hb, Nat.add_comm, List.take_succ_cons, e, if_pos hb, h1]; omega
    · rw [if_neg hb]
      by_cases hc : c.toNat = 45 ∧ r.head? = some 45
      · have hp := blk_pos hc.2
        rw [if_pos hc, Nat.add_comm, List.take_succ_cons, e, if_neg hb, if_pos, h2]
        · omega
        · refine ⟨hc.1, ?_⟩
          obtain ⟨k, hk⟩ : ∃ k, blk true r = k + 1 := ⟨blk true r - 1, by omega⟩
          rw [hk]
          cases r with
          | nil => cases hc.2
          | cons d r => exact hc.2
      · rw [if_neg hc]; rfl
theorem tok_head : ∀ w ∈ signs, ∀ c ∈ w.head?, isB c = false := by decide
theorem tok_dash : ∀ w ∈ signs, w.head? = some 45 → w = [45] := by decide
/-- A token is no blank, nor is it once 32 follows. -/
theorem blk_tok {x : List UInt8} (h : whole x ≠ 0) (y : List UInt8) : blk false (x ++ 32 :: y) = 0 ∧ blk false x = 0 := by
  cases x with
  | nil => exact absurd rfl h
  | cons c r =>
    have e : ∀ r : List UInt8, blk false (c :: r) = if isB c then 1 + blk false r else if c.toNat = 45 ∧ r.head? = some 45 then 1 + blk true r else 0 := fun _ => rfl
    have hb : isB c = false ∧ (c.toNat = 45 → r = []) := by
      cases hd : isD c with
      | true =>
        have := of_decide_eq_true hd
        exact ⟨decide_eq_false (by omega), fun h => by omega⟩
      | false =>
        cases hl : isL c with
        | true =>
          have := of_decide_eq_true hl
          exact ⟨decide_eq_false (by omega), fun h => by omega⟩
        | false =>
          have hs := (kind_other hd hl).1 h
          refine ⟨tok_head _ hs c rfl, fun h45 => ?_⟩
          have hc : c = 45 := UInt8.toNat_inj.1 h45
          have := tok_dash _ hs (by rw [hc]; rfl)
          injection this
    constructor
    · rw [List.cons_append, e, if_neg (by rw [hb.1]; decide), if_neg]
      rintro ⟨h45, hh⟩
      rw [hb.2 h45] at hh
      cases hh
    · rw [e, if_neg (by rw [hb.1]; decide), if_neg]
      rintro ⟨h45, hh⟩
      rw [hb.2 h45] at hh
      cases hh
end Lx
end Go.Proofs.YtdcjpinbflmikaaGreatDoor
