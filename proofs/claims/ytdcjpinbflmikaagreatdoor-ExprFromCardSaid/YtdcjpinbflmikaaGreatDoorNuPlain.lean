/- Plain facts on numbers: their decimal digits, the least first; sums, differences and quotients digit by digit; numbers of 64 bits. No program is named here; no condition. -/
import Derived.Laws.Closers25
namespace Go.Proofs.YtdcjpinbflmikaaGreatDoor
namespace Nu

/-- The digits of a number, the least first; none of 0. -/
def dig (n : Nat) : List Nat := if h : n = 0 then [] else n % 10 :: dig (n / 10)
termination_by n
decreasing_by omega
theorem dig_zero : dig 0 = [] := by rw [dig]; rfl
theorem dig_pos {n : Nat} (h : n ≠ 0) : dig n = n % 10 :: dig (n / 10) := by rw [dig, dif_neg h]
/-- What digits are worth. -/
def val : List Nat → Nat
  | [] => 0
  | d :: l => d + 10 * val l
theorem val_dig (n : Nat) : val (dig n) = n := by
  induction n using Nat.strongRecOn with
  | _ n ih =>
    by_cases h : n = 0
    · subst h; rw [dig_zero]; rfl
    · rw [dig_pos h]; simp only [val]; rw [ih (n / 10) (by omega)]; omega
theorem dig_lt {n d : Nat} (h : d ∈ dig n) : d < 10 := by
  induction n using Nat.strongRecOn with
  | _ n ih =>
    by_cases hn : n = 0
    · subst hn; rw [dig_zero] at h; cases h
    · rw [dig_pos hn] at h
      rcases List.mem_cons.1 h with rfl | h
      · omega
      · exact ih (n / 10) (by omega) h
theorem dig_nil {n : Nat} : dig n = [] ↔ n = 0 := by
  constructor
  · intro h
    have := val_dig n
    rw [h] at this
    exact this.symm
  · rintro rfl; exact dig_zero
theorem val_append (l m : List Nat) : val (l ++ m) = val l + 10 ^ l.length * val m := by
  induction l with
  | nil => simp [val]
  | cons d l ih =>
    simp only [List.cons_append, val, ih, List.length_cons, Nat.pow_succ]
    rw [Nat.mul_add, Nat.mul_comm (10 ^ l.length) 10, Nat.mul_assoc, Nat.add_assoc]
theorem val_snoc (l : List Nat) (d : Nat) : val (l ++ [d]) = val l + 10 ^ l.length * d := by rw [val_append]; simp [val]
theorem val_lt {l : List Nat} (h : ∀ d ∈ l, d < 10) : val l < 10 ^ l.length := by
  induction l with
  | nil => simp [val]
  | cons d l ih =>
    have h1 := ih (fun d hd => h d (List.mem_cons_of_mem _ hd))
    have h2 := h d (List.mem_cons_self ..)
    simp only [val, List.length_cons, Nat.pow_succ]
    omega
theorem dig_len_le {n k : Nat} (h : n < 10 ^ k) : (dig n).length ≤ k := by
  induction k generalizing n with
  | zero => have : n = 0 := by simp at h; exact h
            subst this; rw [dig_zero]; exact Nat.le_refl _
  | succ k ih =>
    by_cases hn : n = 0
    · subst hn; rw [dig_zero]; exact Nat.zero_le _
    · rw [dig_pos hn, List.length_cons]
      have := ih (n := n / 10) (by rw [Nat.pow_succ] at h; omega)
      omega
theorem lt_pow_len (n : Nat) : n < 10 ^ (dig n).length := by
  have := val_lt (l := dig n) (fun d hd => dig_lt hd)
  rwa [val_dig] at this
theorem dig_len_iff {n k : Nat} : (dig n).length ≤ k ↔ n < 10 ^ k :=
  ⟨fun h => Nat.lt_of_lt_of_le (lt_pow_len n) (Nat.pow_le_pow_right (by decide) h), dig_len_le⟩
/-- A digit at a place; 0 beyond. -/
theorem dig_at (n i : Nat) : (dig n).getD i 0 = n / 10 ^ i % 10 := by
  induction i generalizing n with
  | zero =>
    by_cases hn : n = 0
    · subst hn; rw [dig_zero]; rfl
    · rw [dig_pos hn]; simp
  | succ i ih =>
    by_cases hn : n = 0
    · subst hn; rw [dig_zero]; simp
    · rw [dig_pos hn, List.getD_cons_succ, ih, Nat.pow_succ, Nat.mul_comm, Nat.div_div_eq_div_mul]
theorem dig_get {n i : Nat} (h : i < (dig n).length) : (dig n)[i] = n / 10 ^ i % 10 := by
  rw [← dig_at, List.getD_eq_getElem?_getD, List.getElem?_eq_getElem h]; rfl
theorem dig_of_val : ∀ {l : List Nat}, (∀ d ∈ l, d < 10) → (∀ h : l ≠ [], l.getLast h ≠ 0) → dig (val l) = l
  | [], _, _ => dig_zero
  | d :: l, h, hl => by
    have hd := h d (List.mem_cons_self ..)
    have h0 : val (d :: l) ≠ 0 := by
      intro h0
      simp only [val] at h0
      by_cases hn : l = []
      · subst hn
        have := hl (by simp)
        simp at this
        omega
      · have h1 := dig_of_val (l := l) (fun d hd => h d (List.mem_cons_of_mem _ hd)) (fun hh => by have := hl (by simp); rwa [List.getLast_cons hh] at this)
        rw [show val l = 0 by omega, dig_zero] at h1
        exact hn h1.symm
    rw [dig_pos h0]
    simp only [val]
    rw [show (d + 10 * val l) % 10 = d by omega, show (d + 10 * val l) / 10 = val l by omega]
    by_cases hn : l = []
    · subst hn; simp [val, dig_zero]
    · rw [dig_of_val (l := l) (fun d hd => h d (List.mem_cons_of_mem _ hd)) (fun hh => by have := hl (by simp); rwa [List.getLast_cons hh] at this)]
theorem val_zero_end {l : List Nat} {k : Nat} (hk : k + 1 ≤ l.length) (h : l[k] = 0) : val (l.take k) = val (l.take (k + 1)) := by
  rw [List.take_succ_eq_append_getElem (by omega), val_snoc, h]; omega
/-- trim: what is left when noughts at the end fall. -/
theorem trim_done {l : List Nat} (hd : ∀ d ∈ l, d < 10) {k : Nat} (hk : k ≤ l.length) (h : ∀ h : 0 < k, l[k - 1] ≠ 0) (hv : val (l.take k) = val l) : l.take k = dig (val l) := by
  rw [← hv]
  refine (dig_of_val (fun d hm => hd d (List.mem_of_mem_take hm)) fun hn => ?_).symm
  have h0 : 0 < k := by
    rcases Nat.eq_zero_or_pos k with rfl | h0
    · simp at hn
    · exact h0
  have h1 := h h0
  rw [List.getLast_eq_getElem]
  simp only [List.getElem_take, List.length_take]
  have : min k l.length - 1 = k - 1 := by omega
  simp only [this]
  exact h1

theorem val_at : ∀ {l : List Nat} (_ : ∀ d ∈ l, d < 10) (i : Nat), l.getD i 0 = val l / 10 ^ i % 10
  | [], _, i => by simp [val]
  | d :: l, h, 0 => by
    have := h d (List.mem_cons_self ..)
    simp only [List.getD_cons_zero, val, Nat.pow_zero, Nat.div_one]
    omega
  | d :: l, h, i + 1 => by
    have h1 := h d (List.mem_cons_self ..)
    rw [List.getD_cons_succ, val_at (l := l) (fun e he => h e (List.mem_cons_of_mem _ he)) i, Nat.pow_succ, Nat.mul_comm, ← Nat.div_div_eq_div_mul]
    simp only [val]
    rw [show (d + 10 * val l) / 10 = val l by omega]
theorem shift_lt (i x : Nat) : ∀ d ∈ List.replicate i 0 ++ dig x, d < 10 := fun d hd => by
  rcases List.mem_append.1 hd with h | h
  · rw [List.mem_replicate] at h; omega
  · exact dig_lt h
theorem mod_pow_step (x i : Nat) : x % 10 ^ (i + 1) = x % 10 ^ i + 10 ^ i * (x / 10 ^ i % 10) := by
  rw [Nat.pow_succ, Nat.mod_mul]
/-- One digit more of a sum. -/
theorem add_step {x y i c v : Nat} (h : v + 10 ^ i * c = x % 10 ^ i + y % 10 ^ i) :
    (v + 10 ^ i * ((x / 10 ^ i % 10 + y / 10 ^ i % 10 + c) % 10)) + 10 ^ (i + 1) * ((x / 10 ^ i % 10 + y / 10 ^ i % 10 + c) / 10) = x % 10 ^ (i + 1) + y % 10 ^ (i + 1) := by
  rw [mod_pow_step x, mod_pow_step y, Nat.pow_succ]
  generalize x / 10 ^ i % 10 = a at *
  generalize y / 10 ^ i % 10 = b at *
  generalize x % 10 ^ i = u at *
  generalize y % 10 ^ i = t at *
  generalize 10 ^ i = P at *
  have e : P * ((a + b + c) % 10) + P * 10 * ((a + b + c) / 10) = P * (a + b + c) := by
    rw [Nat.mul_assoc, ← Nat.mul_add]; congr 1; omega
  have e2 : P * (a + b + c) = P * a + P * b + P * c := by rw [Nat.mul_add, Nat.mul_add]
  omega
/-- One digit more of a difference. -/
theorem take_step {x y i c d v : Nat} (h : x % 10 ^ i + 10 ^ i * c = y % 10 ^ i + v) {c' : Nat} (hd : x / 10 ^ i % 10 + 10 * c' = y / 10 ^ i % 10 + c + d) :
    x % 10 ^ (i + 1) + 10 ^ (i + 1) * c' = y % 10 ^ (i + 1) + (v + 10 ^ i * d) := by
  rw [mod_pow_step x, mod_pow_step y, Nat.pow_succ]
  generalize x / 10 ^ i % 10 = a at *
  generalize y / 10 ^ i % 10 = b at *
  generalize x % 10 ^ i = u at *
  generalize y % 10 ^ i = t at *
  generalize 10 ^ i = P at *
  have e : P * a + P * (10 * c') = P * b + P * c + P * d := by rw [← Nat.mul_add, hd, Nat.mul_add, Nat.mul_add]
  have e2 : P * 10 * c' = P * (10 * c') := Nat.mul_assoc ..
  omega
theorem take_end {x y i c v : Nat} (h : x % 10 ^ i + 10 ^ i * c = y % 10 ^ i + v) (hx : x < 10 ^ i) (hyx : y ≤ x) (hv : v < 10 ^ i) : v = x - y := by
  rw [Nat.mod_eq_of_lt hx, Nat.mod_eq_of_lt (by omega)] at h
  have hc : c = 0 := by
    rcases Nat.eq_zero_or_pos c with h0 | h0
    · exact h0
    · have : 10 ^ i * 1 ≤ 10 ^ i * c := Nat.mul_le_mul_left _ h0
      omega
  subst hc
  omega
theorem top_step (x i : Nat) : x / 10 ^ i = 10 * (x / 10 ^ (i + 1)) + x / 10 ^ i % 10 := by
  have : x / 10 ^ (i + 1) = x / 10 ^ i / 10 := by rw [Nat.pow_succ, Nat.div_div_eq_div_mul]
  omega
theorem top_full (x : Nat) : x / 10 ^ (dig x).length = 0 := Nat.div_eq_of_lt (lt_pow_len x)
theorem top_zero (x : Nat) : x / 10 ^ 0 = x := by simp
theorem lt_of_len {x y : Nat} (h : (dig x).length < (dig y).length) : x < y := by
  rcases Nat.lt_or_ge x y with h1 | h1
  · exact h1
  · have := dig_len_iff.2 (Nat.lt_of_le_of_lt h1 (lt_pow_len x))
    omega
theorem lt_of_top {x y i : Nat} (h : x / 10 ^ (i + 1) = y / 10 ^ (i + 1)) (hd : x / 10 ^ i % 10 < y / 10 ^ i % 10) : x < y := by
  rcases Nat.lt_or_ge x y with h1 | h1
  · exact h1
  · have := Nat.div_le_div_right (c := 10 ^ i) h1
    have e1 := top_step x i
    have e2 := top_step y i
    omega
theorem dig_ten {n d : Nat} (hd : d < 10) (h : 10 * n + d ≠ 0) : dig (10 * n + d) = d :: dig n := by
  rw [dig_pos h, show (10 * n + d) % 10 = d by omega, show (10 * n + d) / 10 = n by omega]
theorem replicate_val (k : Nat) : val (List.replicate k 0) = 0 := by
  induction k with
  | zero => rfl
  | succ k ih => rw [List.replicate_succ, val, ih]
theorem replicate_dig (k x : Nat) : val (List.replicate k 0 ++ dig x) = 10 ^ k * x := by
  rw [val_append, replicate_val, val_dig, List.length_replicate]; omega

/-- What a whole number of any length is told as: itself, or that it is beyond the bounds. -/
def fits (z : Int) : Prop := -9223372036854775808 ≤ z ∧ z ≤ 9223372036854775807
instance (z : Int) : Decidable (fits z) := by unfold fits; infer_instance
def tell (z : Int) : Int × Int := if fits z then (z, 0) else (0, 60)
theorem tell_in {z : Int} (h : fits z) : tell z = (z, 0) := if_pos h
theorem tell_out {z : Int} (h : ¬ fits z) : tell z = (0, 60) := if_neg h
/-- What two numbers of 64 bits come to beyond the bounds. -/
theorem wrap_of {z : Int} (h : fits z) : IntKind.i64.wrap z = z := by rw [IntKind.wrap_i64]; unfold fits at h; omega
theorem wrap_fits (z : Int) : fits (IntKind.i64.wrap z) := by rw [IntKind.wrap_i64]; unfold fits; omega
theorem wrap_off (z : Int) : ∃ k : Int, IntKind.i64.wrap z = z - k * 18446744073709551616 := by
  rw [IntKind.wrap_i64]
  refine ⟨(z + 9223372036854775808) / 18446744073709551616, ?_⟩
  omega
theorem add_in {a b : Int} : (decide (a < a + b) == decide (0 < b)) = true := by
  by_cases h1 : a < a + b <;> by_cases h2 : 0 < b <;> simp only [h1, h2, decide_true, decide_false] <;> first | rfl | (exfalso; omega)
theorem add_out {a b : Int} (ha : fits a) (hb : fits b) (h : ¬ fits (a + b)) : (decide (a < IntKind.i64.wrap (a + b)) == decide (0 < b)) = false := by
  rw [IntKind.wrap_i64]
  unfold fits at *
  by_cases h1 : a < (a + b + 9223372036854775808) % 18446744073709551616 - 9223372036854775808 <;> by_cases h2 : 0 < b <;> simp only [h1, h2, decide_true, decide_false] <;> first | rfl | (exfalso; omega)
theorem sub_in {a b : Int} : (decide (a - b < a) == decide (0 < b)) = true := by
  by_cases h1 : a - b < a <;> by_cases h2 : 0 < b <;> simp only [h1, h2, decide_true, decide_false] <;> first | rfl | (exfalso; omega)
theorem sub_out {a b : Int} (ha : fits a) (hb : fits b) (h : ¬ fits (a - b)) : (decide (IntKind.i64.wrap (a - b) < a) == decide (0 < b)) = false := by
  rw [IntKind.wrap_i64]
  unfold fits at *
  by_cases h1 : (a - b + 9223372036854775808) % 18446744073709551616 - 9223372036854775808 < a <;> by_cases h2 : 0 < b <;> simp only [h1, h2, decide_true, decide_false] <;> first | rfl | (exfalso; omega)
theorem tdiv_fits {a b : Int} (ha : fits a) (hb : b ≠ 0) (hb1 : b ≠ -1) : fits (a.tdiv b) := by
  have h : (a.tdiv b).natAbs ≤ a.natAbs := by rw [Int.natAbs_tdiv]; exact Nat.div_le_self _ _
  have h2 : b.natAbs ≥ 2 ∨ b = 1 := by omega
  unfold fits at *
  rcases h2 with h2 | rfl
  · have h3 : (a.tdiv b).natAbs ≤ a.natAbs / 2 := by
      rw [Int.natAbs_tdiv]
      exact Nat.div_le_div_left h2 (by decide)
    omega
  · rw [Int.tdiv_one]; exact ha
theorem tmod_lt {a b : Int} (hb : b ≠ 0) : (a.tmod b).natAbs < b.natAbs := by rw [Int.natAbs_tmod]; exact Nat.mod_lt _ (by omega)
theorem tmod_fits {a b : Int} (hb : fits b) (h0 : b ≠ 0) : fits (a.tmod b) := by
  have := tmod_lt (a := a) h0
  unfold fits at *; omega
theorem mul_back_in {a b : Int} (hb : b ≠ 0) : (a * b).tdiv b = a := Int.mul_tdiv_cancel a hb
theorem mul_back_out {a b : Int} (hb : fits b) (h0 : b ≠ 0) (h : ¬ fits (a * b)) : (IntKind.i64.wrap (a * b)).tdiv b ≠ a := by
  intro e
  have h1 := wrap_fits (a * b)
  obtain ⟨k, hk⟩ := wrap_off (a * b)
  have h2 := Int.mul_tdiv_add_tmod (IntKind.i64.wrap (a * b)) b
  rw [e, hk, Int.mul_comm b a] at h2
  have h3 := tmod_lt (a := a * b - k * 18446744073709551616) h0
  rw [hk] at h1
  unfold fits at *
  generalize (a * b - k * 18446744073709551616).tmod b = r at *
  generalize a * b = p at *
  omega
theorem mul_neg_in {a : Int} (ha : fits a) (h : fits (a * -1)) : IntKind.i64.wrap (a * -1) = -a ∧ fits (-(-a)) ∧ -(-a) = a := by
  refine ⟨?_, ?_, by omega⟩
  · rw [wrap_of h]; omega
  · rw [Int.neg_neg]; exact ha
theorem mul_neg_out {a : Int} (ha : fits a) (h : ¬ fits (a * -1)) : ¬ fits (-(IntKind.i64.wrap (a * -1))) := by
  rw [IntKind.wrap_i64]
  unfold fits at *
  omega
theorem neg_one {a : Int} : a.tdiv (-1) = -a := by rw [Int.tdiv_neg, Int.tdiv_one]
end Nu
end Go.Proofs.YtdcjpinbflmikaaGreatDoor
