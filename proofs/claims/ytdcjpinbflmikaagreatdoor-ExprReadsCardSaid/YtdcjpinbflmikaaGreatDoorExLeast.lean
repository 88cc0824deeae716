/- Plain facts on expressions: whatever is read as an expression has at least as many tokens as its writing. No program is named here; no condition. -/
import Derived.Test.YtdcjpinbflmikaaGreatDoorExBack2
namespace Go.Proofs.YtdcjpinbflmikaaGreatDoor
namespace Ex

theorem of2_tells {n : Nat} {s : List UInt8} (h : of2 n s ≠ 0) : 7 ≤ of2 n s ∧ of2 n s ≤ 21 ∧ lvl (of2 n s) = n ∧ opS (of2 n s) = s := by
  unfold of2 at h ⊢
  have hm : ∀ op ∈ (List.range 15).map (· + 7), 7 ≤ op ∧ op ≤ 21 := by decide
  generalize (List.range 15).map (· + 7) = l at *
  induction l with
  | nil => exact absurd rfl h
  | cons a r ih =>
    rw [List.foldr_cons] at h ⊢
    by_cases hc : s ≠ [] ∧ opS a = s ∧ lvl a = n
    · rw [if_pos hc]
      have := hm a List.mem_cons_self
      exact ⟨this.1, this.2, hc.2.2, hc.2.1⟩
    · rw [if_neg hc] at h ⊢
      exact ih h (fun op ho => hm op (List.mem_cons_of_mem _ ho))
theorem pr_mono (x : E) {L L' : Nat} (h : L ≤ L') : (pr x L).length ≤ (pr x L').length := by
  cases x with
  | un op a =>
    unfold pr
    split <;> split <;> simp <;> omega
  | bin op a b =>
    unfold pr
    split <;> split <;> simp <;> omega
  | _ => exact Nat.le_refl _
theorem pr_most (x : E) (L : Nat) : (pr x L).length ≤ (pr x 0).length + 2 := by
  cases x with
  | un op a =>
    unfold pr
    split <;> split <;> simp <;> omega
  | bin op a b =>
    unfold pr
    split <;> split <;> simp <;> omega
  | _ => exact Nat.le_add_right _ _
theorem pr_bin {op n : Nat} (h : lvl op = n) (a b : E) : (pr (.bin op a b) n).length = (pr a n).length + 1 + (pr b (n + 1)).length := by
  subst h
  conv => lhs; unfold pr
  rw [if_neg (Nat.lt_irrefl _), List.length_append, List.length_cons]; omega
theorem pr_un {op : Nat} (h : lvl op = 9) (a : E) : (pr (.un op a) 9).length = 1 + (pr a 9).length := by
  conv => lhs; unfold pr
  rw [if_neg (by omega), List.length_cons]; omega
/-- What is asked of what was read. -/
def Long (m : Md) (ts r : List Tk) (x : E) : Prop := match m with
  | .lev n => (pr x n).length + r.length ≤ ts.length
  | .loop n a => (pr x n).length + r.length ≤ ts.length + (pr a n).length
  | .una => (pr x 9).length + r.length ≤ ts.length
  | .pri => (pr x 10).length + r.length ≤ ts.length
  | .bra => (pr x 10).length + r.length ≤ ts.length
theorem rd_long : ∀ (f : Nat) (m : Md) (ts r : List Tk) (x : E), okm m ts → rd f m ts = .ok r x → Long m ts r x
  | 0, _, _, _, _, _, h => by cases h
  | f + 1, .lev n, ts, r, x, ho, h => by
    simp only [okm] at ho
    unfold rd at h
    split at h
    · rename_i e; subst e
      exact rd_long f .pri _ _ _ True.intro h
    · split at h
      · rename_i e; subst e
        exact rd_long f .una _ _ _ True.intro h
      · obtain ⟨r1, a1, h1, h2⟩ := then2_ok h
        have e1 := rd_long f (.lev (n + 1)) _ _ _ (by simp only [okm]; omega) h1
        have e2 := rd_long f (.loop n a1) _ _ _ (by simp only [okm]; omega) h2
        have e3 := pr_mono a1 (Nat.le_succ n)
        simp only [Long] at e1 e2 ⊢
        simp only [Nat.succ_eq_add_one] at e3
        omega
  | f + 1, .loop n a, ts, r, x, ho, h => by
    simp only [okm] at ho
    unfold rd at h
    split at h
    · cases h; simp only [Long]; omega
    · rename_i hop
      have hl := tail_lt (nx_nil (of2_nx hop))
      obtain ⟨_, _, t3, _⟩ := of2_tells hop
      obtain ⟨r1, b1, h1, h2⟩ := then2_ok h
      have e1 := rd_long f (.lev (n + 1)) _ _ _ (by simp only [okm]; omega) h1
      have e2 := rd_long f (.loop n (.bin (of2 n (nx ts)) a b1)) _ _ _ (by simp only [okm]; omega) h2
      have e3 := pr_bin t3 a b1
      simp only [Long] at e1 e2 ⊢
      omega
  | f + 1, .una, ts, r, x, _, h => by
    have hl : nx ts ≠ [] → ts.tail.length + 1 = ts.length := fun h => tail_lt (nx_nil h)
    unfold rd at h
    split at h
    · rename_i hop
      have := hl (by rw [hop]; simp)
      obtain ⟨r1, a1, h1, h2⟩ := then2_ok h
      have e1 := rd_long f .una _ _ _ True.intro h1
      cases h2
      have e3 := pr_un (op := 5) rfl a1
      simp only [Long] at e1 ⊢
      omega
    · split at h
      · rename_i hop
        have := hl (by rw [hop]; simp)
        obtain ⟨r1, a1, h1, h2⟩ := then2_ok h
        have e1 := rd_long f .una _ _ _ True.intro h1
        cases h2
        have e3 := pr_un (op := 6) rfl a1
        simp only [Long] at e1 ⊢
        omega
      · have e1 := rd_long f .pri _ _ _ True.intro h
        have e3 := pr_mono x (show 9 ≤ 10 by decide)
        simp only [Long] at e1 ⊢
        omega
  | f + 1, .pri, ts, r, x, _, h => by
    have hl : nx ts ≠ [] → ts.tail.length + 1 = ts.length := fun h => tail_lt (nx_nil h)
    unfold rd at h
    simp only [Long]
    split at h
    · rename_i hop
      obtain ⟨r1, a1, h1, h2⟩ := then2_ok h
      obtain ⟨_, e3, e4⟩ := eat_ok (by simp) h2
      have e1 := rd_long f (.lev 1) _ _ _ (by simp [okm]) h1
      cases e4
      have := hl (by rw [hop]; simp)
      have q1 := pr_most x 10
      have q2 := pr_mono x (show 0 ≤ 1 by decide)
      simp only [Long] at e1
      omega
    · split at h
      · rename_i hop
        exact rd_long f .bra _ _ _ (nx_nil (by rw [hop]; simp)) h
      · split at h
        · rename_i hop; cases h; have := hl (by rw [hop]; simp); simp [pr]; omega
        · split at h
          · rename_i hop; cases h; have := hl (by rw [hop]; simp); simp [pr]; omega
          · split at h
            · rename_i hop
              split at h
              · cases h; have := hl hop.1; simp [pr]; omega
              · cases h
            · split at h
              · rename_i hop; cases h; have := hl hop.1; simp [pr]; omega
              · cases h
  | f + 1, .bra, ts, r, x, ho, h => by
    have hl := tail_lt (show ts ≠ [] from ho)
    unfold rd at h
    simp only [Long]
    obtain ⟨r1, a1, h1, h2⟩ := then2_ok h
    obtain ⟨_, e3, h3⟩ := eat_ok (by simp) h2
    obtain ⟨r4, a4, h4, h5⟩ := then2_ok h3
    obtain ⟨_, e6, h6⟩ := eat_ok (by simp) h5
    obtain ⟨r7, a7, h7, h8⟩ := then2_ok h6
    obtain ⟨_, e9, h9⟩ := eat_ok (by simp) h8
    have q1 := rd_long f (.lev 1) _ _ _ (by simp [okm]) h1
    have q4 := rd_long f (.lev 1) _ _ _ (by simp [okm]) h4
    have q7 := rd_long f (.lev 1) _ _ _ (by simp [okm]) h7
    have m1 := pr_mono a1 (show 0 ≤ 1 by decide)
    have m4 := pr_mono a4 (show 0 ≤ 1 by decide)
    have m7 := pr_mono a7 (show 0 ≤ 1 by decide)
    cases h9
    simp only [Long] at q1 q4 q7
    simp only [pr, List.length_append, List.length_cons, List.length_nil]
    omega
/-- Whatever is read whole as an expression has at least as many tokens as its writing. -/
theorem least {ts : List Tk} {x : E} (h : R (.lev 1) ts = .ok [] x) : (pr x 0).length ≤ ts.length := by
  have h1 := rd_long _ (.lev 1) _ _ _ (by simp [okm]) h
  have h2 := pr_mono x (show 0 ≤ 1 by decide)
  simp only [Long, List.length_nil] at h1
  omega
end Ex
end Go.Proofs.YtdcjpinbflmikaaGreatDoor
