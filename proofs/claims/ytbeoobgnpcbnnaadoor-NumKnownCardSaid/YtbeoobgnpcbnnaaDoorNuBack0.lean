/- Plain facts and small words for the law NumBack. No condition. -/
import Derived.Test.YtbeoobgnpcbnnaaDoorNuWorks
import Derived.Deep.DeepCutAuto
namespace Go.Proofs.YtbeoobgnpcbnnaaDoor
open Go.RowKit

theorem mod_facts {a b : Int} (hb : b ≠ 0) : a.tdiv b * b + a.tmod b = a ∧ (0 ≤ a → 0 ≤ a.tmod b ∧ a.tmod b ≤ a) ∧ (a ≤ 0 → a ≤ a.tmod b ∧ a.tmod b ≤ 0) ∧ (a.tmod b).natAbs < b.natAbs := by
  refine ⟨by rw [Int.mul_comm]; exact Int.mul_tdiv_add_tmod a b, fun h => ?_, fun h => ?_, Nu.tmod_lt hb⟩
  · have h1 := tmod_sg (a := a) (b := b)
    have h2 := Nat.mod_le a.natAbs b.natAbs
    rw [← h1, decide_eq_false (by omega)]
    unfold sg
    simp only [Bool.false_eq_true, if_false]
    omega
  · have h1 := tmod_sg (a := a) (b := b)
    have h2 := Nat.mod_le a.natAbs b.natAbs
    rw [← h1]
    unfold sg
    by_cases h0 : a < 0
    · rw [decide_eq_true h0]; simp only [if_true]; omega
    · rw [decide_eq_false h0]; simp only [Bool.false_eq_true, if_false]; omega
theorem prs_m {l : List UInt8} : (Nu.prs l).2 ≠ 0 → (Nu.prs l).1 = 0 := by
  unfold Nu.prs
  cases Nu.isW l with
  | false => intro _; rfl
  | true =>
    simp only [if_true]
    by_cases h : Nu.fits (Nu.worth l)
    · rw [Nu.tell_in h]; intro h; exact absurd rfl h
    · rw [Nu.tell_out h]; intro _; rfl
theorem prs_fits (l : List UInt8) : Nu.fits (Nu.prs l).1 := by
  unfold Nu.prs
  cases Nu.isW l with
  | false => show Nu.fits 0; decide
  | true =>
    simp only [if_true]
    by_cases h : Nu.fits (Nu.worth l)
    · rw [Nu.tell_in h]; exact h
    · rw [Nu.tell_out h]; decide
theorem itoa_len {n : Int} (h : Nu.fits n) : (Lib.itoa n).length ≤ 20 := by
  have hd : ∀ u : Nat, u < 10 ^ 19 → (Lib.decDigits u).length ≤ 19 := fun u hu => by
    by_cases h0 : u = 0
    · subst h0; rw [Lib.decDigits]; decide
    · rw [Nu.dec_dig h0, List.length_map, List.length_reverse]; exact Nu.dig_len_le hu
  unfold Nu.fits at h
  unfold Lib.itoa
  split
  · rw [List.length_cons]; have := hd n.natAbs (by omega); omega
  · have := hd n.toNat (by omega); omega
end Go.Proofs.YtbeoobgnpcbnnaaDoor
