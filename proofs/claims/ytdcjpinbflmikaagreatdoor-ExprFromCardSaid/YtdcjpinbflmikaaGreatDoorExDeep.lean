/- Plain facts on expressions: depth and writing, read off a row of nodes. No program is named here; no condition. -/
import Derived.Test.YtdcjpinbflmikaaGreatDoorExText
namespace Go.Proofs.YtdcjpinbflmikaaGreatDoor
namespace Ex

/-- The depth of the expression whose last node stands at a place. -/
def dpl : Nat → List Nd → Int → Int
  | 0, _, _ => 0
  | f + 1, l, i => if i < 0 then 0 else match l[i.toNat]? with
    | none => 0
    | some n => 1 + max (dpl f l n.a) (max (dpl f l n.b) (dpl f l n.c))
theorem dpl_neg (f : Nat) (l : List Nd) : dpl f l (-1) = 0 := by
  cases f with
  | zero => rfl
  | succ f => unfold dpl; rw [if_pos (by decide)]
theorem dpl_step {f : Nat} {l : List Nd} {i : Nat} {n : Nd} (h : l[i]? = some n) : dpl (f + 1) l i = 1 + max (dpl f l n.a) (max (dpl f l n.b) (dpl f l n.c)) := by
  conv => lhs; unfold dpl
  rw [if_neg (by omega)]
  simp only [Int.toNat_natCast, h]
theorem dpl_at {l : List Nd} : ∀ (x : E) (s f : Nat), At l s x → sz x ≤ f → dpl f l ((s + sz x : Nat) - 1) = dp x
  | x, s, 0, _, h => absurd h (by have := sz_pos x; omega)
  | .num n, s, f + 1, h, _ => by
    rw [show ((s + sz (.num n) : Nat) : Int) - 1 = (s : Int) by simp only [sz]; omega, dpl_step (at_one.1 h.1)]
    simp only [dpl_neg, dp]; decide
  | .name t, s, f + 1, h, _ => by
    rw [show ((s + sz (.name t) : Nat) : Int) - 1 = (s : Int) by simp only [sz]; omega, dpl_step (at_one.1 h.1)]
    simp only [dpl_neg, dp]; decide
  | .tt, s, f + 1, h, _ => by
    rw [show ((s + sz .tt : Nat) : Int) - 1 = (s : Int) by simp only [sz]; omega, dpl_step (at_one.1 h.1)]
    simp only [dpl_neg, dp]; decide
  | .ff, s, f + 1, h, _ => by
    rw [show ((s + sz .ff : Nat) : Int) - 1 = (s : Int) by simp only [sz]; omega, dpl_step (at_one.1 h.1)]
    simp only [dpl_neg, dp]; decide
  | .un op a, s, f + 1, h, hf => by
    simp only [sz] at hf
    obtain ⟨ha, hn⟩ := at_un h
    rw [show ((s + sz (.un op a) : Nat) : Int) - 1 = ((s + sz a : Nat) : Int) by simp only [sz]; omega, dpl_step hn]
    simp only [dpl_neg, dp]
    rw [dpl_at a s f ha (by omega)]
    omega
  | .bin op a b, s, f + 1, h, hf => by
    simp only [sz] at hf
    obtain ⟨ha, hb, hn⟩ := at_bin h
    rw [show ((s + sz (.bin op a b) : Nat) : Int) - 1 = ((s + sz a + sz b : Nat) : Int) by simp only [sz]; omega, dpl_step hn]
    simp only [dpl_neg, dp]
    rw [dpl_at a s f ha (by omega), dpl_at b (s + sz a) f hb (by omega)]
    omega
  | .ite a b c, s, f + 1, h, hf => by
    simp only [sz] at hf
    obtain ⟨ha, hb, hc, hn⟩ := at_ite h
    rw [show ((s + sz (.ite a b c) : Nat) : Int) - 1 = ((s + sz a + sz b + sz c : Nat) : Int) by simp only [sz]; omega, dpl_step hn]
    simp only [dp]
    rw [dpl_at a s f ha (by omega), dpl_at b (s + sz a) f hb (by omega), dpl_at c (s + sz a + sz b) f hc (by omega)]
    omega
theorem dp_pos : ∀ x : E, 1 ≤ dp x := fun x => by cases x <;> simp [dp]
end Ex
end Go.Proofs.YtdcjpinbflmikaaGreatDoor
