/- Layer 7's reference: Show, walked. Conditions: the row of tokens lies in memory; it is short, and so are its texts. -/
import Derived.Test.YtdcjpinbflmikaaGreatDoorLxRef4
namespace Go.Proofs.YtdcjpinbflmikaaGreatDoor
open Go.RowKit

/-- What is shown, from the left. -/
def shG : List UInt8 → Nat → List (Int × List UInt8) → Option (List UInt8)
  | o, _, [] => some o
  | o, k, (K, x) :: r => if K = 0 ∨ Lx.is x ≠ K then none else shG ((if 0 < k then o ++ [32] else o) ++ x) (k + 1) r
theorem shG_eq : ∀ (l : List (Int × List UInt8)) (o : List UInt8) (k : Nat), shG o (k + 1) l = (Lx.shw l).map fun y => if l = [] then o else o ++ 32 :: y
  | [], o, k => rfl
  | (K, x) :: r, o, k => by
    unfold shG Lx.shw
    split
    · rfl
    · rw [if_pos (Nat.succ_pos k), shG_eq r]
      cases Lx.shw r with
      | none => rfl
      | some y =>
        simp only [Option.map_some, Option.some.injEq]
        by_cases hr : r = []
        · subst hr; simp
        · simp [hr]
theorem shG_all (l : List (Int × List UInt8)) : shG [] 0 l = Lx.shw l := by
  cases l with
  | nil => rfl
  | cons a r =>
    obtain ⟨K, x⟩ := a
    unfold shG Lx.shw
    split
    · rfl
    · rw [if_neg (Nat.lt_irrefl 0), shG_eq r]
      cases Lx.shw r with
      | none => rfl
      | some y => by_cases hr : r = [] <;> simp [hr]
/-- A row of tokens (their kinds, their texts) lies so. -/
def ShR (w : World) (B : Nat) (A : Option Addr) (l : List (Int × ByteArray)) : Prop := ∀ j (hj : j < l.length), ∃ g, A = some ⟨g, 0, none⟩ ∧ g < B ∧ w.cell? ⟨g, j * 3, none⟩ = some (.int .u8 l[j].1) ∧ w.cell? ⟨g, j * 3 + 1, none⟩ = some (.string l[j].2)
def prs (l : List (Int × ByteArray)) : List (Int × List UInt8) := l.map fun x => (x.1, x.2.data.toList)
def shV : Option (List UInt8) → Value
  | none => .tuple #[.string ⟨#[]⟩, .int .i64 2]
  | some y => .tuple #[.string ⟨y.toArray⟩, .int .i64 0]
theorem shG_at {l : List (Int × ByteArray)} {k : Nat} (h : k < l.length) (o : List UInt8) : shG o k (prs (l.drop k)) = if l[k].1 = 0 ∨ Lx.is l[k].2.data.toList ≠ l[k].1 then none else shG ((if 0 < k then o ++ [32] else o) ++ l[k].2.data.toList) (k + 1) (prs (l.drop (k + 1))) := by
  rw [List.drop_eq_getElem_cons h]; rfl
theorem lx_drewN {B : Nat} {a w : World} (h : Below B a w) (n : Nat) : Below B a (w.drewN n) := h.trans ⟨rfl, rfl, rfl, Nat.le_refl _, fun _ _ => rfl⟩
end Go.Proofs.YtdcjpinbflmikaaGreatDoor
