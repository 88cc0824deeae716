/- Plain facts on the tokens of expressions (lists of bytes): of which kind a token is, where blanks end, how long the token at a place is, which tokens a text has. No program is named here; no condition. -/
import Derived.Lib.Bytealg
namespace Go.Proofs.YtdcjpinbflmikaaGreatDoor
namespace Lx

def isD (c : UInt8) : Bool := decide (48 ≤ c.toNat ∧ c.toNat ≤ 57)
def isL (c : UInt8) : Bool := decide ((65 ≤ c.toNat ∧ c.toNat ≤ 90) ∨ (97 ≤ c.toNat ∧ c.toNat ≤ 122) ∨ c.toNat = 95)
def isN (c : UInt8) : Bool := isL c || isD c
def isB (c : UInt8) : Bool := decide (c.toNat = 9 ∨ c.toNat = 10 ∨ c.toNat = 13 ∨ c.toNat = 32)
def signs : List (List UInt8) := [[58, 61], [60, 62], [60, 61], [62, 61], [60], [62], [61], [43], [45], [42], [40], [41], [44], [59]]
def words : List (List UInt8) := [[97, 110, 100], [100, 105, 118], [101, 108, 115, 101], [101, 109, 105, 116], [101, 110, 100, 105, 102], [102, 97, 108, 115, 101], [105, 102], [105, 109, 112, 108, 105, 101, 115], [109, 111, 100], [110, 111, 116], [111, 114], [116, 104, 101, 110], [116, 114, 117, 101], [120, 111, 114]]
/-- Does a text begin as a name? -/
def lead (l : List UInt8) : Bool := match l with
  | [] => false
  | c :: _ => isL c
/-- Of which kind the token is that a text is, however long. -/
def whole (l : List UInt8) : Int :=
  if signs.contains l then 4 else if words.contains l then 3 else if l = [] then 0 else if l.all isD then 1 else if lead l && l.all isN then 2 else 0
def is (l : List UInt8) : Int := if 64 < l.length then 0 else whole l
/-- How many bytes at the head are blanks (true: within a remark). -/
def blk : Bool → List UInt8 → Nat
  | _, [] => 0
  | true, c :: r => if c.toNat = 10 then 1 + blk false r else 1 + blk true r
  | false, c :: r => if isB c then 1 + blk false r else if c.toNat = 45 ∧ r.head? = some 45 then 1 + blk true r else 0
theorem blk_le : ∀ (b : Bool) (l : List UInt8), blk b l ≤ l.length
  | _, [] => by simp [blk]
  | true, c :: r => by
    have h1 := blk_le false r
    have h2 := blk_le true r
    simp only [blk, List.length_cons]
    split <;> omega
  | false, c :: r => by
    have h1 := blk_le false r
    have h2 := blk_le true r
    simp only [blk, List.length_cons]
    split
    · omega
    · split <;> omega
/-- How many bytes the token at the head has: all lengths are tried, from k on, n being the last one that was a token's. -/
def lngo (l : List UInt8) : Nat → Nat → Nat → Nat
  | 0, _, n => n
  | f + 1, k, n => if l.length < k then n else if 3 ≤ k ∧ n ≠ k - 1 then n else lngo l f (k + 1) (if whole (l.take k) ≠ 0 then k else n)
def lng (l : List UInt8) : Nat := lngo l (l.length + 1) 1 0
theorem lngo_le (l : List UInt8) : ∀ (f k n : Nat), n ≤ l.length → lngo l f k n ≤ l.length
  | 0, _, n, h => h
  | f + 1, k, n, h => by
    unfold lngo
    split
    · exact h
    · rename_i hk
      split
      · exact h
      · refine lngo_le l f _ _ ?_
        split
        · omega
        · exact h
theorem lng_le (l : List UInt8) : lng l ≤ l.length := lngo_le l _ _ _ (Nat.zero_le _)
structure T where
  k : Int
  tx : List UInt8
  p : Nat
/-- The tokens of what is left, at a place. -/
def cut : Nat → List UInt8 → Nat → List T × Nat × Int
  | 0, _, _ => ([], 0, 0)
  | f + 1, l, p =>
    if l = [] then ([], 0, 0)
    else if lng l = 0 ∨ 64 < lng l then ([], p, 70)
    else
      let b := blk false (l.drop (lng l))
      let R := cut f (l.drop (lng l + b)) (p + lng l + b)
      if R.2.2 = 0 then (⟨whole (l.take (lng l)), l.take (lng l), p⟩ :: R.1, 0, 0) else ([], R.2.1, R.2.2)
def toks (l : List UInt8) : List T × Nat × Int :=
  if 65536 < l.length then ([], 0, 3) else cut (l.length + 1) (l.drop (blk false l)) (blk false l)
/-- What tokens are shown as. -/
def shw : List (Int × List UInt8) → Option (List UInt8)
  | [] => some []
  | (k, x) :: r => if k = 0 ∨ is x ≠ k then none else match shw r with
    | none => none
    | some y => some (if r = [] then x else x ++ 32 :: y)
end Lx
end Go.Proofs.YtdcjpinbflmikaaGreatDoor
