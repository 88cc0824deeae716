/- Plain facts on expressions: the text of one, piece by piece, is its tokens with blanks between; depths; both read off a row of nodes. No program is named here; no condition. -/
import Derived.Test.YtdcjpinbflmikaaGreatDoorExRow2
import Derived.Test.YtdcjpinbflmikaaGreatDoorExLeast
namespace Go.Proofs.YtdcjpinbflmikaaGreatDoor
namespace Ex

/-- Tokens' texts, blanks between. -/
def jn : List Tk → List UInt8
  | [] => []
  | t :: r => if r = [] then t.2 else t.2 ++ 32 :: jn r
theorem jn_app : ∀ {A B : List Tk}, A ≠ [] → B ≠ [] → jn (A ++ B) = jn A ++ 32 :: jn B
  | [], _, h, _ => absurd rfl h
  | [t], B, _, hB => by
    show (if B = [] then t.2 else t.2 ++ 32 :: jn B) = (if ([] : List Tk) = [] then t.2 else _) ++ 32 :: jn B
    rw [if_neg hB, if_pos rfl]
  | t :: u :: r, B, _, hB => by
    have ih := jn_app (A := u :: r) (B := B) (by simp) hB
    show (if u :: r ++ B = [] then t.2 else t.2 ++ 32 :: jn (u :: r ++ B)) = (if u :: r = [] then t.2 else t.2 ++ 32 :: jn (u :: r)) ++ 32 :: jn B
    rw [if_neg (by simp), if_neg (by simp), ih]
    simp
theorem jn_one (t : Tk) : jn [t] = t.2 := rfl
theorem jn_cons {t : Tk} {r : List Tk} (h : r ≠ []) : jn (t :: r) = t.2 ++ 32 :: jn r := if_neg h
theorem pr_ne (x : E) (L : Nat) : pr x L ≠ [] := by
  cases x with
  | un op a => unfold pr; split <;> simp
  | bin op a b => unfold pr; split <;> simp
  | ite a b c => unfold pr; simp
  | _ => unfold pr; simp
/-- The text, piece by piece. -/
def prs : E → Nat → List UInt8
  | .num n, _ => dg n
  | .name s, _ => s
  | .tt, _ => [116, 114, 117, 101]
  | .ff, _ => [102, 97, 108, 115, 101]
  | .un op a, L => if lvl op < L then [40, 32] ++ (opS op ++ [32] ++ prs a 9) ++ [32, 41] else opS op ++ [32] ++ prs a 9
  | .bin op a b, L => if lvl op < L then [40, 32] ++ (prs a (lvl op) ++ [32] ++ opS op ++ [32] ++ prs b (lvl op + 1)) ++ [32, 41] else prs a (lvl op) ++ [32] ++ opS op ++ [32] ++ prs b (lvl op + 1)
  | .ite a b c, _ => [105, 102, 32] ++ prs a 0 ++ [32, 116, 104, 101, 110, 32] ++ prs b 0 ++ [32, 101, 108, 115, 101, 32] ++ prs c 0 ++ [32, 101, 110, 100, 105, 102]
theorem prs_jn : ∀ (x : E) (L : Nat), prs x L = jn (pr x L)
  | .num _, _ => rfl
  | .name _, _ => rfl
  | .tt, _ => rfl
  | .ff, _ => rfl
  | .un op a, L => by
    have ea := prs_jn a 9
    have hb : jn (tok op :: pr a 9) = opS op ++ [32] ++ prs a 9 := by rw [jn_cons (pr_ne _ _), ← ea]; simp [tok]
    unfold prs pr
    split
    · rw [jn_app (by simp) (by simp), jn_cons (by simp), hb, jn_one]; simp
    · exact hb.symm
  | .bin op a b, L => by
    have ea := prs_jn a (lvl op)
    have eb := prs_jn b (lvl op + 1)
    have hb : jn (pr a (lvl op) ++ tok op :: pr b (lvl op + 1)) = prs a (lvl op) ++ [32] ++ opS op ++ [32] ++ prs b (lvl op + 1) := by
      rw [jn_app (pr_ne _ _) (by simp), jn_cons (pr_ne _ _), ← ea, ← eb]; simp [tok]
    unfold prs pr
    split
    · rw [jn_app (by simp) (by simp), jn_cons (by simp), hb, jn_one]; simp
    · exact hb.symm
  | .ite a b c, L => by
    have ea := prs_jn a 0
    have eb := prs_jn b 0
    have ec := prs_jn c 0
    have e : pr (.ite a b c) L = [wT [105, 102]] ++ (pr a 0 ++ ([wT [116, 104, 101, 110]] ++ (pr b 0 ++ ([wT [101, 108, 115, 101]] ++ (pr c 0 ++ [wT [101, 110, 100, 105, 102]]))))) := by
      conv => lhs; unfold pr
      simp
    rw [e, jn_app (by simp) (by simp), jn_app (pr_ne _ _) (by simp), jn_app (by simp) (by simp), jn_app (pr_ne _ _) (by simp), jn_app (by simp) (by simp), jn_app (pr_ne _ _) (by simp), ← ea, ← eb, ← ec]
    simp only [jn_one, wT, prs]
    simp
def dp : E → Nat
  | .un _ a => dp a + 1
  | .bin _ a b => max (dp a) (dp b) + 1
  | .ite a b c => max (dp a) (max (dp b) (dp c)) + 1
  | _ => 1
end Ex
end Go.Proofs.YtdcjpinbflmikaaGreatDoor
