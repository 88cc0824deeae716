/- Plain facts on expressions: the tokens of what is written are those that it was made of. No program is named here; no condition. -/
import Derived.Test.YtfijfoblmnjdcaaGreatDoorExNum
import Derived.Test.YtfijfoblmnjdcaaGreatDoorLxBack
namespace Go.Proofs.YtfijfoblmnjdcaaGreatDoor
namespace Ex

theorem pr_mem : ∀ {x : E}, wf x → ∀ (L : Nat) (t : Tk), t ∈ pr x L → Lx.is t.2 = t.1 ∧ t.1 ≠ 0
  | .num n, h, L, t, ht => by
    obtain rfl := List.mem_singleton.1 ht
    exact ⟨h.2, by show (1 : Int) ≠ 0; decide⟩
  | .name s, h, L, t, ht => by
    obtain rfl := List.mem_singleton.1 ht
    exact ⟨h, by show (2 : Int) ≠ 0; decide⟩
  | .tt, _, L, t, ht => by
    obtain rfl := List.mem_singleton.1 ht
    exact ⟨by decide, by decide⟩
  | .ff, _, L, t, ht => by
    obtain rfl := List.mem_singleton.1 ht
    exact ⟨by decide, by decide⟩
  | .un op a, h, L, t, ht => by
    have ho : Lx.is (tok op).2 = (tok op).1 ∧ (tok op).1 ≠ 0 := by rcases h.1 with e | e <;> subst e <;> decide
    have ih := pr_mem h.2 9 t
    unfold pr at ht
    split at ht
    · simp only [List.cons_append, List.mem_cons, List.mem_append, List.not_mem_nil, or_false] at ht
      rcases ht with rfl | rfl | ht | rfl
      · exact ⟨by decide, by decide⟩
      · exact ho
      · exact ih ht
      · exact ⟨by decide, by decide⟩
    · rcases List.mem_cons.1 ht with rfl | ht
      · exact ho
      · exact ih ht
  | .bin op a b, h, L, t, ht => by
    obtain ⟨h7, h21, wa, wb⟩ := h
    have hall : ∀ op : Fin 22, 7 ≤ op.1 → (tok op.1).1 ≠ 0 := by decide
    have ho : Lx.is (tok op).2 = (tok op).1 ∧ (tok op).1 ≠ 0 := ⟨rfl, hall ⟨op, by omega⟩ h7⟩
    have ia := pr_mem wa (lvl op) t
    have ib := pr_mem wb (lvl op + 1) t
    unfold pr at ht
    split at ht
    · simp only [List.cons_append, List.mem_cons, List.mem_append, List.not_mem_nil, or_false] at ht
      rcases ht with rfl | (ht | rfl | ht) | rfl
      · exact ⟨by decide, by decide⟩
      · exact ia ht
      · exact ho
      · exact ib ht
      · exact ⟨by decide, by decide⟩
    · rcases List.mem_append.1 ht with ht | ht
      · exact ia ht
      · rcases List.mem_cons.1 ht with rfl | ht
        · exact ho
        · exact ib ht
  | .ite a b c, h, L, t, ht => by
    have ia := pr_mem h.1 0 t
    have ib := pr_mem h.2.1 0 t
    have ic := pr_mem h.2.2 0 t
    unfold pr at ht
    simp only [List.cons_append, List.mem_cons, List.mem_append, List.not_mem_nil, or_false, or_assoc] at ht
    rcases ht with rfl | ht | rfl | ht | rfl | ht | rfl
    · exact ⟨by decide, by decide⟩
    · exact ia ht
    · exact ⟨by decide, by decide⟩
    · exact ib ht
    · exact ⟨by decide, by decide⟩
    · exact ic ht
    · exact ⟨by decide, by decide⟩
def tT (t : Tk) : Lx.T := ⟨t.1, t.2, 0⟩
theorem sh_jn : ∀ l : List Tk, Lx.sh (l.map tT) = jn l
  | [] => rfl
  | [t] => by simp [Lx.sh, jn, tT]
  | t :: u :: r => by
    have ih := sh_jn (u :: r)
    show (if (u :: r).map tT = [] then t.2 else t.2 ++ 32 :: Lx.sh ((u :: r).map tT)) = (if u :: r = [] then t.2 else t.2 ++ 32 :: jn (u :: r))
    rw [if_neg (by simp), if_neg (by simp), ih]
/-- A token that is what it says is a good one. -/
theorem good_tT {t : Tk} (h : Lx.is t.2 = t.1 ∧ t.1 ≠ 0) : Lx.Good (tT t) := by
  have h64 : t.2.length ≤ 64 := by
    rcases Nat.lt_or_ge 64 t.2.length with hl | hl
    · exact absurd (by rw [← h.1]; unfold Lx.is; rw [if_pos hl]) h.2
    · exact hl
  refine ⟨?_, h.2, h64⟩
  show Lx.whole t.2 = t.1
  rw [← h.1]
  unfold Lx.is
  rw [if_neg (by omega)]
/-- The tokens of what is written. -/
theorem toks_pr {x : E} (h : wf x) (hl : (prs x 0).length ≤ 65536) : (Lx.toks (prs x 0)).2.2 = 0 ∧ (Lx.toks (prs x 0)).1.map Lx.kx = pr x 0 := by
  have e : prs x 0 = Lx.sh ((pr x 0).map tT) := by rw [prs_jn, sh_jn]
  rw [e] at hl ⊢
  have := Lx.toks_sh (l := (pr x 0).map tT) (fun t ht => by
    obtain ⟨u, hu, rfl⟩ := List.mem_map.1 ht
    exact good_tT (pr_mem h 0 u hu)) hl
  refine ⟨this.1, this.2.trans ?_⟩
  rw [List.map_map]
  exact List.map_id' _
end Ex
end Go.Proofs.YtfijfoblmnjdcaaGreatDoor
