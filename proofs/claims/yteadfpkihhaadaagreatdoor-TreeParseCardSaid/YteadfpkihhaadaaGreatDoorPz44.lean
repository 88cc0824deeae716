/- Facts and walks for the statement. -/
import Derived.Test.YteadfpkihhaadaaGreatDoorPz43
import Derived.Test.YteadfpkihhaadaaGreatDoorPz26
namespace Go.Proofs.YteadfpkihhaadaaGreatDoor.Tr
open Go
/-! ### not long -/
theorem loop_none (len : Nat) : ∀ (ts : List Tk.T) (g : G), (loop len ts g).2.2 ≠ 0 → (loop len ts g).1 = []
 | [], g, h => by
  unfold loop at h ⊢
  cases hb : behind g with
  | true => rw [hb] at h; exact absurd rfl h
  | false => rfl
 | t :: ts, g, h => by
  by_cases hw : wrong g t = 0
  ·rw [loop_go hw] at h ⊢; exact loop_none len ts _ h
  ·rw [loop_bad rfl hw]
theorem parse_none {L : List UInt8} (h : (parse L).2.2 ≠ 0) : (parse L).1 = [] := by
 unfold parse at h ⊢
 split
 ·rfl
 ·rename_i h1
  rw [if_neg h1] at h
  exact loop_none _ _ _ h
theorem wgN_mem : ∀ {xs : List N} {x : N}, x ∈ xs → wg1 x ≤ wgN xs
 | y :: xs, x, h => by
  unfold wgN
  simp only [List.map_cons, List.sum_cons]
  rcases List.mem_cons.1 h with rfl | h
  ·omega
  ·have := wgN_mem h
   unfold wgN at this; omega
theorem parse_small {L : List UInt8} (h : L.length ≤ 1000) {n : N} (hn : n ∈ (parse L).1) : proper n = true ∧ wg1 n ≤ 6000 := by
 by_cases h0 : (parse L).2.2 = 0
 ·obtain ⟨g, e, _, hp⟩ := parse_pi h0
  rw [e] at hn
  have h1 := wgN_mem hn
  have h2 := hp.sz
  have h4 := (Tk.toks_gt L).2
  exact ⟨hp.pr n hn, by omega⟩
 ·rw [parse_none h0] at hn; cases hn
end Go.Proofs.YteadfpkihhaadaaGreatDoor.Tr
