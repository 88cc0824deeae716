/- A scope with several labels: what holds at each jump, with a measure that falls; jumps ahead are walked in line. No condition. -/
import Derived.ScopeJumps
import Derived.WalkMore
namespace Go.Proofs.YthncfhakbobkkaaGreatDoor
open Go

/-- As Q; by a goto: J of its label. -/
def jumpsTo (J : Nat → Act → World → Prop) (Q : Exit → Act → World → Prop) : Exit → Act → World → Prop
  | .goto l, a, w => J l a w
  | e, a, w => Q e a w
section
variable {P : Program} {a : Act} {w : World} {Q : Exit → Act → World → Prop}
theorem scope_multi {c : Code} (J : Nat → Nat → Act → World → Prop) (first : c.wp P (jumpsTo (fun l a w => ∃ m, J m l a w) Q) a w)
    (pass : ∀ m l a w, J m l a w → ∃ rest, findLabel c l = some rest ∧ rest.wp P (jumpsTo (fun l' a' w' => ∃ m', m' < m ∧ J m' l' a' w') Q) a w) : (Code.scope c).wp P Q a w := by
  intro b k cs
  have key : ∀ m l a w, J m l a w → ∃ rest, findLabel c l = some rest ∧ ∃ e a' w', Q e a' w' ∧ Arrives P (lone (b.at a (.code rest :: .inScope c :: k)) cs w) b k cs e a' w' := by
    intro m
    induction m using Nat.strongRecOn with
    | _ m ih =>
      intro l a w hJ
      obtain ⟨rest, hf, hp⟩ := pass m l a w hJ
      refine ⟨rest, hf, ?_⟩
      obtain ⟨e, a1, w1, hq, harr⟩ := hp b (.inScope c :: k) cs
      cases e with
      | goto l' =>
        obtain ⟨m', hlt, hJ'⟩ := hq
        obtain ⟨rest', hf', e2, a2, w2, hq2, harr2⟩ := ih m' hlt l' a1 w1 hJ'
        have hg : gotoIn l' (.inScope c :: k) = some (.code rest' :: .inScope c :: k) := by simp [gotoIn, hf']
        exact ⟨e2, a2, w2, hq2, .of_steps (harr _ hg) harr2⟩
      | normal => exact ⟨.normal, a1, w1, hq, Steps.trans harr (.one step_inScope)⟩
      | exit id => exact ⟨.exit id, a1, w1, hq, fun k' hk => harr k' (by simp [exitTo, hk])⟩
      | ret => exact ⟨_, a1, w1, hq, harr⟩
      | panic ch => exact ⟨_, a1, w1, hq, harr⟩
      | outgrown => exact ⟨_, a1, w1, hq, harr⟩
  obtain ⟨e, a1, w1, hq, harr⟩ := first b (.inScope c :: k) cs
  cases e with
  | goto l' =>
    obtain ⟨m, hJ⟩ := hq
    obtain ⟨rest', hf', e2, a2, w2, hq2, harr2⟩ := key m l' a1 w1 hJ
    have hg : gotoIn l' (.inScope c :: k) = some (.code rest' :: .inScope c :: k) := by simp [gotoIn, hf']
    exact ⟨e2, a2, w2, hq2, .of_steps (.head step_scope (harr _ hg)) harr2⟩
  | normal => exact ⟨.normal, a1, w1, hq, .head step_scope (Steps.trans harr (.one step_inScope))⟩
  | exit id => exact ⟨.exit id, a1, w1, hq, fun k' hk => .head step_scope (harr k' (by simp [exitTo, hk]))⟩
  | ret => exact ⟨_, a1, w1, hq, .of_steps (.one step_scope) harr⟩
  | panic ch => exact ⟨_, a1, w1, hq, .of_steps (.one step_scope) harr⟩
  | outgrown => exact ⟨_, a1, w1, hq, .of_steps (.one step_scope) harr⟩
/-- A jump to label 0 meets N; another one is walked on in line, at most k of them one behind the other. -/
def inl (P : Program) (c : Code) (Q : Exit → Act → World → Prop) (N : Act → World → Prop) : Nat → Nat → Act → World → Prop
  | 0, l, a, w => l = 0 ∧ N a w
  | k + 1, l, a, w => (l = 0 ∧ N a w) ∨ (l ≠ 0 ∧ ∃ rest, findLabel c l = some rest ∧ rest.wp P (jumpsTo (inl P c Q N k) Q) a w)
theorem inl.back {c : Code} {N : Act → World → Prop} {a : Act} {w : World} (k : Nat) (h : N a w) : inl P c Q N k 0 a w := by
  cases k with
  | zero => exact ⟨rfl, h⟩
  | succ k => exact Or.inl ⟨rfl, h⟩
theorem inl.on {c : Code} {N : Act → World → Prop} {l k : Nat} {a : Act} {w : World} (rest : Code) (hl : l ≠ 0) (hf : findLabel c l = some rest) (h : rest.wp P (jumpsTo (inl P c Q N k) Q) a w) : inl P c Q N (k + 1) l a w := Or.inr ⟨hl, rest, hf, h⟩
theorem scope_inl {c : Code} (K : Nat) (I : Act → World → Prop) (mu : Act → World → Nat) (n0 : Nat) (rest0 : Code) (hf : findLabel c 0 = some (Code.seq .skip rest0))
    (first : (∀ a w, I a w → mu a w = n0 → rest0.wp P (jumpsTo (inl P c Q (fun a' w' => I a' w' ∧ mu a' w' < n0) K) Q) a w) → c.wp P (jumpsTo (inl P c Q (fun a' w' => I a' w' ∧ mu a' w' < n0) K) Q) a w)
    (pass : ∀ a w, I a w → rest0.wp P (jumpsTo (inl P c Q (fun a' w' => I a' w' ∧ mu a' w' < mu a w) K) Q) a w) : (Code.scope c).wp P Q a w := by
  have hM : ∀ {d : Code} {a : Act} {w : World} {J J' : Nat → Act → World → Prop}, (∀ l a w, J l a w → J' l a w) → d.wp P (jumpsTo J Q) a w → d.wp P (jumpsTo J' Q) a w := by
    intro d a w J J' h
    refine Code.wp_mono fun e a w => ?_
    cases e with
    | goto l => exact h l a w
    | _ => exact id
  refine scope_multi (fun m l a w => ∃ n k, k ≤ K ∧ m = (K + 1) * n + k ∧ inl P c Q (fun a' w' => I a' w' ∧ mu a' w' < n) k l a w) (hM (fun l a w h => ⟨_, n0, K, Nat.le_refl _, rfl, h⟩) (first (fun a w hI he => he ▸ pass a w hI))) ?_
  rintro m l a w ⟨n, k, hk, rfl, h⟩
  have zero : l = 0 ∧ I a w ∧ mu a w < n → ∃ rest, findLabel c l = some rest ∧ rest.wp P (jumpsTo (fun l' a' w' => ∃ m', m' < (K + 1) * n + k ∧ ∃ n' k', k' ≤ K ∧ m' = (K + 1) * n' + k' ∧ inl P c Q (fun a' w' => I a' w' ∧ mu a' w' < n') k' l' a' w') Q) a w := by
    rintro ⟨rfl, hI, hlt⟩
    refine ⟨_, hf, wp_seq (wp_skip (hM (fun l' a' w' h' => ⟨(K + 1) * mu a w + K, ?_, mu a w, K, Nat.le_refl _, rfl, h'⟩) (pass a w hI)))⟩
    have : (K + 1) * (mu a w + 1) ≤ (K + 1) * n := Nat.mul_le_mul_left _ hlt
    rw [Nat.mul_succ] at this
    omega
  cases k with
  | zero => exact zero h
  | succ k =>
    rcases h with h | ⟨hl, rest, hf', hw⟩
    · exact zero h
    · exact ⟨rest, hf', hM (fun l' a' w' h' => ⟨(K + 1) * n + k, by omega, n, k, by omega, rfl, h'⟩) hw⟩
end
end Go.Proofs.YthncfhakbobkkaaGreatDoor
