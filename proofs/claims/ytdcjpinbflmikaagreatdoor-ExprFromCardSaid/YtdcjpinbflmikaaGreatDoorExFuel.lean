/- Plain facts on expressions: what is read is some of the tokens; fuel that is enough. No program is named here; no condition. -/
import Derived.Test.YtdcjpinbflmikaaGreatDoorExPlain
namespace Go.Proofs.YtdcjpinbflmikaaGreatDoor
namespace Ex

theorem nx_nil {ts : List Tk} (h : nx ts ≠ []) : ts ≠ [] := fun e => h (by rw [e]; rfl)
theorem tail_lt {ts : List Tk} (h : ts ≠ []) : ts.tail.length + 1 = ts.length := by
  cases ts with
  | nil => exact absurd rfl h
  | cons _ _ => rfl
theorem of2_nx {n : Nat} {s : List UInt8} (h : of2 n s ≠ 0) : s ≠ [] := fun e => h (by
  subst e
  unfold of2
  generalize ((List.range 15).map (· + 7)) = l
  induction l with
  | nil => rfl
  | cons a r ih => rw [List.foldr_cons, if_neg (by simp)]; exact ih)
def one : Md → Nat
  | .loop _ _ => 0
  | _ => 1
theorem then2_ok {x : Rs} {f : List Tk → E → Rs} {r : List Tk} {a : E} (h : then2 x f = .ok r a) : ∃ r1 a1, x = .ok r1 a1 ∧ f r1 a1 = .ok r a := by
  cases x with
  | bad l e => cases h
  | ok r1 a1 => exact ⟨r1, a1, rfl, h⟩
theorem eat_ok {s : List UInt8} (hs : s ≠ []) {r : List Tk} {f : List Tk → Rs} {r2 : List Tk} {a : E} (h : eat s r f = .ok r2 a) : nx r = s ∧ r.tail.length + 1 = r.length ∧ f r.tail = .ok r2 a := by
  unfold eat at h
  split at h
  · rename_i hn
    exact ⟨hn, tail_lt (nx_nil (by rw [hn]; exact hs)), h⟩
  · cases h
/-- What is read is some of the tokens. -/
theorem rd_less : ∀ (f : Nat) (m : Md) (ts r : List Tk) (x : E), rd f m ts = .ok r x → r.length + one m ≤ ts.length
  | 0, _, _, _, _, h => by cases h
  | f + 1, .lev n, ts, r, x, h => by
    unfold rd at h
    split at h
    · have := rd_less f _ _ _ _ h
      simpa [one] using this
    · split at h
      · have := rd_less f _ _ _ _ h
        simpa [one] using this
      · obtain ⟨r1, a1, h1, h2⟩ := then2_ok h
        have e1 := rd_less f _ _ _ _ h1
        have e2 := rd_less f _ _ _ _ h2
        simp only [one] at e1 e2 ⊢
        omega
  | f + 1, .loop n a, ts, r, x, h => by
    unfold rd at h
    split at h
    · cases h; simp [one]
    · rename_i ho
      have hl := tail_lt (nx_nil (of2_nx ho))
      obtain ⟨r1, a1, h1, h2⟩ := then2_ok h
      have e1 := rd_less f _ _ _ _ h1
      have e2 := rd_less f _ _ _ _ h2
      simp only [one] at e1 e2 ⊢
      omega
  | f + 1, .una, ts, r, x, h => by
    unfold rd at h
    split at h
    · rename_i ho
      have hl := tail_lt (nx_nil (ts := ts) (by rw [ho]; simp))
      obtain ⟨r1, a1, h1, h2⟩ := then2_ok h
      have e1 := rd_less f _ _ _ _ h1
      cases h2
      simp only [one] at e1 ⊢
      omega
    · split at h
      · rename_i ho
        have hl := tail_lt (nx_nil (ts := ts) (by rw [ho]; simp))
        obtain ⟨r1, a1, h1, h2⟩ := then2_ok h
        have e1 := rd_less f _ _ _ _ h1
        cases h2
        simp only [one] at e1 ⊢
        omega
      · have := rd_less f _ _ _ _ h
        simpa [one] using this
  | f + 1, .pri, ts, r, x, h => by
    have hl : nx ts ≠ [] → ts.tail.length + 1 = ts.length := fun h => tail_lt (nx_nil h)
    unfold rd at h
    simp only [one]
    split at h
    · rename_i ho
      obtain ⟨r1, a1, h1, h2⟩ := then2_ok h
      obtain ⟨_, e3, e4⟩ := eat_ok (by simp) h2
      have e1 := rd_less f _ _ _ _ h1
      cases e4
      simp only [one] at e1
      have := hl (by rw [ho]; simp)
      omega
    · split at h
      · have := rd_less f _ _ _ _ h
        simpa [one] using this
      · split at h
        · rename_i ho; cases h; have := hl (by rw [ho]; simp); omega
        · split at h
          · rename_i ho; cases h; have := hl (by rw [ho]; simp); omega
          · split at h
            · rename_i ho
              split at h
              · cases h; have := hl ho.1; omega
              · cases h
            · split at h
              · rename_i ho; cases h; have := hl ho.1; omega
              · cases h
  | f + 1, .bra, ts, r, x, h => by
    unfold rd at h
    simp only [one]
    obtain ⟨r1, a1, h1, h2⟩ := then2_ok h
    obtain ⟨_, e3, h3⟩ := eat_ok (by simp) h2
    obtain ⟨r4, a4, h4, h5⟩ := then2_ok h3
    obtain ⟨_, e6, h6⟩ := eat_ok (by simp) h5
    obtain ⟨r7, a7, h7, h8⟩ := then2_ok h6
    obtain ⟨_, e9, h9⟩ := eat_ok (by simp) h8
    have q1 := rd_less f _ _ _ _ h1
    have q4 := rd_less f _ _ _ _ h4
    have q7 := rd_less f _ _ _ _ h7
    cases h9
    simp only [one, List.length_tail] at q1 q4 q7 e3 e6 e9 ⊢
    omega
theorem then2_cong {x y : Rs} {f g : List Tk → E → Rs} (h : x = y) (hf : ∀ r a, y = .ok r a → f r a = g r a) : then2 x f = then2 y g := by
  subst h
  cases x with
  | bad l e => rfl
  | ok r a => exact hf r a rfl
theorem eat_cong {s : List UInt8} (hs : s ≠ []) {r : List Tk} {f g : List Tk → Rs} (hf : r.tail.length + 1 = r.length → f r.tail = g r.tail) : eat s r f = eat s r g := by
  unfold eat
  split
  · rename_i hn
    exact hf (tail_lt (nx_nil (by rw [hn]; exact hs)))
  · rfl
/-- What may be asked. -/
def okm : Md → List Tk → Prop
  | .lev n, _ => n ≤ 10
  | .loop n _, _ => n ≤ 8
  | .bra, ts => ts ≠ []
  | _, _ => True
/-- Fuel that is enough. -/
theorem rd_fuel : ∀ (f g : Nat) (m : Md) (ts : List Tk), okm m ts → need m ts < f → need m ts < g → rd f m ts = rd g m ts
  | 0, _, _, _, _, h, _ => absurd h (Nat.not_lt_zero _)
  | _, 0, _, _, _, _, h => absurd h (Nat.not_lt_zero _)
  | f + 1, g + 1, m, ts, ho, hf, hg => by
    have ih := rd_fuel f g
    have hb : ∀ (m' : Md) (ts' : List Tk), okm m' ts' → need m' ts' < need m ts → rd f m' ts' = rd g m' ts' := fun m' ts' h0 h => ih m' ts' h0 (by omega) (by omega)
    cases m with
    | lev n =>
      simp only [okm] at ho
      unfold rd
      split
      · rename_i h; subst h; exact hb _ _ True.intro (by simp [need, rank])
      · split
        · rename_i h; subst h; exact hb _ _ True.intro (by simp [need, rank])
        · refine then2_cong (hb _ _ (by simp only [okm]; omega) (by simp only [need, rank]; omega)) fun r a hr => hb _ _ (by simp only [okm]; omega) ?_
          have := rd_less _ _ _ _ _ hr
          simp only [one] at this
          simp only [need, rank]
          omega
    | loop n a =>
      simp only [okm] at ho
      unfold rd
      split
      · rfl
      · rename_i hop
        have hl := tail_lt (nx_nil (of2_nx hop))
        refine then2_cong (hb _ _ (by simp only [okm]; omega) (by simp only [need, rank]; omega)) fun r b hr => hb _ _ (by simp only [okm]; omega) ?_
        have := rd_less _ _ _ _ _ hr
        simp only [one] at this
        simp only [need, rank]
        omega
    | una =>
      unfold rd
      have hl : nx ts ≠ [] → ts.tail.length + 1 = ts.length := fun h => tail_lt (nx_nil h)
      split
      · rename_i hop
        have := hl (by rw [hop]; simp)
        exact then2_cong (hb _ _ True.intro (by simp only [need, rank]; omega)) fun r b hr => rfl
      · split
        · rename_i hop
          have := hl (by rw [hop]; simp)
          exact then2_cong (hb _ _ True.intro (by simp only [need, rank]; omega)) fun r b hr => rfl
        · exact hb _ _ True.intro (by simp only [need, rank]; omega)
    | pri =>
      unfold rd
      have hl : nx ts ≠ [] → ts.tail.length + 1 = ts.length := fun h => tail_lt (nx_nil h)
      split
      · rename_i hop
        have := hl (by rw [hop]; simp)
        exact then2_cong (hb _ _ (by simp [okm]) (by simp only [need, rank]; omega)) fun r b hr => rfl
      · split
        · rename_i hop
          exact hb _ _ (nx_nil (by rw [hop]; simp)) (by simp only [need, rank]; omega)
        · rfl
    | bra =>
      unfold rd
      have hl := tail_lt (show ts ≠ [] from ho)
      refine then2_cong (hb _ _ (by simp [okm]) (by simp only [need, rank]; omega)) fun r a hr => eat_cong (by simp) fun h1 => ?_
      have q1 := rd_less _ _ _ _ _ hr
      simp only [one] at q1
      refine then2_cong (hb _ _ (by simp [okm]) (by simp only [need, rank]; omega)) fun r2 b hr2 => eat_cong (by simp) fun h2 => ?_
      have q2 := rd_less _ _ _ _ _ hr2
      simp only [one] at q2
      exact then2_cong (hb _ _ (by simp [okm]) (by simp only [need, rank]; omega)) fun r3 c hr3 => rfl
end Ex
end Go.Proofs.YtdcjpinbflmikaaGreatDoor
