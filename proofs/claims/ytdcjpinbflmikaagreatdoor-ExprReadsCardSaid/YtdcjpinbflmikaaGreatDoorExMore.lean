/- Plain facts on expressions: what is read is read so whatever stands behind that no op goes on with. No program is named here; no condition. -/
import Derived.Test.YtdcjpinbflmikaaGreatDoorExLeast
namespace Go.Proofs.YtdcjpinbflmikaaGreatDoor
namespace Ex

theorem nx_more {r T : List Tk} (h : nx r ≠ []) : nx (r ++ T) = nx r := by
  cases r with
  | nil => exact absurd rfl h
  | cons _ _ => rfl
theorem nx_more2 {r T : List Tk} (h : r ≠ []) : nx (r ++ T) = nx r := by
  cases r with
  | nil => exact absurd rfl h
  | cons _ _ => rfl
theorem of2_nil (n : Nat) : of2 n [] = 0 := Decidable.byContradiction fun h => of2_nx h rfl
theorem of2_more {n : Nat} {r T : List Tk} (h : of2 n (nx T) = 0) (h0 : of2 n (nx r) = 0) : of2 n (nx (r ++ T)) = 0 := by
  cases r with
  | nil => exact h
  | cons _ _ => exact h0
theorem tail_more {ts T : List Tk} (h : ts ≠ []) : (ts ++ T).tail = ts.tail ++ T := by
  cases ts with
  | nil => exact absurd rfl h
  | cons _ _ => rfl
theorem eat_more {s : List UInt8} (hs : s ≠ []) {r T : List Tk} {f g : List Tk → Rs} {r2 : List Tk} {a : E} (h : eat s r f = .ok r2 a) (hf : f r.tail = .ok r2 a → g (r.tail ++ T) = .ok (r2 ++ T) a) : eat s (r ++ T) g = .ok (r2 ++ T) a := by
  obtain ⟨h1, _, h3⟩ := eat_ok hs h
  have hne := nx_nil (ts := r) (by rw [h1]; exact hs)
  unfold eat
  rw [nx_more2 hne, if_pos h1, tail_more hne]
  exact hf h3
theorem kd_more {ts T : List Tk} (h : ts ≠ []) : kd (ts ++ T) = kd ts := by
  cases ts with
  | nil => exact absurd rfl h
  | cons _ _ => rfl
theorem then2_r (r : List Tk) (a : E) (f : List Tk → E → Rs) : then2 (.ok r a) f = f r a := rfl
theorem rd_more {T : List Tk} (hT : St 1 T) : ∀ (f : Nat) (m : Md) (ts r : List Tk) (x : E), okm m ts → (∀ n, m = .lev n → 1 ≤ n) → (∀ n a, m = .loop n a → 1 ≤ n) → rd f m ts = .ok r x → R m (ts ++ T) = .ok (r ++ T) x
  | 0, _, _, _, _, _, _, _, h => by cases h
  | f + 1, .lev n, ts, r, x, ho, hl1, _, h => by
    have h1n := hl1 n rfl
    simp only [okm] at ho
    unfold rd at h
    split at h
    · rename_i e; subst e
      rw [R_10]
      exact rd_more hT f .pri _ _ _ True.intro (fun _ e => by cases e) (fun _ _ e => by cases e) h
    · split at h
      · rename_i e; subst e
        rw [R_9]
        exact rd_more hT f .una _ _ _ True.intro (fun _ e => by cases e) (fun _ _ e => by cases e) h
      · obtain ⟨r1, a1, h1, h2⟩ := then2_ok h
        have e1 := rd_more hT f (.lev (n + 1)) _ _ _ (by simp only [okm]; omega) (fun k e => by cases e; omega) (fun _ _ e => by cases e) h1
        have e2 := rd_more hT f (.loop n a1) _ _ _ (by simp only [okm]; omega) (fun _ e => by cases e) (fun k _ e => by cases e; exact h1n) h2
        rw [R_lev (by omega), e1]
        exact e2
  | f + 1, .loop n a, ts, r, x, ho, _, hl2, h => by
    have h1n := hl2 n a rfl
    simp only [okm] at ho
    unfold rd at h
    split at h
    · rename_i h0
      cases h
      exact R_loop0 (of2_more (hT n h1n ho) h0)
    · rename_i hop
      have hne := nx_nil (of2_nx hop)
      obtain ⟨r1, b1, h1, h2⟩ := then2_ok h
      have e1 := rd_more hT f (.lev (n + 1)) _ _ _ (by simp only [okm]; omega) (fun k e => by cases e; omega) (fun _ _ e => by cases e) h1
      have e2 := rd_more hT f (.loop n (.bin (of2 n (nx ts)) a b1)) _ _ _ (by simp only [okm]; omega) (fun _ e => by cases e) (fun k _ e => by cases e; exact h1n) h2
      rw [R_loop ho (by rw [nx_more2 hne]; exact hop), tail_more hne, e1, nx_more2 hne]
      exact e2
  | f + 1, .una, ts, r, x, _, _, _, h => by
    unfold rd at h
    split at h
    · rename_i hop
      have hne := nx_nil (ts := ts) (by rw [hop]; simp)
      obtain ⟨r1, a1, h1, h2⟩ := then2_ok h
      have e1 := rd_more hT f .una _ _ _ True.intro (fun _ e => by cases e) (fun _ _ e => by cases e) h1
      cases h2
      rw [R_una5 (by rw [nx_more2 hne]; exact hop), tail_more hne, e1]; rfl
    · rename_i h5
      split at h
      · rename_i hop
        have hne := nx_nil (ts := ts) (by rw [hop]; simp)
        obtain ⟨r1, a1, h1, h2⟩ := then2_ok h
        have e1 := rd_more hT f .una _ _ _ True.intro (fun _ e => by cases e) (fun _ _ e => by cases e) h1
        cases h2
        rw [R_una6 (by rw [nx_more2 hne]; exact hop), tail_more hne, e1]; rfl
      · rename_i h6
        have hne : ts ≠ [] := fun e => by
          subst e
          cases f with
          | zero => cases h
          | succ f => unfold rd at h; simp [nx] at h
        rw [R_unap (by rw [nx_more2 hne]; exact h5) (by rw [nx_more2 hne]; exact h6)]
        exact rd_more hT f .pri _ _ _ True.intro (fun _ e => by cases e) (fun _ _ e => by cases e) h
  | f + 1, .pri, ts, r, x, _, _, _, h => by
    have hne : ts ≠ [] := fun e => by subst e; unfold rd at h; simp [nx] at h
    unfold rd at h
    split at h
    · rename_i hop
      obtain ⟨r1, a1, h1, h2⟩ := then2_ok h
      have e1 := rd_more hT f (.lev 1) _ _ _ (by simp [okm]) (fun k e => by cases e; exact Nat.le_refl _) (fun _ _ e => by cases e) h1
      rw [R_par (by rw [nx_more2 hne]; exact hop), tail_more hne, e1, then2_r]
      exact eat_more (T := T) (by simp) h2 (fun q => by cases q; rfl)
    · rename_i c1
      split at h
      · rename_i hop
        rw [R_if (by rw [nx_more2 hne]; exact hop)]
        exact rd_more hT f .bra _ _ _ hne (fun _ e => by cases e) (fun _ _ e => by cases e) h
      · rename_i c2
        unfold R rd
        rw [nx_more2 hne, tail_more hne, kd_more hne, if_neg c1, if_neg c2]
        split at h
        · rename_i c3; cases h; rw [if_pos c3]
        · rename_i c3
          rw [if_neg c3]
          split at h
          · rename_i c4; cases h; rw [if_pos c4]
          · rename_i c4
            rw [if_neg c4]
            split at h
            · rename_i c5
              rw [if_pos c5]
              cases hv : numv (nx ts) with
              | none => rw [hv] at h; cases h
              | some v => rw [hv] at h; cases h; rfl
            · rename_i c5
              rw [if_neg c5]
              split at h
              · rename_i c6; cases h; rw [if_pos c6]
              · cases h
  | f + 1, .bra, ts, r, x, ho, _, _, h => by
    have hne : ts ≠ [] := ho
    unfold rd at h
    obtain ⟨r1, a1, h1, h2⟩ := then2_ok h
    have e1 := rd_more hT f (.lev 1) _ _ _ (by simp [okm]) (fun k e => by cases e; exact Nat.le_refl _) (fun _ _ e => by cases e) h1
    rw [R_bra (by simp [hne]), tail_more hne, e1, then2_r]
    refine eat_more (T := T) (by simp) h2 (fun q => ?_)
    obtain ⟨r4, a4, h4, h5⟩ := then2_ok q
    have e4 := rd_more hT f (.lev 1) _ _ _ (by simp [okm]) (fun k e => by cases e; exact Nat.le_refl _) (fun _ _ e => by cases e) h4
    rw [e4, then2_r]
    refine eat_more (T := T) (by simp) h5 (fun q2 => ?_)
    obtain ⟨r7, a7, h7, h8⟩ := then2_ok q2
    have e7 := rd_more hT f (.lev 1) _ _ _ (by simp [okm]) (fun k e => by cases e; exact Nat.le_refl _) (fun _ _ e => by cases e) h7
    rw [e7, then2_r]
    exact eat_more (T := T) (by simp) h8 (fun q3 => by cases q3; rfl)
/-- In parentheses an expression is the same. -/
theorem in_par {ts T : List Tk} {x : E} (h : R (.lev 1) ts = .ok [] x) (hT : St 1 T) : R (.lev 1) ((4, [40]) :: ts ++ [(4, [41])] ++ T) = .ok T x := by
  have h1 : R (.lev 1) (ts ++ (4, [41]) :: T) = .ok ((4, [41]) :: T) x := rd_more (T := (4, [41]) :: T) st_pac _ (.lev 1) _ _ _ (by simp [okm]) (fun k e => by cases e; exact Nat.le_refl _) (fun _ _ e => by cases e) h
  rw [down9 (una_par h1) 1 (by decide) (hT.up (by decide)), hT.end_ (by decide)]
end Ex
end Go.Proofs.YtdcjpinbflmikaaGreatDoor
