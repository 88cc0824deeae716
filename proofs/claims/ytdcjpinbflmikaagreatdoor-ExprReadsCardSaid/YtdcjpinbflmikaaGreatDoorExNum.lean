/- Plain facts on expressions: a number's text is a token, and worth the number; what is read, or what a right row is of, may be written. No program is named here; no condition. -/
import Derived.Test.YtdcjpinbflmikaaGreatDoorExDeep
import Derived.Test.YtdcjpinbflmikaaGreatDoorExMore
import Derived.Test.YtdcjpinbflmikaaGreatDoorNuTextP
namespace Go.Proofs.YtdcjpinbflmikaaGreatDoor
namespace Ex

theorem dg_len {n : Nat} (h : n ≤ 9223372036854775807) : (dg n).length ≤ 20 := by
  by_cases h0 : n = 0
  · subst h0; unfold dg; rw [Lib.decDigits]; simp
  · have h1 := Nu.dig_len_le (n := n) (k := 20) (Nat.lt_of_le_of_lt h (by decide))
    unfold dg
    rw [Nu.dec_dig h0, List.length_map, List.length_reverse]
    exact h1
theorem isDg_isD {l : List UInt8} (h : Nu.allDg l = true) : l.all Lx.isD = true := h
theorem is_num {l : List UInt8} (h : l.all Lx.isD = true) (hne : l ≠ []) (hl : l.length ≤ 64) : Lx.is l = 1 := by
  unfold Lx.is
  rw [if_neg (by omega)]
  unfold Lx.whole
  have hs : ∀ w ∈ Lx.signs, w.all Lx.isD = false := by decide
  have hw : ∀ w ∈ Lx.words, w.all Lx.isD = false := by decide
  rw [if_neg (fun e => by have := hs _ (List.contains_iff_mem.1 e); rw [h] at this; cases this), if_neg (fun e => by have := hw _ (List.contains_iff_mem.1 e); rw [h] at this; cases this), if_neg hne, if_pos h]
theorem numv_dg {n : Nat} (h : n ≤ 9223372036854775807) : numv (dg n) = some n := by
  have h1 := (Nu.dec_mag n).1
  unfold Nu.magF at h1
  unfold numv dg
  simp only
  rw [h1, if_pos h]
theorem numv_le {s : List UInt8} {v : Nat} (h : numv s = some v) : v ≤ 9223372036854775807 := by
  unfold numv at h
  simp only at h
  split at h
  · rename_i hv; cases h; exact hv
  · cases h
/-- All numbers are within the bounds. -/
def small : E → Prop
  | .num n => n ≤ 9223372036854775807
  | .un _ a => small a
  | .bin _ a b => small a ∧ small b
  | .ite a b c => small a ∧ small b ∧ small c
  | _ => True
theorem wf_of : ∀ {x : E}, wr x → small x → wf x
  | .num n, _, h => ⟨numv_dg h, is_num (isDg_isD (Nu.dec_mag n).2.1) (Nu.dec_mag n).2.2.1 (Nat.le_trans (dg_len h) (by decide))⟩
  | .name _, h, _ => h
  | .tt, _, _ => True.intro
  | .ff, _, _ => True.intro
  | .un _ _, h, q => ⟨h.1, wf_of h.2 q⟩
  | .bin _ _ _, h, q => ⟨h.1, h.2.1, wf_of h.2.2.1 q.1, wf_of h.2.2.2 q.2⟩
  | .ite _ _ _, h, q => ⟨wf_of h.1 q.1, wf_of h.2.1 q.2.1, wf_of h.2.2 q.2.2⟩
/-- What is read may be written. -/
def Fine (m : Md) (x : E) : Prop := match m with
  | .loop _ a => wr a → small a → wr x ∧ small x
  | _ => wr x ∧ small x
theorem kd_name {ts : List Tk} (h : nx ts ≠ []) (hk : kd ts = 2) : Lx.is (nx ts) = 2 := by
  cases ts with
  | nil => exact absurd rfl h
  | cons t r =>
    have hk : t.1 = 2 := hk
    unfold nx at h ⊢
    simp only at h ⊢
    split at h
    · rename_i e; rw [if_pos e, e, hk]
    · exact absurd rfl h
theorem rd_fine : ∀ (f : Nat) (m : Md) (ts r : List Tk) (x : E), rd f m ts = .ok r x → Fine m x
  | 0, _, _, _, _, h => by cases h
  | f + 1, .lev n, ts, r, x, h => by
    unfold rd at h
    split at h
    · exact rd_fine f .pri _ _ _ h
    · split at h
      · exact rd_fine f .una _ _ _ h
      · obtain ⟨r1, a1, h1, h2⟩ := then2_ok h
        have e1 : wr a1 ∧ small a1 := rd_fine f (.lev (n + 1)) _ _ _ h1
        exact rd_fine f (.loop n a1) _ _ _ h2 e1.1 e1.2
  | f + 1, .loop n a, ts, r, x, h => fun wa sa => by
    unfold rd at h
    split at h
    · cases h; exact ⟨wa, sa⟩
    · rename_i hop
      obtain ⟨t1, t2, _, _⟩ := of2_tells hop
      obtain ⟨r1, b1, h1, h2⟩ := then2_ok h
      have e1 : wr b1 ∧ small b1 := rd_fine f (.lev (n + 1)) _ _ _ h1
      exact rd_fine f (.loop n (.bin (of2 n (nx ts)) a b1)) _ _ _ h2 ⟨t1, t2, wa, e1.1⟩ ⟨sa, e1.2⟩
  | f + 1, .una, ts, r, x, h => by
    unfold rd at h
    split at h
    · obtain ⟨r1, a1, h1, h2⟩ := then2_ok h
      have e1 : wr a1 ∧ small a1 := rd_fine f .una _ _ _ h1
      cases h2
      exact ⟨⟨Or.inl rfl, e1.1⟩, e1.2⟩
    · split at h
      · obtain ⟨r1, a1, h1, h2⟩ := then2_ok h
        have e1 : wr a1 ∧ small a1 := rd_fine f .una _ _ _ h1
        cases h2
        exact ⟨⟨Or.inr rfl, e1.1⟩, e1.2⟩
      · exact rd_fine f .pri _ _ _ h
  | f + 1, .pri, ts, r, x, h => by
    unfold rd at h
    split at h
    · obtain ⟨r1, a1, h1, h2⟩ := then2_ok h
      obtain ⟨_, _, e4⟩ := eat_ok (by simp) h2
      have e1 : wr a1 ∧ small a1 := rd_fine f (.lev 1) _ _ _ h1
      cases e4
      exact e1
    · split at h
      · exact rd_fine f .bra _ _ _ h
      · split at h
        · cases h; exact ⟨True.intro, True.intro⟩
        · split at h
          · cases h; exact ⟨True.intro, True.intro⟩
          · split at h
            · cases hv : numv (nx ts) with
              | none => rw [hv] at h; cases h
              | some v => rw [hv] at h; cases h; exact ⟨True.intro, numv_le hv⟩
            · split at h
              · rename_i q; cases h; exact ⟨kd_name q.1 q.2, True.intro⟩
              · cases h
  | f + 1, .bra, ts, r, x, h => by
    unfold rd at h
    obtain ⟨r1, a1, h1, h2⟩ := then2_ok h
    obtain ⟨_, _, h3⟩ := eat_ok (by simp) h2
    obtain ⟨r4, a4, h4, h5⟩ := then2_ok h3
    obtain ⟨_, _, h6⟩ := eat_ok (by simp) h5
    obtain ⟨r7, a7, h7, h8⟩ := then2_ok h6
    obtain ⟨_, _, h9⟩ := eat_ok (by simp) h8
    have q1 : wr a1 ∧ small a1 := rd_fine f (.lev 1) _ _ _ h1
    have q4 : wr a4 ∧ small a4 := rd_fine f (.lev 1) _ _ _ h4
    have q7 : wr a7 ∧ small a7 := rd_fine f (.lev 1) _ _ _ h7
    cases h9
    exact ⟨⟨q1.1, q4.1, q7.1⟩, ⟨q1.2, q4.2, q7.2⟩⟩
/-- What is read whole, written, is read so again. -/
theorem read_again {ts : List Tk} {x : E} (h : R (.lev 1) ts = .ok [] x) : wf x ∧ R (.lev 1) (pr x 0) = .ok [] x := by
  have hf : wr x ∧ small x := rd_fine _ (.lev 1) _ _ _ h
  have hw := wf_of hf.1 hf.2
  refine ⟨hw, ?_⟩
  have := (reads x hw).top (pr01 hw) (T := []) st_nil
  rwa [List.append_nil] at this
end Ex
end Go.Proofs.YtdcjpinbflmikaaGreatDoor
