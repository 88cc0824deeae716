/- Facts and walks for the statement. -/
import Derived.Test.YteadfpkihhaadaaGreatDoorPz16
namespace Go.Proofs.YteadfpkihhaadaaGreatDoor
open Go
theorem put_is {c : Int} (h : U8.put c ≠ []) : U8.isCh c = true := by
 cases e : U8.isCh c with
 | true => rfl
 | false => unfold U8.put at h; rw [e] at h; exact absurd rfl h
theorem En.rep_dF_valid {l : List UInt8} (h : (En.rep En.dF l).2.2 = 0) : En.validL (En.rep En.dF l).1 := by
 refine En.rep_ind En.moves_dF (Q := fun _ q => En.validL q) En.validL_nil (fun l q hne hz _ hq => ?_) l.length l (Nat.le_refl _) h
 by_cases ha : l.head? = some 38
 ·obtain ⟨b, rfl⟩ : ∃ b, l = 38 :: b := by
   cases l with
   | nil => exact absurd rfl hne
   | cons a b => simp only [List.head?_cons, Option.some.injEq] at ha; exact ⟨b, by rw [ha]⟩
  rw [En.dF_amp ha] at hz ⊢
  by_cases h0 : (En.rf (38 :: b)).2 = 0
  ·rw [if_pos h0] at hz; cases hz
  ·rw [if_neg h0]
   rw [En.rf_amp] at h0 ⊢
   obtain ⟨j, _, e, hp⟩ := En.rfb_ok h0
   rw [e]
   exact En.validL_put (put_is hp) hq
 ·rw [En.dF_no ha] at hz ⊢
  have hok := U8.nx_ok hne hz
  have e : l.take (U8.nx l).2.1 = U8.put (U8.nx l).1 := by
   have h1 := List.take_append_drop (U8.nx l).2.1 l
   exact List.append_cancel_right (h1.trans hok.2.2.2.2.symm)
  simp only [e]
  exact En.validL_put hok.1 hq
namespace Tk
theorem qv_b (l : List UInt8) : (qv l).1.length ≤ (qv l).2 := by
 cases l with
 | nil => exact Nat.le_refl _
 | cons q r =>
  unfold qv
  simp only
  split
  ·split
   ·simp
   ·split
    ·simp
    ·simp only [List.length_take]; omega
  ·simp
theorem at1_b {l : List UInt8} (h : (at1 l).2 ≠ 0) : Nm.isn (at1 l).1.nm = true ∧ (at1 l).1.nm.length + (at1 l).1.vl.length ≤ (at1 l).2 := by
 unfold at1 at h ⊢
 split
 ·rename_i h1; rw [if_pos h1] at h; exact absurd rfl h
 ·rename_i h1
  rw [if_neg h1] at h
  simp only at h ⊢
  split
  ·rename_i h2; rw [if_pos h2] at h; exact absurd rfl h
  ·refine ⟨Nm.bg_is (fun e => h1 (Or.inl e)), ?_⟩
   have := qv_b (l.drop (Nm.bg l + bl (l.drop (Nm.bg l)) + 1 + bl (l.drop (Nm.bg l + bl (l.drop (Nm.bg l)) + 1))))
   simp only [List.length_take]; omega
def sumA (as : List A) : Nat := (as.map (fun a => a.nm.length + a.vl.length)).sum
theorem sumA_snoc (as : List A) (a : A) : sumA (as ++ [a]) = sumA as + (a.nm.length + a.vl.length) := by
 unfold sumA; simp
theorem ats_b : ∀ (f : Nat) (l : List UInt8) (i : Nat) (acc : List A), (ats f l i acc).2.2 ≠ 0 → (∀ a ∈ acc, Nm.isn a.nm = true) →
  (∀ a ∈ (ats f l i acc).1, Nm.isn a.nm = true) ∧ sumA (ats f l i acc).1 + i ≤ sumA acc + (ats f l i acc).2.1
 | 0, _, _, _, h, _ => by unfold ats at h; exact absurd rfl h
 | f + 1, l, i, acc, h, ha => by
  unfold ats at h ⊢
  simp only at h ⊢
  split
  ·exact ⟨ha, by simp only; omega⟩
  ·rename_i h1
   rw [if_neg h1] at h
   split
   ·exact ⟨ha, by simp only; omega⟩
   ·rename_i h2
    rw [if_neg h2] at h
    split
    ·rename_i h3; rw [if_pos h3] at h; exact absurd rfl h
    ·rename_i h3
     rw [if_neg h3] at h
     have hw := at1_b (l := l.drop (bl l)) (fun e => h3 (Or.inr e))
     have := ats_b f _ _ _ h (fun a hm => by
      rcases List.mem_append.1 hm with hm | hm
      ·exact ha a hm
      ·rw [List.mem_singleton.1 hm]; exact hw.1)
     refine ⟨this.1, ?_⟩
     have h4 := this.2
     rw [sumA_snoc] at h4
     have e1 : (sh (at1 (l.drop (bl l))).1 (i + bl l)).nm = (at1 (l.drop (bl l))).1.nm := rfl
     have e2 : (sh (at1 (l.drop (bl l))).1 (i + bl l)).vl = (at1 (l.drop (bl l))).1.vl := rfl
     rw [e1, e2] at h4
     omega
theorem rdA_is : ∀ (as : List A) (acc : List (List UInt8 × List UInt8)), (rdA as acc).2.2 = 0 → (rdA as acc).1 = acc ++ as.map (fun a => (a.nm, (En.rep En.dF a.vl).1)) ∧ ∀ a ∈ as, (En.rep En.dF a.vl).2.2 = 0
 | [], acc, _ => ⟨by simp [rdA], fun a h => by cases h⟩
 | a :: r, acc, h => by
  unfold rdA at h ⊢
  split
  ·rename_i h1; rw [if_pos h1] at h; exact absurd h h1
  ·rename_i h1
   rw [if_neg h1] at h
   obtain ⟨h2, h3⟩ := rdA_is r _ h
   refine ⟨by rw [h2]; simp, fun b hb => ?_⟩
   rcases List.mem_cons.1 hb with rfl | hb
   ·exact Classical.byContradiction h1
   ·exact h3 b hb
def GT (t : T) : Prop := (t.k ≠ 4 → Nm.isn t.nm = true) ∧ (∀ a ∈ t.as, okA a) ∧ En.validL t.tx
def wAs (as : List (List UInt8 × List UInt8)) : Nat := (as.map (fun a => a.1.length + a.2.length)).sum
def wgt (t : T) : Nat := t.nm.length + t.tx.length + wAs t.as
theorem wAs_dec : ∀ as : List A, wAs (as.map (fun a => (a.nm, (En.rep En.dF a.vl).1))) ≤ 6 * sumA as
 | [] => Nat.le_refl _
 | a :: as => by
  have ih := wAs_dec as
  have := En.rep_len a.vl
  unfold wAs sumA at *
  simp only [List.map_cons, List.sum_cons] at ih ⊢
  omega
theorem step_gt {l : List UInt8} (h : (step l).e = 0) {t : T} (ht : (step l).t = some t) : GT t ∧ wgt t ≤ 6 * (step l).n := by
 have htx := step_tx ht
 unfold step at h ht htx ⊢
 split at h
 ·rename_i h1
  rw [if_pos h1] at ht htx ⊢
  unfold txt at h ht htx ⊢
  split at h
  ·rename_i h2; exact absurd h h2
  ·rename_i h2
   rw [if_neg h2] at ht htx ⊢
   simp only [Option.some.injEq] at ht
   subst ht
   refine ⟨⟨fun e => absurd rfl e, fun a ha => (by cases ha), En.rep_dF_valid (Classical.byContradiction h2)⟩, ?_⟩
   unfold wgt
   simp only [wAs, List.length_nil, List.map_nil, List.sum_nil] at htx ⊢
   omega
 ·rename_i h1
  rw [if_neg h1] at ht htx ⊢
  split at h
  ·rename_i h2; rw [if_pos h2] at ht; cases ht
  ·rename_i h2
   rw [if_neg h2] at ht htx ⊢
   split at h
   ·rename_i h3
    rw [if_pos h3] at ht htx ⊢
    unfold cls at h ht htx ⊢
    split at h
    ·cases h
    ·rename_i h4
     rw [if_neg h4] at ht htx ⊢
     simp only [Option.some.injEq] at ht
     subst ht
     refine ⟨⟨fun _ => Nm.bg_is (fun e => h4 (Or.inl e)), fun a ha => (by cases ha), En.validL_nil⟩, ?_⟩
     unfold wgt
     simp only [wAs, List.length_nil, List.map_nil, List.sum_nil, List.length_take]
     omega
   ·rename_i h3
    rw [if_neg h3] at ht htx ⊢
    obtain ⟨hb, hk, hr, hl, ho⟩ := opn_ok h
    rw [ho] at ht ⊢
    simp only [Option.some.injEq] at ht
    subst ht
    obtain ⟨r1, r2⟩ := rdA_is _ _ hr
    have ht0 : tagO l = ats (l.length + 1) (l.drop (1 + Nm.bg (l.drop 1))) (1 + Nm.bg (l.drop 1)) [] := by unfold tagO; rw [if_neg hb]
    have hw := ats_b (l.length + 1) (l.drop (1 + Nm.bg (l.drop 1))) (1 + Nm.bg (l.drop 1)) [] (by rw [← ht0]; exact hk) (fun a ha => by cases ha)
    rw [← ht0] at hw
    have hs0 : sumA [] = 0 := rfl
    refine ⟨⟨fun _ => Nm.bg_is hb, fun a ha => ?_, En.validL_nil⟩, ?_⟩
    ·simp only at ha
     rw [r1, List.nil_append] at ha
     obtain ⟨b, hb1, rfl⟩ := List.mem_map.1 ha
     exact ⟨hw.1 b hb1, En.rep_dF_valid (r2 b hb1)⟩
    ·unfold wgt
     simp only [List.length_nil]
     rw [r1, List.nil_append]
     have := wAs_dec (tagO l).1
     have h5 := hw.2
     rw [hs0] at h5
     simp only [List.length_take]
     omega
def wgs (ts : List T) : Nat := (ts.map wgt).sum
theorem goT_gt : ∀ (f : Nat) (l : List UInt8) (at_ : Nat) (acc : List T), l.length ≤ f → (∀ t ∈ acc, GT t) → wgs acc ≤ 6 * at_ → (goT f l at_ acc).2.2 = 0 → (∀ t ∈ (goT f l at_ acc).1, GT t) ∧ wgs (goT f l at_ acc).1 ≤ 6 * (at_ + l.length)
 | 0, l, at_, acc, hf, hg, ha, _ => by unfold goT; exact ⟨hg, by simp only; omega⟩
 | f + 1, l, at_, acc, hf, hg, ha, h => by
  by_cases hne : l = []
  ·subst hne
   rw [goT_nil]; exact ⟨hg, by simp only [List.length_nil]; omega⟩
  ·by_cases hs : (step l).e = 0
   ·have hle := step_le hne hs
    rw [goT_good hf hne hs, goT_more (f + 1) f _ _ _ (by rw [List.length_drop]; omega) (by rw [List.length_drop]; omega)] at h ⊢
    have := goT_gt f (l.drop (step l).n) (at_ + (step l).n) (put1 (step l).t at_ acc) (by rw [List.length_drop]; omega) ?_ ?_ h
    ·rw [List.length_drop] at this; exact ⟨this.1, by have := this.2; omega⟩
    ·unfold put1
     cases e : (step l).t with
     | none => exact hg
     | some t =>
      intro x hx
      rcases List.mem_append.1 hx with hx | hx
      ·exact hg x hx
      ·rw [List.mem_singleton.1 hx]; exact (step_gt hs e).1
    ·unfold put1
     cases e : (step l).t with
     | none => simp only; omega
     | some t =>
      have := (step_gt hs e).2
      simp only [wgs, wgt, List.map_append, List.map_cons, List.map_nil, List.sum_append, List.sum_cons, List.sum_nil] at ha this ⊢
      omega
   ·rw [goT_bad hf hne hs] at h
    exact absurd h hs
theorem toks_gt (L : List UInt8) : (∀ t ∈ (toks L).1, GT t) ∧ wgs (toks L).1 ≤ 6 * L.length := by
 by_cases h : (toks L).2.2 = 0
 ·unfold toks at h ⊢
  split
  ·exact ⟨fun t ht => (by cases ht), by simp [wgs]⟩
  ·rename_i h1
   rw [if_neg h1] at h
   split
   ·exact ⟨fun t ht => (by cases ht), by simp [wgs]⟩
   ·rename_i h2
    rw [if_neg h2] at h
    have := goT_gt L.length L 0 [] (Nat.le_refl _) (fun t ht => by cases ht) (by simp [wgs]) h
    unfold cutT
    simpa using this
 ·rw [((toks_ord L).2 h).1]; exact ⟨fun t ht => (by cases ht), by simp [wgs]⟩
end Tk
end Go.Proofs.YteadfpkihhaadaaGreatDoor
