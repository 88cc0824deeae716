/- Plain facts on tokens: where they stand, what they have; where an error stands. No program is named here; no condition. -/
import Derived.Test.YthncfhakbobkkaaGreatDoorTkJoin
namespace Go.Proofs.YthncfhakbobkkaaGreatDoor.Tk
open Go

theorem goes_place {F : En.Piece} (hF : En.Moves F) : ∀ (f : Nat) (l out : List UInt8) (at_ : Nat), (En.goes F f l out at_).2.1 ≤ at_ + l.length
  | 0, l, out, at_ => by cases l <;> simp [En.goes]
  | f + 1, l, out, at_ => by
    by_cases hne : l = []
    · subst hne; rw [En.goes_nil]; simp
    · by_cases hz : (F l).2.2 = 0
      · by_cases hf : l.length ≤ f + 1
        · rw [En.goes_good hF hf hne hz, En.goes_more hF (f + 1) f _ _ _ (by have := hF l hne hz; rw [List.length_drop]; omega) (by have := hF l hne hz; rw [List.length_drop]; omega)]
          have := goes_place hF f (l.drop (F l).2.1) (out ++ (F l).1) (at_ + (F l).2.1)
          have h2 := hF l hne hz
          rw [List.length_drop] at this; omega
        · unfold En.goes
          simp only [hne, hz, if_false, ne_eq, not_true_eq_false]
          have h2 := hF l hne hz
          have := goes_place hF f (l.drop (F l).2.1) (out ++ (F l).1) (at_ + (F l).2.1)
          rw [List.length_drop] at this
          omega
      · unfold En.goes
        simp only [hne, hz, if_false, if_true, ne_eq, not_false_eq_true]
        omega
theorem rep_place {F : En.Piece} (hF : En.Moves F) (l : List UInt8) : (En.rep F l).2.1 ≤ l.length := by
  have := goes_place hF l.length l [] 0
  unfold En.rep; omega
theorem qv_len (l : List UInt8) (h : (qv l).2 ≠ 0) : (qv l).1.length + 2 ≤ (qv l).2 := by
  cases l with
  | nil => exact absurd rfl h
  | cons q r =>
    unfold qv at h ⊢
    simp only at h ⊢
    split
    · rename_i h1
      rw [if_pos h1] at h
      split
      · rename_i h2; rw [if_pos h2] at h; exact absurd rfl h
      · rename_i h2
        rw [if_neg h2] at h
        split
        · rename_i h3; rw [if_pos h3] at h; exact absurd rfl h
        · simp only [List.length_take]; omega
    · rename_i h1; rw [if_neg h1] at h; exact absurd rfl h
theorem at1_place (l : List UInt8) (h : (at1 l).2 ≠ 0) : (at1 l).1.p + (at1 l).1.vl.length ≤ (at1 l).2 := by
  unfold at1 at h ⊢
  split
  · rename_i h1; rw [if_pos h1] at h; exact absurd rfl h
  · rename_i h1
    rw [if_neg h1] at h
    simp only at h ⊢
    split
    · rename_i h2; rw [if_pos h2] at h; exact absurd rfl h
    · rename_i h2
      have := qv_len _ h2
      simp only; omega
theorem ats_place : ∀ (f : Nat) (l : List UInt8) (i : Nat) (acc : List A) (L : Nat), i + l.length ≤ L → (∀ a ∈ acc, a.p + a.vl.length ≤ L) → ∀ a ∈ (ats f l i acc).1, a.p + a.vl.length ≤ L
  | 0, _, _, _, _, _, _ => fun a h => by cases h
  | f + 1, l, i, acc, L, hl, hacc => by
    have h4 := bl_le l
    have h3 := at1_le (l.drop (bl l))
    rw [List.length_drop] at h3
    unfold ats
    simp only
    split
    · exact hacc
    · split
      · exact hacc
      · split
        · intro a h; cases h
        · rename_i h
          have hz : (at1 (l.drop (bl l))).2 ≠ 0 := fun e => h (Or.inr e)
          have hp := at1_place _ hz
          refine ats_place f _ _ _ L (by simp only [List.length_drop]; omega) fun a ha => ?_
          rw [List.mem_append] at ha
          rcases ha with ha | ha
          · exact hacc a ha
          · simp only [List.mem_singleton] at ha
            subst ha
            unfold sh; simp only; omega
theorem rdA_place : ∀ (as : List A) (acc : List (List UInt8 × List UInt8)) (L : Nat), (∀ a ∈ as, a.p + a.vl.length ≤ L) → (rdA as acc).2.1 ≤ L
  | [], _, _, _ => Nat.zero_le _
  | a :: r, acc, L, h => by
    unfold rdA
    split
    · have h1 := h a (List.mem_cons_self ..)
      have h2 := rep_place En.moves_dF a.vl
      simp only; omega
    · exact rdA_place r _ L fun b hb => h b (List.mem_cons_of_mem _ hb)
theorem rdA_len : ∀ (as : List A) (acc : List (List UInt8 × List UInt8)), (rdA as acc).2.2 = 0 → (rdA as acc).1.length = acc.length + as.length
  | [], _, _ => rfl
  | a :: r, acc, h => by
    unfold rdA at h ⊢
    split
    · rename_i h1; rw [if_pos h1] at h; exact absurd h h1
    · rename_i h1
      rw [if_neg h1] at h
      rw [rdA_len r _ h]
      simp only [List.length_append, List.length_cons, List.length_nil]; omega
theorem ats_kind : ∀ (f : Nat) (l : List UInt8) (i : Nat) (acc : List A), (ats f l i acc).2.2 = 0 ∨ (ats f l i acc).2.2 = 1 ∨ (ats f l i acc).2.2 = 3
  | 0, _, _, _ => Or.inl rfl
  | f + 1, l, i, acc => by
    unfold ats
    simp only
    split
    · exact Or.inr (Or.inl rfl)
    · split
      · exact Or.inr (Or.inr rfl)
      · split
        · exact Or.inl rfl
        · exact ats_kind f _ _ _
theorem tagO_kind (l : List UInt8) : (tagO l).2.2 = 0 ∨ (tagO l).2.2 = 1 ∨ (tagO l).2.2 = 3 := by
  unfold tagO
  split
  · exact Or.inl rfl
  · exact ats_kind _ _ _ _
theorem tagO_place (l : List UInt8) : ∀ a ∈ (tagO l).1, a.p + a.vl.length ≤ l.length := by
  unfold tagO
  have h := Nm.bg_le (l.drop 1)
  rw [List.length_drop] at h
  split
  · intro a h; cases h
  · exact ats_place _ _ _ _ _ (by rw [List.length_drop]; omega) (fun a h => by cases h)
theorem step_place {l : List UInt8} (h : (step l).e ≠ 0) : (step l).n ≤ l.length := by
  unfold step at h ⊢
  split
  · rename_i h1
    rw [if_pos h1] at h
    unfold txt at h ⊢
    split
    · have := rep_place En.moves_dF (l.take (upto l))
      rw [List.length_take] at this
      simp only [bad]; omega
    · rename_i h2; rw [if_neg h2] at h; exact absurd rfl h
  · rename_i h1
    rw [if_neg h1] at h
    split
    · rename_i h2; rw [if_pos h2] at h; exact absurd rfl h
    · rename_i h2
      rw [if_neg h2] at h
      split
      · rename_i h3
        rw [if_pos h3] at h
        unfold cls at h ⊢
        split
        · exact Nat.zero_le _
        · rename_i h4; rw [if_neg h4] at h; exact absurd rfl h
      · rename_i h3
        rw [if_neg h3] at h
        unfold opn at h ⊢
        split
        · exact Nat.zero_le _
        · rename_i h4
          rw [if_neg h4] at h
          split
          · exact rdA_place _ _ _ (tagO_place l)
          · rename_i h5
            rw [if_neg h5] at h
            split
            · exact Nat.zero_le _
            · rename_i h6; rw [if_neg h6] at h; exact absurd rfl h
/-- What a token has. -/
def OkT (lt : Bool) (t : T) : Prop := (lt = true ↔ t.k ≠ 4) ∧ 1 ≤ t.k ∧ t.k ≤ 4 ∧ (t.nm = [] ↔ t.k = 4) ∧ t.as.length ≤ 32 ∧ (t.as ≠ [] → t.k = 1 ∨ t.k = 3)
theorem take_ne {l : List UInt8} {n : Nat} (hn : n ≠ 0) (h : n ≤ l.length) : l.take n ≠ [] := fun e => by
  have := congrArg List.length e
  rw [List.length_take, List.length_nil] at this; omega
theorem step_tok {l : List UInt8} (h : (step l).e = 0) {t : T} (ht : (step l).t = some t) : OkT (l.head? == some 60) t := by
  unfold step at h ht
  split at h
  · rename_i h1
    rw [if_pos h1] at ht
    unfold txt at h ht
    split at h
    · rename_i h2; exact absurd h h2
    · rename_i h2
      rw [if_neg h2] at ht
      simp only [Option.some.injEq] at ht
      subst ht
      refine ⟨⟨fun e => absurd (by simpa using e) h1, fun e => absurd rfl e⟩, by simp only; omega, by simp only; omega, ⟨fun _ => rfl, fun _ => rfl⟩, by simp, fun e => absurd rfl e⟩
  · rename_i h1
    have h60 : (l.head? == some 60) = true := by
      rw [beq_iff_eq]; exact Classical.byContradiction h1
    rw [if_neg h1] at ht
    split at h
    · rename_i h2; rw [if_pos h2] at ht; cases ht
    · rename_i h2
      rw [if_neg h2] at ht
      split at h
      · rename_i h3
        rw [if_pos h3] at ht
        unfold cls at h ht
        split at h
        · cases h
        · rename_i h4
          rw [if_neg h4] at ht
          simp only [Option.some.injEq] at ht
          subst ht
          have hb : Nm.bg (l.drop 2) ≠ 0 := fun e => h4 (Or.inl e)
          refine ⟨⟨fun _ => by simp only; omega, fun _ => h60⟩, by simp only; omega, by simp only; omega, ⟨fun e => absurd e (take_ne hb (Nm.bg_le _).1), fun e => by simp only at e; omega⟩, by simp, fun e => absurd rfl e⟩
      · rename_i h3
        rw [if_neg h3] at ht
        obtain ⟨hb, hk, hr, hl, ho⟩ := opn_ok h
        rw [ho] at ht
        simp only [Option.some.injEq] at ht
        subst ht
        have hlen := rdA_len _ _ hr
        simp only [List.length_nil, Nat.zero_add] at hlen
        have hkind := tagO_kind l
        refine ⟨⟨fun _ => by simp only; omega, fun _ => h60⟩, by simp only; omega, by simp only; omega, ⟨fun e => absurd e (take_ne hb (Nm.bg_le _).1), fun e => ?_⟩, by simp only; omega, fun _ => by simp only; omega⟩
        simp only at e; omega
def Ord (L : List UInt8) (at_ : Nat) (ts : List T) : Prop := (∀ t ∈ ts, OkT (L[t.p]? == some 60) t ∧ t.p < at_) ∧ ts.Pairwise (fun a b => a.p < b.p)
theorem goT_ord (L : List UInt8) : ∀ (f : Nat) (l : List UInt8) (at_ : Nat) (acc : List T), L.drop at_ = l → at_ ≤ L.length → l.length ≤ f → Ord L at_ acc →
    ((goT f l at_ acc).2.2 = 0 → Ord L L.length (goT f l at_ acc).1) ∧ ((goT f l at_ acc).2.2 ≠ 0 → (goT f l at_ acc).1 = [] ∧ (goT f l at_ acc).2.1 ≤ L.length) := by
  intro f
  induction f with
  | zero =>
    intro l at_ acc hl ha hf ho
    refine ⟨fun _ => ⟨fun t ht => ⟨(ho.1 t ht).1, by have := (ho.1 t ht).2; omega⟩, ho.2⟩, fun h => absurd rfl h⟩
  | succ f ih =>
    intro l at_ acc hl ha hf ho
    by_cases hne : l = []
    · subst hne
      rw [goT_nil]
      refine ⟨fun _ => ⟨fun t ht => ⟨(ho.1 t ht).1, by have := (ho.1 t ht).2; simp only at *; omega⟩, ho.2⟩, fun h => absurd rfl h⟩
    · have hlen : l.length = L.length - at_ := by rw [← hl, List.length_drop]
      by_cases hs : (step l).e = 0
      · have hle := step_le hne hs
        rw [goT_good hf hne hs, goT_more (f + 1) f _ _ _ (by rw [List.length_drop]; omega) (by rw [List.length_drop]; omega)]
        refine ih _ _ _ (by rw [← hl, List.drop_drop]) (by omega) (by rw [List.length_drop]; omega) ?_
        unfold put1
        cases e : (step l).t with
        | none => exact ⟨fun t ht => ⟨(ho.1 t ht).1, by have := (ho.1 t ht).2; omega⟩, ho.2⟩
        | some t =>
          have hk := step_tok hs e
          have hh : l.head? = L[at_]? := by rw [← hl, List.head?_drop]
          simp only
          refine ⟨fun u hu => ?_, ?_⟩
          · rw [List.mem_append] at hu
            rcases hu with hu | hu
            · exact ⟨(ho.1 u hu).1, by have := (ho.1 u hu).2; omega⟩
            · simp only [List.mem_singleton] at hu
              subst hu
              rw [hh] at hk
              exact ⟨hk, by simp only; omega⟩
          · rw [List.pairwise_append]
            refine ⟨ho.2, by simp, fun a ha b hb => ?_⟩
            simp only [List.mem_singleton] at hb
            subst hb
            exact (ho.1 a ha).2
      · rw [goT_bad hf hne hs]
        have := step_place hs
        exact ⟨fun h => absurd h hs, fun _ => ⟨rfl, by simp only; omega⟩⟩
theorem toks_ord (L : List UInt8) : ((toks L).2.2 = 0 → (Ord L L.length (toks L).1 ∧ (toks L).2.1 = 0)) ∧ ((toks L).2.2 ≠ 0 → (toks L).1 = [] ∧ (toks L).2.1 ≤ L.length) := by
  unfold toks
  split
  · exact ⟨fun h => (by cases h), fun _ => ⟨rfl, Nat.zero_le _⟩⟩
  · split
    · exact ⟨fun h => (by cases h), fun _ => ⟨rfl, (U8.lead_le _ L (Nat.le_refl _)).2⟩⟩
    · have := goT_ord L L.length L 0 [] rfl (Nat.zero_le _) (Nat.le_refl _) ⟨fun t ht => (by cases ht), List.Pairwise.nil⟩
      exact ⟨fun h => ⟨this.1 h, cutT_ok h⟩, this.2⟩
end Go.Proofs.YthncfhakbobkkaaGreatDoor.Tk
