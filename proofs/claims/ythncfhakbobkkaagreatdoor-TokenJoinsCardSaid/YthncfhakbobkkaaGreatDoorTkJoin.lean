/- Plain facts on tags and texts: what stands behind a text, if it begins with <, does not turn what is cut; where tokens stand. No program is named here; no condition. -/
import Derived.Test.YthncfhakbobkkaaGreatDoorTkPlain
namespace Go.Proofs.YthncfhakbobkkaaGreatDoor.Tk
open Go

theorem part60 {m : Int} (h : 1 ≤ m) : Nm.partZ (Nm.z 60) < m := by
  have : Nm.partZ (Nm.z 60) = 0 := by decide
  omega
theorem lg_more : ∀ (l t : List UInt8) (m : Int), 1 ≤ m → Nm.lg m (l ++ 60 :: t) = Nm.lg m l
  | [], t, m, h => by
    show Nm.lg m (60 :: t) = 0
    unfold Nm.lg; rw [if_pos (part60 h)]
  | c :: l, t, m, h => by
    rw [List.cons_append]
    unfold Nm.lg
    rw [lg_more l t 1 (by omega)]
theorem drop_more {l b : List UInt8} {n : Nat} (h : n ≤ l.length) : (l ++ b).drop n = l.drop n ++ b := by
  rw [List.drop_append, show n - l.length = 0 by omega]; rfl
theorem take_more {l b : List UInt8} {n : Nat} (h : n ≤ l.length) : (l ++ b).take n = l.take n := by
  rw [List.take_append, show n - l.length = 0 by omega]; simp
theorem bgH_more (l t : List UInt8) : Nm.bgH (l ++ 60 :: t) = Nm.bgH l := by
  unfold Nm.bgH; rw [Nm.lg_take, Nm.lg_take, lg_more _ _ _ (by omega)]
theorem bg_more (l t : List UInt8) : Nm.bg (l ++ 60 :: t) = Nm.bg l := by
  unfold Nm.bg
  rw [bgH_more]
  have hle : Nm.bgH l ≤ l.length ∧ Nm.bgH l ≤ 64 := by
    unfold Nm.bgH
    have := Nm.lg_le (l.take 64) 2
    rw [List.length_take] at this; omega
  generalize hh : Nm.bgH l = h at *
  by_cases h0 : h = 0
  · rw [if_pos (Or.inl h0), if_pos (Or.inl h0)]
  · by_cases h1 : h = (l.take 64).length
    · have R : ∀ x y : Nat, (if h = 0 ∨ h = (l.take 64).length ∨ (l.take 64)[h]? ≠ some 58 then x else y) = x := fun x y => if_pos (Or.inr (Or.inl h1))
      rw [R]
      by_cases h64 : 64 ≤ l.length
      · exact if_pos (Or.inr (Or.inl (by rw [take_more h64]; exact h1)))
      · refine if_pos (Or.inr (Or.inr ?_))
        have : h = l.length := by rw [h1, List.length_take]; omega
        rw [List.getElem?_take, if_pos (by omega), this, List.getElem?_append_right (Nat.le_refl _), Nat.sub_self]
        simp
    · have hlt : h < l.length ∧ h < 64 := by rw [List.length_take] at h1; omega
      have e1 : ((l ++ 60 :: t).take 64)[h]? = (l.take 64)[h]? := by
        rw [List.getElem?_take, List.getElem?_take, List.getElem?_append_left hlt.1]
      have e2 : h ≠ ((l ++ 60 :: t).take 64).length := by rw [List.length_take, List.length_append]; omega
      have e3 : Nm.lg 2 (((l ++ 60 :: t).take 64).drop (h + 1)) = Nm.lg 2 ((l.take 64).drop (h + 1)) := by
        rw [List.drop_take, List.drop_take, Nm.lg_take, Nm.lg_take, drop_more (by omega), lg_more _ _ _ (by omega)]
      rw [e1, e3]
      by_cases h2 : (l.take 64)[h]? = some 58
      · have n1 : ¬ (h = 0 ∨ h = ((l ++ 60 :: t).take 64).length ∨ (l.take 64)[h]? ≠ some 58) := by
          rintro (x | x | x)
          · exact h0 x
          · exact e2 x
          · exact x h2
        have n2 : ¬ (h = 0 ∨ h = (l.take 64).length ∨ (l.take 64)[h]? ≠ some 58) := by
          rintro (x | x | x)
          · exact h0 x
          · exact h1 x
          · exact x h2
        rw [if_neg n1, if_neg n2]
      · rw [if_pos (Or.inr (Or.inr h2)), if_pos (Or.inr (Or.inr h2))]
theorem bl_more : ∀ l t : List UInt8, bl (l ++ 60 :: t) = bl l
  | [], t => by show bl (60 :: t) = 0; rfl
  | c :: l, t => by rw [List.cons_append]; unfold bl; rw [bl_more l t]
theorem head_more {l t : List UInt8} {c : UInt8} (hc : c ≠ 60) : ((l ++ 60 :: t).head? = some c) ↔ (l.head? = some c) := by
  cases l with
  | nil => simp [Ne.symm hc]
  | cons _ _ => simp
theorem idx_miss_more {r t : List UInt8} {q : UInt8} (h : Lib.indexByte r q = -1) {j : Nat} (hj : Lib.indexByte (r ++ 60 :: t) q = j) (hq : q ≠ 60) : r.length < j := by
  have h1 := (Lib.indexByte_some hj).1
  rcases Nat.lt_or_ge r.length j with h2 | h2
  · exact h2
  · exfalso
    rcases Nat.lt_or_ge j r.length with h3 | h3
    · rw [List.getElem?_append_left h3] at h1; exact Lib.indexByte_none h j h1
    · have : j = r.length := by omega
      rw [this, List.getElem?_append_right (Nat.le_refl _), Nat.sub_self] at h1
      simp at h1; exact hq h1.symm
theorem idx_nonneg_of_mem {l : List UInt8} {c : UInt8} {k : Nat} (h : l[k]? = some c) : 0 ≤ Lib.indexByte l c := by
  have := Lib.indexByte_ge l c
  rcases Int.lt_or_le (Lib.indexByte l c) 0 with h1 | h1
  · exact absurd h (Lib.indexByte_none (by omega) k)
  · exact h1
theorem qv_more (l t : List UInt8) : qv (l ++ 60 :: t) = qv l := by
  cases l with
  | nil => exact qv_none fun q hq => by simp at hq; subst hq; decide
  | cons q r =>
    rw [List.cons_append]
    by_cases hq : q = 34 ∨ q = 39
    · have hq60 : q ≠ 60 := by rcases hq with rfl | rfl <;> decide
      rcases En.idx_cases r q with h | ⟨j, h⟩
      · rw [qv_miss h]
        rcases En.idx_cases (r ++ 60 :: t) q with h2 | ⟨j, h2⟩
        · exact qv_miss h2
        · have h3 := idx_miss_more h h2 hq60
          refine qv_lt h2 (idx_nonneg_of_mem (k := r.length) ?_)
          rw [List.getElem?_take, if_pos h3, List.getElem?_append_right (Nat.le_refl _), Nat.sub_self]; rfl
      · have h2 := En.idx_append (r := 60 :: t) h
        have hjl := En.idx_lt h
        have ht : (r ++ 60 :: t).take j = r.take j := take_more (by omega)
        rcases En.idx_cases (r.take j) 60 with h3 | ⟨k, h3⟩
        · rw [qv_hit hq h h3, qv_hit hq h2 (by rw [ht]; exact h3), ht]
        · rw [qv_lt h (by rw [h3]; omega), qv_lt h2 (by rw [ht, h3]; omega)]
    · rw [qv_none (l := q :: r) (fun x hx => by simp at hx; subst hx; exact ⟨fun e => hq (Or.inl e), fun e => hq (Or.inr e)⟩),
        qv_none (l := q :: (r ++ 60 :: t)) (fun x hx => by simp at hx; subst hx; exact ⟨fun e => hq (Or.inl e), fun e => hq (Or.inr e)⟩)]
theorem head_pos {l : List UInt8} {c : UInt8} (h : l.head? = some c) : 0 < l.length := by
  cases l with
  | nil => cases h
  | cons _ _ => simp
theorem at1_more (l t : List UInt8) : at1 (l ++ 60 :: t) = at1 l := by
  have hb := bg_more l t
  have hbl := (Nm.bg_le l).1
  by_cases h0 : Nm.bg l = 0
  · rw [at1_none h0, at1_none (hb.trans h0)]
  · have hi := bl_le (l.drop (Nm.bg l))
    rw [List.length_drop] at hi
    have e1 : bl ((l ++ 60 :: t).drop (Nm.bg l)) = bl (l.drop (Nm.bg l)) := by rw [drop_more hbl, bl_more]
    have e2 : (l ++ 60 :: t).drop (Nm.bg l + bl (l.drop (Nm.bg l))) = l.drop (Nm.bg l + bl (l.drop (Nm.bg l))) ++ 60 :: t := drop_more (by omega)
    by_cases h1 : (l.drop (Nm.bg l + bl (l.drop (Nm.bg l)))).head? = some 61
    · have hp := head_pos h1
      rw [List.length_drop] at hp
      have hj := bl_le (l.drop (Nm.bg l + bl (l.drop (Nm.bg l)) + 1))
      rw [List.length_drop] at hj
      have e3 : bl ((l ++ 60 :: t).drop (Nm.bg l + bl (l.drop (Nm.bg l)) + 1)) = bl (l.drop (Nm.bg l + bl (l.drop (Nm.bg l)) + 1)) := by rw [drop_more (by omega), bl_more]
      rw [at1_val rfl h0 rfl h1 rfl, at1_val hb h0 (by rw [e1]) (by rw [e2]; exact (head_more (by decide)).2 h1) (by rw [e3])]
      rw [drop_more (by omega), qv_more, take_more hbl]
    · rw [at1_sign rfl h1, at1_sign hb]
      rw [e1, e2]
      exact fun h => h1 ((head_more (by decide)).1 h)
theorem two_more {l t : List UInt8} {a b : UInt8} (hb : b ≠ 60) (ha : a ≠ 60) : ((l ++ 60 :: t).take 2 = [a, b]) ↔ (l.take 2 = [a, b]) := by
  match l with
  | [] => simp [Ne.symm ha]
  | [x] => simp [Ne.symm hb]
  | x :: y :: r => simp
theorem ats_behind : ∀ (f : Nat) (l t : List UInt8) (i : Nat) (acc : List A), ats f (l ++ 60 :: t) i acc = ats f l i acc
  | 0, _, _, _, _ => rfl
  | f + 1, l, t, i, acc => by
    have h1 := bl_le l
    have e1 : (l ++ 60 :: t).drop (bl l) = l.drop (bl l) ++ 60 :: t := drop_more h1
    have h2 := at1_le (l.drop (bl l))
    unfold ats
    simp only
    rw [bl_more, e1, at1_more]
    simp only [head_more (show (62 : UInt8) ≠ 60 by decide), two_more (show (62 : UInt8) ≠ 60 by decide) (show (47 : UInt8) ≠ 60 by decide)]
    split
    · rfl
    · split
      · rfl
      · split
        · rfl
        · rw [drop_more h2]; exact ats_behind f _ t _ _
theorem tagO_more {l : List UInt8} (t : List UInt8) (h : l ≠ []) : tagO (l ++ 60 :: t) = tagO l := by
  have hl : 1 ≤ l.length := by cases l with | nil => exact absurd rfl h | cons _ _ => simp
  have hb := (Nm.bg_le (l.drop 1)).1
  rw [List.length_drop] at hb
  unfold tagO
  rw [drop_more hl, bg_more]
  split
  · rfl
  · rw [drop_more (by omega), ats_behind]
    apply ats_more
    · simp only [List.length_drop, List.length_append]; omega
    · simp only [List.length_drop]; omega
theorem opn_more {l : List UInt8} (t : List UInt8) (h : l ≠ []) : opn (l ++ 60 :: t) = opn l := by
  have hl : 1 ≤ l.length := by cases l with | nil => exact absurd rfl h | cons _ _ => simp
  have hb := (Nm.bg_le (l.drop 1)).1
  unfold opn
  rw [tagO_more t h, drop_more hl, bg_more, take_more hb]
theorem cls_more {l : List UInt8} (t : List UInt8) (h : 2 ≤ l.length) : cls (l ++ 60 :: t) = cls l := by
  have hb := (Nm.bg_le (l.drop 2)).1
  rw [List.length_drop] at hb
  have hi := bl_le (l.drop (2 + Nm.bg (l.drop 2)))
  rw [List.length_drop] at hi
  unfold cls
  rw [drop_more h, bg_more, drop_more (n := 2 + Nm.bg (l.drop 2)) (by omega), bl_more, drop_more (by omega), take_more (by rw [List.length_drop]; omega)]
  simp only [ne_eq, head_more (show (62 : UInt8) ≠ 60 by decide)]
theorem hp_iff {l p : List UInt8} : Lib.hasPrefix l p = true ↔ l.take p.length = p := by
  unfold Lib.hasPrefix
  rw [List.isPrefixOf_iff_prefix, List.prefix_iff_eq_take]
  exact eq_comm
theorem hp2_more {l t : List UInt8} {a b : UInt8} (hb : b ≠ 60) (hne : l ≠ []) : Lib.hasPrefix (l ++ 60 :: t) [a, b] = Lib.hasPrefix l [a, b] := by
  rw [Bool.eq_iff_iff, hp_iff, hp_iff]
  show (l ++ 60 :: t).take 2 = [a, b] ↔ l.take 2 = [a, b]
  match l, hne with
  | [x], _ => simp [Ne.symm hb]
  | x :: y :: r, _ => simp
theorem occ_more {s t p : List UInt8} {i : Nat} (h : i + p.length ≤ s.length) : Lib.occAt (s ++ t) p i = Lib.occAt s p i := by
  rw [Lib.occAt_iff_take _ _ _ (by rw [List.length_append]; omega), Lib.occAt_iff_take _ _ _ h, drop_more (by omega), take_more (by rw [List.length_drop]; omega)]
theorem index_more {s t p : List UInt8} (h : 0 ≤ Lib.index s p) : Lib.index (s ++ t) p = Lib.index s p := by
  have hr := Lib.index_room s p h
  rcases Lib.index_spec s p with ⟨e, _⟩ | ⟨i, e, hi, ho, hn⟩
  · omega
  · rw [e]
    rw [e] at hr
    refine Lib.index_first (by rw [List.length_append]; omega) (by rw [occ_more (by omega)]; exact ho) fun j hj => ?_
    rw [occ_more (by omega)]; exact hn j hj
theorem hp_more {l p : List UInt8} (t : List UInt8) (h : Lib.hasPrefix l p = true) : Lib.hasPrefix (l ++ t) p = true := by
  have := hp_len h
  rw [hp_iff] at h ⊢
  rw [take_more this]; exact h
theorem hp2_second {l : List UInt8} {a b : UInt8} (h : Lib.hasPrefix l [a, b] = true) : l[1]? = some b := by
  rw [hp_iff] at h
  have := congrArg (·[1]?) h
  simpa using this
theorem hp4_second {l : List UInt8} (h : Lib.hasPrefix l [60, 33, 45, 45] = true) : l[1]? = some 33 := by
  rw [hp_iff] at h
  have := congrArg (·[1]?) h
  simpa using this
theorem rem_second {l : List UInt8} (h : rem l ≠ 0) : l[1]? = some 33 ∨ l[1]? = some 63 := by
  unfold rem at h
  split at h
  · rename_i h1; exact Or.inl (hp4_second h1)
  · split at h
    · rename_i h1; exact Or.inr (hp2_second h1)
    · exact absurd rfl h
theorem rem_more {l : List UInt8} (t : List UInt8) (h : 0 < rem l) : rem (l ++ t) = rem l := by
  unfold rem at h ⊢
  split at h
  · rename_i h1
    have := hp_len h1
    simp only [List.length_cons, List.length_nil] at this
    rw [if_pos (hp_more t h1), if_pos h1, drop_more (by omega)]
    split at h
    · rename_i h2; rw [index_more h2]
    · omega
  · rename_i h1
    split at h
    · rename_i h2
      have hl := hp_len h2
      simp only [List.length_cons, List.length_nil] at hl
      have h3 := hp2_second h2
      have h4 : ¬ Lib.hasPrefix (l ++ t) [60, 33, 45, 45] = true := fun hc => by
        have := hp4_second hc
        rw [List.getElem?_append_left (by omega), h3] at this; cases this
      rw [if_neg h4, if_neg h1, if_pos (hp_more t h2), if_pos h2, drop_more (by omega)]
      split at h
      · rename_i h5; rw [index_more h5]
      · omega
    · omega
theorem bg_second {l : List UInt8} (h : Nm.bg (l.drop 1) ≠ 0) : ∃ c, l[1]? = some c ∧ Nm.letZ (Nm.z c) = true := by
  obtain ⟨c, r, e, hc⟩ := bg_head h
  refine ⟨c, ?_, hc⟩
  have := congrArg (·[0]?) e
  rw [List.getElem?_drop] at this
  simpa using this
theorem upto_more (l t : List UInt8) : upto (l ++ 60 :: t) = upto l := by
  unfold upto
  rcases En.idx_cases l 60 with h | ⟨j, h⟩
  · have : Lib.indexByte (l ++ 60 :: t) 60 = (l.length : Nat) := by
      refine En.idx_of ?_ fun k hk => ?_
      · rw [List.getElem?_append_right (Nat.le_refl _), Nat.sub_self]; rfl
      · rw [List.getElem?_append_left hk]; exact Lib.indexByte_none h k
    rw [this, h, if_pos rfl, if_neg (by omega)]; simp
  · rw [En.idx_append h, h]
    rw [if_neg (by omega), if_neg (by omega)]
theorem txt_more (l t : List UInt8) : txt (l ++ 60 :: t) = txt l := by
  unfold txt; rw [upto_more, take_more (upto_le l)]
theorem opn_ok {l : List UInt8} (h : (opn l).e = 0) : Nm.bg (l.drop 1) ≠ 0 ∧ (tagO l).2.2 ≠ 0 ∧ (rdA (tagO l).1 []).2.2 = 0 ∧ (tagO l).1.length ≤ 32 ∧
    opn l = ⟨some ⟨(tagO l).2.2, (l.drop 1).take (Nm.bg (l.drop 1)), (rdA (tagO l).1 []).1, [], 0⟩, (tagO l).2.1, 0⟩ := by
  unfold opn at h ⊢
  split at h
  · cases h
  · rename_i h1
    split at h
    · rename_i h2; exact absurd h h2
    · rename_i h2
      split at h
      · cases h
      · rename_i h3
        refine ⟨fun e => h1 (by unfold tagO; rw [if_pos e]), h1, Classical.byContradiction h2, by omega, ?_⟩
        rw [if_neg h1, if_neg h2, if_neg h3]
theorem step_more {l : List UInt8} (t : List UInt8) (hne : l ≠ []) (h : (step l).e = 0) : step (l ++ 60 :: t) = step l := by
  have hh : (l ++ 60 :: t).head? = l.head? := by cases l with | nil => exact absurd rfl hne | cons _ _ => rfl
  unfold step at h ⊢
  rw [hh]
  split
  · exact txt_more l t
  · rename_i h1
    rw [if_neg h1] at h
    by_cases h2 : 0 < rem l
    · rw [if_pos h2, if_pos (by rw [rem_more _ h2]; exact h2), rem_more _ h2]
    · rw [if_neg h2] at h
      rw [if_neg h2, hp2_more (by decide) hne]
      by_cases h3 : Lib.hasPrefix l [60, 47] = true
      · rw [if_neg, if_pos h3, if_pos h3, cls_more t (hp_len h3)]
        intro h4
        have hl := hp_len h3
        simp only [List.length_cons, List.length_nil] at hl
        have h5 := rem_second (l := l ++ 60 :: t) (by omega)
        rw [List.getElem?_append_left (by omega), hp2_second h3] at h5
        rcases h5 with h5 | h5 <;> cases h5
      · rw [if_neg h3] at h
        rw [if_neg, if_neg h3, if_neg h3, opn_more t hne]
        intro h4
        obtain ⟨hb, _⟩ := opn_ok h
        obtain ⟨c, hc, hz⟩ := bg_second hb
        have hn := let_ne hz
        have hl : 1 < l.length := by
          rcases Nat.lt_or_ge 1 l.length with h | h
          · exact h
          · rw [List.getElem?_eq_none h] at hc; cases hc
        have h5 := rem_second (l := l ++ 60 :: t) (by omega)
        rw [List.getElem?_append_left hl, hc] at h5
        rcases h5 with h5 | h5
        · exact hn.2.2.1 (Option.some.inj h5)
        · exact hn.2.2.2.1 (Option.some.inj h5)

/-! ### one text behind another -/
def mv (n : Nat) (t : T) : T := ⟨t.k, t.nm, t.as, t.tx, t.p + n⟩
theorem goT_shift : ∀ (f : Nat) (l : List UInt8) (at_ k : Nat) (acc : List T), goT f l (at_ + k) (acc.map (mv k)) = if (goT f l at_ acc).2.2 = 0 then ((goT f l at_ acc).1.map (mv k), (goT f l at_ acc).2.1, 0) else ([], (goT f l at_ acc).2.1 + k, (goT f l at_ acc).2.2)
  | 0, l, at_, k, acc => by unfold goT; rw [if_pos rfl]
  | f + 1, l, at_, k, acc => by
    unfold goT
    split
    · rw [if_pos rfl]
    · split
      · simp only [Prod.mk.injEq, true_and, and_true]; omega
      · have e : put1 (step l).t (at_ + k) (acc.map (mv k)) = (put1 (step l).t at_ acc).map (mv k) := by
          unfold put1
          cases (step l).t with
          | none => rfl
          | some t => simp [mv]
        rw [e, show at_ + k + (step l).n = at_ + (step l).n + k by omega]
        exact goT_shift f _ _ k _
/-- What was gathered ahead stays ahead. -/
theorem goT_acc : ∀ (f : Nat) (l : List UInt8) (at_ : Nat) (pre acc : List T), goT f l at_ (pre ++ acc) = if (goT f l at_ acc).2.2 = 0 then (pre ++ (goT f l at_ acc).1, (goT f l at_ acc).2.1, 0) else ([], (goT f l at_ acc).2.1, (goT f l at_ acc).2.2)
  | 0, l, at_, pre, acc => by unfold goT; rw [if_pos rfl]
  | f + 1, l, at_, pre, acc => by
    unfold goT
    split
    · rw [if_pos rfl]
    · split
      · simp only
      · have e : put1 (step l).t at_ (pre ++ acc) = pre ++ put1 (step l).t at_ acc := by
          unfold put1
          cases (step l).t with
          | none => rfl
          | some t => simp
        rw [e]
        exact goT_acc f _ _ pre _
theorem goT_behind : ∀ (n : Nat) (a t : List UInt8) (f g : Nat) (at_ : Nat) (acc : List T), a.length ≤ n → a.length ≤ f → (a ++ 60 :: t).length ≤ g → (goT f a at_ acc).2.2 = 0 →
    goT g (a ++ 60 :: t) at_ acc = goT g (60 :: t) (at_ + a.length) (goT f a at_ acc).1 := by
  intro n
  induction n with
  | zero =>
    intro a t f g at_ acc h0 _ _ _
    have : a = [] := List.eq_nil_of_length_eq_zero (by omega)
    subst this
    rw [goT_nil]; rfl
  | succ n ih =>
    intro a t f g at_ acc h0 hf hg he
    by_cases hne : a = []
    · subst hne; rw [goT_nil]; rfl
    · by_cases hs : (step a).e = 0
      · have hle := step_le hne hs
        rw [goT_good hf hne hs] at he ⊢
        have hs2 := step_more t hne hs
        rw [goT_good hg (by simp) (by rw [hs2]; exact hs), hs2, drop_more hle.2]
        rw [List.length_append] at hg
        rw [ih (a.drop (step a).n) t f g _ _ (by rw [List.length_drop]; omega) (by rw [List.length_drop]; omega) (by rw [List.length_append, List.length_drop]; omega) he]
        congr 1
        rw [List.length_drop]; omega
      · rw [goT_bad hf hne hs] at he; exact absurd he hs
theorem cutT_join {a t : List UInt8} (h : (cutT a).2.2 = 0) :
    cutT (a ++ 60 :: t) = if (cutT (60 :: t)).2.2 = 0 then ((cutT a).1 ++ (cutT (60 :: t)).1.map (mv a.length), (cutT (60 :: t)).2.1, 0) else ([], a.length + (cutT (60 :: t)).2.1, (cutT (60 :: t)).2.2) := by
  unfold cutT at h ⊢
  rw [goT_behind a.length a t a.length _ 0 [] (Nat.le_refl _) (Nat.le_refl _) (Nat.le_refl _) h]
  rw [goT_more _ (60 :: t).length (60 :: t) (0 + a.length) _ (by rw [List.length_append]; omega) (Nat.le_refl _)]
  have h1 := goT_shift (60 :: t).length (60 :: t) 0 a.length []
  rw [List.map_nil] at h1
  have h2 := goT_acc (60 :: t).length (60 :: t) (0 + a.length) (goT a.length a 0 []).1 []
  rw [List.append_nil] at h2
  rw [h2, h1]
  by_cases he : (goT (60 :: t).length (60 :: t) 0 []).2.2 = 0
  · rw [if_pos he, if_pos he, if_pos rfl]
  · rw [if_neg he, if_neg he]
    simp only
    rw [if_neg he, Nat.add_comm]
theorem cutT_ok {l : List UInt8} : (cutT l).2.2 = 0 → (cutT l).2.1 = 0 := by
  have key : ∀ (f : Nat) (l : List UInt8) (at_ : Nat) (acc : List T), (goT f l at_ acc).2.2 = 0 → (goT f l at_ acc).2.1 = 0 := by
    intro f
    induction f with
    | zero => intro l at_ acc _; rfl
    | succ f ih =>
      intro l at_ acc h
      unfold goT at h ⊢
      split
      · rfl
      · split
        · rename_i h1 h2; rw [if_neg h1, if_pos h2] at h; exact absurd h h2
        · rename_i h1 h2; rw [if_neg h1, if_neg h2] at h; exact ih _ _ _ h
  exact key _ _ _ _
theorem toks_of {l : List UInt8} (h : l.length ≤ 65536) (hv : (U8.lead l).2 = l.length) : toks l = cutT l := by
  unfold toks; rw [if_neg (by omega), if_neg (by rw [hv]; simp)]
theorem toks_join {a t : List UInt8} (ha : (U8.lead a).2 = a.length) (hb : (U8.lead (60 :: t)).2 = (60 :: t).length) (hl : a.length + (60 :: t).length ≤ 65536) (h : (toks a).2.2 = 0) :
    toks (a ++ 60 :: t) = if (toks (60 :: t)).2.2 = 0 then ((toks a).1 ++ (toks (60 :: t)).1.map (mv a.length), 0, 0) else ([], a.length + (toks (60 :: t)).2.1, (toks (60 :: t)).2.2) := by
  have hv : (U8.lead (a ++ 60 :: t)).2 = (a ++ 60 :: t).length := by
    rw [U8.lead_append _ _ _ (Nat.le_refl _) ha, List.length_append, ← hb]
  rw [toks_of (by rw [List.length_append]; omega) hv, toks_of (by omega) hb, toks_of (by omega) ha]
  rw [toks_of (by omega) ha] at h
  rw [cutT_join h]
  split
  · rename_i h2; rw [cutT_ok h2]
  · rfl
end Go.Proofs.YthncfhakbobkkaaGreatDoor.Tk
