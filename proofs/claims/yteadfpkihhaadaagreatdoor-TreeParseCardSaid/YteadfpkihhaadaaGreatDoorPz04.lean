/- Facts and walks for the statement. -/
import Derived.Test.YteadfpkihhaadaaGreatDoorPz01
import Derived.Lib.SlTrimSet
namespace Go.Proofs.YteadfpkihhaadaaGreatDoor.Tk
open Go
def isB (c : UInt8) : Bool := c == 32 || c == 9 || c == 10 || c == 13
def bl : List UInt8 → Nat
  | [] => 0
  | c :: l => if isB c then bl l + 1 else 0
theorem bl_le : ∀ l, bl l ≤ l.length
  | [] => Nat.le_refl _
  | c :: l => by have := bl_le l; unfold bl; split <;> simp only [List.length_cons] <;> omega
theorem bl_stop {l : List UInt8} {k : Nat} (hk : k < l.length) (h : isB l[k] = false) : bl (l.drop k) = 0 := by
  rw [List.drop_eq_getElem_cons hk]; unfold bl; rw [h]; rfl
theorem bl_go {l : List UInt8} {k : Nat} (hk : k < l.length) (h : isB l[k] = true) : bl (l.drop k) = bl (l.drop (k + 1)) + 1 := by
  rw [List.drop_eq_getElem_cons hk]
  conv => lhs; unfold bl
  rw [h]; rfl
def blanks : List UInt8 := [32, 9, 10, 13]
theorem isB_mem (c : UInt8) : blanks.contains c = isB c := by
  unfold blanks isB; simp only [List.contains_cons, List.contains_nil, Bool.or_false, Bool.or_assoc]
theorem trimLeft_bl : ∀ l : List UInt8, Lib.trimLeftS l blanks = l.drop (bl l)
  | [] => rfl
  | c :: l => by
    have ih := trimLeft_bl l
    unfold Lib.trimLeftS at ih ⊢
    rw [List.dropWhile_cons, isB_mem]
    unfold bl
    cases isB c with
    | true => simpa using ih
    | false => rfl
def allB (l : List UInt8) : Bool := l.all isB
theorem dropWhile_nil_iff {p : UInt8 → Bool} : ∀ l : List UInt8, l.dropWhile p = [] ↔ l.all p = true
  | [] => by simp
  | c :: l => by
    have := dropWhile_nil_iff (p := p) l
    rw [List.dropWhile_cons, List.all_cons]
    cases p c <;> simp [this]
theorem trim_isEmpty (l : List UInt8) : (Lib.trimS l blanks).isEmpty = allB l := by
  have hp : ∀ c : UInt8, blanks.contains c = isB c := isB_mem
  have hfun : (fun c => blanks.contains c) = isB := funext hp
  unfold Lib.trimS Lib.trimRightS Lib.trimLeftS allB
  rw [hfun]
  rw [Bool.eq_iff_iff, List.isEmpty_iff, dropWhile_nil_iff]
  rw [List.all_reverse]
  constructor
  · intro h
    have hd : (l.reverse.dropWhile isB).all isB = true := h
    cases e : l.reverse.dropWhile isB with
    | nil => rw [dropWhile_nil_iff, List.all_reverse] at e; exact e
    | cons c r =>
      exfalso
      have hn := List.head?_dropWhile_not isB l.reverse
      rw [e] at hn hd
      rw [List.all_cons, Bool.and_eq_true] at hd
      simp only [List.head?_cons] at hn
      rw [hd.1] at hn; cases hn
  · intro h
    have : l.reverse.dropWhile isB = [] := by rw [dropWhile_nil_iff, List.all_reverse]; exact h
    rw [this]; rfl
/-! ### attributes -/
structure A where
  nm : List UInt8
  vl : List UInt8
  p : Nat
def qv (l : List UInt8) : List UInt8 × Nat :=
  match l with
  | [] => ([], 0)
  | q :: r => if q = 34 ∨ q = 39 then (if Lib.indexByte r q = -1 then ([], 0) else if 0 ≤ Lib.indexByte (r.take (Lib.indexByte r q).toNat) 60 then ([], 0) else (r.take (Lib.indexByte r q).toNat, (Lib.indexByte r q).toNat + 2)) else ([], 0)
theorem qv_le (l : List UInt8) : (qv l).2 ≤ l.length := by
  cases l with
  | nil => exact Nat.le_refl _
  | cons q r =>
    unfold qv
    simp only
    split
    · split
      · simp
      · split
        · simp
        · rename_i h1 _
          have := Lib.indexByte_ge r q
          obtain ⟨j, hj⟩ : ∃ j : Nat, Lib.indexByte r q = j := ⟨(Lib.indexByte r q).toNat, by omega⟩
          have := En.idx_lt hj
          rw [hj]; simp only [List.length_cons, Int.toNat_natCast]; omega
    · simp
theorem qv_none {l : List UInt8} (h : ∀ q, l.head? = some q → q ≠ 34 ∧ q ≠ 39) : qv l = ([], 0) := by
  cases l with
  | nil => rfl
  | cons q r => unfold qv; simp only; rw [if_neg]; have := h q rfl; simp [this.1, this.2]
theorem qv_miss {q : UInt8} {r : List UInt8} (h : Lib.indexByte r q = -1) : qv (q :: r) = ([], 0) := by
  unfold qv; simp only; rw [if_pos h]; split <;> rfl
theorem qv_lt {q : UInt8} {r : List UInt8} {j : Nat} (h : Lib.indexByte r q = j) (hl : 0 ≤ Lib.indexByte (r.take j) 60) : qv (q :: r) = ([], 0) := by
  unfold qv; simp only; rw [h, Int.toNat_natCast, if_pos hl, ite_self]
  split <;> rfl
theorem qv_hit {q : UInt8} {r : List UInt8} {j : Nat} (hq : q = 34 ∨ q = 39) (h : Lib.indexByte r q = j) (hl : Lib.indexByte (r.take j) 60 = -1) : qv (q :: r) = (r.take j, j + 2) := by
  unfold qv; simp only; rw [if_pos hq, h, Int.toNat_natCast, hl, if_neg (by omega), if_neg (by omega)]
def at1 (l : List UInt8) : A × Nat :=
  if Nm.bg l = 0 ∨ (l.drop (Nm.bg l + bl (l.drop (Nm.bg l)))).head? ≠ some 61 then (⟨[], [], 0⟩, 0)
  else
    let i := Nm.bg l + bl (l.drop (Nm.bg l)) + 1
    let j := i + bl (l.drop i)
    if (qv (l.drop j)).2 = 0 then (⟨[], [], 0⟩, 0) else (⟨l.take (Nm.bg l), (qv (l.drop j)).1, j + 1⟩, j + (qv (l.drop j)).2)
theorem at1_none {l : List UInt8} (h : Nm.bg l = 0) : at1 l = (⟨[], [], 0⟩, 0) := by unfold at1; rw [if_pos (Or.inl h)]
theorem at1_sign {l : List UInt8} {n : Nat} (h : Nm.bg l = n) (h1 : (l.drop (n + bl (l.drop n))).head? ≠ some 61) : at1 l = (⟨[], [], 0⟩, 0) := by
  subst h; unfold at1; rw [if_pos (Or.inr h1)]
theorem at1_val {l : List UInt8} {n i j : Nat} (h : Nm.bg l = n) (h0 : n ≠ 0) (hi : i = n + bl (l.drop n)) (h1 : (l.drop i).head? = some 61) (hj : j = i + 1 + bl (l.drop (i + 1))) :
    at1 l = if (qv (l.drop j)).2 = 0 then (⟨[], [], 0⟩, 0) else (⟨l.take n, (qv (l.drop j)).1, j + 1⟩, j + (qv (l.drop j)).2) := by
  subst h; subst hi; subst hj
  unfold at1; rw [if_neg (by rintro (h | h); exact h0 h; exact h h1)]
theorem at1_le (l : List UInt8) : (at1 l).2 ≤ l.length := by
  unfold at1
  split
  · exact Nat.zero_le _
  · simp only
    split
    · exact Nat.zero_le _
    · rename_i h1 h2
      have := qv_le (l.drop (Nm.bg l + bl (l.drop (Nm.bg l)) + 1 + bl (l.drop (Nm.bg l + bl (l.drop (Nm.bg l)) + 1))))
      rw [List.length_drop] at this
      simp only; omega
def fin (r : List UInt8) (i : Nat) (acc : List A) : List A × Nat × Int :=
  if r.head? = some 62 then (acc, i + 1, 1) else if r.take 2 = [47, 62] then (acc, i + 2, 3) else ([], 0, 0)
def sh (a : A) (i : Nat) : A := ⟨a.nm, a.vl, a.p + i⟩
def ats : Nat → List UInt8 → Nat → List A → List A × Nat × Int
  | 0, _, _, _ => ([], 0, 0)
  | f + 1, l, i, acc =>
    let r := l.drop (bl l)
    if r.head? = some 62 then (acc, i + bl l + 1, 1)
    else if r.take 2 = [47, 62] then (acc, i + bl l + 2, 3)
    else if bl l = 0 ∨ (at1 r).2 = 0 then ([], 0, 0)
    else ats f (r.drop (at1 r).2) (i + bl l + (at1 r).2) (acc ++ [sh (at1 r).1 (i + bl l)])
theorem ats_more : ∀ (f g : Nat) (l : List UInt8) (i : Nat) (acc : List A), l.length < f → l.length < g → ats f l i acc = ats g l i acc
  | 0, _, l, _, _, h, _ => by omega
  | _ + 1, 0, l, _, _, _, h => by omega
  | f + 1, g + 1, l, i, acc, hf, hg => by
    unfold ats
    simp only
    split
    · rfl
    · split
      · rfl
      · split
        · rfl
        · rename_i h
          have h2 : (at1 (l.drop (bl l))).2 ≠ 0 := fun e => h (Or.inr e)
          have h3 := at1_le (l.drop (bl l))
          have h4 := bl_le l
          rw [List.length_drop] at h3
          apply ats_more
          · simp only [List.length_drop]; omega
          · simp only [List.length_drop]; omega
theorem ats_fin {f : Nat} {l : List UInt8} {i : Nat} {acc : List A} (hf : l.length < f) (h : bl l = 0 ∨ Nm.bg (l.drop (bl l)) = 0) : ats f l i acc = fin (l.drop (bl l)) (i + bl l) acc := by
  obtain ⟨g, rfl⟩ : ∃ g, f = g + 1 := ⟨f - 1, by omega⟩
  unfold ats fin
  simp only
  split
  · rfl
  · split
    · rfl
    · rw [if_pos]
      rcases h with h | h
      · exact Or.inl h
      · exact Or.inr (by rw [at1_none h])
theorem bg_head {l : List UInt8} (h : Nm.bg l ≠ 0) : ∃ c r, l = c :: r ∧ Nm.letZ (Nm.z c) = true := by
  have h1 : Nm.bgH l ≠ 0 := by
    intro e; apply h; unfold Nm.bg; rw [if_pos (Or.inl e)]; exact e
  unfold Nm.bgH at h1
  cases l with
  | nil => exact absurd rfl h1
  | cons c r =>
    refine ⟨c, r, rfl, ?_⟩
    rw [List.take_succ_cons] at h1
    unfold Nm.lg at h1
    cases hl : Nm.letZ (Nm.z c) with
    | true => rfl
    | false => rw [if_pos ((Nm.partZ_two _).2 hl)] at h1; exact absurd rfl h1
theorem let_ne {c : UInt8} (h : Nm.letZ (Nm.z c) = true) : c ≠ 62 ∧ c ≠ 47 ∧ c ≠ 33 ∧ c ≠ 63 ∧ c ≠ 60 ∧ isB c = false := by
  refine ⟨?_, ?_, ?_, ?_, ?_, ?_⟩
  all_goals first
    | (rintro rfl; revert h; decide)
    | (cases hb : isB c with
       | false => rfl
       | true =>
         unfold isB at hb
         simp only [Bool.or_eq_true, beq_iff_eq] at hb
         rcases hb with ((rfl | rfl) | rfl) | rfl <;> (revert h; decide))
theorem ats_bad {f : Nat} {l : List UInt8} {i : Nat} {acc : List A} (hb : Nm.bg (l.drop (bl l)) ≠ 0) (h : (at1 (l.drop (bl l))).2 = 0) : ats f l i acc = ([], 0, 0) := by
  cases f with
  | zero => rfl
  | succ f =>
    obtain ⟨c, r, e, hc⟩ := bg_head hb
    have hn := let_ne hc
    unfold ats
    simp only
    rw [if_neg (by rw [e]; simpa using hn.1), if_neg (by rw [e]; intro h2; rw [List.take_succ_cons] at h2; exact hn.2.1 (List.cons.inj h2).1), if_pos (Or.inr h)]
theorem ats_good {f : Nat} {l : List UInt8} {i : Nat} {acc : List A} (hf : l.length < f) (h0 : bl l ≠ 0) (h : (at1 (l.drop (bl l))).2 ≠ 0) :
    ats f l i acc = ats f ((l.drop (bl l)).drop (at1 (l.drop (bl l))).2) (i + bl l + (at1 (l.drop (bl l))).2) (acc ++ [sh (at1 (l.drop (bl l))).1 (i + bl l)]) := by
  have hb : Nm.bg (l.drop (bl l)) ≠ 0 := fun e => h (by rw [at1_none e])
  obtain ⟨c, r, e, hc⟩ := bg_head hb
  have hn := let_ne hc
  obtain ⟨g, rfl⟩ : ∃ g, f = g + 1 := ⟨f - 1, by omega⟩
  conv => lhs; unfold ats
  simp only
  rw [if_neg (by rw [e]; simpa using hn.1), if_neg (by rw [e]; intro h2; rw [List.take_succ_cons] at h2; exact hn.2.1 (List.cons.inj h2).1), if_neg (by rintro (h1 | h1); exact h0 h1; exact h h1)]
  have h3 := at1_le (l.drop (bl l))
  have h4 := bl_le l
  rw [List.length_drop] at h3
  apply ats_more
  · simp only [List.length_drop]; omega
  · simp only [List.length_drop]; omega
/-! ### tags, remarks, texts -/
structure T where
  k : Int
  nm : List UInt8
  as : List (List UInt8 × List UInt8)
  tx : List UInt8
  p : Nat
structure S where
  t : Option T
  n : Nat
  e : Int
def rdA : List A → List (List UInt8 × List UInt8) → List (List UInt8 × List UInt8) × Nat × Int
  | [], acc => (acc, 0, 0)
  | a :: r, acc => if (En.rep En.dF a.vl).2.2 ≠ 0 then ([], a.p + (En.rep En.dF a.vl).2.1, (En.rep En.dF a.vl).2.2) else rdA r (acc ++ [(a.nm, (En.rep En.dF a.vl).1)])
def bad (n : Nat) (e : Int) : S := ⟨none, n, e⟩
def tagO (l : List UInt8) : List A × Nat × Int :=
  if Nm.bg (l.drop 1) = 0 then ([], 0, 0) else ats (l.length + 1) (l.drop (1 + Nm.bg (l.drop 1))) (1 + Nm.bg (l.drop 1)) []
def opn (l : List UInt8) : S :=
  if (tagO l).2.2 = 0 then bad 0 40
  else if (rdA (tagO l).1 []).2.2 ≠ 0 then bad (rdA (tagO l).1 []).2.1 (rdA (tagO l).1 []).2.2
  else if 32 < (tagO l).1.length then bad 0 3
  else ⟨some ⟨(tagO l).2.2, (l.drop 1).take (Nm.bg (l.drop 1)), (rdA (tagO l).1 []).1, [], 0⟩, (tagO l).2.1, 0⟩
def cls (l : List UInt8) : S :=
  if Nm.bg (l.drop 2) = 0 ∨ (l.drop (2 + Nm.bg (l.drop 2) + bl (l.drop (2 + Nm.bg (l.drop 2))))).head? ≠ some 62 then bad 0 40
  else ⟨some ⟨2, (l.drop 2).take (Nm.bg (l.drop 2)), [], [], 0⟩, 2 + Nm.bg (l.drop 2) + bl (l.drop (2 + Nm.bg (l.drop 2))) + 1, 0⟩
def rem (l : List UInt8) : Nat :=
  if Lib.hasPrefix l [60, 33, 45, 45] then (if 0 ≤ Lib.index (l.drop 4) [45, 45, 62] then (Lib.index (l.drop 4) [45, 45, 62]).toNat + 7 else 0)
  else if Lib.hasPrefix l [60, 63] then (if 0 ≤ Lib.index (l.drop 2) [63, 62] then (Lib.index (l.drop 2) [63, 62]).toNat + 4 else 0)
  else 0
def upto (l : List UInt8) : Nat := if Lib.indexByte l 60 = -1 then l.length else (Lib.indexByte l 60).toNat
def txt (l : List UInt8) : S :=
  if (En.rep En.dF (l.take (upto l))).2.2 ≠ 0 then bad (En.rep En.dF (l.take (upto l))).2.1 (En.rep En.dF (l.take (upto l))).2.2
  else ⟨some ⟨4, [], [], (En.rep En.dF (l.take (upto l))).1, 0⟩, upto l, 0⟩
def step (l : List UInt8) : S :=
  if l.head? ≠ some 60 then txt l else if 0 < rem l then ⟨none, rem l, 0⟩ else if Lib.hasPrefix l [60, 47] then cls l else opn l
def put1 (t : Option T) (at_ : Nat) (acc : List T) : List T := match t with
  | none => acc
  | some t => acc ++ [⟨t.k, t.nm, t.as, t.tx, at_⟩]
def goT : Nat → List UInt8 → Nat → List T → List T × Nat × Int
  | 0, _, _, acc => (acc, 0, 0)
  | f + 1, l, at_, acc => if l = [] then (acc, 0, 0) else if (step l).e ≠ 0 then ([], at_ + (step l).n, (step l).e) else goT f (l.drop (step l).n) (at_ + (step l).n) (put1 (step l).t at_ acc)
def cutT (l : List UInt8) : List T × Nat × Int := goT l.length l 0 []
def toks (l : List UInt8) : List T × Nat × Int :=
  if 65536 < l.length then ([], 0, 3) else if (U8.lead l).2 ≠ l.length then ([], (U8.lead l).2, 10) else cutT l
theorem hp_len {l p : List UInt8} (h : Lib.hasPrefix l p = true) : p.length ≤ l.length := by
  unfold Lib.hasPrefix at h; exact (List.isPrefixOf_iff_prefix.1 h).length_le
theorem rem_le (l : List UInt8) : rem l ≤ l.length := by
  unfold rem
  split
  · rename_i h
    have := hp_len h
    simp at this
    split
    · rename_i h2
      have h3 := Lib.index_room _ _ h2
      simp only [List.length_drop, List.length_cons, List.length_nil] at h3
      omega
    · exact Nat.zero_le _
  · split
    · rename_i h
      have := hp_len h
      simp at this
      split
      · rename_i h2
        have h3 := Lib.index_room _ _ h2
        simp only [List.length_drop, List.length_cons, List.length_nil] at h3
        omega
      · exact Nat.zero_le _
    · exact Nat.zero_le _
theorem ats_le : ∀ (f : Nat) (l : List UInt8) (i : Nat) (acc : List A) (L : Nat), i + l.length ≤ L → (ats f l i acc).2.1 ≤ L ∧ ((ats f l i acc).2.2 ≠ 0 → i + 1 ≤ (ats f l i acc).2.1)
  | 0, l, i, acc, L, h => ⟨Nat.zero_le _, fun h => absurd rfl h⟩
  | f + 1, l, i, acc, L, h => by
    have h4 := bl_le l
    have h3 := at1_le (l.drop (bl l))
    rw [List.length_drop] at h3
    unfold ats
    simp only
    split
    · rename_i h1
      have : 0 < (l.drop (bl l)).length := by
        cases e : l.drop (bl l) with
        | nil => rw [e] at h1; cases h1
        | cons _ _ => simp
      rw [List.length_drop] at this
      exact ⟨by simp only; omega, fun _ => by simp only; omega⟩
    · split
      · rename_i h2
        have := congrArg List.length h2
        rw [List.length_take, List.length_drop] at this
        simp at this
        exact ⟨by simp only; omega, fun _ => by simp only; omega⟩
      · split
        · exact ⟨Nat.zero_le _, fun h => absurd rfl h⟩
        · have := ats_le f ((l.drop (bl l)).drop (at1 (l.drop (bl l))).2) (i + bl l + (at1 (l.drop (bl l))).2) (acc ++ [sh (at1 (l.drop (bl l))).1 (i + bl l)]) L (by simp only [List.length_drop]; omega)
          exact ⟨this.1, fun h => by have := this.2 h; omega⟩
theorem tagO_le (l : List UInt8) : (tagO l).2.1 ≤ l.length ∧ ((tagO l).2.2 ≠ 0 → 2 ≤ (tagO l).2.1) := by
  unfold tagO
  have h := Nm.bg_le (l.drop 1)
  rw [List.length_drop] at h
  split
  · exact ⟨Nat.zero_le _, fun h => absurd rfl h⟩
  · have := ats_le (l.length + 1) (l.drop (1 + Nm.bg (l.drop 1))) (1 + Nm.bg (l.drop 1)) [] l.length (by rw [List.length_drop]; omega)
    exact ⟨this.1, fun h => by have := this.2 h; omega⟩
theorem upto_le (l : List UInt8) : upto l ≤ l.length := by
  unfold upto
  split
  · exact Nat.le_refl _
  · have := Lib.indexByte_ge l 60
    obtain ⟨j, hj⟩ : ∃ j : Nat, Lib.indexByte l 60 = j := ⟨(Lib.indexByte l 60).toNat, by omega⟩
    have := En.idx_lt hj
    rw [hj]; simp; omega
theorem upto_pos {l : List UInt8} (hne : l ≠ []) (h : l.head? ≠ some 60) : 1 ≤ upto l := by
  cases l with
  | nil => exact absurd rfl hne
  | cons c r =>
    have hc : c ≠ 60 := by simpa using h
    unfold upto
    rw [En.idx_cons hc]
    have := Lib.indexByte_ge r 60
    have hp : 1 ≤ (c :: r).length := by simp
    repeat' split
    all_goals omega
theorem step_le {l : List UInt8} (hne : l ≠ []) (h : (step l).e = 0) : 1 ≤ (step l).n ∧ (step l).n ≤ l.length := by
  unfold step at h ⊢
  split
  · rename_i h1
    rw [if_pos h1] at h
    unfold txt at h ⊢
    split
    · rename_i h2; rw [if_pos h2] at h; exact absurd h h2
    · exact ⟨upto_pos hne h1, upto_le l⟩
  · rename_i h1
    rw [if_neg h1] at h
    split
    · rename_i h2; exact ⟨h2, rem_le l⟩
    · rename_i h2
      rw [if_neg h2] at h
      split
      · rename_i h3
        rw [if_pos h3] at h
        unfold cls at h ⊢
        split
        · rename_i h4; rw [if_pos h4] at h; cases h
        · rename_i h4
          refine ⟨by simp only; omega, ?_⟩
          simp only
          have : (l.drop (2 + Nm.bg (l.drop 2) + bl (l.drop (2 + Nm.bg (l.drop 2))))).head? = some 62 := Classical.byContradiction fun hc => h4 (Or.inr hc)
          have : 0 < (l.drop (2 + Nm.bg (l.drop 2) + bl (l.drop (2 + Nm.bg (l.drop 2))))).length := by
            cases e : l.drop (2 + Nm.bg (l.drop 2) + bl (l.drop (2 + Nm.bg (l.drop 2)))) with
            | nil => rw [e] at this; cases this
            | cons _ _ => simp
          rw [List.length_drop] at this
          omega
      · rename_i h3
        rw [if_neg h3] at h
        unfold opn at h ⊢
        split
        · rename_i h4; rw [if_pos h4] at h; cases h
        · rename_i h4
          rw [if_neg h4] at h
          split
          · rename_i h5; rw [if_pos h5] at h; exact absurd h h5
          · rename_i h5
            rw [if_neg h5] at h
            split
            · rename_i h6; rw [if_pos h6] at h; cases h
            · have := tagO_le l
              exact ⟨by have := this.2 h4; simp only; omega, this.1⟩
theorem goT_more : ∀ (f g : Nat) (l : List UInt8) (at_ : Nat) (acc : List T), l.length ≤ f → l.length ≤ g → goT f l at_ acc = goT g l at_ acc
  | 0, 0, _, _, _, _, _ => rfl
  | 0, g + 1, l, at_, acc, hf, _ => by
    have : l = [] := List.eq_nil_of_length_eq_zero (by omega)
    subst this; rfl
  | f + 1, 0, l, at_, acc, _, hg => by
    have : l = [] := List.eq_nil_of_length_eq_zero (by omega)
    subst this; rfl
  | f + 1, g + 1, l, at_, acc, hf, hg => by
    unfold goT
    split
    · rfl
    · split
      · rfl
      · rename_i hne he
        have := step_le hne (Classical.byContradiction he)
        apply goT_more
        · rw [List.length_drop]; omega
        · rw [List.length_drop]; omega
theorem goT_nil (f : Nat) (at_ : Nat) (acc : List T) : goT f [] at_ acc = (acc, 0, 0) := by cases f <;> rfl
theorem goT_bad {f : Nat} {l : List UInt8} {at_ : Nat} {acc : List T} (hf : l.length ≤ f) (hne : l ≠ []) (h : (step l).e ≠ 0) : goT f l at_ acc = ([], at_ + (step l).n, (step l).e) := by
  obtain ⟨g, rfl⟩ : ∃ g, f = g + 1 := ⟨f - 1, by cases l with | nil => exact absurd rfl hne | cons _ _ => simp at hf; omega⟩
  unfold goT; rw [if_neg hne, if_pos h]
theorem goT_good {f : Nat} {l : List UInt8} {at_ : Nat} {acc : List T} (hf : l.length ≤ f) (hne : l ≠ []) (h : (step l).e = 0) :
    goT f l at_ acc = goT f (l.drop (step l).n) (at_ + (step l).n) (put1 (step l).t at_ acc) := by
  obtain ⟨g, rfl⟩ : ∃ g, f = g + 1 := ⟨f - 1, by cases l with | nil => exact absurd rfl hne | cons _ _ => simp at hf; omega⟩
  have := step_le hne h
  conv => lhs; unfold goT
  rw [if_neg hne, if_neg (by rw [h]; decide)]
  apply goT_more
  · rw [List.length_drop]; omega
  · rw [List.length_drop]; omega
end Go.Proofs.YteadfpkihhaadaaGreatDoor.Tk
namespace Go.Proofs.YteadfpkihhaadaaGreatDoor.Tk
open Go
theorem idx_nonneg_of_mem {l : List UInt8} {c : UInt8} {k : Nat} (h : l[k]? = some c) : 0 ≤ Lib.indexByte l c := by
  have := Lib.indexByte_ge l c
  rcases Int.lt_or_le (Lib.indexByte l c) 0 with h1 | h1
  · exact absurd h (Lib.indexByte_none (by omega) k)
  · exact h1
theorem hp_iff {l p : List UInt8} : Lib.hasPrefix l p = true ↔ l.take p.length = p := by
  unfold Lib.hasPrefix
  rw [List.isPrefixOf_iff_prefix, List.prefix_iff_eq_take]
  exact eq_comm
theorem hp2_second {l : List UInt8} {a b : UInt8} (h : Lib.hasPrefix l [a, b] = true) : l[1]? = some b := by
  rw [hp_iff] at h
  have := congrArg (·[1]?) h
  simpa using this
theorem hp4_second {l : List UInt8} (h : Lib.hasPrefix l [60, 33, 45, 45] = true) : l[1]? = some 33 := by
  rw [hp_iff] at h
  have := congrArg (·[1]?) h
  simpa using this
theorem rem_second {l : List UInt8} (h : rem l ≠ 0) : l[1]? = some 33 ∨ l[1]? = some 63 := by
  unfold rem at h
  split at h
  · rename_i h1; exact Or.inl (hp4_second h1)
  · split at h
    · rename_i h1; exact Or.inr (hp2_second h1)
    · exact absurd rfl h
theorem bg_second {l : List UInt8} (h : Nm.bg (l.drop 1) ≠ 0) : ∃ c, l[1]? = some c ∧ Nm.letZ (Nm.z c) = true := by
  obtain ⟨c, r, e, hc⟩ := bg_head h
  refine ⟨c, ?_, hc⟩
  have := congrArg (·[0]?) e
  rw [List.getElem?_drop] at this
  simpa using this
theorem opn_ok {l : List UInt8} (h : (opn l).e = 0) : Nm.bg (l.drop 1) ≠ 0 ∧ (tagO l).2.2 ≠ 0 ∧ (rdA (tagO l).1 []).2.2 = 0 ∧ (tagO l).1.length ≤ 32 ∧
    opn l = ⟨some ⟨(tagO l).2.2, (l.drop 1).take (Nm.bg (l.drop 1)), (rdA (tagO l).1 []).1, [], 0⟩, (tagO l).2.1, 0⟩ := by
  unfold opn at h ⊢
  split at h
  · cases h
  · rename_i h1
    split at h
    · rename_i h2; exact absurd h h2
    · rename_i h2
      split at h
      · cases h
      · rename_i h3
        refine ⟨fun e => h1 (by unfold tagO; rw [if_pos e]), h1, Classical.byContradiction h2, by omega, ?_⟩
        rw [if_neg h1, if_neg h2, if_neg h3]
/-! ### one text behind another -/
theorem cutT_ok {l : List UInt8} : (cutT l).2.2 = 0 → (cutT l).2.1 = 0 := by
  have key : ∀ (f : Nat) (l : List UInt8) (at_ : Nat) (acc : List T), (goT f l at_ acc).2.2 = 0 → (goT f l at_ acc).2.1 = 0 := by
    intro f
    induction f with
    | zero => intro l at_ acc _; rfl
    | succ f ih =>
      intro l at_ acc h
      unfold goT at h ⊢
      split
      · rfl
      · split
        · rename_i h1 h2; rw [if_neg h1, if_pos h2] at h; exact absurd h h2
        · rename_i h1 h2; rw [if_neg h1, if_neg h2] at h; exact ih _ _ _ h
  exact key _ _ _ _
theorem toks_of {l : List UInt8} (h : l.length ≤ 65536) (hv : (U8.lead l).2 = l.length) : toks l = cutT l := by
  unfold toks; rw [if_neg (by omega), if_neg (by rw [hv]; simp)]
end Go.Proofs.YteadfpkihhaadaaGreatDoor.Tk
namespace Go.Proofs.YteadfpkihhaadaaGreatDoor.Tk
open Go
theorem goes_place {F : En.Piece} (hF : En.Moves F) : ∀ (f : Nat) (l out : List UInt8) (at_ : Nat), (En.goes F f l out at_).2.1 ≤ at_ + l.length
  | 0, l, out, at_ => by cases l <;> simp [En.goes]
  | f + 1, l, out, at_ => by
    by_cases hne : l = []
    · subst hne; rw [En.goes_nil]; simp
    · by_cases hz : (F l).2.2 = 0
      · by_cases hf : l.length ≤ f + 1
        · rw [En.goes_good hF hf hne hz, En.goes_more hF (f + 1) f _ _ _ (by have := hF l hne hz; rw [List.length_drop]; omega) (by have := hF l hne hz; rw [List.length_drop]; omega)]
          have := goes_place hF f (l.drop (F l).2.1) (out ++ (F l).1) (at_ + (F l).2.1)
          have h2 := hF l hne hz
          rw [List.length_drop] at this; omega
        · unfold En.goes
          simp only [hne, hz, if_false, ne_eq, not_true_eq_false]
          have h2 := hF l hne hz
          have := goes_place hF f (l.drop (F l).2.1) (out ++ (F l).1) (at_ + (F l).2.1)
          rw [List.length_drop] at this
          omega
      · unfold En.goes
        simp only [hne, hz, if_false, if_true, ne_eq, not_false_eq_true]
        omega
theorem rep_place {F : En.Piece} (hF : En.Moves F) (l : List UInt8) : (En.rep F l).2.1 ≤ l.length := by
  have := goes_place hF l.length l [] 0
  unfold En.rep; omega
theorem qv_len (l : List UInt8) (h : (qv l).2 ≠ 0) : (qv l).1.length + 2 ≤ (qv l).2 := by
  cases l with
  | nil => exact absurd rfl h
  | cons q r =>
    unfold qv at h ⊢
    simp only at h ⊢
    split
    · rename_i h1
      rw [if_pos h1] at h
      split
      · rename_i h2; rw [if_pos h2] at h; exact absurd rfl h
      · rename_i h2
        rw [if_neg h2] at h
        split
        · rename_i h3; rw [if_pos h3] at h; exact absurd rfl h
        · simp only [List.length_take]; omega
    · rename_i h1; rw [if_neg h1] at h; exact absurd rfl h
theorem at1_place (l : List UInt8) (h : (at1 l).2 ≠ 0) : (at1 l).1.p + (at1 l).1.vl.length ≤ (at1 l).2 := by
  unfold at1 at h ⊢
  split
  · rename_i h1; rw [if_pos h1] at h; exact absurd rfl h
  · rename_i h1
    rw [if_neg h1] at h
    simp only at h ⊢
    split
    · rename_i h2; rw [if_pos h2] at h; exact absurd rfl h
    · rename_i h2
      have := qv_len _ h2
      simp only; omega
theorem ats_place : ∀ (f : Nat) (l : List UInt8) (i : Nat) (acc : List A) (L : Nat), i + l.length ≤ L → (∀ a ∈ acc, a.p + a.vl.length ≤ L) → ∀ a ∈ (ats f l i acc).1, a.p + a.vl.length ≤ L
  | 0, _, _, _, _, _, _ => fun a h => by cases h
  | f + 1, l, i, acc, L, hl, hacc => by
    have h4 := bl_le l
    have h3 := at1_le (l.drop (bl l))
    rw [List.length_drop] at h3
    unfold ats
    simp only
    split
    · exact hacc
    · split
      · exact hacc
      · split
        · intro a h; cases h
        · rename_i h
          have hz : (at1 (l.drop (bl l))).2 ≠ 0 := fun e => h (Or.inr e)
          have hp := at1_place _ hz
          refine ats_place f _ _ _ L (by simp only [List.length_drop]; omega) fun a ha => ?_
          rw [List.mem_append] at ha
          rcases ha with ha | ha
          · exact hacc a ha
          · simp only [List.mem_singleton] at ha
            subst ha
            unfold sh; simp only; omega
theorem rdA_place : ∀ (as : List A) (acc : List (List UInt8 × List UInt8)) (L : Nat), (∀ a ∈ as, a.p + a.vl.length ≤ L) → (rdA as acc).2.1 ≤ L
  | [], _, _, _ => Nat.zero_le _
  | a :: r, acc, L, h => by
    unfold rdA
    split
    · have h1 := h a (List.mem_cons_self ..)
      have h2 := rep_place En.moves_dF a.vl
      simp only; omega
    · exact rdA_place r _ L fun b hb => h b (List.mem_cons_of_mem _ hb)
theorem rdA_len : ∀ (as : List A) (acc : List (List UInt8 × List UInt8)), (rdA as acc).2.2 = 0 → (rdA as acc).1.length = acc.length + as.length
  | [], _, _ => rfl
  | a :: r, acc, h => by
    unfold rdA at h ⊢
    split
    · rename_i h1; rw [if_pos h1] at h; exact absurd h h1
    · rename_i h1
      rw [if_neg h1] at h
      rw [rdA_len r _ h]
      simp only [List.length_append, List.length_cons, List.length_nil]; omega
theorem ats_kind : ∀ (f : Nat) (l : List UInt8) (i : Nat) (acc : List A), (ats f l i acc).2.2 = 0 ∨ (ats f l i acc).2.2 = 1 ∨ (ats f l i acc).2.2 = 3
  | 0, _, _, _ => Or.inl rfl
  | f + 1, l, i, acc => by
    unfold ats
    simp only
    split
    · exact Or.inr (Or.inl rfl)
    · split
      · exact Or.inr (Or.inr rfl)
      · split
        · exact Or.inl rfl
        · exact ats_kind f _ _ _
theorem tagO_kind (l : List UInt8) : (tagO l).2.2 = 0 ∨ (tagO l).2.2 = 1 ∨ (tagO l).2.2 = 3 := by
  unfold tagO
  split
  · exact Or.inl rfl
  · exact ats_kind _ _ _ _
theorem tagO_place (l : List UInt8) : ∀ a ∈ (tagO l).1, a.p + a.vl.length ≤ l.length := by
  unfold tagO
  have h := Nm.bg_le (l.drop 1)
  rw [List.length_drop] at h
  split
  · intro a h; cases h
  · exact ats_place _ _ _ _ _ (by rw [List.length_drop]; omega) (fun a h => by cases h)
theorem step_place {l : List UInt8} (h : (step l).e ≠ 0) : (step l).n ≤ l.length := by
  unfold step at h ⊢
  split
  · rename_i h1
    rw [if_pos h1] at h
    unfold txt at h ⊢
    split
    · have := rep_place En.moves_dF (l.take (upto l))
      rw [List.length_take] at this
      simp only [bad]; omega
    · rename_i h2; rw [if_neg h2] at h; exact absurd rfl h
  · rename_i h1
    rw [if_neg h1] at h
    split
    · rename_i h2; rw [if_pos h2] at h; exact absurd rfl h
    · rename_i h2
      rw [if_neg h2] at h
      split
      · rename_i h3
        rw [if_pos h3] at h
        unfold cls at h ⊢
        split
        · exact Nat.zero_le _
        · rename_i h4; rw [if_neg h4] at h; exact absurd rfl h
      · rename_i h3
        rw [if_neg h3] at h
        unfold opn at h ⊢
        split
        · exact Nat.zero_le _
        · rename_i h4
          rw [if_neg h4] at h
          split
          · exact rdA_place _ _ _ (tagO_place l)
          · rename_i h5
            rw [if_neg h5] at h
            split
            · exact Nat.zero_le _
            · rename_i h6; rw [if_neg h6] at h; exact absurd rfl h
def OkT (lt : Bool) (t : T) : Prop := (lt = true ↔ t.k ≠ 4) ∧ 1 ≤ t.k ∧ t.k ≤ 4 ∧ (t.nm = [] ↔ t.k = 4) ∧ t.as.length ≤ 32 ∧ (t.as ≠ [] → t.k = 1 ∨ t.k = 3)
theorem take_ne {l : List UInt8} {n : Nat} (hn : n ≠ 0) (h : n ≤ l.length) : l.take n ≠ [] := fun e => by
  have := congrArg List.length e
  rw [List.length_take, List.length_nil] at this; omega
theorem step_tok {l : List UInt8} (h : (step l).e = 0) {t : T} (ht : (step l).t = some t) : OkT (l.head? == some 60) t := by
  unfold step at h ht
  split at h
  · rename_i h1
    rw [if_pos h1] at ht
    unfold txt at h ht
    split at h
    · rename_i h2; exact absurd h h2
    · rename_i h2
      rw [if_neg h2] at ht
      simp only [Option.some.injEq] at ht
      subst ht
      refine ⟨⟨fun e => absurd (by simpa using e) h1, fun e => absurd rfl e⟩, by simp only; omega, by simp only; omega, ⟨fun _ => rfl, fun _ => rfl⟩, by simp, fun e => absurd rfl e⟩
  · rename_i h1
    have h60 : (l.head? == some 60) = true := by
      rw [beq_iff_eq]; exact Classical.byContradiction h1
    rw [if_neg h1] at ht
    split at h
    · rename_i h2; rw [if_pos h2] at ht; cases ht
    · rename_i h2
      rw [if_neg h2] at ht
      split at h
      · rename_i h3
        rw [if_pos h3] at ht
        unfold cls at h ht
        split at h
        · cases h
        · rename_i h4
          rw [if_neg h4] at ht
          simp only [Option.some.injEq] at ht
          subst ht
          have hb : Nm.bg (l.drop 2) ≠ 0 := fun e => h4 (Or.inl e)
          refine ⟨⟨fun _ => by simp only; omega, fun _ => h60⟩, by simp only; omega, by simp only; omega, ⟨fun e => absurd e (take_ne hb (Nm.bg_le _).1), fun e => by simp only at e; omega⟩, by simp, fun e => absurd rfl e⟩
      · rename_i h3
        rw [if_neg h3] at ht
        obtain ⟨hb, hk, hr, hl, ho⟩ := opn_ok h
        rw [ho] at ht
        simp only [Option.some.injEq] at ht
        subst ht
        have hlen := rdA_len _ _ hr
        simp only [List.length_nil, Nat.zero_add] at hlen
        have hkind := tagO_kind l
        refine ⟨⟨fun _ => by simp only; omega, fun _ => h60⟩, by simp only; omega, by simp only; omega, ⟨fun e => absurd e (take_ne hb (Nm.bg_le _).1), fun e => ?_⟩, by simp only; omega, fun _ => by simp only; omega⟩
        simp only at e; omega
def Ord (L : List UInt8) (at_ : Nat) (ts : List T) : Prop := (∀ t ∈ ts, OkT (L[t.p]? == some 60) t ∧ t.p < at_) ∧ ts.Pairwise (fun a b => a.p < b.p)
theorem goT_ord (L : List UInt8) : ∀ (f : Nat) (l : List UInt8) (at_ : Nat) (acc : List T), L.drop at_ = l → at_ ≤ L.length → l.length ≤ f → Ord L at_ acc →
    ((goT f l at_ acc).2.2 = 0 → Ord L L.length (goT f l at_ acc).1) ∧ ((goT f l at_ acc).2.2 ≠ 0 → (goT f l at_ acc).1 = [] ∧ (goT f l at_ acc).2.1 ≤ L.length) := by
  intro f
  induction f with
  | zero =>
    intro l at_ acc hl ha hf ho
    refine ⟨fun _ => ⟨fun t ht => ⟨(ho.1 t ht).1, by have := (ho.1 t ht).2; omega⟩, ho.2⟩, fun h => absurd rfl h⟩
  | succ f ih =>
    intro l at_ acc hl ha hf ho
    by_cases hne : l = []
    · subst hne
      rw [goT_nil]
      refine ⟨fun _ => ⟨fun t ht => ⟨(ho.1 t ht).1, by have := (ho.1 t ht).2; simp only at *; omega⟩, ho.2⟩, fun h => absurd rfl h⟩
    · have hlen : l.length = L.length - at_ := by rw [← hl, List.length_drop]
      by_cases hs : (step l).e = 0
      · have hle := step_le hne hs
        rw [goT_good hf hne hs, goT_more (f + 1) f _ _ _ (by rw [List.length_drop]; omega) (by rw [List.length_drop]; omega)]
        refine ih _ _ _ (by rw [← hl, List.drop_drop]) (by omega) (by rw [List.length_drop]; omega) ?_
        unfold put1
        cases e : (step l).t with
        | none => exact ⟨fun t ht => ⟨(ho.1 t ht).1, by have := (ho.1 t ht).2; omega⟩, ho.2⟩
        | some t =>
          have hk := step_tok hs e
          have hh : l.head? = L[at_]? := by rw [← hl, List.head?_drop]
          simp only
          refine ⟨fun u hu => ?_, ?_⟩
          · rw [List.mem_append] at hu
            rcases hu with hu | hu
            · exact ⟨(ho.1 u hu).1, by have := (ho.1 u hu).2; omega⟩
            · simp only [List.mem_singleton] at hu
              subst hu
              rw [hh] at hk
              exact ⟨hk, by simp only; omega⟩
          · rw [List.pairwise_append]
            refine ⟨ho.2, by simp, fun a ha b hb => ?_⟩
            simp only [List.mem_singleton] at hb
            subst hb
            exact (ho.1 a ha).2
      · rw [goT_bad hf hne hs]
        have := step_place hs
        exact ⟨fun h => absurd h hs, fun _ => ⟨rfl, by simp only; omega⟩⟩
theorem toks_ord (L : List UInt8) : ((toks L).2.2 = 0 → (Ord L L.length (toks L).1 ∧ (toks L).2.1 = 0)) ∧ ((toks L).2.2 ≠ 0 → (toks L).1 = [] ∧ (toks L).2.1 ≤ L.length) := by
  unfold toks
  split
  · exact ⟨fun h => (by cases h), fun _ => ⟨rfl, Nat.zero_le _⟩⟩
  · split
    · exact ⟨fun h => (by cases h), fun _ => ⟨rfl, (U8.lead_le _ L (Nat.le_refl _)).2⟩⟩
    · have := goT_ord L L.length L 0 [] rfl (Nat.zero_le _) (Nat.le_refl _) ⟨fun t ht => (by cases ht), List.Pairwise.nil⟩
      exact ⟨fun h => ⟨this.1 h, cutT_ok h⟩, this.2⟩
end Go.Proofs.YteadfpkihhaadaaGreatDoor.Tk
namespace Go.Proofs.YteadfpkihhaadaaGreatDoor.Tk
open Go
def aw (a : List UInt8 × List UInt8) : List UInt8 := 32 :: (a.1 ++ 61 :: 34 :: (En.encB true a.2 ++ [34]))
def asw (as : List (List UInt8 × List UInt8)) : List UInt8 := as.flatMap aw
theorem asw_snoc (as : List (List UInt8 × List UInt8)) (a : List UInt8 × List UInt8) : asw (as ++ [a]) = asw as ++ aw a := by
  unfold asw; rw [List.flatMap_append]; simp
def okA (a : List UInt8 × List UInt8) : Prop := Nm.isn a.1 = true ∧ En.validL a.2
/-! ### parts, one behind the other -/
theorem validL_append {a b : List UInt8} (ha : En.validL a) (hb : En.validL b) : En.validL (a ++ b) := by
  unfold En.validL at *
  rw [U8.lead_append a.length a b (Nat.le_refl _) ha, List.length_append, hb]
instance (l : List UInt8) : Decidable (En.validL l) := inferInstanceAs (Decidable ((U8.lead l).2 = l.length))
/-! ### how long it is -/
theorem wrB_len (attr : Bool) (b : UInt8) : (En.wrB attr b).length ≤ 6 := by
  unfold En.wrB; repeat' split
  all_goals simp
theorem encB_len (attr : Bool) : ∀ l : List UInt8, (En.encB attr l).length ≤ 6 * l.length
  | [] => Nat.le_refl _
  | b :: l => by
    rw [En.encB_cons, List.length_append, List.length_cons]
    have := wrB_len attr b
    have := encB_len attr l
    omega
end Go.Proofs.YteadfpkihhaadaaGreatDoor.Tk
