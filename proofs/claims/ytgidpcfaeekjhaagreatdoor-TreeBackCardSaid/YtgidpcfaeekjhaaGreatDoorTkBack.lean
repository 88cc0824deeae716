/- Plain facts on tags and texts of XML (lists of bytes): what an attribute, a tag, a remark, a text is, how a text is cut into them. No program is named here; no condition.
Plain facts on tags and texts: what stands behind a text, if it begins with <, does not turn what is cut; where tokens stand. No program is named here; no condition.
Plain facts on tokens: where they stand, what they have; where an error stands. No program is named here; no condition.
Plain facts on tags and texts: parts that are written plainly, one behind the other, remarks between some, are cut as they were, each at its place. No program is named here; no condition. -/
import Derived.Test.YtgidpcfaeekjhaaGreatDoorEnPlain2
import Derived.Lib.SlTrimSet
namespace Go.Proofs.YtgidpcfaeekjhaaGreatDoor.Tk
open Go

def isB (c : UInt8) : Bool := c == 32 || c == 9 || c == 10 || c == 13
/-- How many blanks stand ahead. -/
def bl : List UInt8 → Nat
  | [] => 0
  | c :: l => if isB c then bl l + 1 else 0
theorem bl_le : ∀ l, bl l ≤ l.length
  | [] => Nat.le_refl _
  | c :: l => by have := bl_le l; unfold bl; split <;> simp only [List.length_cons] <;> omega
theorem bl_stop {l : List UInt8} {k : Nat} (hk : k < l.length) (h : isB l[k] = false) : bl (l.drop k) = 0 := by
  rw [List.drop_eq_getElem_cons hk]; unfold bl; rw [h]; rfl
theorem bl_go {l : List UInt8} {k : Nat} (hk : k < l.length) (h : isB l[k] = true) : bl (l.drop k) = bl (l.drop (k + 1)) + 1 := by
  rw [List.drop_eq_getElem_cons hk]
  conv => lhs; unfold bl
  rw [h]; rfl
/-- The bytes that strings.TrimLeft is handed. -/
def blanks : List UInt8 := [32, 9, 10, 13]
theorem isB_mem (c : UInt8) : blanks.contains c = isB c := by
  unfold blanks isB; simp only [List.contains_cons, List.contains_nil, Bool.or_false, Bool.or_assoc]
theorem trimLeft_bl : ∀ l : List UInt8, Lib.trimLeftS l blanks = l.drop (bl l)
  | [] => rfl
  | c :: l => by
    have ih := trimLeft_bl l
    unfold Lib.trimLeftS at ih ⊢
    rw [List.dropWhile_cons, isB_mem]
    unfold bl
    cases isB c with
    | true => simpa using ih
    | false => rfl
theorem trimLeft_len (l : List UInt8) : (Lib.trimLeftS l blanks).length = l.length - bl l := by rw [trimLeft_bl, List.length_drop]
def allB (l : List UInt8) : Bool := l.all isB
theorem bl_all : ∀ l : List UInt8, allB l = true → l.drop (bl l) = []
  | [], _ => rfl
  | c :: l, h => by
    unfold allB at h
    rw [List.all_cons, Bool.and_eq_true] at h
    unfold bl; rw [h.1]
    simpa using bl_all l h.2
theorem all_bl : ∀ l : List UInt8, l.drop (bl l) = [] → allB l = true
  | [], _ => rfl
  | c :: l, h => by
    unfold bl at h
    unfold allB
    cases hc : isB c with
    | false => rw [hc] at h; cases h
    | true =>
      rw [hc] at h
      rw [List.all_cons, hc, Bool.true_and]
      exact all_bl l (by simpa using h)
theorem dropWhile_nil_iff {p : UInt8 → Bool} : ∀ l : List UInt8, l.dropWhile p = [] ↔ l.all p = true
  | [] => by simp
  | c :: l => by
    have := dropWhile_nil_iff (p := p) l
    rw [List.dropWhile_cons, List.all_cons]
    cases p c <;> simp [this]
theorem trim_isEmpty (l : List UInt8) : (Lib.trimS l blanks).isEmpty = allB l := by
  have hp : ∀ c : UInt8, blanks.contains c = isB c := isB_mem
  have hfun : (fun c => blanks.contains c) = isB := funext hp
  unfold Lib.trimS Lib.trimRightS Lib.trimLeftS allB
  rw [hfun]
  rw [Bool.eq_iff_iff, List.isEmpty_iff, dropWhile_nil_iff]
  rw [List.all_reverse]
  constructor
  · intro h
    have hd : (l.reverse.dropWhile isB).all isB = true := h
    cases e : l.reverse.dropWhile isB with
    | nil => rw [dropWhile_nil_iff, List.all_reverse] at e; exact e
    | cons c r =>
      exfalso
      have hn := List.head?_dropWhile_not isB l.reverse
      rw [e] at hn hd
      rw [List.all_cons, Bool.and_eq_true] at hd
      simp only [List.head?_cons] at hn
      rw [hd.1] at hn; cases hn
  · intro h
    have : l.reverse.dropWhile isB = [] := by rw [dropWhile_nil_iff, List.all_reverse]; exact h
    rw [this]; rfl

/-! ### attributes -/
structure A where
  nm : List UInt8
  vl : List UInt8
  p : Nat
/-- A value between its marks, and how many bytes it has with them; 0: there is none. -/
def qv (l : List UInt8) : List UInt8 × Nat :=
  match l with
  | [] => ([], 0)
  | q :: r => if q = 34 ∨ q = 39 then (if Lib.indexByte r q = -1 then ([], 0) else if 0 ≤ Lib.indexByte (r.take (Lib.indexByte r q).toNat) 60 then ([], 0) else (r.take (Lib.indexByte r q).toNat, (Lib.indexByte r q).toNat + 2)) else ([], 0)
theorem qv_le (l : List UInt8) : (qv l).2 ≤ l.length := by
  cases l with
  | nil => exact Nat.le_refl _
  | cons q r =>
    unfold qv
    simp only
    split
    · split
      · simp
      · split
        · simp
        · rename_i h1 _
          have := Lib.indexByte_ge r q
          obtain ⟨j, hj⟩ : ∃ j : Nat, Lib.indexByte r q = j := ⟨(Lib.indexByte r q).toNat, by omega⟩
          have := En.idx_lt hj
          rw [hj]; simp only [List.length_cons, Int.toNat_natCast]; omega
    · simp
theorem qv_none {l : List UInt8} (h : ∀ q, l.head? = some q → q ≠ 34 ∧ q ≠ 39) : qv l = ([], 0) := by
  cases l with
  | nil => rfl
  | cons q r => unfold qv; simp only; rw [if_neg]; have := h q rfl; simp [this.1, this.2]
theorem qv_miss {q : UInt8} {r : List UInt8} (h : Lib.indexByte r q = -1) : qv (q :: r) = ([], 0) := by
  unfold qv; simp only; rw [if_pos h]; split <;> rfl
theorem qv_lt {q : UInt8} {r : List UInt8} {j : Nat} (h : Lib.indexByte r q = j) (hl : 0 ≤ Lib.indexByte (r.take j) 60) : qv (q :: r) = ([], 0) := by
  unfold qv; simp only; rw [h, Int.toNat_natCast, if_pos hl, ite_self]
  split <;> rfl
theorem qv_hit {q : UInt8} {r : List UInt8} {j : Nat} (hq : q = 34 ∨ q = 39) (h : Lib.indexByte r q = j) (hl : Lib.indexByte (r.take j) 60 = -1) : qv (q :: r) = (r.take j, j + 2) := by
  unfold qv; simp only; rw [if_pos hq, h, Int.toNat_natCast, hl, if_neg (by omega), if_neg (by omega)]

/-- An attribute, and how many bytes it has; 0: there is none. -/
def at1 (l : List UInt8) : A × Nat :=
  if Nm.bg l = 0 ∨ (l.drop (Nm.bg l + bl (l.drop (Nm.bg l)))).head? ≠ some 61 then (⟨[], [], 0⟩, 0)
  else
    let i := Nm.bg l + bl (l.drop (Nm.bg l)) + 1
    let j := i + bl (l.drop i)
    if (qv (l.drop j)).2 = 0 then (⟨[], [], 0⟩, 0) else (⟨l.take (Nm.bg l), (qv (l.drop j)).1, j + 1⟩, j + (qv (l.drop j)).2)
theorem at1_none {l : List UInt8} (h : Nm.bg l = 0) : at1 l = (⟨[], [], 0⟩, 0) := by unfold at1; rw [if_pos (Or.inl h)]
theorem at1_sign {l : List UInt8} {n : Nat} (h : Nm.bg l = n) (h1 : (l.drop (n + bl (l.drop n))).head? ≠ some 61) : at1 l = (⟨[], [], 0⟩, 0) := by
  subst h; unfold at1; rw [if_pos (Or.inr h1)]
theorem at1_val {l : List UInt8} {n i j : Nat} (h : Nm.bg l = n) (h0 : n ≠ 0) (hi : i = n + bl (l.drop n)) (h1 : (l.drop i).head? = some 61) (hj : j = i + 1 + bl (l.drop (i + 1))) :
    at1 l = if (qv (l.drop j)).2 = 0 then (⟨[], [], 0⟩, 0) else (⟨l.take n, (qv (l.drop j)).1, j + 1⟩, j + (qv (l.drop j)).2) := by
  subst h; subst hi; subst hj
  unfold at1; rw [if_neg (by rintro (h | h); exact h0 h; exact h h1)]
theorem at1_le (l : List UInt8) : (at1 l).2 ≤ l.length := by
  unfold at1
  split
  · exact Nat.zero_le _
  · simp only
    split
    · exact Nat.zero_le _
    · rename_i h1 h2
      have := qv_le (l.drop (Nm.bg l + bl (l.drop (Nm.bg l)) + 1 + bl (l.drop (Nm.bg l + bl (l.drop (Nm.bg l)) + 1))))
      rw [List.length_drop] at this
      simp only; omega

/-- The end of a tag. -/
def fin (r : List UInt8) (i : Nat) (acc : List A) : List A × Nat × Int :=
  if r.head? = some 62 then (acc, i + 1, 1) else if r.take 2 = [47, 62] then (acc, i + 2, 3) else ([], 0, 0)
def sh (a : A) (i : Nat) : A := ⟨a.nm, a.vl, a.p + i⟩
/-- What stands behind a tag's name: the attributes, the bytes up to the end, the kind; kind 0: it is none. -/
def ats : Nat → List UInt8 → Nat → List A → List A × Nat × Int
  | 0, _, _, _ => ([], 0, 0)
  | f + 1, l, i, acc =>
    let r := l.drop (bl l)
    if r.head? = some 62 then (acc, i + bl l + 1, 1)
    else if r.take 2 = [47, 62] then (acc, i + bl l + 2, 3)
    else if bl l = 0 ∨ (at1 r).2 = 0 then ([], 0, 0)
    else ats f (r.drop (at1 r).2) (i + bl l + (at1 r).2) (acc ++ [sh (at1 r).1 (i + bl l)])
theorem ats_more : ∀ (f g : Nat) (l : List UInt8) (i : Nat) (acc : List A), l.length < f → l.length < g → ats f l i acc = ats g l i acc
  | 0, _, l, _, _, h, _ => by omega
  | _ + 1, 0, l, _, _, _, h => by omega
  | f + 1, g + 1, l, i, acc, hf, hg => by
    unfold ats
    simp only
    split
    · rfl
    · split
      · rfl
      · split
        · rfl
        · rename_i h
          have h2 : (at1 (l.drop (bl l))).2 ≠ 0 := fun e => h (Or.inr e)
          have h3 := at1_le (l.drop (bl l))
          have h4 := bl_le l
          rw [List.length_drop] at h3
          apply ats_more
          · simp only [List.length_drop]; omega
          · simp only [List.length_drop]; omega
theorem ats_fin {f : Nat} {l : List UInt8} {i : Nat} {acc : List A} (hf : l.length < f) (h : bl l = 0 ∨ Nm.bg (l.drop (bl l)) = 0) : ats f l i acc = fin (l.drop (bl l)) (i + bl l) acc := by
  obtain ⟨g, rfl⟩ : ∃ g, f = g + 1 := ⟨f - 1, by omega⟩
  unfold ats fin
  simp only
  split
  · rfl
  · split
    · rfl
    · rw [if_pos]
      rcases h with h | h
      · exact Or.inl h
      · exact Or.inr (by rw [at1_none h])
theorem bg_head {l : List UInt8} (h : Nm.bg l ≠ 0) : ∃ c r, l = c :: r ∧ Nm.letZ (Nm.z c) = true := by
  have h1 : Nm.bgH l ≠ 0 := by
    intro e; apply h; unfold Nm.bg; rw [if_pos (Or.inl e)]; exact e
  unfold Nm.bgH at h1
  cases l with
  | nil => exact absurd rfl h1
  | cons c r =>
    refine ⟨c, r, rfl, ?_⟩
    rw [List.take_succ_cons] at h1
    unfold Nm.lg at h1
    cases hl : Nm.letZ (Nm.z c) with
    | true => rfl
    | false => rw [if_pos ((Nm.partZ_two _).2 hl)] at h1; exact absurd rfl h1
theorem let_ne {c : UInt8} (h : Nm.letZ (Nm.z c) = true) : c ≠ 62 ∧ c ≠ 47 ∧ c ≠ 33 ∧ c ≠ 63 ∧ c ≠ 60 ∧ isB c = false := by
  refine ⟨?_, ?_, ?_, ?_, ?_, ?_⟩
  all_goals first
    | (rintro rfl; revert h; decide)
    | (cases hb : isB c with
       | false => rfl
       | true =>
         unfold isB at hb
         simp only [Bool.or_eq_true, beq_iff_eq] at hb
         rcases hb with ((rfl | rfl) | rfl) | rfl <;> (revert h; decide))
theorem ats_bad {f : Nat} {l : List UInt8} {i : Nat} {acc : List A} (hb : Nm.bg (l.drop (bl l)) ≠ 0) (h : (at1 (l.drop (bl l))).2 = 0) : ats f l i acc = ([], 0, 0) := by
  cases f with
  | zero => rfl
  | succ f =>
    obtain ⟨c, r, e, hc⟩ := bg_head hb
    have hn := let_ne hc
    unfold ats
    simp only
    rw [if_neg (by rw [e]; simpa using hn.1), if_neg (by rw [e]; intro h2; rw [List.take_succ_cons] at h2; exact hn.2.1 (List.cons.inj h2).1), if_pos (Or.inr h)]
theorem ats_good {f : Nat} {l : List UInt8} {i : Nat} {acc : List A} (hf : l.length < f) (h0 : bl l ≠ 0) (h : (at1 (l.drop (bl l))).2 ≠ 0) :
    ats f l i acc = ats f ((l.drop (bl l)).drop (at1 (l.drop (bl l))).2) (i + bl l + (at1 (l.drop (bl l))).2) (acc ++ [sh (at1 (l.drop (bl l))).1 (i + bl l)]) := by
  have hb : Nm.bg (l.drop (bl l)) ≠ 0 := fun e => h (by rw [at1_none e])
  obtain ⟨c, r, e, hc⟩ := bg_head hb
  have hn := let_ne hc
  obtain ⟨g, rfl⟩ : ∃ g, f = g + 1 := ⟨f - 1, by omega⟩
  conv => lhs; unfold ats
  simp only
  rw [if_neg (by rw [e]; simpa using hn.1), if_neg (by rw [e]; intro h2; rw [List.take_succ_cons] at h2; exact hn.2.1 (List.cons.inj h2).1), if_neg (by rintro (h1 | h1); exact h0 h1; exact h h1)]
  have h3 := at1_le (l.drop (bl l))
  have h4 := bl_le l
  rw [List.length_drop] at h3
  apply ats_more
  · simp only [List.length_drop]; omega
  · simp only [List.length_drop]; omega

/-! ### tags, remarks, texts -/
structure T where
  k : Int
  nm : List UInt8
  as : List (List UInt8 × List UInt8)
  tx : List UInt8
  p : Nat
/-- What stands next. e ≠ 0: an error at place n; t none: a remark of n bytes; else a token of n bytes. -/
structure S where
  t : Option T
  n : Nat
  e : Int
/-- Values that are read. -/
def rdA : List A → List (List UInt8 × List UInt8) → List (List UInt8 × List UInt8) × Nat × Int
  | [], acc => (acc, 0, 0)
  | a :: r, acc => if (En.rep En.dF a.vl).2.2 ≠ 0 then ([], a.p + (En.rep En.dF a.vl).2.1, (En.rep En.dF a.vl).2.2) else rdA r (acc ++ [(a.nm, (En.rep En.dF a.vl).1)])
def bad (n : Nat) (e : Int) : S := ⟨none, n, e⟩
def tagO (l : List UInt8) : List A × Nat × Int :=
  if Nm.bg (l.drop 1) = 0 then ([], 0, 0) else ats (l.length + 1) (l.drop (1 + Nm.bg (l.drop 1))) (1 + Nm.bg (l.drop 1)) []
def opn (l : List UInt8) : S :=
  if (tagO l).2.2 = 0 then bad 0 40
  else if (rdA (tagO l).1 []).2.2 ≠ 0 then bad (rdA (tagO l).1 []).2.1 (rdA (tagO l).1 []).2.2
  else if 32 < (tagO l).1.length then bad 0 3
  else ⟨some ⟨(tagO l).2.2, (l.drop 1).take (Nm.bg (l.drop 1)), (rdA (tagO l).1 []).1, [], 0⟩, (tagO l).2.1, 0⟩
def cls (l : List UInt8) : S :=
  if Nm.bg (l.drop 2) = 0 ∨ (l.drop (2 + Nm.bg (l.drop 2) + bl (l.drop (2 + Nm.bg (l.drop 2))))).head? ≠ some 62 then bad 0 40
  else ⟨some ⟨2, (l.drop 2).take (Nm.bg (l.drop 2)), [], [], 0⟩, 2 + Nm.bg (l.drop 2) + bl (l.drop (2 + Nm.bg (l.drop 2))) + 1, 0⟩
def rem (l : List UInt8) : Nat :=
  if Lib.hasPrefix l [60, 33, 45, 45] then (if 0 ≤ Lib.index (l.drop 4) [45, 45, 62] then (Lib.index (l.drop 4) [45, 45, 62]).toNat + 7 else 0)
  else if Lib.hasPrefix l [60, 63] then (if 0 ≤ Lib.index (l.drop 2) [63, 62] then (Lib.index (l.drop 2) [63, 62]).toNat + 4 else 0)
  else 0
/-- How many bytes stand ahead of the next <. -/
def upto (l : List UInt8) : Nat := if Lib.indexByte l 60 = -1 then l.length else (Lib.indexByte l 60).toNat
def txt (l : List UInt8) : S :=
  if (En.rep En.dF (l.take (upto l))).2.2 ≠ 0 then bad (En.rep En.dF (l.take (upto l))).2.1 (En.rep En.dF (l.take (upto l))).2.2
  else ⟨some ⟨4, [], [], (En.rep En.dF (l.take (upto l))).1, 0⟩, upto l, 0⟩
def step (l : List UInt8) : S :=
  if l.head? ≠ some 60 then txt l else if 0 < rem l then ⟨none, rem l, 0⟩ else if Lib.hasPrefix l [60, 47] then cls l else opn l
def put1 (t : Option T) (at_ : Nat) (acc : List T) : List T := match t with
  | none => acc
  | some t => acc ++ [⟨t.k, t.nm, t.as, t.tx, at_⟩]
def goT : Nat → List UInt8 → Nat → List T → List T × Nat × Int
  | 0, _, _, acc => (acc, 0, 0)
  | f + 1, l, at_, acc => if l = [] then (acc, 0, 0) else if (step l).e ≠ 0 then ([], at_ + (step l).n, (step l).e) else goT f (l.drop (step l).n) (at_ + (step l).n) (put1 (step l).t at_ acc)
def cutT (l : List UInt8) : List T × Nat × Int := goT l.length l 0 []
/-- Tokens' answer. -/
def toks (l : List UInt8) : List T × Nat × Int :=
  if 65536 < l.length then ([], 0, 3) else if (U8.lead l).2 ≠ l.length then ([], (U8.lead l).2, 10) else cutT l

theorem hp_len {l p : List UInt8} (h : Lib.hasPrefix l p = true) : p.length ≤ l.length := by
  unfold Lib.hasPrefix at h; exact (List.isPrefixOf_iff_prefix.1 h).length_le
theorem rem_le (l : List UInt8) : rem l ≤ l.length := by
  unfold rem
  split
  · rename_i h
    have := hp_len h
    simp at this
    split
    · rename_i h2
      have h3 := Lib.index_room _ _ h2
      simp only [List.length_drop, List.length_cons, List.length_nil] at h3
      omega
    · exact Nat.zero_le _
  · split
    · rename_i h
      have := hp_len h
      simp at this
      split
      · rename_i h2
        have h3 := Lib.index_room _ _ h2
        simp only [List.length_drop, List.length_cons, List.length_nil] at h3
        omega
      · exact Nat.zero_le _
    · exact Nat.zero_le _
theorem fin_le (r : List UInt8) (i : Nat) (acc : List A) (L : Nat) (h : i + r.length ≤ L) : (fin r i acc).2.1 ≤ L := by
  unfold fin
  split
  · rename_i h1
    cases r with
    | nil => cases h1
    | cons c t => simp only [List.length_cons] at h; simp only; omega
  · split
    · rename_i h2
      have := congrArg List.length h2
      rw [List.length_take] at this
      simp at this
      simp only; omega
    · exact Nat.zero_le _
theorem ats_le : ∀ (f : Nat) (l : List UInt8) (i : Nat) (acc : List A) (L : Nat), i + l.length ≤ L → (ats f l i acc).2.1 ≤ L ∧ ((ats f l i acc).2.2 ≠ 0 → i + 1 ≤ (ats f l i acc).2.1)
  | 0, l, i, acc, L, h => ⟨Nat.zero_le _, fun h => absurd rfl h⟩
  | f + 1, l, i, acc, L, h => by
    have h4 := bl_le l
    have h3 := at1_le (l.drop (bl l))
    rw [List.length_drop] at h3
    unfold ats
    simp only
    split
    · rename_i h1
      have : 0 < (l.drop (bl l)).length := by
        cases e : l.drop (bl l) with
        | nil => rw [e] at h1; cases h1
        | cons _ _ => simp
      rw [List.length_drop] at this
      exact ⟨by simp only; omega, fun _ => by simp only; omega⟩
    · split
      · rename_i h2
        have := congrArg List.length h2
        rw [List.length_take, List.length_drop] at this
        simp at this
        exact ⟨by simp only; omega, fun _ => by simp only; omega⟩
      · split
        · exact ⟨Nat.zero_le _, fun h => absurd rfl h⟩
        · have := ats_le f ((l.drop (bl l)).drop (at1 (l.drop (bl l))).2) (i + bl l + (at1 (l.drop (bl l))).2) (acc ++ [sh (at1 (l.drop (bl l))).1 (i + bl l)]) L (by simp only [List.length_drop]; omega)
          exact ⟨this.1, fun h => by have := this.2 h; omega⟩
theorem tagO_le (l : List UInt8) : (tagO l).2.1 ≤ l.length ∧ ((tagO l).2.2 ≠ 0 → 2 ≤ (tagO l).2.1) := by
  unfold tagO
  have h := Nm.bg_le (l.drop 1)
  rw [List.length_drop] at h
  split
  · exact ⟨Nat.zero_le _, fun h => absurd rfl h⟩
  · have := ats_le (l.length + 1) (l.drop (1 + Nm.bg (l.drop 1))) (1 + Nm.bg (l.drop 1)) [] l.length (by rw [List.length_drop]; omega)
    exact ⟨this.1, fun h => by have := this.2 h; omega⟩
theorem upto_le (l : List UInt8) : upto l ≤ l.length := by
  unfold upto
  split
  · exact Nat.le_refl _
  · have := Lib.indexByte_ge l 60
    obtain ⟨j, hj⟩ : ∃ j : Nat, Lib.indexByte l 60 = j := ⟨(Lib.indexByte l 60).toNat, by omega⟩
    have := En.idx_lt hj
    rw [hj]; simp; omega
theorem upto_pos {l : List UInt8} (hne : l ≠ []) (h : l.head? ≠ some 60) : 1 ≤ upto l := by
  cases l with
  | nil => exact absurd rfl hne
  | cons c r =>
    have hc : c ≠ 60 := by simpa using h
    unfold upto
    rw [En.idx_cons hc]
    have := Lib.indexByte_ge r 60
    have hp : 1 ≤ (c :: r).length := by simp
    repeat' split
    all_goals omega
theorem step_le {l : List UInt8} (hne : l ≠ []) (h : (step l).e = 0) : 1 ≤ (step l).n ∧ (step l).n ≤ l.length := by
  unfold step at h ⊢
  split
  · rename_i h1
    rw [if_pos h1] at h
    unfold txt at h ⊢
    split
    · rename_i h2; rw [if_pos h2] at h; exact absurd h h2
    · exact ⟨upto_pos hne h1, upto_le l⟩
  · rename_i h1
    rw [if_neg h1] at h
    split
    · rename_i h2; exact ⟨h2, rem_le l⟩
    · rename_i h2
      rw [if_neg h2] at h
      split
      · rename_i h3
        rw [if_pos h3] at h
        unfold cls at h ⊢
        split
        · rename_i h4; rw [if_pos h4] at h; cases h
        · rename_i h4
          refine ⟨by simp only; omega, ?_⟩
          simp only
          have : (l.drop (2 + Nm.bg (l.drop 2) + bl (l.drop (2 + Nm.bg (l.drop 2))))).head? = some 62 := Classical.byContradiction fun hc => h4 (Or.inr hc)
          have : 0 < (l.drop (2 + Nm.bg (l.drop 2) + bl (l.drop (2 + Nm.bg (l.drop 2))))).length := by
            cases e : l.drop (2 + Nm.bg (l.drop 2) + bl (l.drop (2 + Nm.bg (l.drop 2)))) with
            | nil => rw [e] at this; cases this
            | cons _ _ => simp
          rw [List.length_drop] at this
          omega
      · rename_i h3
        rw [if_neg h3] at h
        unfold opn at h ⊢
        split
        · rename_i h4; rw [if_pos h4] at h; cases h
        · rename_i h4
          rw [if_neg h4] at h
          split
          · rename_i h5; rw [if_pos h5] at h; exact absurd h h5
          · rename_i h5
            rw [if_neg h5] at h
            split
            · rename_i h6; rw [if_pos h6] at h; cases h
            · have := tagO_le l
              exact ⟨by have := this.2 h4; simp only; omega, this.1⟩
theorem goT_more : ∀ (f g : Nat) (l : List UInt8) (at_ : Nat) (acc : List T), l.length ≤ f → l.length ≤ g → goT f l at_ acc = goT g l at_ acc
  | 0, 0, _, _, _, _, _ => rfl
  | 0, g + 1, l, at_, acc, hf, _ => by
    have : l = [] := List.eq_nil_of_length_eq_zero (by omega)
    subst this; rfl
  | f + 1, 0, l, at_, acc, _, hg => by
    have : l = [] := List.eq_nil_of_length_eq_zero (by omega)
    subst this; rfl
  | f + 1, g + 1, l, at_, acc, hf, hg => by
    unfold goT
    split
    · rfl
    · split
      · rfl
      · rename_i hne he
        have := step_le hne (Classical.byContradiction he)
        apply goT_more
        · rw [List.length_drop]; omega
        · rw [List.length_drop]; omega
theorem goT_nil (f : Nat) (at_ : Nat) (acc : List T) : goT f [] at_ acc = (acc, 0, 0) := by cases f <;> rfl
theorem goT_bad {f : Nat} {l : List UInt8} {at_ : Nat} {acc : List T} (hf : l.length ≤ f) (hne : l ≠ []) (h : (step l).e ≠ 0) : goT f l at_ acc = ([], at_ + (step l).n, (step l).e) := by
  obtain ⟨g, rfl⟩ : ∃ g, f = g + 1 := ⟨f - 1, by cases l with | nil => exact absurd rfl hne | cons _ _ => simp at hf; omega⟩
  unfold goT; rw [if_neg hne, if_pos h]
theorem goT_good {f : Nat} {l : List UInt8} {at_ : Nat} {acc : List T} (hf : l.length ≤ f) (hne : l ≠ []) (h : (step l).e = 0) :
    goT f l at_ acc = goT f (l.drop (step l).n) (at_ + (step l).n) (put1 (step l).t at_ acc) := by
  obtain ⟨g, rfl⟩ : ∃ g, f = g + 1 := ⟨f - 1, by cases l with | nil => exact absurd rfl hne | cons _ _ => simp at hf; omega⟩
  have := step_le hne h
  conv => lhs; unfold goT
  rw [if_neg hne, if_neg (by rw [h]; decide)]
  apply goT_more
  · rw [List.length_drop]; omega
  · rw [List.length_drop]; omega
end Go.Proofs.YtgidpcfaeekjhaaGreatDoor.Tk
namespace Go.Proofs.YtgidpcfaeekjhaaGreatDoor.Tk
open Go

theorem part60 {m : Int} (h : 1 ≤ m) : Nm.partZ (Nm.z 60) < m := by
  have : Nm.partZ (Nm.z 60) = 0 := by decide
  omega
theorem lg_more : ∀ (l t : List UInt8) (m : Int), 1 ≤ m → Nm.lg m (l ++ 60 :: t) = Nm.lg m l
  | [], t, m, h => by
    show Nm.lg m (60 :: t) = 0
    unfold Nm.lg; rw [if_pos (part60 h)]
  | c :: l, t, m, h => by
    rw [List.cons_append]
    unfold Nm.lg
    rw [lg_more l t 1 (by omega)]
theorem drop_more {l b : List UInt8} {n : Nat} (h : n ≤ l.length) : (l ++ b).drop n = l.drop n ++ b := by
  rw [List.drop_append, show n - l.length = 0 by omega]; rfl
theorem take_more {l b : List UInt8} {n : Nat} (h : n ≤ l.length) : (l ++ b).take n = l.take n := by
  rw [List.take_append, show n - l.length = 0 by omega]; simp
theorem bgH_more (l t : List UInt8) : Nm.bgH (l ++ 60 :: t) = Nm.bgH l := by
  unfold Nm.bgH; rw [Nm.lg_take, Nm.lg_take, lg_more _ _ _ (by omega)]
theorem bg_more (l t : List UInt8) : Nm.bg (l ++ 60 :: t) = Nm.bg l := by
  unfold Nm.bg
  rw [bgH_more]
  have hle : Nm.bgH l ≤ l.length ∧ Nm.bgH l ≤ 64 := by
    unfold Nm.bgH
    have := Nm.lg_le (l.take 64) 2
    rw [List.length_take] at this; omega
  generalize hh : Nm.bgH l = h at *
  by_cases h0 : h = 0
  · rw [if_pos (Or.inl h0), if_pos (Or.inl h0)]
  · by_cases h1 : h = (l.take 64).length
    · have R : ∀ x y : Nat, (if h = 0 ∨ h = (l.take 64).length ∨ (l.take 64)[h]? ≠ some 58 then x else y) = x := fun x y => if_pos (Or.inr (Or.inl h1))
      rw [R]
      by_cases h64 : 64 ≤ l.length
      · exact if_pos (Or.inr (Or.inl (by rw [take_more h64]; exact h1)))
      · refine if_pos (Or.inr (Or.inr ?_))
        have : h = l.length := by rw [h1, List.length_take]; omega
        rw [List.getElem?_take, if_pos (by omega), this, List.getElem?_append_right (Nat.le_refl _), Nat.sub_self]
        simp
    · have hlt : h < l.length ∧ h < 64 := by rw [List.length_take] at h1; omega
      have e1 : ((l ++ 60 :: t).take 64)[h]? = (l.take 64)[h]? := by
        rw [List.getElem?_take, List.getElem?_take, List.getElem?_append_left hlt.1]
      have e2 : h ≠ ((l ++ 60 :: t).take 64).length := by rw [List.length_take, List.length_append]; omega
      have e3 : Nm.lg 2 (((l ++ 60 :: t).take 64).drop (h + 1)) = Nm.lg 2 ((l.take 64).drop (h + 1)) := by
        rw [List.drop_take, List.drop_take, Nm.lg_take, Nm.lg_take, drop_more (by omega), lg_more _ _ _ (by omega)]
      rw [e1, e3]
      by_cases h2 : (l.take 64)[h]? = some 58
      · have n1 : ¬ (h = 0 ∨ h = ((l ++ 60 :: t).take 64).length ∨ (l.take 64)[h]? ≠ some 58) := by
          rintro (x | x | x)
          · exact h0 x
          · exact e2 x
          · exact x h2
        have n2 : ¬ (h = 0 ∨ h = (l.take 64).length ∨ (l.take 64)[h]? ≠ some 58) := by
          rintro (x | x | x)
          · exact h0 x
          · exact h1 x
          · exact x h2
        rw [if_neg n1, if_neg n2]
      · rw [if_pos (Or.inr (Or.inr h2)), if_pos (Or.inr (Or.inr h2))]
theorem bl_more : ∀ l t : List UInt8, bl (l ++ 60 :: t) = bl l
  | [], t => by show bl (60 :: t) = 0; rfl
  | c :: l, t => by rw [List.cons_append]; unfold bl; rw [bl_more l t]
theorem head_more {l t : List UInt8} {c : UInt8} (hc : c ≠ 60) : ((l ++ 60 :: t).head? = some c) ↔ (l.head? = some c) := by
  cases l with
  | nil => simp [Ne.symm hc]
  | cons _ _ => simp
theorem idx_miss_more {r t : List UInt8} {q : UInt8} (h : Lib.indexByte r q = -1) {j : Nat} (hj : Lib.indexByte (r ++ 60 :: t) q = j) (hq : q ≠ 60) : r.length < j := by
  have h1 := (Lib.indexByte_some hj).1
  rcases Nat.lt_or_ge r.length j with h2 | h2
  · exact h2
  · exfalso
    rcases Nat.lt_or_ge j r.length with h3 | h3
    · rw [List.getElem?_append_left h3] at h1; exact Lib.indexByte_none h j h1
    · have : j = r.length := by omega
      rw [this, List.getElem?_append_right (Nat.le_refl _), Nat.sub_self] at h1
      simp at h1; exact hq h1.symm
theorem idx_nonneg_of_mem {l : List UInt8} {c : UInt8} {k : Nat} (h : l[k]? = some c) : 0 ≤ Lib.indexByte l c := by
  have := Lib.indexByte_ge l c
  rcases Int.lt_or_le (Lib.indexByte l c) 0 with h1 | h1
  · exact absurd h (Lib.indexByte_none (by omega) k)
  · exact h1
theorem qv_more (l t : List UInt8) : qv (l ++ 60 :: t) = qv l := by
  cases l with
  | nil => exact qv_none fun q hq => by simp at hq; subst hq; decide
  | cons q r =>
    rw [List.cons_append]
    by_cases hq : q = 34 ∨ q = 39
    · have hq60 : q ≠ 60 := by rcases hq with rfl | rfl <;> decide
      rcases En.idx_cases r q with h | ⟨j, h⟩
      · rw [qv_miss h]
        rcases En.idx_cases (r ++ 60 :: t) q with h2 | ⟨j, h2⟩
        · exact qv_miss h2
        · have h3 := idx_miss_more h h2 hq60
          refine qv_lt h2 (idx_nonneg_of_mem (k := r.length) ?_)
          rw [List.getElem?_take, if_pos h3, List.getElem?_append_right (Nat.le_refl _), Nat.sub_self]; rfl
      · have h2 := En.idx_append (r := 60 :: t) h
        have hjl := En.idx_lt h
        have ht : (r ++ 60 :: t).take j = r.take j := take_more (by omega)
        rcases En.idx_cases (r.take j) 60 with h3 | ⟨k, h3⟩
        · rw [qv_hit hq h h3, qv_hit hq h2 (by rw [ht]; exact h3), ht]
        · rw [qv_lt h (by rw [h3]; omega), qv_lt h2 (by rw [ht, h3]; omega)]
    · rw [qv_none (l := q :: r) (fun x hx => by simp at hx; subst hx; exact ⟨fun e => hq (Or.inl e), fun e => hq (Or.inr e)⟩),
        qv_none (l := q :: (r ++ 60 :: t)) (fun x hx => by simp at hx; subst hx; exact ⟨fun e => hq (Or.inl e), fun e => hq (Or.inr e)⟩)]
theorem head_pos {l : List UInt8} {c : UInt8} (h : l.head? = some c) : 0 < l.length := by
  cases l with
  | nil => cases h
  | cons _ _ => simp
theorem at1_more (l t : List UInt8) : at1 (l ++ 60 :: t) = at1 l := by
  have hb := bg_more l t
  have hbl := (Nm.bg_le l).1
  by_cases h0 : Nm.bg l = 0
  · rw [at1_none h0, at1_none (hb.trans h0)]
  · have hi := bl_le (l.drop (Nm.bg l))
    rw [List.length_drop] at hi
    have e1 : bl ((l ++ 60 :: t).drop (Nm.bg l)) = bl (l.drop (Nm.bg l)) := by rw [drop_more hbl, bl_more]
    have e2 : (l ++ 60 :: t).drop (Nm.bg l + bl (l.drop (Nm.bg l))) = l.drop (Nm.bg l + bl (l.drop (Nm.bg l))) ++ 60 :: t := drop_more (by omega)
    by_cases h1 : (l.drop (Nm.bg l + bl (l.drop (Nm.bg l)))).head? = some 61
    · have hp := head_pos h1
      rw [List.length_drop] at hp
      have hj := bl_le (l.drop (Nm.bg l + bl (l.drop (Nm.bg l)) + 1))
      rw [List.length_drop] at hj
      have e3 : bl ((l ++ 60 :: t).drop (Nm.bg l + bl (l.drop (Nm.bg l)) + 1)) = bl (l.drop (Nm.bg l + bl (l.drop (Nm.bg l)) + 1)) := by rw [drop_more (by omega), bl_more]
      rw [at1_val rfl h0 rfl h1 rfl, at1_val hb h0 (by rw [e1]) (by rw [e2]; exact (head_more (by decide)).2 h1) (by rw [e3])]
      rw [drop_more (by omega), qv_more, take_more hbl]
    · rw [at1_sign rfl h1, at1_sign hb]
      rw [e1, e2]
      exact fun h => h1 ((head_more (by decide)).1 h)
theorem two_more {l t : List UInt8} {a b : UInt8} (hb : b ≠ 60) (ha : a ≠ 60) : ((l ++ 60 :: t).take 2 = [a, b]) ↔ (l.take 2 = [a, b]) := by
  match l with
  | [] => simp [Ne.symm ha]
  | [x] => simp [Ne.symm hb]
  | x :: y :: r => simp
theorem ats_behind : ∀ (f : Nat) (l t : List UInt8) (i : Nat) (acc : List A), ats f (l ++ 60 :: t) i acc = ats f l i acc
  | 0, _, _, _, _ => rfl
  | f + 1, l, t, i, acc => by
    have h1 := bl_le l
    have e1 : (l ++ 60 :: t).drop (bl l) = l.drop (bl l) ++ 60 :: t := drop_more h1
    have h2 := at1_le (l.drop (bl l))
    unfold ats
    simp only
    rw [bl_more, e1, at1_more]
    simp only [head_more (show (62 : UInt8) ≠ 60 by decide), two_more (show (62 : UInt8) ≠ 60 by decide) (show (47 : UInt8) ≠ 60 by decide)]
    split
    · rfl
    · split
      · rfl
      · split
        · rfl
        · rw [drop_more h2]; exact ats_behind f _ t _ _
theorem tagO_more {l : List UInt8} (t : List UInt8) (h : l ≠ []) : tagO (l ++ 60 :: t) = tagO l := by
  have hl : 1 ≤ l.length := by cases l with | nil => exact absurd rfl h | cons _ _ => simp
  have hb := (Nm.bg_le (l.drop 1)).1
  rw [List.length_drop] at hb
  unfold tagO
  rw [drop_more hl, bg_more]
  split
  · rfl
  · rw [drop_more (by omega), ats_behind]
    apply ats_more
    · simp only [List.length_drop, List.length_append]; omega
    · simp only [List.length_drop]; omega
theorem opn_more {l : List UInt8} (t : List UInt8) (h : l ≠ []) : opn (l ++ 60 :: t) = opn l := by
  have hl : 1 ≤ l.length := by cases l with | nil => exact absurd rfl h | cons _ _ => simp
  have hb := (Nm.bg_le (l.drop 1)).1
  unfold opn
  rw [tagO_more t h, drop_more hl, bg_more, take_more hb]
theorem cls_more {l : List UInt8} (t : List UInt8) (h : 2 ≤ l.length) : cls (l ++ 60 :: t) = cls l := by
  have hb := (Nm.bg_le (l.drop 2)).1
  rw [List.length_drop] at hb
  have hi := bl_le (l.drop (2 + Nm.bg (l.drop 2)))
  rw [List.length_drop] at hi
  unfold cls
  rw [drop_more h, bg_more, drop_more (n := 2 + Nm.bg (l.drop 2)) (by omega), bl_more, drop_more (by omega), take_more (by rw [List.length_drop]; omega)]
  simp only [ne_eq, head_more (show (62 : UInt8) ≠ 60 by decide)]
theorem hp_iff {l p : List UInt8} : Lib.hasPrefix l p = true ↔ l.take p.length = p := by
  unfold Lib.hasPrefix
  rw [List.isPrefixOf_iff_prefix, List.prefix_iff_eq_take]
  exact eq_comm
theorem hp2_more {l t : List UInt8} {a b : UInt8} (hb : b ≠ 60) (hne : l ≠ []) : Lib.hasPrefix (l ++ 60 :: t) [a, b] = Lib.hasPrefix l [a, b] := by
  rw [Bool.eq_iff_iff, hp_iff, hp_iff]
  show (l ++ 60 :: t).take 2 = [a, b] ↔ l.take 2 = [a, b]
  match l, hne with
  | [x], _ => simp [Ne.symm hb]
  | x :: y :: r, _ => simp
theorem occ_more {s t p : List UInt8} {i : Nat} (h : i + p.length ≤ s.length) : Lib.occAt (s ++ t) p i = Lib.occAt s p i := by
  rw [Lib.occAt_iff_take _ _ _ (by rw [List.length_append]; omega), Lib.occAt_iff_take _ _ _ h, drop_more (by omega), take_more (by rw [List.length_drop]; omega)]
theorem index_more {s t p : List UInt8} (h : 0 ≤ Lib.index s p) : Lib.index (s ++ t) p = Lib.index s p := by
  have hr := Lib.index_room s p h
  rcases Lib.index_spec s p with ⟨e, _⟩ | ⟨i, e, hi, ho, hn⟩
  · omega
  · rw [e]
    rw [e] at hr
    refine Lib.index_first (by rw [List.length_append]; omega) (by rw [occ_more (by omega)]; exact ho) fun j hj => ?_
    rw [occ_more (by omega)]; exact hn j hj
theorem hp_more {l p : List UInt8} (t : List UInt8) (h : Lib.hasPrefix l p = true) : Lib.hasPrefix (l ++ t) p = true := by
  have := hp_len h
  rw [hp_iff] at h ⊢
  rw [take_more this]; exact h
theorem hp2_second {l : List UInt8} {a b : UInt8} (h : Lib.hasPrefix l [a, b] = true) : l[1]? = some b := by
  rw [hp_iff] at h
  have := congrArg (·[1]?) h
  simpa using this
theorem hp4_second {l : List UInt8} (h : Lib.hasPrefix l [60, 33, 45, 45] = true) : l[1]? = some 33 := by
  rw [hp_iff] at h
  have := congrArg (·[1]?) h
  simpa using this
theorem rem_second {l : List UInt8} (h : rem l ≠ 0) : l[1]? = some 33 ∨ l[1]? = some 63 := by
  unfold rem at h
  split at h
  · rename_i h1; exact Or.inl (hp4_second h1)
  · split at h
    · rename_i h1; exact Or.inr (hp2_second h1)
    · exact absurd rfl h
theorem rem_more {l : List UInt8} (t : List UInt8) (h : 0 < rem l) : rem (l ++ t) = rem l := by
  unfold rem at h ⊢
  split at h
  · rename_i h1
    have := hp_len h1
    simp only [List.length_cons, List.length_nil] at this
    rw [if_pos (hp_more t h1), if_pos h1, drop_more (by omega)]
    split at h
    · rename_i h2; rw [index_more h2]
    · omega
  · rename_i h1
    split at h
    · rename_i h2
      have hl := hp_len h2
      simp only [List.length_cons, List.length_nil] at hl
      have h3 := hp2_second h2
      have h4 : ¬ Lib.hasPrefix (l ++ t) [60, 33, 45, 45] = true := fun hc => by
        have := hp4_second hc
        rw [List.getElem?_append_left (by omega), h3] at this; cases this
      rw [if_neg h4, if_neg h1, if_pos (hp_more t h2), if_pos h2, drop_more (by omega)]
      split at h
      · rename_i h5; rw [index_more h5]
      · omega
    · omega
theorem bg_second {l : List UInt8} (h : Nm.bg (l.drop 1) ≠ 0) : ∃ c, l[1]? = some c ∧ Nm.letZ (Nm.z c) = true := by
  obtain ⟨c, r, e, hc⟩ := bg_head h
  refine ⟨c, ?_, hc⟩
  have := congrArg (·[0]?) e
  rw [List.getElem?_drop] at this
  simpa using this
theorem upto_more (l t : List UInt8) : upto (l ++ 60 :: t) = upto l := by
  unfold upto
  rcases En.idx_cases l 60 with h | ⟨j, h⟩
  · have : Lib.indexByte (l ++ 60 :: t) 60 = (l.length : Nat) := by
      refine En.idx_of ?_ fun k hk => ?_
      · rw [List.getElem?_append_right (Nat.le_refl _), Nat.sub_self]; rfl
      · rw [List.getElem?_append_left hk]; exact Lib.indexByte_none h k
    rw [this, h, if_pos rfl, if_neg (by omega)]; simp
  · rw [En.idx_append h, h]
    rw [if_neg (by omega), if_neg (by omega)]
theorem txt_more (l t : List UInt8) : txt (l ++ 60 :: t) = txt l := by
  unfold txt; rw [upto_more, take_more (upto_le l)]
theorem opn_ok {l : List UInt8} (h : (opn l).e = 0) : Nm.bg (l.drop 1) ≠ 0 ∧ (tagO l).2.2 ≠ 0 ∧ (rdA (tagO l).1 []).2.2 = 0 ∧ (tagO l).1.length ≤ 32 ∧
    opn l = ⟨some ⟨(tagO l).2.2, (l.drop 1).take (Nm.bg (l.drop 1)), (rdA (tagO l).1 []).1, [], 0⟩, (tagO l).2.1, 0⟩ := by
  unfold opn at h ⊢
  split at h
  · cases h
  · rename_i h1
    split at h
    · rename_i h2; exact absurd h h2
    · rename_i h2
      split at h
      · cases h
      · rename_i h3
        refine ⟨fun e => h1 (by unfold tagO; rw [if_pos e]), h1, Classical.byContradiction h2, by omega, ?_⟩
        rw [if_neg h1, if_neg h2, if_neg h3]
theorem step_more {l : List UInt8} (t : List UInt8) (hne : l ≠ []) (h : (step l).e = 0) : step (l ++ 60 :: t) = step l := by
  have hh : (l ++ 60 :: t).head? = l.head? := by cases l with | nil => exact absurd rfl hne | cons _ _ => rfl
  unfold step at h ⊢
  rw [hh]
  split
  · exact txt_more l t
  · rename_i h1
    rw [if_neg h1] at h
    by_cases h2 : 0 < rem l
    · rw [if_pos h2, if_pos (by rw [rem_more _ h2]; exact h2), rem_more _ h2]
    · rw [if_neg h2] at h
      rw [if_neg h2, hp2_more (by decide) hne]
      by_cases h3 : Lib.hasPrefix l [60, 47] = true
      · rw [if_neg, if_pos h3, if_pos h3, cls_more t (hp_len h3)]
        intro h4
        have hl := hp_len h3
        simp only [List.length_cons, List.length_nil] at hl
        have h5 := rem_second (l := l ++ 60 :: t) (by omega)
        rw [List.getElem?_append_left (by omega), hp2_second h3] at h5
        rcases h5 with h5 | h5 <;> cases h5
      · rw [if_neg h3] at h
        rw [if_neg, if_neg h3, if_neg h3, opn_more t hne]
        intro h4
        obtain ⟨hb, _⟩ := opn_ok h
        obtain ⟨c, hc, hz⟩ := bg_second hb
        have hn := let_ne hz
        have hl : 1 < l.length := by
          rcases Nat.lt_or_ge 1 l.length with h | h
          · exact h
          · rw [List.getElem?_eq_none h] at hc; cases hc
        have h5 := rem_second (l := l ++ 60 :: t) (by omega)
        rw [List.getElem?_append_left hl, hc] at h5
        rcases h5 with h5 | h5
        · exact hn.2.2.1 (Option.some.inj h5)
        · exact hn.2.2.2.1 (Option.some.inj h5)

/-! ### one text behind another -/
def mv (n : Nat) (t : T) : T := ⟨t.k, t.nm, t.as, t.tx, t.p + n⟩
theorem goT_shift : ∀ (f : Nat) (l : List UInt8) (at_ k : Nat) (acc : List T), goT f l (at_ + k) (acc.map (mv k)) = if (goT f l at_ acc).2.2 = 0 then ((goT f l at_ acc).1.map (mv k), (goT f l at_ acc).2.1, 0) else ([], (goT f l at_ acc).2.1 + k, (goT f l at_ acc).2.2)
  | 0, l, at_, k, acc => by unfold goT; rw [if_pos rfl]
  | f + 1, l, at_, k, acc => by
    unfold goT
    split
    · rw [if_pos rfl]
    · split
      · simp only [Prod.mk.injEq, true_and, and_true]; omega
      · have e : put1 (step l).t (at_ + k) (acc.map (mv k)) = (put1 (step l).t at_ acc).map (mv k) := by
          unfold put1
          cases (step l).t with
          | none => rfl
          | some t => simp [mv]
        rw [e, show at_ + k + (step l).n = at_ + (step l).n + k by omega]
        exact goT_shift f _ _ k _
/-- What was gathered ahead stays ahead. -/
theorem goT_acc : ∀ (f : Nat) (l : List UInt8) (at_ : Nat) (pre acc : List T), goT f l at_ (pre ++ acc) = if (goT f l at_ acc).2.2 = 0 then (pre ++ (goT f l at_ acc).1, (goT f l at_ acc).2.1, 0) else ([], (goT f l at_ acc).2.1, (goT f l at_ acc).2.2)
  | 0, l, at_, pre, acc => by unfold goT; rw [if_pos rfl]
  | f + 1, l, at_, pre, acc => by
    unfold goT
    split
    · rw [if_pos rfl]
    · split
      · simp only
      · have e : put1 (step l).t at_ (pre ++ acc) = pre ++ put1 (step l).t at_ acc := by
          unfold put1
          cases (step l).t with
          | none => rfl
          | some t => simp
        rw [e]
        exact goT_acc f _ _ pre _
theorem goT_behind : ∀ (n : Nat) (a t : List UInt8) (f g : Nat) (at_ : Nat) (acc : List T), a.length ≤ n → a.length ≤ f → (a ++ 60 :: t).length ≤ g → (goT f a at_ acc).2.2 = 0 →
    goT g (a ++ 60 :: t) at_ acc = goT g (60 :: t) (at_ + a.length) (goT f a at_ acc).1 := by
  intro n
  induction n with
  | zero =>
    intro a t f g at_ acc h0 _ _ _
    have : a = [] := List.eq_nil_of_length_eq_zero (by omega)
    subst this
    rw [goT_nil]; rfl
  | succ n ih =>
    intro a t f g at_ acc h0 hf hg he
    by_cases hne : a = []
    · subst hne; rw [goT_nil]; rfl
    · by_cases hs : (step a).e = 0
      · have hle := step_le hne hs
        rw [goT_good hf hne hs] at he ⊢
        have hs2 := step_more t hne hs
        rw [goT_good hg (by simp) (by rw [hs2]; exact hs), hs2, drop_more hle.2]
        rw [List.length_append] at hg
        rw [ih (a.drop (step a).n) t f g _ _ (by rw [List.length_drop]; omega) (by rw [List.length_drop]; omega) (by rw [List.length_append, List.length_drop]; omega) he]
        congr 1
        rw [List.length_drop]; omega
      · rw [goT_bad hf hne hs] at he; exact absurd he hs
theorem cutT_join {a t : List UInt8} (h : (cutT a).2.2 = 0) :
    cutT (a ++ 60 :: t) = if (cutT (60 :: t)).2.2 = 0 then ((cutT a).1 ++ (cutT (60 :: t)).1.map (mv a.length), (cutT (60 :: t)).2.1, 0) else ([], a.length + (cutT (60 :: t)).2.1, (cutT (60 :: t)).2.2) := by
  unfold cutT at h ⊢
  rw [goT_behind a.length a t a.length _ 0 [] (Nat.le_refl _) (Nat.le_refl _) (Nat.le_refl _) h]
  rw [goT_more _ (60 :: t).length (60 :: t) (0 + a.length) _ (by rw [List.length_append]; omega) (Nat.le_refl _)]
  have h1 := goT_shift (60 :: t).length (60 :: t) 0 a.length []
  rw [List.map_nil] at h1
  have h2 := goT_acc (60 :: t).length (60 :: t) (0 + a.length) (goT a.length a 0 []).1 []
  rw [List.append_nil] at h2
  rw [h2, h1]
  by_cases he : (goT (60 :: t).length (60 :: t) 0 []).2.2 = 0
  · rw [if_pos he, if_pos he, if_pos rfl]
  · rw [if_neg he, if_neg he]
    simp only
    rw [if_neg he, Nat.add_comm]
theorem cutT_ok {l : List UInt8} : (cutT l).2.2 = 0 → (cutT l).2.1 = 0 := by
  have key : ∀ (f : Nat) (l : List UInt8) (at_ : Nat) (acc : List T), (goT f l at_ acc).2.2 = 0 → (goT f l at_ acc).2.1 = 0 := by
    intro f
    induction f with
    | zero => intro l at_ acc _; rfl
    | succ f ih =>
      intro l at_ acc h
      unfold goT at h ⊢
      split
      · rfl
      · split
        · rename_i h1 h2; rw [if_neg h1, if_pos h2] at h; exact absurd h h2
        · rename_i h1 h2; rw [if_neg h1, if_neg h2] at h; exact ih _ _ _ h
  exact key _ _ _ _
theorem toks_of {l : List UInt8} (h : l.length ≤ 65536) (hv : (U8.lead l).2 = l.length) : toks l = cutT l := by
  unfold toks; rw [if_neg (by omega), if_neg (by rw [hv]; simp)]
theorem toks_join {a t : List UInt8} (ha : (U8.lead a).2 = a.length) (hb : (U8.lead (60 :: t)).2 = (60 :: t).length) (hl : a.length + (60 :: t).length ≤ 65536) (h : (toks a).2.2 = 0) :
    toks (a ++ 60 :: t) = if (toks (60 :: t)).2.2 = 0 then ((toks a).1 ++ (toks (60 :: t)).1.map (mv a.length), 0, 0) else ([], a.length + (toks (60 :: t)).2.1, (toks (60 :: t)).2.2) := by
  have hv : (U8.lead (a ++ 60 :: t)).2 = (a ++ 60 :: t).length := by
    rw [U8.lead_append _ _ _ (Nat.le_refl _) ha, List.length_append, ← hb]
  rw [toks_of (by rw [List.length_append]; omega) hv, toks_of (by omega) hb, toks_of (by omega) ha]
  rw [toks_of (by omega) ha] at h
  rw [cutT_join h]
  split
  · rename_i h2; rw [cutT_ok h2]
  · rfl
end Go.Proofs.YtgidpcfaeekjhaaGreatDoor.Tk
namespace Go.Proofs.YtgidpcfaeekjhaaGreatDoor.Tk
open Go

theorem goes_place {F : En.Piece} (hF : En.Moves F) : ∀ (f : Nat) (l out : List UInt8) (at_ : Nat), (En.goes F f l out at_).2.1 ≤ at_ + l.length
  | 0, l, out, at_ => by cases l <;> simp [En.goes]
  | f + 1, l, out, at_ => by
    by_cases hne : l = []
    · subst hne; rw [En.goes_nil]; simp
    · by_cases hz : (F l).2.2 = 0
      · by_cases hf : l.length ≤ f + 1
        · rw [En.goes_good hF hf hne hz, En.goes_more hF (f + 1) f _ _ _ (by have := hF l hne hz; rw [List.length_drop]; omega) (by have := hF l hne hz; rw [List.length_drop]; omega)]
          have := goes_place hF f (l.drop (F l).2.1) (out ++ (F l).1) (at_ + (F l).2.1)
          have h2 := hF l hne hz
          rw [List.length_drop] at this; omega
        · unfold En.goes
          simp only [hne, hz, if_false, ne_eq, not_true_eq_false]
          have h2 := hF l hne hz
          have := goes_place hF f (l.drop (F l).2.1) (out ++ (F l).1) (at_ + (F l).2.1)
          rw [List.length_drop] at this
          omega
      · unfold En.goes
        simp only [hne, hz, if_false, if_true, ne_eq, not_false_eq_true]
        omega
theorem rep_place {F : En.Piece} (hF : En.Moves F) (l : List UInt8) : (En.rep F l).2.1 ≤ l.length := by
  have := goes_place hF l.length l [] 0
  unfold En.rep; omega
theorem qv_len (l : List UInt8) (h : (qv l).2 ≠ 0) : (qv l).1.length + 2 ≤ (qv l).2 := by
  cases l with
  | nil => exact absurd rfl h
  | cons q r =>
    unfold qv at h ⊢
    simp only at h ⊢
    split
    · rename_i h1
      rw [if_pos h1] at h
      split
      · rename_i h2; rw [if_pos h2] at h; exact absurd rfl h
      · rename_i h2
        rw [if_neg h2] at h
        split
        · rename_i h3; rw [if_pos h3] at h; exact absurd rfl h
        · simp only [List.length_take]; omega
    · rename_i h1; rw [if_neg h1] at h; exact absurd rfl h
theorem at1_place (l : List UInt8) (h : (at1 l).2 ≠ 0) : (at1 l).1.p + (at1 l).1.vl.length ≤ (at1 l).2 := by
  unfold at1 at h ⊢
  split
  · rename_i h1; rw [if_pos h1] at h; exact absurd rfl h
  · rename_i h1
    rw [if_neg h1] at h
    simp only at h ⊢
    split
    · rename_i h2; rw [if_pos h2] at h; exact absurd rfl h
    · rename_i h2
      have := qv_len _ h2
      simp only; omega
theorem ats_place : ∀ (f : Nat) (l : List UInt8) (i : Nat) (acc : List A) (L : Nat), i + l.length ≤ L → (∀ a ∈ acc, a.p + a.vl.length ≤ L) → ∀ a ∈ (ats f l i acc).1, a.p + a.vl.length ≤ L
  | 0, _, _, _, _, _, _ => fun a h => by cases h
  | f + 1, l, i, acc, L, hl, hacc => by
    have h4 := bl_le l
    have h3 := at1_le (l.drop (bl l))
    rw [List.length_drop] at h3
    unfold ats
    simp only
    split
    · exact hacc
    · split
      · exact hacc
      · split
        · intro a h; cases h
        · rename_i h
          have hz : (at1 (l.drop (bl l))).2 ≠ 0 := fun e => h (Or.inr e)
          have hp := at1_place _ hz
          refine ats_place f _ _ _ L (by simp only [List.length_drop]; omega) fun a ha => ?_
          rw [List.mem_append] at ha
          rcases ha with ha | ha
          · exact hacc a ha
          · simp only [List.mem_singleton] at ha
            subst ha
            unfold sh; simp only; omega
theorem rdA_place : ∀ (as : List A) (acc : List (List UInt8 × List UInt8)) (L : Nat), (∀ a ∈ as, a.p + a.vl.length ≤ L) → (rdA as acc).2.1 ≤ L
  | [], _, _, _ => Nat.zero_le _
  | a :: r, acc, L, h => by
    unfold rdA
    split
    · have h1 := h a (List.mem_cons_self ..)
      have h2 := rep_place En.moves_dF a.vl
      simp only; omega
    · exact rdA_place r _ L fun b hb => h b (List.mem_cons_of_mem _ hb)
theorem rdA_len : ∀ (as : List A) (acc : List (List UInt8 × List UInt8)), (rdA as acc).2.2 = 0 → (rdA as acc).1.length = acc.length + as.length
  | [], _, _ => rfl
  | a :: r, acc, h => by
    unfold rdA at h ⊢
    split
    · rename_i h1; rw [if_pos h1] at h; exact absurd h h1
    · rename_i h1
      rw [if_neg h1] at h
      rw [rdA_len r _ h]
      simp only [List.length_append, List.length_cons, List.length_nil]; omega
theorem ats_kind : ∀ (f : Nat) (l : List UInt8) (i : Nat) (acc : List A), (ats f l i acc).2.2 = 0 ∨ (ats f l i acc).2.2 = 1 ∨ (ats f l i acc).2.2 = 3
  | 0, _, _, _ => Or.inl rfl
  | f + 1, l, i, acc => by
    unfold ats
    simp only
    split
    · exact Or.inr (Or.inl rfl)
    · split
      · exact Or.inr (Or.inr rfl)
      · split
        · exact Or.inl rfl
        · exact ats_kind f _ _ _
theorem tagO_kind (l : List UInt8) : (tagO l).2.2 = 0 ∨ (tagO l).2.2 = 1 ∨ (tagO l).2.2 = 3 := by
  unfold tagO
  split
  · exact Or.inl rfl
  · exact ats_kind _ _ _ _
theorem tagO_place (l : List UInt8) : ∀ a ∈ (tagO l).1, a.p + a.vl.length ≤ l.length := by
  unfold tagO
  have h := Nm.bg_le (l.drop 1)
  rw [List.length_drop] at h
  split
  · intro a h; cases h
  · exact ats_place _ _ _ _ _ (by rw [List.length_drop]; omega) (fun a h => by cases h)
theorem step_place {l : List UInt8} (h : (step l).e ≠ 0) : (step l).n ≤ l.length := by
  unfold step at h ⊢
  split
  · rename_i h1
    rw [if_pos h1] at h
    unfold txt at h ⊢
    split
    · have := rep_place En.moves_dF (l.take (upto l))
      rw [List.length_take] at this
      simp only [bad]; omega
    · rename_i h2; rw [if_neg h2] at h; exact absurd rfl h
  · rename_i h1
    rw [if_neg h1] at h
    split
    · rename_i h2; rw [if_pos h2] at h; exact absurd rfl h
    · rename_i h2
      rw [if_neg h2] at h
      split
      · rename_i h3
        rw [if_pos h3] at h
        unfold cls at h ⊢
        split
        · exact Nat.zero_le _
        · rename_i h4; rw [if_neg h4] at h; exact absurd rfl h
      · rename_i h3
        rw [if_neg h3] at h
        unfold opn at h ⊢
        split
        · exact Nat.zero_le _
        · rename_i h4
          rw [if_neg h4] at h
          split
          · exact rdA_place _ _ _ (tagO_place l)
          · rename_i h5
            rw [if_neg h5] at h
            split
            · exact Nat.zero_le _
            · rename_i h6; rw [if_neg h6] at h; exact absurd rfl h
/-- What a token has. -/
def OkT (lt : Bool) (t : T) : Prop := (lt = true ↔ t.k ≠ 4) ∧ 1 ≤ t.k ∧ t.k ≤ 4 ∧ (t.nm = [] ↔ t.k = 4) ∧ t.as.length ≤ 32 ∧ (t.as ≠ [] → t.k = 1 ∨ t.k = 3)
theorem take_ne {l : List UInt8} {n : Nat} (hn : n ≠ 0) (h : n ≤ l.length) : l.take n ≠ [] := fun e => by
  have := congrArg List.length e
  rw [List.length_take, List.length_nil] at this; omega
theorem step_tok {l : List UInt8} (h : (step l).e = 0) {t : T} (ht : (step l).t = some t) : OkT (l.head? == some 60) t := by
  unfold step at h ht
  split at h
  · rename_i h1
    rw [if_pos h1] at ht
    unfold txt at h ht
    split at h
    · rename_i h2; exact absurd h h2
    · rename_i h2
      rw [if_neg h2] at ht
      simp only [Option.some.injEq] at ht
      subst ht
      refine ⟨⟨fun e => absurd (by simpa using e) h1, fun e => absurd rfl e⟩, by simp only; omega, by simp only; omega, ⟨fun _ => rfl, fun _ => rfl⟩, by simp, fun e => absurd rfl e⟩
  · rename_i h1
    have h60 : (l.head? == some 60) = true := by
      rw [beq_iff_eq]; exact Classical.byContradiction h1
    rw [if_neg h1] at ht
    split at h
    · rename_i h2; rw [if_pos h2] at ht; cases ht
    · rename_i h2
      rw [if_neg h2] at ht
      split at h
      · rename_i h3
        rw [if_pos h3] at ht
        unfold cls at h ht
        split at h
        · cases h
        · rename_i h4
          rw [if_neg h4] at ht
          simp only [Option.some.injEq] at ht
          subst ht
          have hb : Nm.bg (l.drop 2) ≠ 0 := fun e => h4 (Or.inl e)
          refine ⟨⟨fun _ => by simp only; omega, fun _ => h60⟩, by simp only; omega, by simp only; omega, ⟨fun e => absurd e (take_ne hb (Nm.bg_le _).1), fun e => by simp only at e; omega⟩, by simp, fun e => absurd rfl e⟩
      · rename_i h3
        rw [if_neg h3] at ht
        obtain ⟨hb, hk, hr, hl, ho⟩ := opn_ok h
        rw [ho] at ht
        simp only [Option.some.injEq] at ht
        subst ht
        have hlen := rdA_len _ _ hr
        simp only [List.length_nil, Nat.zero_add] at hlen
        have hkind := tagO_kind l
        refine ⟨⟨fun _ => by simp only; omega, fun _ => h60⟩, by simp only; omega, by simp only; omega, ⟨fun e => absurd e (take_ne hb (Nm.bg_le _).1), fun e => ?_⟩, by simp only; omega, fun _ => by simp only; omega⟩
        simp only at e; omega
def Ord (L : List UInt8) (at_ : Nat) (ts : List T) : Prop := (∀ t ∈ ts, OkT (L[t.p]? == some 60) t ∧ t.p < at_) ∧ ts.Pairwise (fun a b => a.p < b.p)
theorem goT_ord (L : List UInt8) : ∀ (f : Nat) (l : List UInt8) (at_ : Nat) (acc : List T), L.drop at_ = l → at_ ≤ L.length → l.length ≤ f → Ord L at_ acc →
    ((goT f l at_ acc).2.2 = 0 → Ord L L.length (goT f l at_ acc).1) ∧ ((goT f l at_ acc).2.2 ≠ 0 → (goT f l at_ acc).1 = [] ∧ (goT f l at_ acc).2.1 ≤ L.length) := by
  intro f
  induction f with
  | zero =>
    intro l at_ acc hl ha hf ho
    refine ⟨fun _ => ⟨fun t ht => ⟨(ho.1 t ht).1, by have := (ho.1 t ht).2; omega⟩, ho.2⟩, fun h => absurd rfl h⟩
  | succ f ih =>
    intro l at_ acc hl ha hf ho
    by_cases hne : l = []
    · subst hne
      rw [goT_nil]
      refine ⟨fun _ => ⟨fun t ht => ⟨(ho.1 t ht).1, by have := (ho.1 t ht).2; simp only at *; omega⟩, ho.2⟩, fun h => absurd rfl h⟩
    · have hlen : l.length = L.length - at_ := by rw [← hl, List.length_drop]
      by_cases hs : (step l).e = 0
      · have hle := step_le hne hs
        rw [goT_good hf hne hs, goT_more (f + 1) f _ _ _ (by rw [List.length_drop]; omega) (by rw [List.length_drop]; omega)]
        refine ih _ _ _ (by rw [← hl, List.drop_drop]) (by omega) (by rw [List.length_drop]; omega) ?_
        unfold put1
        cases e : (step l).t with
        | none => exact ⟨fun t ht => ⟨(ho.1 t ht).1, by have := (ho.1 t ht).2; omega⟩, ho.2⟩
        | some t =>
          have hk := step_tok hs e
          have hh : l.head? = L[at_]? := by rw [← hl, List.head?_drop]
          simp only
          refine ⟨fun u hu => ?_, ?_⟩
          · rw [List.mem_append] at hu
            rcases hu with hu | hu
            · exact ⟨(ho.1 u hu).1, by have := (ho.1 u hu).2; omega⟩
            · simp only [List.mem_singleton] at hu
              subst hu
              rw [hh] at hk
              exact ⟨hk, by simp only; omega⟩
          · rw [List.pairwise_append]
            refine ⟨ho.2, by simp, fun a ha b hb => ?_⟩
            simp only [List.mem_singleton] at hb
            subst hb
            exact (ho.1 a ha).2
      · rw [goT_bad hf hne hs]
        have := step_place hs
        exact ⟨fun h => absurd h hs, fun _ => ⟨rfl, by simp only; omega⟩⟩
theorem toks_ord (L : List UInt8) : ((toks L).2.2 = 0 → (Ord L L.length (toks L).1 ∧ (toks L).2.1 = 0)) ∧ ((toks L).2.2 ≠ 0 → (toks L).1 = [] ∧ (toks L).2.1 ≤ L.length) := by
  unfold toks
  split
  · exact ⟨fun h => (by cases h), fun _ => ⟨rfl, Nat.zero_le _⟩⟩
  · split
    · exact ⟨fun h => (by cases h), fun _ => ⟨rfl, (U8.lead_le _ L (Nat.le_refl _)).2⟩⟩
    · have := goT_ord L L.length L 0 [] rfl (Nat.zero_le _) (Nat.le_refl _) ⟨fun t ht => (by cases ht), List.Pairwise.nil⟩
      exact ⟨fun h => ⟨this.1 h, cutT_ok h⟩, this.2⟩
end Go.Proofs.YtgidpcfaeekjhaaGreatDoor.Tk
namespace Go.Proofs.YtgidpcfaeekjhaaGreatDoor.Tk
open Go

/-- An attribute, a blank ahead, as it is written. -/
def aw (a : List UInt8 × List UInt8) : List UInt8 := 32 :: (a.1 ++ 61 :: 34 :: (En.encB true a.2 ++ [34]))
def asw (as : List (List UInt8 × List UInt8)) : List UInt8 := as.flatMap aw
theorem asw_cons (a : List UInt8 × List UInt8) (as : List (List UInt8 × List UInt8)) : asw (a :: as) = aw a ++ asw as := rfl
theorem asw_snoc (as : List (List UInt8 × List UInt8)) (a : List UInt8 × List UInt8) : asw (as ++ [a]) = asw as ++ aw a := by
  unfold asw; rw [List.flatMap_append]; simp
theorem aw_len (a : List UInt8 × List UInt8) : (aw a).length = a.1.length + (En.encB true a.2).length + 4 := by
  unfold aw; simp only [List.length_cons, List.length_append, List.length_nil]; omega
def okA (a : List UInt8 × List UInt8) : Prop := Nm.isn a.1 = true ∧ En.validL a.2
theorem let_head {n : List UInt8} (h : Nm.isn n = true) : ∃ c r, n = c :: r ∧ Nm.letZ (Nm.z c) = true := by
  have := bg_head (l := n) (by rw [Nm.bg_self h]; have := Nm.isn_len h; omega)
  exact this
theorem bl_let {n t : List UInt8} (h : Nm.isn n = true) : bl (n ++ t) = 0 := by
  obtain ⟨c, r, rfl, hc⟩ := let_head h
  rw [List.cons_append]; unfold bl; rw [(let_ne hc).2.2.2.2.2]; rfl
theorem enc_no {attr : Bool} {v : List UInt8} {c : UInt8} (hc : En.good attr c = false) : Lib.indexByte (En.encB attr v) c = -1 := by
  rcases En.idx_cases (En.encB attr v) c with h | ⟨j, h⟩
  · exact h
  · exfalso
    have hl := En.idx_lt h
    have h1 := (Lib.indexByte_some h).1
    have := En.encB_good attr v
    rw [List.all_eq_true] at this
    have h2 := this c (List.mem_of_getElem? h1)
    rw [hc] at h2; cases h2
theorem qv_w (v t : List UInt8) : qv (34 :: (En.encB true v ++ 34 :: t)) = (En.encB true v, (En.encB true v).length + 2) := by
  have hj : Lib.indexByte (En.encB true v ++ 34 :: t) 34 = (En.encB true v).length := by
    refine En.idx_of (by simp) fun k hk => ?_
    rw [List.getElem?_append_left hk]
    exact Lib.indexByte_none (enc_no (by decide)) k
  have := qv_hit (q := 34) (Or.inl rfl) hj (by rw [List.take_left]; exact enc_no (by decide))
  rw [this, List.take_left]
theorem at1_w {n v t : List UInt8} (h : Nm.isn n = true) : at1 (n ++ 61 :: 34 :: (En.encB true v ++ 34 :: t)) = (⟨n, En.encB true v, n.length + 2⟩, n.length + (En.encB true v).length + 3) := by
  have hb : Nm.bg (n ++ 61 :: 34 :: (En.encB true v ++ 34 :: t)) = n.length := Nm.bg_behind h (by decide) (by decide)
  have hlen := Nm.isn_len h
  have h1 : (n ++ 61 :: 34 :: (En.encB true v ++ 34 :: t)).drop (n.length + 1) = 34 :: (En.encB true v ++ 34 :: t) := by
    rw [← List.drop_drop, List.drop_left]; rfl
  rw [at1_val (n := n.length) (i := n.length) (j := n.length + 1) hb (by omega) (by rw [List.drop_left]; rfl) (by rw [List.drop_left]; rfl) (by rw [h1]; rfl), h1, qv_w, List.take_left]
  simp only
  rw [if_neg (by omega)]
  congr 1; omega
/-- The attributes as they stand, from place i on. -/
def pl : Nat → List (List UInt8 × List UInt8) → List A
  | _, [] => []
  | i, a :: r => ⟨a.1, En.encB true a.2, i + a.1.length + 3⟩ :: pl (i + (aw a).length) r
theorem ats_w (e r : List UInt8) (k : Int) (he : (e = [62] ∧ k = 1) ∨ (e = [47, 62] ∧ k = 3)) : ∀ (as : List (List UInt8 × List UInt8)) (f i : Nat) (acc : List A), (∀ a ∈ as, okA a) → (asw as ++ (e ++ r)).length < f →
    ats f (asw as ++ (e ++ r)) i acc = (acc ++ pl i as, i + (asw as).length + e.length, k)
  | [], f, i, acc, _, hf => by
    show ats f (e ++ r) i acc = _
    have hb : bl (e ++ r) = 0 := by rcases he with ⟨rfl, _⟩ | ⟨rfl, _⟩ <;> rfl
    rw [ats_fin (by simpa [asw] using hf) (Or.inl hb), hb]
    rcases he with ⟨rfl, rfl⟩ | ⟨rfl, rfl⟩
    · unfold fin; simp [pl, asw]
    · unfold fin; simp [pl, asw]
  | a :: as, f, i, acc, h, hf => by
    have ha := h a (by simp)
    obtain ⟨hn, hv⟩ := ha
    have hb : bl (asw (a :: as) ++ (e ++ r)) = 1 := by
      rw [asw_cons]; unfold aw
      simp only [List.cons_append, List.append_assoc]
      unfold bl
      have : isB 32 = true := by decide
      rw [this]
      simp only [if_true]
      rw [bl_let hn]
    have hd : (asw (a :: as) ++ (e ++ r)).drop 1 = a.1 ++ 61 :: 34 :: (En.encB true a.2 ++ 34 :: (asw as ++ (e ++ r))) := by
      rw [asw_cons]; unfold aw
      simp only [List.cons_append, List.append_assoc, List.nil_append, List.drop_succ_cons, List.drop_zero]
    have h1 := at1_w (n := a.1) (v := a.2) (t := asw as ++ (e ++ r)) hn
    rw [ats_good hf (by rw [hb]; decide) (by rw [hb, hd, h1]; simp only; omega), hb, hd, h1]
    simp only
    have hd2 : (a.1 ++ 61 :: 34 :: (En.encB true a.2 ++ 34 :: (asw as ++ (e ++ r)))).drop (a.1.length + (En.encB true a.2).length + 3) = asw as ++ (e ++ r) := by
      have e1 : a.1 ++ 61 :: 34 :: (En.encB true a.2 ++ 34 :: (asw as ++ (e ++ r))) = (a.1 ++ 61 :: 34 :: (En.encB true a.2 ++ [34])) ++ (asw as ++ (e ++ r)) := by simp
      rw [e1]
      have e2 : a.1.length + (En.encB true a.2).length + 3 = (a.1 ++ 61 :: 34 :: (En.encB true a.2 ++ [34])).length := by simp only [List.length_append, List.length_cons, List.length_nil]; omega
      rw [e2, List.drop_left]
    rw [hd2, ats_w e r k he as f _ _ (fun x hx => h x (by simp [hx])) (by rw [asw_cons, List.append_assoc, List.length_append] at hf; omega)]
    have hl := aw_len a
    rw [asw_cons]
    simp only [List.length_append, Prod.mk.injEq, and_true]
    refine ⟨?_, by omega⟩
    rw [List.append_assoc]
    congr 1
    show sh _ _ :: pl _ _ = pl i (a :: as)
    unfold sh
    conv => rhs; unfold pl
    simp only
    rw [show a.1.length + 2 + (i + 1) = i + a.1.length + 3 by omega, show i + 1 + (a.1.length + (En.encB true a.2).length + 3) = i + (aw a).length by omega]
theorem pl_len : ∀ (as : List (List UInt8 × List UInt8)) (i : Nat), (pl i as).length = as.length
  | [], _ => rfl
  | a :: as, i => by unfold pl; rw [List.length_cons, pl_len as, List.length_cons]
theorem rep_enc {attr : Bool} {v : List UInt8} (h : En.validL v) : En.rep En.dF (En.encB attr v) = (v, 0, 0) := by
  have h1 := En.rep_eF_of (attr := attr) h
  have := En.dec_enc (attr := attr) (l := v) (by rw [h1])
  rw [h1] at this; exact this
theorem rdA_w : ∀ (as : List (List UInt8 × List UInt8)) (i : Nat) (acc : List (List UInt8 × List UInt8)), (∀ a ∈ as, okA a) → rdA (pl i as) acc = (acc ++ as, 0, 0)
  | [], _, acc, _ => by simp [pl, rdA]
  | a :: as, i, acc, h => by
    have ha := h a (by simp)
    unfold pl rdA
    simp only
    rw [rep_enc ha.2, if_neg (by simp)]
    simp only
    rw [rdA_w as _ _ (fun x hx => h x (by simp [hx]))]
    simp
theorem no_rem {c : UInt8} {t : List UInt8} (h1 : c ≠ 33) (h2 : c ≠ 63) : rem (60 :: c :: t) = 0 := by
  rcases Nat.eq_zero_or_pos (rem (60 :: c :: t)) with h | h
  · exact h
  · have := rem_second (l := 60 :: c :: t) (by omega)
    simp at this
    rcases this with e | e
    · exact absurd e h1
    · exact absurd e h2
/-- AN OPENING TAG. -/
theorem step_open {nm e r : List UInt8} {as : List (List UInt8 × List UInt8)} {k : Int} (hn : Nm.isn nm = true) (h : ∀ a ∈ as, okA a) (h32 : as.length ≤ 32) (he : (e = [62] ∧ k = 1) ∨ (e = [47, 62] ∧ k = 3)) :
    step (60 :: (nm ++ (asw as ++ (e ++ r)))) = ⟨some ⟨k, nm, as, [], 0⟩, 1 + nm.length + (asw as).length + e.length, 0⟩ := by
  obtain ⟨c, t, e1, hc⟩ := let_head hn
  have hcn := let_ne hc
  have hb : Nm.bg (nm ++ (asw as ++ (e ++ r))) = nm.length := by
    cases as with
    | nil =>
      rcases he with ⟨rfl, _⟩ | ⟨rfl, _⟩
      · exact Nm.bg_behind (t := r) hn (by decide) (by decide)
      · exact Nm.bg_behind (t := 62 :: r) hn (by decide) (by decide)
    | cons a as =>
      rw [asw_cons]; unfold aw
      exact Nm.bg_behind hn (by decide) (by decide)
  have hlen := Nm.isn_len hn
  have hT : tagO (60 :: (nm ++ (asw as ++ (e ++ r)))) = (pl (1 + nm.length) as, 1 + nm.length + (asw as).length + e.length, k) := by
    unfold tagO
    simp only [List.drop_succ_cons, List.drop_zero]
    rw [hb, if_neg (by omega), show 1 + nm.length = nm.length + 1 by omega, List.drop_succ_cons, List.drop_left]
    rw [ats_w e r k he as _ _ _ h (by simp only [List.length_append, List.length_cons]; omega)]
    simp
  have hO : opn (60 :: (nm ++ (asw as ++ (e ++ r)))) = ⟨some ⟨k, nm, as, [], 0⟩, 1 + nm.length + (asw as).length + e.length, 0⟩ := by
    unfold opn
    rw [hT]
    simp only
    rw [rdA_w as _ _ h, if_neg (by rcases he with ⟨_, rfl⟩ | ⟨_, rfl⟩ <;> decide), if_neg (by simp), if_neg (by rw [pl_len]; omega)]
    simp only [List.drop_succ_cons, List.drop_zero, List.nil_append]
    rw [hb, List.take_left]
  unfold step
  rw [if_neg (by simp)]
  have hr : rem (60 :: (nm ++ (asw as ++ (e ++ r)))) = 0 := by rw [e1]; exact no_rem hcn.2.2.1 hcn.2.2.2.1
  rw [hr, if_neg (by omega), if_neg, hO]
  intro h2
  have := hp2_second h2
  rw [e1] at this
  simp at this
  exact hcn.2.1 this
/-- A CLOSING TAG. -/
theorem step_close {nm r : List UInt8} (hn : Nm.isn nm = true) : step (60 :: 47 :: (nm ++ 62 :: r)) = ⟨some ⟨2, nm, [], [], 0⟩, nm.length + 3, 0⟩ := by
  have hb : Nm.bg (nm ++ 62 :: r) = nm.length := Nm.bg_behind hn (by decide) (by decide)
  have hlen := Nm.isn_len hn
  unfold step
  rw [if_neg (by simp), no_rem (by decide) (by decide), if_neg (by omega), if_pos (by rw [hp_iff]; rfl)]
  unfold cls
  simp only [List.drop_succ_cons, List.drop_zero]
  rw [hb, show 2 + nm.length = nm.length + 1 + 1 by omega, List.drop_succ_cons, List.drop_succ_cons, List.drop_left]
  have h0 : bl (62 :: r) = 0 := rfl
  rw [h0, Nat.add_zero, List.drop_succ_cons, List.drop_succ_cons, List.drop_left, if_neg (by rintro (h | h); omega; exact h rfl), List.take_left]
/-- A REMARK. -/
def rmk : List UInt8 := [60, 33, 45, 45, 32, 60, 97, 62, 32, 45, 45, 32, 38, 32, 45, 45, 62]
theorem step_rmk (r : List UInt8) : step (rmk ++ r) = ⟨none, 17, 0⟩ := by
  have h1 : rem rmk = 17 := by decide
  have h2 : rem (rmk ++ r) = 17 := by rw [rem_more r (by omega)]; exact h1
  unfold step
  rw [if_neg (by simp [rmk]), h2]; rfl
/-- A TEXT. -/
theorem step_text {v r : List UInt8} (hv : En.validL v) (hne : En.encB false v ≠ []) (hr : r = [] ∨ r.head? = some 60) : step (En.encB false v ++ r) = ⟨some ⟨4, [], [], v, 0⟩, (En.encB false v).length, 0⟩ := by
  have hn : Lib.indexByte (En.encB false v) 60 = -1 := enc_no (by decide)
  have hh : (En.encB false v ++ r).head? ≠ some 60 := by
    cases e : En.encB false v with
    | nil => exact absurd e hne
    | cons a t =>
      rw [e] at hn
      have := Lib.indexByte_none hn 0
      simpa using this
  have hu : upto (En.encB false v ++ r) = (En.encB false v).length := by
    unfold upto
    rcases hr with rfl | hr
    · rw [List.append_nil, hn, if_pos rfl]
    · have : Lib.indexByte (En.encB false v ++ r) 60 = (En.encB false v).length := by
        refine En.idx_of ?_ fun k hk => ?_
        · rw [List.getElem?_append_right (Nat.le_refl _), Nat.sub_self, ← List.head?_eq_getElem?]; exact hr
        · rw [List.getElem?_append_left hk]; exact Lib.indexByte_none hn k
      rw [this, if_neg (by omega)]; simp
  unfold step
  rw [if_pos hh]
  unfold txt
  rw [hu, List.take_left, rep_enc hv, if_neg (by simp)]

/-! ### parts, one behind the other -/
theorem validL_append {a b : List UInt8} (ha : En.validL a) (hb : En.validL b) : En.validL (a ++ b) := by
  unfold En.validL at *
  rw [U8.lead_append a.length a b (Nat.le_refl _) ha, List.length_append, hb]
theorem validL_ascii : ∀ l : List UInt8, (∀ b ∈ l, 32 ≤ b.toNat ∧ b.toNat ≤ 127) → En.validL l
  | [], _ => En.validL_nil
  | b :: l, h => by
    have hb := h b (by simp)
    have hc : U8.isCh (b.toNat : Int) = true := by
      unfold U8.isCh
      simp only [decide_eq_true_eq]
      omega
    have := En.validL_put hc (validL_ascii l fun x hx => h x (by simp [hx]))
    rw [En.put_low hc (by omega)] at this
    have e : U8.toB (b.toNat : Int) = b := by
      apply UInt8.toNat.inj
      have := U8.toB_nat (x := (b.toNat : Int)) (by omega) (by omega)
      omega
    rw [e] at this; exact this
theorem validL_name {n : List UInt8} (h : Nm.isn n = true) : En.validL n := by
  refine validL_ascii n fun b hb => ?_
  obtain ⟨k, hk⟩ := List.getElem?_of_mem hb
  have := Nm.isn_bytes h hk
  rcases this with h1 | h1
  · rw [Nm.mayZ_iff] at h1; unfold Nm.z at h1; omega
  · subst h1; decide
theorem validL_enc {attr : Bool} {v : List UInt8} (h : En.validL v) : En.validL (En.encB attr v) := by
  have h0 := En.rep_eF_of (attr := attr) h
  have := En.rep_ind (En.moves_eF attr) (Q := fun _ w => En.validL w) En.validL_nil (fun l q hne hz _ hq => ?_) v.length v (Nat.le_refl _) (by rw [h0])
  · rw [h0] at this; exact this
  · have hok := U8.nx_ok hne (show (U8.nx l).2.2 = 0 from hz)
    show En.validL (En.wr attr (U8.nx l).1 ++ q)
    refine validL_append ?_ hq
    unfold En.wr
    repeat' split
    all_goals first
      | exact validL_ascii _ (by decide)
      | (have := En.validL_put hok.1 En.validL_nil; rw [List.append_nil] at this; exact this)
instance (l : List UInt8) : Decidable (En.validL l) := inferInstanceAs (Decidable ((U8.lead l).2 = l.length))
structure P where
  k : Nat
  nm : List UInt8
  as : List (List UInt8 × List UInt8)
  tx : List UInt8
  rm : Bool
def okAB (a : List UInt8 × List UInt8) : Bool := Nm.isn a.1 && decide ((En.rep (En.eF true) a.2).2.2 = 0)
theorem okAB_iff {a : List UInt8 × List UInt8} : okAB a = true ↔ okA a := by
  unfold okAB okA
  rw [Bool.and_eq_true, decide_eq_true_iff]
  exact ⟨fun h => ⟨h.1, (En.rep_eF_ok h.2).1⟩, fun h => ⟨h.1, by rw [En.rep_eF_of h.2]⟩⟩
/-- A part as it is written, and the token that it is; none: it is none. -/
def chunk (p : P) : Option (List UInt8 × T) :=
  if p.k = 0 then (if (En.rep (En.eF false) p.tx).2.2 = 0 ∧ (En.rep (En.eF false) p.tx).1 ≠ [] then some ((En.rep (En.eF false) p.tx).1, ⟨4, [], [], p.tx, 0⟩) else none)
  else if Nm.isn p.nm = false then none
  else if p.k = 2 then some (60 :: 47 :: (p.nm ++ [62]), ⟨2, p.nm, [], [], 0⟩)
  else if p.as.all okAB = false ∨ 32 < p.as.length then none
  else some (60 :: (p.nm ++ (asw p.as ++ if p.k = 3 then [47, 62] else [62])), ⟨if p.k = 3 then 3 else 1, p.nm, p.as, [], 0⟩)
/-- What is written so far, its tokens, and: is the last of them a text? -/
def bk1 (st : List UInt8 × List T × Bool) (p : P) : List UInt8 × List T × Bool :=
  match chunk p with
  | none => st
  | some (t, x) =>
    if x.k = 4 ∧ st.2.2 = true ∧ p.rm = false then st
    else if p.rm = true then (st.1 ++ rmk ++ t, st.2.1 ++ [⟨x.k, x.nm, x.as, x.tx, st.1.length + 17⟩], x.k == 4)
    else (st.1 ++ t, st.2.1 ++ [⟨x.k, x.nm, x.as, x.tx, st.1.length⟩], x.k == 4)
def bk (ps : List P) : List UInt8 × List T × Bool := ps.foldl bk1 ([], [], false)
theorem bk_snoc (ps : List P) (p : P) : bk (ps ++ [p]) = bk1 (bk ps) p := by unfold bk; rw [List.foldl_append]; rfl
def Cuts (s : List UInt8) (ts : List T) (tx : Bool) : Prop := ∀ r, (tx = true → r = [] ∨ r.head? = some 60) → ∀ f, (s ++ r).length ≤ f → goT f (s ++ r) 0 [] = goT f r s.length ts
theorem cuts_nil : Cuts [] [] false := fun _ _ _ _ => rfl
theorem cuts_more {s t : List UInt8} {ts : List T} {tx tx' : Bool} {o : Option T} (h : Cuts s ts tx) (hne : t ≠ []) (h60 : tx = true → t.head? = some 60)
    (hs : ∀ r, (tx' = true → r = [] ∨ r.head? = some 60) → step (t ++ r) = ⟨o, t.length, 0⟩) : Cuts (s ++ t) (put1 o s.length ts) tx' := by
  intro r hr f hf
  rw [List.append_assoc] at hf ⊢
  have hs1 := hs r hr
  have hne2 : t ++ r ≠ [] := by
    intro e; exact hne (List.append_eq_nil_iff.1 e).1
  rw [h (t ++ r) (fun e => Or.inr (by
    have := h60 e
    cases t with
    | nil => cases this
    | cons a b => exact this)) f hf]
  have hf2 : (t ++ r).length ≤ f := by rw [List.length_append] at hf; omega
  rw [goT_good hf2 hne2 (by rw [hs1]), hs1]
  simp only
  rw [List.drop_left, List.length_append]
/-- A chunk: how it is cut, that it is valid, how long it is. -/
theorem chunk_step {p : P} {t : List UInt8} {x : T} (h : chunk p = some (t, x)) : t ≠ [] ∧ (x.k ≠ 4 → t.head? = some 60) ∧ x.p = 0 ∧ En.validL t ∧
    ∀ r, ((x.k == 4) = true → r = [] ∨ r.head? = some 60) → step (t ++ r) = ⟨some x, t.length, 0⟩ := by
  unfold chunk at h
  split at h
  · split at h
    · rename_i h1
      obtain ⟨hv, he⟩ := En.rep_eF_ok h1.1
      have h2 := h1.2
      rw [he] at h2
      rw [he] at h
      simp only [Option.some.injEq, Prod.mk.injEq] at h
      obtain ⟨rfl, rfl⟩ := h
      exact ⟨h2, fun e => absurd rfl e, rfl, validL_enc hv, fun r hr => step_text hv h2 (hr rfl)⟩
    · cases h
  · split at h
    · cases h
    · rename_i hn
      have hn : Nm.isn p.nm = true := by simpa using hn
      split at h
      · simp only [Option.some.injEq, Prod.mk.injEq] at h
        obtain ⟨rfl, rfl⟩ := h
        refine ⟨by simp, fun _ => rfl, rfl, ?_, fun r _ => ?_⟩
        · exact validL_append (a := [60, 47]) (by decide) (validL_append (validL_name hn) (by decide))
        · have := step_close (r := r) hn
          simp only [List.cons_append, List.append_assoc, List.nil_append]
          rw [this]
          simp only [List.length_cons, List.length_append, List.length_nil]
      · split at h
        · cases h
        · rename_i ha
          have ha1 : ∀ a ∈ p.as, okA a := by
            have : p.as.all okAB = true := by
              cases e : p.as.all okAB with
              | true => rfl
              | false => exact absurd (Or.inl e) ha
            rw [List.all_eq_true] at this
            exact fun a h => okAB_iff.1 (this a h)
          have ha2 : p.as.length ≤ 32 := by
            rcases Nat.lt_or_ge 32 p.as.length with h | h
            · exact absurd (Or.inr h) ha
            · exact h
          have hva : En.validL (asw p.as) := by
            have : ∀ as : List (List UInt8 × List UInt8), (∀ a ∈ as, okA a) → En.validL (asw as) := by
              intro as
              induction as with
              | nil => intro _; exact En.validL_nil
              | cons a as ih =>
                intro h
                have h1 := h a (by simp)
                rw [asw_cons]
                refine validL_append ?_ (ih fun x hx => h x (by simp [hx]))
                unfold aw
                exact validL_append (a := [32]) (by decide) (validL_append (validL_name h1.1) (validL_append (a := [61, 34]) (by decide) (validL_append (validL_enc h1.2) (by decide))))
            exact this p.as ha1
          obtain ⟨e, k, he, hek⟩ : ∃ (e : List UInt8) (k : Int), ((e = [62] ∧ k = 1) ∨ (e = [47, 62] ∧ k = 3)) ∧ (if p.k = 3 then ([47, 62] : List UInt8) else [62]) = e ∧ (if p.k = 3 then (3 : Int) else 1) = k := by
            by_cases h3 : p.k = 3
            · exact ⟨[47, 62], 3, Or.inr ⟨rfl, rfl⟩, by rw [if_pos h3], by rw [if_pos h3]⟩
            · exact ⟨[62], 1, Or.inl ⟨rfl, rfl⟩, by rw [if_neg h3], by rw [if_neg h3]⟩
          rw [hek.1, hek.2] at h
          simp only [Option.some.injEq, Prod.mk.injEq] at h
          obtain ⟨rfl, rfl⟩ := h
          have hev : En.validL e := by rcases he with ⟨rfl, _⟩ | ⟨rfl, _⟩ <;> decide
          have hk4 : k ≠ 4 := by rcases he with ⟨_, rfl⟩ | ⟨_, rfl⟩ <;> decide
          refine ⟨by simp, fun _ => rfl, rfl, ?_, fun r _ => ?_⟩
          · exact validL_append (a := [60]) (by decide) (validL_append (validL_name hn) (validL_append hva hev))
          · have := step_open (r := r) hn ha1 ha2 he
            simp only [List.cons_append, List.append_assoc]
            rw [this]
            simp only [List.length_cons, List.length_append]
            congr 1; omega
def InvB (st : List UInt8 × List T × Bool) : Prop := Cuts st.1 st.2.1 st.2.2 ∧ En.validL st.1
theorem inv_bk1 {st : List UInt8 × List T × Bool} {p : P} (h : InvB st) : InvB (bk1 st p) := by
  unfold bk1
  split
  · exact h
  · rename_i t x hc
    obtain ⟨hne, h60, hx, hv, hs⟩ := chunk_step hc
    have hk : ∀ n : Nat, ∀ ts : List T, put1 (some x) n ts = ts ++ [⟨x.k, x.nm, x.as, x.tx, n⟩] := fun _ _ => rfl
    split
    · exact h
    · rename_i hno
      split
      · have h1 := cuts_more (t := rmk) (o := none) (tx' := false) h.1 (by decide) (fun _ => rfl) (fun r _ => step_rmk r)
        have h2 := cuts_more h1 hne (fun e => by cases e) hs
        rw [hk, List.length_append] at h2
        exact ⟨h2, validL_append (validL_append h.2 (by decide)) hv⟩
      · rename_i hrm
        have h2 := cuts_more h.1 hne (fun e => h60 fun e4 => hno ⟨e4, e, by simpa using hrm⟩) hs
        rw [hk] at h2
        exact ⟨h2, validL_append h.2 hv⟩
theorem inv_bk (ps : List P) : InvB (bk ps) := by
  have : ∀ (ps : List P) (st : List UInt8 × List T × Bool), InvB st → InvB (ps.foldl bk1 st) := by
    intro ps
    induction ps with
    | nil => intro st h; exact h
    | cons p ps ih => intro st h; exact ih _ (inv_bk1 h)
  exact this ps _ ⟨cuts_nil, En.validL_nil⟩
/-- WHAT IS WRITTEN IS CUT AS IT WAS. -/
theorem toks_bk (ps : List P) (hl : (bk ps).1.length ≤ 65536) : toks (bk ps).1 = ((bk ps).2.1, 0, 0) := by
  have h := inv_bk ps
  rw [toks_of hl h.2]
  unfold cutT
  have := h.1 [] (fun _ => Or.inl rfl) (bk ps).1.length (by simp)
  rw [List.append_nil] at this
  rw [this, goT_nil]
/-! ### how long it is -/
theorem wrB_len (attr : Bool) (b : UInt8) : (En.wrB attr b).length ≤ 6 := by
  unfold En.wrB; repeat' split
  all_goals simp
theorem encB_len (attr : Bool) : ∀ l : List UInt8, (En.encB attr l).length ≤ 6 * l.length
  | [] => Nat.le_refl _
  | b :: l => by
    rw [En.encB_cons, List.length_append, List.length_cons]
    have := wrB_len attr b
    have := encB_len attr l
    omega
theorem asw_len : ∀ as : List (List UInt8 × List UInt8), (∀ a ∈ as, a.1.length ≤ 64 ∧ a.2.length ≤ 40) → (asw as).length ≤ 308 * as.length
  | [], _ => Nat.le_refl _
  | a :: as, h => by
    have h1 := h a (by simp)
    have h2 := asw_len as fun x hx => h x (by simp [hx])
    have h3 := encB_len true a.2
    rw [asw_cons, List.length_append, aw_len, List.length_cons]
    omega
/-- A part that fits. -/
def Fits (p : P) : Prop := p.tx.length ≤ 40 ∧ p.as.length ≤ 5 ∧ ∀ a ∈ p.as, a.2.length ≤ 40
theorem chunk_len {p : P} (hf : Fits p) {t : List UInt8} {x : T} (h : chunk p = some (t, x)) : t.length ≤ 1610 := by
  obtain ⟨h1, h2, h3⟩ := hf
  unfold chunk at h
  split at h
  · split at h
    · rename_i h4
      obtain ⟨hv, he⟩ := En.rep_eF_ok h4.1
      rw [he] at h
      simp only [Option.some.injEq, Prod.mk.injEq] at h
      obtain ⟨rfl, rfl⟩ := h
      have := encB_len false p.tx
      omega
    · cases h
  · split at h
    · cases h
    · rename_i hn
      have hn : Nm.isn p.nm = true := by simpa using hn
      have hl := Nm.isn_len hn
      split at h
      · simp only [Option.some.injEq, Prod.mk.injEq] at h
        obtain ⟨rfl, rfl⟩ := h
        simp only [List.length_cons, List.length_append, List.length_nil]; omega
      · split at h
        · cases h
        · rename_i ha
          have ha1 : ∀ a ∈ p.as, okA a := by
            have : p.as.all okAB = true := by
              cases e : p.as.all okAB with
              | true => rfl
              | false => exact absurd (Or.inl e) ha
            rw [List.all_eq_true] at this
            exact fun a h => okAB_iff.1 (this a h)
          have hA := asw_len p.as fun a h => ⟨(Nm.isn_len (ha1 a h).1).2, h3 a h⟩
          simp only [Option.some.injEq, Prod.mk.injEq] at h
          obtain ⟨rfl, rfl⟩ := h
          simp only [List.length_cons, List.length_append]
          split <;> simp only [List.length_cons, List.length_nil] <;> omega
theorem bk1_len {st : List UInt8 × List T × Bool} {p : P} (hf : Fits p) : (bk1 st p).1.length ≤ st.1.length + 1627 := by
  unfold bk1
  split
  · omega
  · rename_i t x hc
    have := chunk_len hf hc
    have hr : rmk.length = 17 := rfl
    split
    · omega
    · split
      · simp only [List.length_append]; omega
      · simp only [List.length_append]; omega
theorem bk_len (ps : List P) (h : ∀ p ∈ ps, Fits p) : (bk ps).1.length ≤ 1627 * ps.length := by
  have : ∀ (ps : List P) (st : List UInt8 × List T × Bool), (∀ p ∈ ps, Fits p) → (ps.foldl bk1 st).1.length ≤ st.1.length + 1627 * ps.length := by
    intro ps
    induction ps with
    | nil => intro st _; exact Nat.le_refl _
    | cons p ps ih =>
      intro st h
      have h1 := ih (bk1 st p) fun x hx => h x (by simp [hx])
      have h2 := bk1_len (st := st) (h p (by simp))
      rw [List.foldl_cons, List.length_cons]; omega
  have h1 := this ps ([], [], false) h
  unfold bk
  simpa using h1
end Go.Proofs.YtgidpcfaeekjhaaGreatDoor.Tk
