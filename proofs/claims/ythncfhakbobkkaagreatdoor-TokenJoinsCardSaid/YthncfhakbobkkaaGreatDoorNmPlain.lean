/- Plain facts on names of XML (lists of bytes): what a plain name is, where a name is parted, with which name a text begins. No program is named here; no condition. -/
import Derived.Lib.Bytealg
import Derived.Lib.IndexLaws
import Derived.Lib.IndexBytes
import Derived.Lib.IndexMore
namespace Go.Proofs.YthncfhakbobkkaaGreatDoor
namespace Nm

def letZ (c : Int) : Bool := decide ((65 ≤ c ∧ c ≤ 90) ∨ (97 ≤ c ∧ c ≤ 122) ∨ c = 95)
def mayZ (c : Int) : Bool := decide ((65 ≤ c ∧ c ≤ 90) ∨ (97 ≤ c ∧ c ≤ 122) ∨ c = 95 ∨ (48 ≤ c ∧ c ≤ 57) ∨ c = 45 ∨ c = 46)
def partZ (c : Int) : Int := if letZ c then 2 else if mayZ c then 1 else 0
def z (b : UInt8) : Int := (b.toNat : Int)
theorem letZ_iff (c : Int) : letZ c = true ↔ (65 ≤ c ∧ c ≤ 90) ∨ (97 ≤ c ∧ c ≤ 122) ∨ c = 95 := by unfold letZ; exact decide_eq_true_iff
theorem mayZ_iff (c : Int) : mayZ c = true ↔ (65 ≤ c ∧ c ≤ 90) ∨ (97 ≤ c ∧ c ≤ 122) ∨ c = 95 ∨ (48 ≤ c ∧ c ≤ 57) ∨ c = 45 ∨ c = 46 := by unfold mayZ; exact decide_eq_true_iff
theorem may_of_let {c : Int} (h : letZ c = true) : mayZ c = true := by rw [letZ_iff] at h; rw [mayZ_iff]; omega
theorem partZ_bd (c : Int) : 0 ≤ partZ c ∧ partZ c ≤ 2 := by unfold partZ; split <;> (try split) <;> omega
theorem partZ_two (c : Int) : partZ c < 2 ↔ letZ c = false := by unfold partZ; cases letZ c <;> cases mayZ c <;> simp
theorem partZ_one (c : Int) : partZ c < 1 ↔ mayZ c = false := by
  unfold partZ
  cases h : letZ c with
  | true => simp [may_of_let h]
  | false => cases mayZ c <;> simp

/-- How many bytes at the head may stand there, the first one being at least m. -/
def lg : Int → List UInt8 → Nat
  | _, [] => 0
  | m, c :: l => if partZ (z c) < m then 0 else lg 1 l + 1
theorem lg_le : ∀ (l : List UInt8) (m : Int), lg m l ≤ l.length
  | [], m => Nat.le_refl _
  | c :: l, m => by
    have := lg_le l 1
    unfold lg; split
    · exact Nat.zero_le _
    · simp only [List.length_cons]; omega
theorem lg_take : ∀ (l : List UInt8) (m : Int) (n : Nat), lg m (l.take n) = min n (lg m l)
  | [], m, n => by simp [lg]
  | c :: l, m, 0 => by simp [lg]
  | c :: l, m, n + 1 => by
    have := lg_take l 1 n
    rw [List.take_succ_cons]
    simp only [lg]
    split
    · omega
    · rw [this]; omega
theorem lg_stop {l : List UInt8} {k : Nat} {m : Int} (hk : k < l.length) (h : partZ (z l[k]) < m) : lg m (l.drop k) = 0 := by
  rw [List.drop_eq_getElem_cons hk]
  unfold lg; rw [if_pos h]
theorem lg_go {l : List UInt8} {k : Nat} {m : Int} (hk : k < l.length) (h : ¬ partZ (z l[k]) < m) : lg m (l.drop k) = lg 1 (l.drop (k + 1)) + 1 := by
  rw [List.drop_eq_getElem_cons hk]
  conv => lhs; unfold lg
  rw [if_neg h]
def mays (l : List UInt8) : Bool := l.all fun c => mayZ (z c)
theorem lg_one_full : ∀ l : List UInt8, lg 1 l = l.length ↔ mays l = true
  | [] => by simp [lg, mays]
  | c :: l => by
    have ih := lg_one_full l
    have hle := lg_le l 1
    unfold mays at ih ⊢
    simp only [lg]
    rw [List.all_cons, List.length_cons]
    cases h : mayZ (z c) with
    | true => rw [if_neg (by rw [partZ_one, h]; decide)]; rw [Bool.true_and, ← ih]; omega
    | false => rw [if_pos ((partZ_one _).2 h)]; simp

/-- Is it a plain name? -/
def plain (l : List UInt8) : Bool := decide (1 ≤ l.length ∧ l.length ≤ 64 ∧ lg 2 l = l.length)
theorem plain_iff (l : List UInt8) : plain l = true ↔ 1 ≤ l.length ∧ l.length ≤ 64 ∧ lg 2 l = l.length := by unfold plain; exact decide_eq_true_iff
theorem plain_no {l : List UInt8} (h : ¬ (1 ≤ l.length ∧ l.length ≤ 64 ∧ lg 2 l = l.length)) : plain l = false := by
  cases e : plain l with
  | false => rfl
  | true => exact absurd ((plain_iff l).1 e) h
theorem plain_nil : plain [] = false := by decide
/-- The document's words: the first one a letter, each one that may stand there. -/
theorem plain_said {l : List UInt8} : plain l = true ↔ l.length ≤ 64 ∧ (∃ c r, l = c :: r ∧ letZ (z c) = true) ∧ mays l = true := by
  rw [plain_iff]
  cases l with
  | nil => simp
  | cons c r =>
    have h1 := lg_one_full r
    constructor
    · rintro ⟨_, h64, h⟩
      unfold lg at h
      cases hl : letZ (z c) with
      | false => rw [if_pos ((partZ_two _).2 hl)] at h; simp at h
      | true =>
        rw [if_neg (by rw [partZ_two, hl]; decide)] at h
        refine ⟨h64, ⟨c, r, rfl, hl⟩, ?_⟩
        unfold mays at *
        rw [List.all_cons, may_of_let hl, Bool.true_and]
        exact h1.1 (by simpa using h)
    · rintro ⟨h64, ⟨c', r', e, hl⟩, hm⟩
      obtain ⟨rfl, rfl⟩ := List.cons.inj e
      refine ⟨by simp, h64, ?_⟩
      unfold lg
      rw [if_neg (by rw [partZ_two, hl]; decide)]
      unfold mays at *
      rw [List.all_cons, Bool.and_eq_true] at hm
      rw [h1.2 hm.2]; rfl
theorem plain_may {l : List UInt8} (h : plain l = true) {k : Nat} {c : UInt8} (hk : l[k]? = some c) : mayZ (z c) = true := by
  have := (plain_said.1 h).2.2
  exact List.all_eq_true.1 this c (List.mem_of_getElem? hk)
theorem plain_ne {l : List UInt8} (h : plain l = true) : l ≠ [] := by rintro rfl; exact absurd h (by decide)
theorem may_colon : mayZ (z 58) = false := by decide

/-- A name's two parts. -/
def split (l : List UInt8) : List UInt8 × List UInt8 × Bool :=
  if plain l then ([], l, true) else if 64 < l.length then ([], [], false)
  else if plain (Lib.cut l [58]).1 && plain (Lib.cut l [58]).2.1 then ((Lib.cut l [58]).1, (Lib.cut l [58]).2.1, true) else ([], [], false)
theorem split_plain {l : List UInt8} (h : plain l = true) : split l = ([], l, true) := by unfold split; rw [if_pos h]
theorem split_long {l : List UInt8} (h : 64 < l.length) : split l = ([], [], false) := by
  unfold split
  rw [if_neg (by rw [plain_iff]; omega), if_pos h]
theorem cut_none {l : List UInt8} (h : Lib.indexByte l 58 = -1) : Lib.cut l [58] = (l, [], false) := by
  unfold Lib.cut; rw [Lib.index_one, if_neg (by omega)]
theorem cut_some {l : List UInt8} {i : Nat} (h : Lib.indexByte l 58 = i) : Lib.cut l [58] = (l.take i, l.drop (i + 1), true) := by
  unfold Lib.cut; rw [Lib.index_one, if_pos (by omega), h, Int.toNat_natCast]; rfl
/-- A plain name is found ahead of a colon only at the first one. -/
theorem first_colon {l : List UInt8} {i : Nat} (hc : l[i]? = some 58) (hp : plain (l.take i) = true) : Lib.indexByte l 58 = i := by
  have hge := Lib.indexByte_ge l 58
  by_cases h : Lib.indexByte l 58 = -1
  · exact absurd hc (Lib.indexByte_none h i)
  · obtain ⟨j, hj⟩ : ∃ j : Nat, Lib.indexByte l 58 = j := ⟨(Lib.indexByte l 58).toNat, by omega⟩
    obtain ⟨h1, h2⟩ := Lib.indexByte_some hj
    have hij : ¬ i < j := fun hlt => h2 i hlt hc
    have hji : ¬ j < i := fun hlt => by
      have := plain_may hp (k := j) (c := 58) (by rw [List.getElem?_take]; simp [hlt, h1])
      rw [may_colon] at this; cases this
    rw [hj]; omega
theorem split_hit {l : List UInt8} {i : Nat} (hn : plain l = false) (h64 : l.length ≤ 64) (hc : l[i]? = some 58) (hp : plain (l.take i) = true) (hr : plain (l.drop (i + 1)) = true) :
    split l = (l.take i, l.drop (i + 1), true) := by
  unfold split
  rw [hn, if_neg (by decide), if_neg (by omega), cut_some (first_colon hc hp)]
  simp only [hp, hr, Bool.and_self, if_true]
theorem split_miss {l : List UInt8} (hn : plain l = false) (h : ∀ i : Nat, i < l.length → l[i]? = some 58 → plain (l.take i) = true → plain (l.drop (i + 1)) = true → False) : split l = ([], [], false) := by
  unfold split
  rw [hn, if_neg (by decide)]
  by_cases h64 : 64 < l.length
  · rw [if_pos h64]
  · rw [if_neg h64]
    have hge := Lib.indexByte_ge l 58
    by_cases hi : Lib.indexByte l 58 = -1
    · rw [cut_none hi]; simp only [plain_nil, Bool.and_false]; rfl
    · obtain ⟨j, hj⟩ : ∃ j : Nat, Lib.indexByte l 58 = j := ⟨(Lib.indexByte l 58).toNat, by omega⟩
      have h1 := (Lib.indexByte_some hj).1
      rw [cut_some hj]
      simp only
      rw [if_neg]
      intro hb
      rw [Bool.and_eq_true] at hb
      have hlt : j < l.length := by
        rcases Nat.lt_or_ge j l.length with h | h
        · exact h
        · rw [List.getElem?_eq_none h] at h1; cases h1
      exact h j hlt h1 hb.1 hb.2

/-- Is it a name? -/
def isn (l : List UInt8) : Bool := (split l).2.2
theorem isn_iff (l : List UInt8) : isn l = true ↔ plain l = true ∨ (l.length ≤ 64 ∧ ∃ i, l[i]? = some 58 ∧ plain (l.take i) = true ∧ plain (l.drop (i + 1)) = true) := by
  unfold isn
  constructor
  · intro h
    cases hp : plain l with
    | true => exact Or.inl rfl
    | false =>
      right
      refine ⟨?_, ?_⟩
      · rcases Nat.lt_or_ge 64 l.length with h64 | h64
        · rw [split_long h64] at h; cases h
        · exact h64
      · refine Classical.byContradiction fun hno => ?_
        rw [split_miss hp (fun i _ a b c => hno ⟨i, a, b, c⟩)] at h
        cases h
  · rintro (h | ⟨h64, i, a, b, c⟩)
    · rw [split_plain h]
    · cases hp : plain l with
      | true => rw [split_plain hp]
      | false => rw [split_hit hp h64 a b c]
/-- Where it is none, there are no parts. -/
theorem split_cases (l : List UInt8) : split l = ([], [], false) ∨ (plain l = true ∧ split l = ([], l, true)) ∨
    (∃ p r, split l = (p, r, true) ∧ plain p = true ∧ plain r = true ∧ l = p ++ 58 :: r ∧ l.length ≤ 64) := by
  cases hp : plain l with
  | true => exact Or.inr (Or.inl ⟨rfl, split_plain hp⟩)
  | false =>
    cases hi : isn l with
    | true =>
      rcases (isn_iff l).1 hi with h | ⟨h64, i, a, b, c⟩
      · rw [hp] at h; cases h
      · refine Or.inr (Or.inr ⟨_, _, split_hit hp h64 a b c, b, c, ?_, h64⟩)
        have hlt : i < l.length := by
          rcases Nat.lt_or_ge i l.length with h | h
          · exact h
          · rw [List.getElem?_eq_none h] at a; cases a
        have e : l[i] = 58 := by rw [List.getElem?_eq_getElem hlt] at a; exact Option.some.inj a
        have hd := List.drop_eq_getElem_cons hlt
        rw [e] at hd
        rw [← hd, List.take_append_drop]
    | false =>
      left
      by_cases h64 : 64 < l.length
      · exact split_long h64
      · refine split_miss hp fun i hlt a b c => ?_
        rw [(isn_iff l).2 (Or.inr ⟨by omega, i, a, b, c⟩)] at hi; cases hi
theorem split_isn_false {l : List UInt8} (h : isn l = false) : split l = ([], [], false) := by
  rcases split_cases l with e | ⟨_, e⟩ | ⟨p, r, e, _⟩
  · exact e
  · unfold isn at h; rw [e] at h; cases h
  · unfold isn at h; rw [e] at h; cases h

/-- With how many bytes a name begins: what stands at the head, and what stands behind a colon. -/
def bgH (l : List UInt8) : Nat := lg 2 (l.take 64)
def bg (l : List UInt8) : Nat :=
  if bgH l = 0 ∨ bgH l = (l.take 64).length ∨ (l.take 64)[bgH l]? ≠ some 58 then bgH l
  else if lg 2 ((l.take 64).drop (bgH l + 1)) = 0 then bgH l else bgH l + 1 + lg 2 ((l.take 64).drop (bgH l + 1))
theorem plain_take {l : List UInt8} {n : Nat} (h1 : 1 ≤ n) (h2 : n ≤ lg 2 l) (h3 : n ≤ 64) : plain (l.take n) = true := by
  have := lg_le l 2
  rw [plain_iff, lg_take, List.length_take]; omega
theorem plain_take_le {l : List UInt8} {n : Nat} (hn : n ≤ l.length) (h : plain (l.take n) = true) : 1 ≤ n ∧ n ≤ lg 2 l := by
  rw [plain_iff, lg_take, List.length_take] at h; omega
theorem lg_in {l : List UInt8} {n k : Nat} {c : UInt8} (hn : n ≤ lg 2 l) (hk : k < n) (hc : l[k]? = some c) : mayZ (z c) = true := by
  have h1 := lg_le l 2
  have h2 : lg 2 (l.take (lg 2 l)) = (l.take (lg 2 l)).length := by rw [lg_take, List.length_take]; omega
  have key : ∀ (q : List UInt8) (m : Int), 1 ≤ m → lg m q = q.length → mays q = true := by
    intro q
    cases q with
    | nil => intro m _ _; rfl
    | cons a r =>
      intro m hm h
      unfold lg at h
      by_cases hp : partZ (z a) < m
      · rw [if_pos hp] at h; simp at h
      · rw [if_neg hp] at h
        have hr := (lg_one_full r).1 (by simpa using h)
        have ha : mayZ (z a) = true := by
          cases e : mayZ (z a) with
          | true => rfl
          | false => exact absurd ((partZ_one _).2 e) (by omega)
        unfold mays at *
        rw [List.all_cons, ha, hr]; rfl
  have := key _ 2 (by omega) h2
  exact List.all_eq_true.1 this c (List.mem_of_getElem? (i := k) (by rw [List.getElem?_take]; simp [show k < lg 2 l by omega, hc]))
/-- bg tells the longest one. -/
theorem bg_most {l : List UInt8} {n : Nat} (hn : n ≤ l.length) (h64 : n ≤ 64) (h : isn (l.take n) = true) : n ≤ bg l := by
  have hlen : (l.take 64).length = min 64 l.length := List.length_take
  have htt : l.take n = (l.take 64).take n := by rw [List.take_take, Nat.min_eq_left h64]
  rw [htt] at h
  unfold bg bgH
  generalize hL : l.take 64 = L at *
  have hn' : n ≤ L.length := by omega
  have hle := lg_le L 2
  rcases (isn_iff _).1 h with hp | ⟨_, i, a, b, c⟩
  · have := plain_take_le hn' hp
    split
    · omega
    · split <;> omega
  · have hi : i < n := by
      rcases Nat.lt_or_ge i n with h | h
      · exact h
      · rw [List.getElem?_take, if_neg (by omega)] at a; cases a
    have ha : L[i]? = some 58 := by rw [List.getElem?_take, if_pos hi] at a; exact a
    rw [List.take_take, Nat.min_eq_left (by omega)] at b
    have hb := plain_take_le (by omega) b
    have hih : i = lg 2 L := by
      rcases Nat.lt_or_ge i (lg 2 L) with h | h
      · have := lg_in (Nat.le_refl _) h ha
        rw [may_colon] at this; cases this
      · omega
    rw [List.drop_take] at c
    have hc := plain_take_le (by rw [List.length_drop]; omega) c
    rw [← hih]
    rw [if_neg (by rw [ha]; simp; omega), if_neg (by omega)]
    omega
theorem bg_le (l : List UInt8) : bg l ≤ l.length ∧ bg l ≤ 64 := by
  have hlen : (l.take 64).length = min 64 l.length := List.length_take
  unfold bg bgH
  generalize l.take 64 = L at *
  have h1 := lg_le L 2
  split
  · omega
  · rename_i hno
    have h2 := lg_le (L.drop (lg 2 L + 1)) 2
    rw [List.length_drop] at h2
    split <;> omega
theorem bg_is {l : List UInt8} (h0 : bg l ≠ 0) : isn (l.take (bg l)) = true := by
  have hle := bg_le l
  have htt : l.take (bg l) = (l.take 64).take (bg l) := by rw [List.take_take, Nat.min_eq_left hle.2]
  have hlen : (l.take 64).length = min 64 l.length := List.length_take
  rw [htt]
  revert h0 hle
  unfold bg bgH
  generalize l.take 64 = L at *
  clear htt
  have h1 := lg_le L 2
  split
  · intro h0 hle
    exact (isn_iff _).2 (Or.inl (plain_take (by omega) (Nat.le_refl _) hle.2))
  · rename_i hno
    have hno' : lg 2 L ≠ 0 ∧ lg 2 L ≠ L.length ∧ L[lg 2 L]? = some 58 := by
      refine ⟨fun e => hno (Or.inl e), fun e => hno (Or.inr (Or.inl e)), Classical.byContradiction fun e => hno (Or.inr (Or.inr e))⟩
    obtain ⟨n0, n1, n2⟩ := hno'
    split
    · intro h0 hle
      exact (isn_iff _).2 (Or.inl (plain_take (by omega) (Nat.le_refl _) hle.2))
    · rename_i ht
      intro h0 hle
      have h2 := lg_le (L.drop (lg 2 L + 1)) 2
      rw [List.length_drop] at h2
      refine (isn_iff _).2 (Or.inr ⟨by rw [List.length_take]; omega, lg 2 L, ?_, ?_, ?_⟩)
      · rw [List.getElem?_take, if_pos (by omega)]; exact n2
      · rw [List.take_take, Nat.min_eq_left (by omega)]
        exact plain_take (by omega) (Nat.le_refl _) (by omega)
      · rw [List.drop_take]
        exact plain_take (by omega) (by omega) (by omega)
theorem bg_hit {l : List UInt8} {n : Nat} (hn : n ≤ l.length) (h64 : n ≤ 64) (h : isn (l.take n) = true) (hno : ∀ m, n < m → m ≤ l.length → m ≤ 64 → isn (l.take m) = false) : bg l = n := by
  have h1 := bg_most hn h64 h
  have h2 := bg_le l
  rcases Nat.lt_or_ge n (bg l) with hlt | hge
  · have := hno _ hlt h2.1 h2.2
    rw [bg_is (by omega)] at this; cases this
  · omega
theorem bg_none {l : List UInt8} (hno : ∀ m, 0 < m → m ≤ l.length → m ≤ 64 → isn (l.take m) = false) : bg l = 0 := by
  have h2 := bg_le l
  rcases Nat.lt_or_ge 0 (bg l) with hlt | hge
  · have := hno _ hlt h2.1 h2.2
    rw [bg_is (by omega)] at this; cases this
  · omega

/-! ### what follows (P2.4) -/
theorem isn_len {l : List UInt8} (h : isn l = true) : 1 ≤ l.length ∧ l.length ≤ 64 := by
  rcases (isn_iff l).1 h with hp | ⟨h64, i, a, _, _⟩
  · have := (plain_iff l).1 hp; omega
  · refine ⟨?_, h64⟩
    cases l with
    | nil => simp at a
    | cons c r => simp
theorem isn_bytes {l : List UInt8} (h : isn l = true) {k : Nat} {c : UInt8} (hk : l[k]? = some c) : mayZ (z c) = true ∨ c = 58 := by
  rcases (isn_iff l).1 h with hp | ⟨_, i, a, b, d⟩
  · exact Or.inl (plain_may hp hk)
  · rcases Nat.lt_trichotomy k i with hlt | heq | hgt
    · exact Or.inl (plain_may b (k := k) (by rw [List.getElem?_take, if_pos hlt]; exact hk))
    · subst heq
      rw [hk] at a
      exact Or.inr (Option.some.inj a)
    · exact Or.inl (plain_may d (k := k - (i + 1)) (by rw [List.getElem?_drop, show i + 1 + (k - (i + 1)) = k by omega]; exact hk))
theorem bg_self {l : List UInt8} (h : isn l = true) : bg l = l.length := by
  have hl := isn_len h
  exact bg_hit (Nat.le_refl _) hl.2 (by rw [List.take_length]; exact h) fun m h1 h2 _ => by omega
theorem bg_behind {l t : List UInt8} {c : UInt8} (h : isn l = true) (hm : mayZ (z c) = false) (hc : c ≠ 58) : bg (l ++ c :: t) = l.length := by
  have hl := isn_len h
  refine bg_hit (by simp) hl.2 (by rw [List.take_left]; exact h) fun m h1 h2 h3 => ?_
  cases e : isn ((l ++ c :: t).take m) with
  | false => rfl
  | true =>
    rcases isn_bytes e (k := l.length) (c := c) (by rw [List.getElem?_take, if_pos h1]; simp) with hx | hx
    · rw [hm] at hx; cases hx
    · exact absurd hx hc
theorem join_not_plain (s t : List UInt8) : plain (s ++ 58 :: t) = false := by
  cases e : plain (s ++ 58 :: t) with
  | false => rfl
  | true =>
    have := plain_may e (k := s.length) (c := 58) (by simp)
    rw [may_colon] at this; cases this
theorem split_join {s t : List UInt8} (hs : plain s = true) (ht : plain t = true) :
    split (s ++ 58 :: t) = if s.length + 1 + t.length ≤ 64 then (s, t, true) else ([], [], false) := by
  have hlen : (s ++ 58 :: t).length = s.length + 1 + t.length := by simp; omega
  by_cases h : s.length + 1 + t.length ≤ 64
  · rw [if_pos h]
    have e1 : (s ++ 58 :: t).take s.length = s := List.take_left
    have e2 : (s ++ 58 :: t).drop (s.length + 1) = t := by rw [List.drop_append]; simp
    have := split_hit (i := s.length) (join_not_plain s t) (by omega) (by simp) (by rw [e1]; exact hs) (by rw [e2]; exact ht)
    rw [e1, e2] at this
    exact this
  · rw [if_neg h]
    exact split_long (by omega)
end Nm
end Go.Proofs.YthncfhakbobkkaaGreatDoor
