/- Plain facts on references in a text: what one says, how many bytes it has, how texts are decoded and encoded. No program is named here. No conditions. -/
import Derived.Test.YthncfhakbobkkaaGreatDoorU8Plain
import Derived.Lib.IndexLaws
namespace Go.Proofs.YthncfhakbobkkaaGreatDoor.En
open Go

/-! ### names and numbers -/
def named (l : List UInt8) : Int :=
  if l = [97, 109, 112] then 38 else if l = [108, 116] then 60 else if l = [103, 116] then 62 else if l = [113, 117, 111, 116] then 34 else if l = [97, 112, 111, 115] then 39 else 0
theorem named_bd (l : List UInt8) : 0 ≤ named l ∧ named l ≤ 62 := by unfold named; repeat' split
                                                                     all_goals omega
/-- A digit's number; -1: it is none. -/
def dgN (n : Nat) : Int := if 48 ≤ n ∧ n ≤ 57 then (n : Int) - 48 else if 97 ≤ n ∧ n ≤ 102 then (n : Int) - 87 else if 65 ≤ n ∧ n ≤ 70 then (n : Int) - 55 else -1
def dg (b : UInt8) : Int := dgN b.toNat
theorem dg_bd (b : UInt8) : -1 ≤ dg b ∧ dg b ≤ 15 := by unfold dg dgN; repeat' split
                                                        all_goals omega
def isD (base : Int) (b : UInt8) : Bool := decide (0 ≤ dg b ∧ dg b < base)
theorem isD_iff {base : Int} {b : UInt8} : isD base b = true ↔ (0 ≤ dg b ∧ dg b < base) := decide_eq_true_iff
theorem isD_semi (base : Int) : isD base 59 = false := by
  unfold isD
  have : dg 59 = -1 := by decide
  rw [this]; exact decide_eq_false (by omega)
def val (base : Int) (l : List UInt8) : Int := l.foldl (fun n b => n * base + dg b) 0
theorem val_snoc (base : Int) (l : List UInt8) (b : UInt8) : val base (l ++ [b]) = val base l * base + dg b := by
  unfold val; rw [List.foldl_append]; rfl
theorem take_snoc {l : List UInt8} {k : Nat} (h : k < l.length) : l.take (k + 1) = l.take k ++ [l[k]] := by
  rw [List.take_succ_eq_append_getElem h]
def pow (base : Int) : Nat → Int
  | 0 => 1
  | n + 1 => pow base n * base
theorem snoc_ind {Q : List UInt8 → Prop} (h0 : Q []) (hs : ∀ l b, Q l → Q (l ++ [b])) (l : List UInt8) : Q l := by
  have key : ∀ r : List UInt8, Q r.reverse := fun r => by
    induction r with
    | nil => exact h0
    | cons b r ih => rw [List.reverse_cons]; exact hs _ _ ih
  simpa using key l.reverse
theorem val_bd (base : Int) (hb : 1 ≤ base) (l : List UInt8) : (l.all (isD base)) = true → 0 ≤ val base l ∧ val base l < pow base l.length := by
  refine snoc_ind (Q := fun l => (l.all (isD base)) = true → 0 ≤ val base l ∧ val base l < pow base l.length) ?_ ?_ l
  · intro _; exact ⟨by simp [val], by simp [val, pow]⟩
  · intro l b ih h
    rw [List.all_append, Bool.and_eq_true] at h
    obtain ⟨h1, h2⟩ := h
    obtain ⟨i1, i2⟩ := ih h1
    have hb2 := isD_iff.1 (by simpa using h2)
    rw [val_snoc, List.length_append]
    show 0 ≤ _ ∧ _ < pow base l.length * base
    constructor
    · have := Int.mul_nonneg i1 (show 0 ≤ base by omega); omega
    · have h3 : val base l + 1 ≤ pow base l.length := by omega
      have h4 := Int.mul_le_mul_of_nonneg_right h3 (show 0 ≤ base by omega)
      rw [Int.add_mul] at h4
      omega
theorem val16 {l : List UInt8} (h : l.all (isD 16) = true) (hl : l.length ≤ 6) : 0 ≤ val 16 l ∧ val 16 l < 16777216 := by
  have h1 := val_bd 16 (by omega) l h
  have h2 : pow 16 l.length ≤ 16777216 := by
    have : l.length = 0 ∨ l.length = 1 ∨ l.length = 2 ∨ l.length = 3 ∨ l.length = 4 ∨ l.length = 5 ∨ l.length = 6 := by omega
    rcases this with e | e | e | e | e | e | e <;> rw [e] <;> decide
  omega
theorem val10 {l : List UInt8} (h : l.all (isD 10) = true) (hl : l.length ≤ 7) : 0 ≤ val 10 l ∧ val 10 l < 10000000 := by
  have h1 := val_bd 10 (by omega) l h
  have h2 : pow 10 l.length ≤ 10000000 := by
    have : l.length = 0 ∨ l.length = 1 ∨ l.length = 2 ∨ l.length = 3 ∨ l.length = 4 ∨ l.length = 5 ∨ l.length = 6 ∨ l.length = 7 := by omega
    rcases this with e | e | e | e | e | e | e | e <;> rw [e] <;> decide
  omega
/-- Are these one to most digits to the base? -/
def okD (base : Int) (most : Nat) (l : List UInt8) : Bool := decide (1 ≤ l.length ∧ l.length ≤ most) && l.all (isD base)
theorem okD_iff {base : Int} {most : Nat} {l : List UInt8} : okD base most l = true ↔ 1 ≤ l.length ∧ l.length ≤ most ∧ l.all (isD base) = true := by
  unfold okD; rw [Bool.and_eq_true, decide_eq_true_eq]; exact ⟨fun h => ⟨h.1.1, h.1.2, h.2⟩, fun h => ⟨⟨h.1, h.2.1⟩, h.2.2⟩⟩
def pnum (base : Int) (most : Nat) (l : List UInt8) : Int := if okD base most l then val base l else 0
theorem pnum_bd {base : Int} {most : Nat} (h : base = 16 ∧ most = 6 ∨ base = 10 ∧ most = 7) (l : List UInt8) : 0 ≤ pnum base most l ∧ pnum base most l < 16777216 := by
  unfold pnum
  split
  · rename_i hk
    obtain ⟨_, h2, h3⟩ := okD_iff.1 hk
    rcases h with ⟨rfl, rfl⟩ | ⟨rfl, rfl⟩
    · exact val16 h3 h2
    · have := val10 h3 h2; omega
  · omega

/-- What stands between a reference's & and its ;. -/
def said (t : List UInt8) : Int :=
  if Lib.hasPrefix t [35, 120] then pnum 16 6 (t.drop 2) else if Lib.hasPrefix t [35] then pnum 10 7 (t.drop 1) else named t
theorem said_bd (t : List UInt8) : 0 ≤ said t ∧ said t < 16777216 := by
  unfold said
  split
  · exact pnum_bd (Or.inl ⟨rfl, rfl⟩) _
  · split
    · exact pnum_bd (Or.inr ⟨rfl, rfl⟩) _
    · have := named_bd t; omega

/-! ### a reference -/
/-- What the reference says with which a text begins behind its &, and how many bytes it has; nothing and 0: it begins with none. -/
def rfb (b : List UInt8) : List UInt8 × Nat :=
  let j := Lib.indexByte b 59
  if j = -1 then ([], 0) else
    let c := U8.put (said (b.take j.toNat))
    if c = [] then ([], 0) else (c, j.toNat + 2)
def rf (l : List UInt8) : List UInt8 × Nat := match l with
  | [] => ([], 0)
  | a :: b => if a = 38 then rfb b else ([], 0)
theorem rf_amp (b : List UInt8) : rf (38 :: b) = rfb b := by simp [rf]
theorem rf_no {l : List UInt8} (h : l.head? ≠ some 38) : rf l = ([], 0) := by
  cases l with
  | nil => rfl
  | cons a b => have : a ≠ 38 := fun e => h (by rw [e]; rfl)
                simp [rf, this]
theorem rfb_miss {b : List UInt8} (h : Lib.indexByte b 59 = -1) : rfb b = ([], 0) := by unfold rfb; rw [h]; rfl
theorem rfb_hit {b : List UInt8} {j : Nat} (h : Lib.indexByte b 59 = j) : rfb b = if U8.put (said (b.take j)) = [] then ([], 0) else (U8.put (said (b.take j)), j + 2) := by
  unfold rfb
  rw [h]
  have : ¬ ((j : Int) = -1) := by omega
  simp only [this, if_false, Int.toNat_natCast]
theorem idx_cases (b : List UInt8) (c : UInt8) : Lib.indexByte b c = -1 ∨ ∃ j : Nat, Lib.indexByte b c = j := by
  have := Lib.indexByte_ge b c
  by_cases h : Lib.indexByte b c = -1
  · exact Or.inl h
  · exact Or.inr ⟨(Lib.indexByte b c).toNat, by omega⟩
theorem idx_of {b : List UInt8} {c : UInt8} {j : Nat} (h1 : b[j]? = some c) (h2 : ∀ k, k < j → b[k]? ≠ some c) : Lib.indexByte b c = j := by
  rcases idx_cases b c with h | ⟨i, h⟩
  · exact absurd h1 (Lib.indexByte_none h j)
  · obtain ⟨g1, g2⟩ := Lib.indexByte_some h
    rcases Nat.lt_trichotomy i j with hl | hl | hl
    · exact absurd g1 (h2 i hl)
    · rw [h, hl]
    · exact absurd h1 (g2 j hl)
theorem idx_lt {b : List UInt8} {c : UInt8} {j : Nat} (h : Lib.indexByte b c = j) : j < b.length := by
  have := (Lib.indexByte_some h).1
  exact (List.getElem?_eq_some_iff.1 this).1
theorem rfb_ok {b : List UInt8} (h : (rfb b).2 ≠ 0) : ∃ j : Nat, Lib.indexByte b 59 = j ∧ rfb b = (U8.put (said (b.take j)), j + 2) ∧ U8.put (said (b.take j)) ≠ [] := by
  rcases idx_cases b 59 with hj | ⟨j, hj⟩
  · rw [rfb_miss hj] at h; exact absurd rfl h
  · rw [rfb_hit hj] at h ⊢
    by_cases hc : U8.put (said (b.take j)) = []
    · rw [if_pos hc] at h; exact absurd rfl h
    · rw [if_neg hc]; exact ⟨j, hj, rfl, hc⟩

/-- A name, with its ;. -/
theorem rfb_name {nm : List UInt8} {r : List UInt8} (h : ∀ k, k < nm.length → nm[k]? ≠ some 59) (h35 : nm.head? ≠ some 35) (hp : U8.put (named nm) ≠ []) : rfb (nm ++ 59 :: r) = (U8.put (named nm), nm.length + 2) := by
  have hj : Lib.indexByte (nm ++ 59 :: r) 59 = nm.length := idx_of (by simp) (fun k hk => by rw [List.getElem?_append_left hk]; exact h k hk)
  rw [rfb_hit hj, List.take_left]
  have hs : said nm = named nm := by
    unfold said Lib.hasPrefix
    cases nm with
    | nil => rfl
    | cons a t =>
      have ha : ¬ (35 : UInt8) = a := fun e => h35 (by rw [← e]; rfl)
      simp [List.isPrefixOf, ha]
  rw [hs, if_neg hp]

/-! ### digits, up to a ; -/
/-- What so many digits at a text's beginning say, up to a ;, and how many there are; nothing and 0: none. -/
def num (base : Int) (most : Nat) (l : List UInt8) : List UInt8 × Nat :=
  let j := Lib.indexByte l 59
  if j = -1 then ([], 0) else if okD base most (l.take j.toNat) then (U8.put (val base (l.take j.toNat)), j.toNat) else ([], 0)
theorem num_hit {base : Int} {most : Nat} {l : List UInt8} {j : Nat} (h : Lib.indexByte l 59 = j) : num base most l = if okD base most (l.take j) then (U8.put (val base (l.take j)), j) else ([], 0) := by
  unfold num
  rw [h]
  have : ¬ ((j : Int) = -1) := by omega
  simp only [this, if_false, Int.toNat_natCast]
theorem all_take {l : List UInt8} {p : UInt8 → Bool} {k i : Nat} (h : (l.take k).all p = true) (hi : i < k) {b : UInt8} (hb : l[i]? = some b) : p b = true := by
  have hm : b ∈ l.take k := List.mem_iff_getElem?.2 ⟨i, by rw [List.getElem?_take_of_lt hi]; exact hb⟩
  exact List.all_eq_true.1 h b hm
/-- Where the digits end, and what is told there. -/
theorem num_at {base : Int} {most : Nat} {l : List UInt8} {k : Nat} (hm : k ≤ most) (hl : k ≤ l.length) (hd : (l.take k).all (isD base) = true)
    (hx : k = most ∨ k = l.length ∨ ∃ b, l[k]? = some b ∧ isD base b = false) :
    num base most l = if k = 0 ∨ l[k]? ≠ some 59 then ([], 0) else (U8.put (val base (l.take k)), k) := by
  have hsemi := isD_semi base
  by_cases h59 : l[k]? = some 59
  · have hj : Lib.indexByte l 59 = k := idx_of h59 (fun i hi hs => by have := all_take hd hi hs; rw [hsemi] at this; cases this)
    rw [num_hit hj]
    have hlen : (l.take k).length = k := by rw [List.length_take]; omega
    by_cases h0 : k = 0
    · rw [if_neg (by rw [okD_iff, hlen]; omega), if_pos (Or.inl h0)]
    · rw [if_pos (okD_iff.2 ⟨by omega, by omega, hd⟩), if_neg (by rintro (h | h); exact h0 h; exact h h59)]
  · rw [if_pos (Or.inr h59)]
    rcases idx_cases l 59 with hj | ⟨j, hj⟩
    · unfold num; rw [hj]; rfl
    · rw [num_hit hj]
      rw [if_neg]
      intro hok
      have hjl := idx_lt hj
      have hlen : (l.take j).length = j := by rw [List.length_take]; omega
      rw [okD_iff, hlen] at hok
      obtain ⟨a1, a2, a3⟩ := hok
      obtain ⟨g1, g2⟩ := Lib.indexByte_some hj
      rcases Nat.lt_trichotomy j k with h | h | h
      · have := all_take hd h g1; rw [hsemi] at this; cases this
      · rw [h] at g1; exact h59 g1
      · rcases hx with e | e | ⟨b, e1, e2⟩
        · omega
        · omega
        · have := all_take a3 h e1; rw [e2] at this; cases this

theorem hp_cons (a : UInt8) (t : List UInt8) (b : UInt8) (p : List UInt8) : Lib.hasPrefix (a :: t) (b :: p) = ((b == a) && Lib.hasPrefix t p) := rfl
theorem hp_nil (t : List UInt8) : Lib.hasPrefix t [] = true := by unfold Lib.hasPrefix; cases t <;> rfl
theorem idx_cons {a c : UInt8} (h : a ≠ c) (b : List UInt8) : Lib.indexByte (a :: b) c = if Lib.indexByte b c = -1 then -1 else Lib.indexByte b c + 1 := by
  have h1 : (a == c) = false := by simpa using h
  have e : Lib.indexByte (a :: b) c = if a == c then 0 else if Lib.indexByte b c == -1 then -1 else Lib.indexByte b c + 1 := rfl
  rw [e, h1]
  simp only [Bool.false_eq_true, if_false, beq_iff_eq]
/-- By digits to the base 16. -/
theorem rfb_hex (r : List UInt8) : rfb (35 :: 120 :: r) = if (num 16 6 r).1 = [] then ([], 0) else ((num 16 6 r).1, (num 16 6 r).2 + 4) := by
  have i1 : Lib.indexByte (35 :: 120 :: r) 59 = if Lib.indexByte r 59 = -1 then -1 else Lib.indexByte r 59 + 2 := by
    rw [idx_cons (by decide), idx_cons (by decide)]
    have := Lib.indexByte_ge r 59
    by_cases h : Lib.indexByte r 59 = -1
    · simp [h]
    · rw [if_neg h, if_neg (by omega), if_neg h]; omega
  rcases idx_cases r 59 with hj | ⟨j, hj⟩
  · rw [hj, if_pos rfl] at i1
    rw [rfb_miss i1]
    have : num 16 6 r = ([], 0) := by unfold num; rw [hj]; rfl
    rw [this]; rfl
  · rw [hj, if_neg (by omega)] at i1
    have i2 : Lib.indexByte (35 :: 120 :: r) 59 = ((j + 2 : Nat) : Int) := by rw [i1]; omega
    rw [rfb_hit i2, num_hit hj]
    have hs : said ((35 :: 120 :: r).take (j + 2)) = pnum 16 6 (r.take j) := by
      simp only [List.take_succ_cons]
      unfold said
      rw [if_pos (by simp [hp_cons, hp_nil])]
      rfl
    rw [hs]
    unfold pnum
    by_cases hk : okD 16 6 (r.take j) = true
    · rw [if_pos hk, if_pos hk]
    · rw [if_neg hk, if_neg hk]; rfl
/-- By decimal digits. -/
theorem rfb_dec (r : List UInt8) (h : r.head? ≠ some 120) : rfb (35 :: r) = if (num 10 7 r).1 = [] then ([], 0) else ((num 10 7 r).1, (num 10 7 r).2 + 3) := by
  have i1 : Lib.indexByte (35 :: r) 59 = if Lib.indexByte r 59 = -1 then -1 else Lib.indexByte r 59 + 1 := idx_cons (by decide) r
  rcases idx_cases r 59 with hj | ⟨j, hj⟩
  · rw [hj, if_pos rfl] at i1
    rw [rfb_miss i1]
    have : num 10 7 r = ([], 0) := by unfold num; rw [hj]; rfl
    rw [this]; rfl
  · rw [hj, if_neg (by omega)] at i1
    have i2 : Lib.indexByte (35 :: r) 59 = ((j + 1 : Nat) : Int) := by rw [i1]; omega
    rw [rfb_hit i2, num_hit hj]
    have hs : said ((35 :: r).take (j + 1)) = pnum 10 7 (r.take j) := by
      simp only [List.take_succ_cons]
      unfold said
      have h1 : Lib.hasPrefix (35 :: r.take j) [35, 120] = false := by
        rw [hp_cons]
        cases r with
        | nil => simp [Lib.hasPrefix]
        | cons a t =>
          have ha : ¬ (120 : UInt8) = a := fun e => h (by rw [← e]; rfl)
          cases j with
          | zero => simp [Lib.hasPrefix]
          | succ j => simp [hp_cons, ha]
      rw [h1, if_neg (by simp), if_pos (by simp [hp_cons, hp_nil])]
      rfl
    rw [hs]
    unfold pnum
    by_cases hk : okD 10 7 (r.take j) = true
    · rw [if_pos hk, if_pos hk]
    · rw [if_neg hk, if_neg hk]; rfl
/-- Neither a name nor a # : none. -/
theorem rfb_none {b : List UInt8} (h35 : b.head? ≠ some 35)
    (h1 : Lib.hasPrefix b [97, 109, 112, 59] = false) (h2 : Lib.hasPrefix b [108, 116, 59] = false) (h3 : Lib.hasPrefix b [103, 116, 59] = false) (h4 : Lib.hasPrefix b [113, 117, 111, 116, 59] = false) (h5 : Lib.hasPrefix b [97, 112, 111, 115, 59] = false) : rfb b = ([], 0) := by
  rcases idx_cases b 59 with hj | ⟨j, hj⟩
  · exact rfb_miss hj
  · rw [rfb_hit hj]
    have hp : ∀ nm : List UInt8, b.take j = nm → Lib.hasPrefix b (nm ++ [59]) = true := by
      intro nm e
      have hsp : b = nm ++ (59 :: b.drop (j + 1)) := by
        have g1 := (Lib.indexByte_some hj).1
        obtain ⟨hl, hg⟩ := List.getElem?_eq_some_iff.1 g1
        rw [← e, ← hg, List.getElem_cons_drop, List.take_append_drop]
      unfold Lib.hasPrefix
      rw [List.isPrefixOf_iff_prefix]
      exact ⟨b.drop (j + 1), by rw [List.append_assoc]; exact hsp.symm⟩
    have hs : said (b.take j) = 0 := by
      have hn : ∀ p, Lib.hasPrefix (b.take j) (35 :: p) = false := by
        intro p
        cases b with
        | nil => simp [Lib.hasPrefix]
        | cons a t =>
          have ha : ¬ (35 : UInt8) = a := fun e => h35 (by rw [← e]; rfl)
          cases j with
          | zero => simp [Lib.hasPrefix]
          | succ j => simp [hp_cons, ha]
      unfold said
      rw [hn, hn, if_neg (by simp), if_neg (by simp)]
      unfold named
      rw [if_neg (fun e => by have := hp _ e; rw [show ([97, 109, 112] : List UInt8) ++ [59] = [97, 109, 112, 59] from rfl, h1] at this; cases this),
        if_neg (fun e => by have := hp _ e; rw [show ([108, 116] : List UInt8) ++ [59] = [108, 116, 59] from rfl, h2] at this; cases this),
        if_neg (fun e => by have := hp _ e; rw [show ([103, 116] : List UInt8) ++ [59] = [103, 116, 59] from rfl, h3] at this; cases this),
        if_neg (fun e => by have := hp _ e; rw [show ([113, 117, 111, 116] : List UInt8) ++ [59] = [113, 117, 111, 116, 59] from rfl, h4] at this; cases this),
        if_neg (fun e => by have := hp _ e; rw [show ([97, 112, 111, 115] : List UInt8) ++ [59] = [97, 112, 111, 115, 59] from rfl, h5] at this; cases this)]
    rw [hs]; rfl

/-! ### a text, piece by piece -/
/-- What stands for a text's beginning, how many bytes that has, and whether it is a fault (not 0). -/
abbrev Piece := List UInt8 → List UInt8 × Nat × Int
def goes (F : Piece) : Nat → List UInt8 → List UInt8 → Nat → List UInt8 × Nat × Int
  | 0, _, out, _ => (out, 0, 0)
  | f + 1, l, out, at_ =>
    if l = [] then (out, 0, 0) else
      if (F l).2.2 ≠ 0 then ([], at_, (F l).2.2) else goes F f (l.drop (F l).2.1) (out ++ (F l).1) (at_ + (F l).2.1)
def rep (F : Piece) (l : List UInt8) : List UInt8 × Nat × Int := goes F l.length l [] 0
/-- Each piece has a byte at least, and ends within the text. -/
def Moves (F : Piece) : Prop := ∀ l, l ≠ [] → (F l).2.2 = 0 → 1 ≤ (F l).2.1 ∧ (F l).2.1 ≤ l.length
theorem goes_more {F : Piece} (hF : Moves F) : ∀ (f g : Nat) (l out : List UInt8) (at_ : Nat), l.length ≤ f → l.length ≤ g → goes F f l out at_ = goes F g l out at_ := by
  intro f
  induction f with
  | zero =>
    intro g l out at_ hl _
    have : l = [] := List.eq_nil_of_length_eq_zero (by omega)
    subst this
    cases g <;> rfl
  | succ f ih =>
    intro g l out at_ hl hg
    by_cases hne : l = []
    · subst hne; cases g <;> rfl
    · cases g with
      | zero => exact absurd (List.eq_nil_of_length_eq_zero (by omega)) hne
      | succ g =>
        simp only [goes, hne, if_false]
        by_cases hz : (F l).2.2 = 0
        · have := hF l hne hz
          rw [if_neg (by simpa using hz), if_neg (by simpa using hz)]
          exact ih g _ _ _ (by simp; omega) (by simp; omega)
        · rw [if_pos hz, if_pos hz]
theorem goes_nil {F : Piece} (f : Nat) (out : List UInt8) (at_ : Nat) : goes F f [] out at_ = (out, 0, 0) := by cases f <;> rfl
theorem goes_bad {F : Piece} {f : Nat} {l out : List UInt8} {at_ : Nat} (hf : l.length ≤ f) (hne : l ≠ []) (h : (F l).2.2 ≠ 0) : goes F f l out at_ = ([], at_, (F l).2.2) := by
  cases f with
  | zero => exact absurd (List.eq_nil_of_length_eq_zero (by omega)) hne
  | succ f => simp only [goes, hne, if_false]; rw [if_pos h]
theorem goes_good {F : Piece} (hF : Moves F) {f : Nat} {l out : List UInt8} {at_ : Nat} (hf : l.length ≤ f) (hne : l ≠ []) (h : (F l).2.2 = 0) : goes F f l out at_ = goes F f (l.drop (F l).2.1) (out ++ (F l).1) (at_ + (F l).2.1) := by
  have := hF l hne h
  cases f with
  | zero => exact absurd (List.eq_nil_of_length_eq_zero (by omega)) hne
  | succ f =>
    rw [goes_more hF (f + 1) f (l.drop _) _ _ (by simp; omega) (by simp; omega)]
    simp only [goes, hne, if_false]; rw [if_neg (by simpa using h)]
/-- What has gone ahead stands in front. -/
theorem goes_ahead {F : Piece} (hF : Moves F) : ∀ (f : Nat) (l out : List UInt8) (at_ : Nat), l.length ≤ f →
    (goes F f l out at_).2.2 = (rep F l).2.2 ∧ ((rep F l).2.2 = 0 → goes F f l out at_ = (out ++ (rep F l).1, 0, 0)) ∧ ((rep F l).2.2 ≠ 0 → goes F f l out at_ = ([], at_ + (rep F l).2.1, (rep F l).2.2)) := by
  intro f
  induction f with
  | zero =>
    intro l out at_ hl
    have : l = [] := List.eq_nil_of_length_eq_zero (by omega)
    subst this
    exact ⟨rfl, fun _ => by simp [goes, rep], fun h => absurd rfl h⟩
  | succ f ih =>
    intro l out at_ hl
    by_cases hne : l = []
    · subst hne
      exact ⟨rfl, fun _ => by simp [goes, rep], fun h => absurd rfl h⟩
    · by_cases hz : (F l).2.2 = 0
      · have hm := hF l hne hz
        have hd : (l.drop (F l).2.1).length ≤ f := by simp; omega
        have e1 : goes F (f + 1) l out at_ = goes F f (l.drop (F l).2.1) (out ++ (F l).1) (at_ + (F l).2.1) := by
          simp only [goes, hne, if_false]; rw [if_neg (by simpa using hz)]
        have e2 : rep F l = goes F f (l.drop (F l).2.1) ([] ++ (F l).1) (0 + (F l).2.1) := by
          unfold rep
          rw [goes_more hF l.length (f + 1) l [] 0 (Nat.le_refl _) hl]
          simp only [goes, hne, if_false]; rw [if_neg (by simpa using hz)]
        obtain ⟨a1, a2, a3⟩ := ih (l.drop (F l).2.1) (out ++ (F l).1) (at_ + (F l).2.1) hd
        obtain ⟨b1, b2, b3⟩ := ih (l.drop (F l).2.1) ([] ++ (F l).1) (0 + (F l).2.1) hd
        rw [e1, e2]
        refine ⟨by rw [a1, b1], fun h => ?_, fun h => ?_⟩
        · rw [b1] at h; rw [a2 h, b2 h]; simp
        · rw [b1] at h; rw [a3 h, b3 h]; simp; omega
      · have e1 := goes_bad (F := F) (out := out) (at_ := at_) hl hne hz
        have e2 : rep F l = ([], 0, (F l).2.2) := goes_bad (Nat.le_refl _) hne hz
        rw [e1, e2]
        exact ⟨rfl, fun h => absurd h hz, fun _ => by simp⟩
theorem rep_nil (F : Piece) : rep F [] = ([], 0, 0) := rfl
theorem rep_bad {F : Piece} {l : List UInt8} (hne : l ≠ []) (h : (F l).2.2 ≠ 0) : rep F l = ([], 0, (F l).2.2) := goes_bad (Nat.le_refl _) hne h
theorem rep_good {F : Piece} (hF : Moves F) {l : List UInt8} (hne : l ≠ []) (h : (F l).2.2 = 0) :
    ((rep F (l.drop (F l).2.1)).2.2 = 0 → rep F l = ((F l).1 ++ (rep F (l.drop (F l).2.1)).1, 0, 0)) ∧ ((rep F (l.drop (F l).2.1)).2.2 ≠ 0 → rep F l = ([], (F l).2.1 + (rep F (l.drop (F l).2.1)).2.1, (rep F (l.drop (F l).2.1)).2.2)) := by
  have e : rep F l = goes F l.length (l.drop (F l).2.1) ([] ++ (F l).1) (0 + (F l).2.1) := goes_good hF (Nat.le_refl _) hne h
  obtain ⟨_, a2, a3⟩ := goes_ahead hF l.length (l.drop (F l).2.1) ([] ++ (F l).1) (0 + (F l).2.1) (by simp)
  exact ⟨fun h => by rw [e, a2 h]; simp, fun h => by rw [e, a3 h]; simp⟩
/-- What stands for a text's beginning hangs on no more than it. -/
def Local (F : Piece) : Prop := ∀ l r, l ≠ [] → (F l).2.2 = 0 → F (l ++ r) = F l
/-- A text that is gone through to its end, and another one behind it. -/
theorem rep_append {F : Piece} (hF : Moves F) (hL : Local F) : ∀ (n : Nat) (a b : List UInt8), a.length ≤ n → (rep F a).2.2 = 0 →
    ((rep F (a ++ b)).2.2 = (rep F b).2.2 ∧ ((rep F b).2.2 = 0 → (rep F (a ++ b)).1 = (rep F a).1 ++ (rep F b).1) ∧ ((rep F b).2.2 ≠ 0 → (rep F (a ++ b)).2.1 = (rep F b).2.1 + a.length)) := by
  intro n
  induction n with
  | zero =>
    intro a b hl _
    have : a = [] := List.eq_nil_of_length_eq_zero (by omega)
    subst this
    simp [rep_nil]
  | succ n ih =>
    intro a b hl hz
    by_cases hne : a = []
    · subst hne; simp [rep_nil]
    · by_cases hf : (F a).2.2 = 0
      · have hm := hF a hne hf
        have hl2 := hL a b hne hf
        have hne2 : a ++ b ≠ [] := by simp [hne]
        obtain ⟨g1, g2⟩ := rep_good hF hne hf
        obtain ⟨k1, k2⟩ := rep_good hF hne2 (by rw [hl2]; exact hf)
        rw [hl2, List.drop_append_of_le_length hm.2] at k1 k2
        have hz' : (rep F (a.drop (F a).2.1)).2.2 = 0 := Decidable.byContradiction fun h => by rw [g2 h] at hz; exact h hz
        obtain ⟨c1, c2, c3⟩ := ih (a.drop (F a).2.1) b (by simp; omega) hz'
        have hg := g1 hz'
        by_cases hb : (rep F b).2.2 = 0
        · have hk := k1 (by rw [c1]; exact hb)
          refine ⟨by rw [hk, hb], fun _ => ?_, fun h => absurd hb h⟩
          rw [hk, hg]; simp only; rw [c2 hb, List.append_assoc]
        · have hk := k2 (by rw [c1]; exact hb)
          refine ⟨by rw [hk]; exact c1, fun h => absurd h hb, fun _ => ?_⟩
          rw [hk]; simp only; rw [c3 hb, List.length_drop]; omega
      · rw [rep_bad hne hf] at hz; exact absurd hz hf
/-- Each of a text's pieces is such, so is what they are put together to. -/
theorem rep_ind {F : Piece} (hF : Moves F) {Q : List UInt8 → List UInt8 → Prop} (h0 : Q [] []) (hs : ∀ l q, l ≠ [] → (F l).2.2 = 0 → (rep F (l.drop (F l).2.1)).2.2 = 0 → Q (l.drop (F l).2.1) q → Q l ((F l).1 ++ q)) :
    ∀ (n : Nat) (l : List UInt8), l.length ≤ n → (rep F l).2.2 = 0 → Q l (rep F l).1 := by
  intro n
  induction n with
  | zero =>
    intro l hl _
    have : l = [] := List.eq_nil_of_length_eq_zero (by omega)
    subst this; exact h0
  | succ n ih =>
    intro l hl hz
    by_cases hne : l = []
    · subst hne; exact h0
    · by_cases hf : (F l).2.2 = 0
      · have hm := hF l hne hf
        obtain ⟨g1, g2⟩ := rep_good hF hne hf
        have hz' : (rep F (l.drop (F l).2.1)).2.2 = 0 := Decidable.byContradiction fun h => by rw [g2 h] at hz; exact h hz
        rw [g1 hz']
        exact hs l _ hne hf hz' (ih _ (by simp; omega) hz')
      · rw [rep_bad hne hf] at hz; exact absurd hz hf
theorem rep_err {F : Piece} (hF : Moves F) : ∀ (n : Nat) (l : List UInt8), l.length ≤ n → (rep F l).2.2 ≠ 0 → (rep F l).1 = [] := by
  intro n
  induction n with
  | zero =>
    intro l hl h
    have : l = [] := List.eq_nil_of_length_eq_zero (by omega)
    subst this; exact absurd rfl h
  | succ n ih =>
    intro l hl h
    by_cases hne : l = []
    · subst hne; rfl
    · by_cases hf : (F l).2.2 = 0
      · obtain ⟨g1, g2⟩ := rep_good hF hne hf
        by_cases hz : (rep F (l.drop (F l).2.1)).2.2 = 0
        · rw [g1 hz] at h; exact absurd rfl h
        · rw [g2 hz]
      · rw [rep_bad hne hf]
end Go.Proofs.YthncfhakbobkkaaGreatDoor.En
