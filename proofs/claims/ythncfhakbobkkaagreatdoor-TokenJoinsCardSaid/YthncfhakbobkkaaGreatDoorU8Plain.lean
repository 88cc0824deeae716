/- Plain facts on characters of XML as bytes: which numbers are characters, their bytes, which character a text begins with, how many stand one behind the other. No program is named here. No conditions. -/
import Derived.Lib.DecodeN
import Derived.Lib.Strings
namespace Go.Proofs.YthncfhakbobkkaaGreatDoor.U8
open Go

def isCh (c : Int) : Bool := decide (c = 9 ∨ c = 10 ∨ c = 13 ∨ (32 ≤ c ∧ c ≤ 55295) ∨ (57344 ≤ c ∧ c ≤ 65533) ∨ (65536 ≤ c ∧ c ≤ 1114111))
theorem isCh_iff (c : Int) : isCh c = true ↔ (c = 9 ∨ c = 10 ∨ c = 13 ∨ (32 ≤ c ∧ c ≤ 55295) ∨ (57344 ≤ c ∧ c ≤ 65533) ∨ (65536 ≤ c ∧ c ≤ 1114111)) := by
  unfold isCh; exact decide_eq_true_iff
theorem isCh_lo {c : Int} (h : isCh c = true) : 9 ≤ c ∧ c ≤ 1114111 := by
  rw [isCh_iff] at h; omega

def bn (l : List UInt8) (i : Nat) : Nat := (l.getD i 0).toNat
theorem bn_lt (l : List UInt8) (i : Nat) : bn l i < 256 := (l.getD i 0).toNat_lt

def toB (x : Int) : UInt8 := x.toNat.toUInt8
theorem toB_nat {x : Int} (h0 : 0 ≤ x) (h1 : x < 256) : (toB x).toNat = x.toNat := by
  unfold toB
  simp only [Nat.toUInt8, UInt8.toNat_ofNat']
  omega
theorem toB_bn (l : List UInt8) (i : Nat) (x : Int) (h : x = bn l i) : toB x = l.getD i 0 := by
  subst h
  apply UInt8.toNat_inj.1
  rw [toB_nat (by omega) (by have := bn_lt l i; omega)]
  simp [bn]

/-- A character's bytes, as numbers. -/
def putZ (c : Int) : List Int :=
  if c ≤ 127 then [c] else if c ≤ 2047 then [192 + c / 64, 128 + c % 64] else if c ≤ 65535 then [224 + c / 4096, 128 + c / 64 % 64, 128 + c % 64]
  else [240 + c / 262144, 128 + c / 4096 % 64, 128 + c / 64 % 64, 128 + c % 64]
def put (c : Int) : List UInt8 := if isCh c then (putZ c).map toB else []
def width (c : Int) : Nat := if c ≤ 127 then 1 else if c ≤ 2047 then 2 else if c ≤ 65535 then 3 else 4
theorem width_bd (c : Int) : 1 ≤ width c ∧ width c ≤ 4 := by
  unfold width; repeat' split
  all_goals omega
theorem putZ_length (c : Int) : (putZ c).length = width c := by
  unfold putZ width; repeat' split
  all_goals rfl
theorem put_length {c : Int} (h : isCh c = true) : (put c).length = width c := by simp [put, h, putZ_length]
theorem put_no {c : Int} (h : isCh c = false) : put c = [] := by simp [put, h]
theorem put_isEmpty (c : Int) : (put c).isEmpty = !isCh c := by
  cases h : isCh c with
  | false => simp [put, h]
  | true =>
    have h1 := put_length h
    have h2 := width_bd c
    cases hp : put c with
    | nil => rw [hp] at h1; simp at h1; omega
    | cons _ _ => rfl

/-- The four ways in which a character's bytes stand. -/
theorem put_form {c : Int} (h : isCh c = true) (r : List UInt8) :
    (c ≤ 127 ∧ width c = 1 ∧ (bn (put c ++ r) 0 : Int) = c ∧ 1 ≤ (put c ++ r).length) ∨
    (128 ≤ c ∧ c ≤ 2047 ∧ width c = 2 ∧ (bn (put c ++ r) 0 : Int) = 192 + c / 64 ∧ (bn (put c ++ r) 1 : Int) = 128 + c % 64 ∧ 2 ≤ (put c ++ r).length) ∨
    (2048 ≤ c ∧ c ≤ 65535 ∧ width c = 3 ∧ (bn (put c ++ r) 0 : Int) = 224 + c / 4096 ∧ (bn (put c ++ r) 1 : Int) = 128 + c / 64 % 64 ∧ (bn (put c ++ r) 2 : Int) = 128 + c % 64 ∧ 3 ≤ (put c ++ r).length) ∨
    (65536 ≤ c ∧ width c = 4 ∧ (bn (put c ++ r) 0 : Int) = 240 + c / 262144 ∧ (bn (put c ++ r) 1 : Int) = 128 + c / 4096 % 64 ∧ (bn (put c ++ r) 2 : Int) = 128 + c / 64 % 64 ∧ (bn (put c ++ r) 3 : Int) = 128 + c % 64 ∧ 4 ≤ (put c ++ r).length) := by
  have hb := isCh_lo h
  have key : ∀ x : Int, 0 ≤ x → x < 256 → ((toB x).toNat : Int) = x := fun x h0 h1 => by rw [toB_nat h0 h1]; omega
  by_cases h1 : c ≤ 127
  · left
    refine ⟨h1, by simp [width, h1], ?_, by simp [put, h, putZ, h1]⟩
    simp only [put, h, if_true, putZ, h1, bn, List.map_cons, List.map_nil, List.cons_append, List.getD_cons_zero]
    exact key c (by omega) (by omega)
  · by_cases h2 : c ≤ 2047
    · right; left
      refine ⟨by omega, h2, by simp [width, h1, h2], ?_, ?_, by simp [put, h, putZ, h1, h2]⟩
      · simp only [put, h, if_true, putZ, h1, h2, if_false, bn, List.map_cons, List.map_nil, List.cons_append, List.getD_cons_zero]
        exact key _ (by omega) (by omega)
      · simp only [put, h, if_true, putZ, h1, h2, if_false, bn, List.map_cons, List.map_nil, List.cons_append, List.getD_cons_zero, List.getD_cons_succ]
        exact key _ (by omega) (by omega)
    · by_cases h3 : c ≤ 65535
      · right; right; left
        refine ⟨by omega, h3, by simp [width, h1, h2, h3], ?_, ?_, ?_, by simp [put, h, putZ, h1, h2, h3]⟩
        all_goals
          simp only [put, h, if_true, putZ, h1, h2, h3, if_false, bn, List.map_cons, List.map_nil, List.cons_append, List.getD_cons_zero, List.getD_cons_succ]
          exact key _ (by omega) (by omega)
      · right; right; right
        refine ⟨by omega, by simp [width, h1, h2, h3], ?_, ?_, ?_, ?_, by simp [put, h, putZ, h1, h2, h3]⟩
        all_goals
          simp only [put, h, if_true, putZ, h1, h2, h3, if_false, bn, List.map_cons, List.map_nil, List.cons_append, List.getD_cons_zero, List.getD_cons_succ]
          exact key _ (by omega) (by omega)

/-- A text that has these bytes begins with the character's. -/
theorem take_one (l : List UInt8) (h : 1 ≤ l.length) : l.take 1 = [l.getD 0 0] := by
  match l, h with
  | _ :: _, _ => rfl
theorem take_two (l : List UInt8) (h : 2 ≤ l.length) : l.take 2 = [l.getD 0 0, l.getD 1 0] := by
  match l, h with
  | _ :: _ :: _, _ => rfl
theorem take_three (l : List UInt8) (h : 3 ≤ l.length) : l.take 3 = [l.getD 0 0, l.getD 1 0, l.getD 2 0] := by
  match l, h with
  | _ :: _ :: _ :: _, _ => rfl
theorem take_four (l : List UInt8) (h : 4 ≤ l.length) : l.take 4 = [l.getD 0 0, l.getD 1 0, l.getD 2 0, l.getD 3 0] := by
  match l, h with
  | _ :: _ :: _ :: _ :: _, _ => rfl
theorem put_one {c : Int} {l : List UInt8} (h : isCh c = true) (h1 : c ≤ 127) (e0 : c = bn l 0) (hl : 1 ≤ l.length) : put c = l.take 1 := by
  rw [take_one l hl, ← toB_bn l 0 _ e0]; simp [put, h, putZ, h1]
theorem put_two {c : Int} {l : List UInt8} (h : isCh c = true) (h1 : 128 ≤ c) (h2 : c ≤ 2047) (e0 : 192 + c / 64 = bn l 0) (e1 : 128 + c % 64 = bn l 1) (hl : 2 ≤ l.length) : put c = l.take 2 := by
  have g1 : ¬ c ≤ 127 := by omega
  rw [take_two l hl, ← toB_bn l 0 _ e0, ← toB_bn l 1 _ e1]; simp [put, h, putZ, g1, h2]
theorem put_three {c : Int} {l : List UInt8} (h : isCh c = true) (h1 : 2048 ≤ c) (h2 : c ≤ 65535) (e0 : 224 + c / 4096 = bn l 0) (e1 : 128 + c / 64 % 64 = bn l 1) (e2 : 128 + c % 64 = bn l 2) (hl : 3 ≤ l.length) : put c = l.take 3 := by
  have g1 : ¬ c ≤ 127 := by omega
  have g2 : ¬ c ≤ 2047 := by omega
  rw [take_three l hl, ← toB_bn l 0 _ e0, ← toB_bn l 1 _ e1, ← toB_bn l 2 _ e2]; simp [put, h, putZ, g1, g2, h2]
theorem put_four {c : Int} {l : List UInt8} (h : isCh c = true) (h1 : 65536 ≤ c) (e0 : 240 + c / 262144 = bn l 0) (e1 : 128 + c / 4096 % 64 = bn l 1) (e2 : 128 + c / 64 % 64 = bn l 2) (e3 : 128 + c % 64 = bn l 3) (hl : 4 ≤ l.length) : put c = l.take 4 := by
  have g1 : ¬ c ≤ 127 := by omega
  have g2 : ¬ c ≤ 2047 := by omega
  have g3 : ¬ c ≤ 65535 := by omega
  rw [take_four l hl, ← toB_bn l 0 _ e0, ← toB_bn l 1 _ e1, ← toB_bn l 2 _ e2, ← toB_bn l 3 _ e3]; simp [put, h, putZ, g1, g2, g3]

/-- What so many bytes would be. -/
def num (l : List UInt8) (n : Nat) : Int :=
  if n = 1 then bn l 0 else if n = 2 then ((bn l 0 : Int) - 192) * 64 + bn l 1 - 128
  else if n = 3 then (((bn l 0 : Int) - 224) * 64 + bn l 1 - 128) * 64 + bn l 2 - 128
  else ((((bn l 0 : Int) - 240) * 64 + bn l 1 - 128) * 64 + bn l 2 - 128) * 64 + bn l 3 - 128
def hit (l : List UInt8) (n : Nat) : Bool := decide (n ≤ l.length) && (isCh (num l n) && (put (num l n) == l.take n))
/-- The first character of a text: its number, its bytes, 0; or 0, 0 and 10. -/
def nx (l : List UInt8) : Int × Nat × Int :=
  if l = [] then (0, 0, 0) else if hit l 1 then (num l 1, 1, 0) else if hit l 2 then (num l 2, 2, 0) else if hit l 3 then (num l 3, 3, 0) else if hit l 4 then (num l 4, 4, 0) else (0, 0, 10)

/-- What is hit is a character that stands there. -/
theorem hit_put {l : List UInt8} {n : Nat} (h : hit l n = true) : isCh (num l n) = true ∧ put (num l n) ++ l.drop n = l ∧ n ≤ l.length ∧ n = width (num l n) := by
  simp only [hit, Bool.and_eq_true, decide_eq_true_eq, beq_iff_eq] at h
  obtain ⟨h1, h2, h3⟩ := h
  refine ⟨h2, by rw [h3, List.take_append_drop], h1, ?_⟩
  rw [← put_length h2, h3, List.length_take]; omega

/-- The bytes tell the character, and how long they are. -/
theorem num_put {c : Int} (h : isCh c = true) (r : List UInt8) : num (put c ++ r) (width c) = c := by
  rcases put_form h r with ⟨a, hw, e0, _⟩ | ⟨a, b, hw, e0, e1, _⟩ | ⟨a, b, hw, e0, e1, e2, _⟩ | ⟨a, hw, e0, e1, e2, e3, _⟩
  · rw [hw]; simp only [num, if_true]; omega
  · rw [hw]; simp only [num]; simp only [Nat.reduceEqDiff, if_false, if_true]; omega
  · rw [hw]; simp only [num]; simp only [Nat.reduceEqDiff, if_false, if_true]; omega
  · have hb := isCh_lo h
    rw [hw]; simp only [num]; simp only [Nat.reduceEqDiff, if_false]; omega
theorem hit_own {c : Int} (h : isCh c = true) (r : List UInt8) : hit (put c ++ r) (width c) = true := by
  have hl := put_length h
  simp only [hit, num_put h r, h, Bool.and_eq_true, decide_eq_true_eq, beq_iff_eq]
  refine ⟨by simp; omega, trivial, ?_⟩
  rw [← hl, List.take_left]
/-- No character's bytes begin another one's. -/
theorem put_inj {c d : Int} (hc : isCh c = true) (hd : isCh d = true) {r t : List UInt8} (h : put c ++ r = put d ++ t) : c = d := by
  have e1 := num_put hc r
  have e2 := num_put hd t
  have hw : width c = width d := by
    have f1 := put_form hc r
    have f2 := put_form hd t
    have b1 := isCh_lo hc
    have b2 := isCh_lo hd
    rw [h] at f1
    rcases f1 with ⟨_, hw, e0, _⟩ | ⟨_, _, hw, e0, _⟩ | ⟨_, _, hw, e0, _⟩ | ⟨_, hw, e0, _⟩ <;>
      rcases f2 with ⟨_, hw', e0', _⟩ | ⟨_, _, hw', e0', _⟩ | ⟨_, _, hw', e0', _⟩ | ⟨_, hw', e0', _⟩ <;> omega
  rw [← e1, ← e2, h, hw]
theorem hit_only {c : Int} (h : isCh c = true) (r : List UInt8) {n : Nat} (hn : hit (put c ++ r) n = true) : n = width c := by
  obtain ⟨h1, h2, _, h4⟩ := hit_put hn
  have := put_inj h1 h h2
  rw [h4, this]
theorem nx_put {c : Int} (h : isCh c = true) (r : List UInt8) : nx (put c ++ r) = (c, width c, 0) := by
  have hl := put_length h
  have hb := width_bd c
  have hne : put c ++ r ≠ [] := by intro e; have := congrArg List.length e; rw [List.length_append, hl] at this; simp at this; omega
  have hown := hit_own h r
  have hnum := num_put h r
  have ho : ∀ n, n ≠ width c → hit (put c ++ r) n = false := fun n hn => by
    cases e : hit (put c ++ r) n with
    | false => rfl
    | true => exact absurd (hit_only h r e) hn
  unfold nx
  rw [if_neg hne]
  have hcase : width c = 1 ∨ width c = 2 ∨ width c = 3 ∨ width c = 4 := by omega
  rcases hcase with e | e | e | e <;> rw [e] at hown hnum ho ⊢
  · rw [if_pos hown, hnum]
  · rw [ho 1 (by omega), if_neg (by simp), if_pos hown, hnum]
  · rw [ho 1 (by omega), ho 2 (by omega), if_neg (by simp), if_neg (by simp), if_pos hown, hnum]
  · rw [ho 1 (by omega), ho 2 (by omega), ho 3 (by omega), if_neg (by simp), if_neg (by simp), if_neg (by simp), if_pos hown, hnum]

/-- A text begins with a character, or with none. -/
theorem nx_cases (l : List UInt8) (hl : l ≠ []) : (∃ c, isCh c = true ∧ put c ++ l.drop (width c) = l ∧ width c ≤ l.length ∧ nx l = (c, width c, 0)) ∨ (nx l = (0, 0, 10) ∧ (∀ n, 1 ≤ n → n ≤ 4 → hit l n = false) ∧ ∀ c r, isCh c = true → l ≠ put c ++ r) := by
  have some_ : ∀ n, hit l n = true → (∃ c, isCh c = true ∧ put c ++ l.drop (width c) = l ∧ width c ≤ l.length ∧ nx l = (c, width c, 0)) := fun n hn => by
    obtain ⟨h1, h2, h3, h4⟩ := hit_put hn
    refine ⟨num l n, h1, by rw [← h4]; exact h2, by omega, ?_⟩
    have := nx_put h1 (l.drop n)
    rw [h2] at this
    exact this
  by_cases h1 : hit l 1 = true
  · exact Or.inl (some_ 1 h1)
  · by_cases h2 : hit l 2 = true
    · exact Or.inl (some_ 2 h2)
    · by_cases h3 : hit l 3 = true
      · exact Or.inl (some_ 3 h3)
      · by_cases h4 : hit l 4 = true
        · exact Or.inl (some_ 4 h4)
        · right
          refine ⟨by simp [nx, hl, h1, h2, h3, h4], fun n hn1 hn4 => ?_, fun c r hc e => ?_⟩
          · have : n = 1 ∨ n = 2 ∨ n = 3 ∨ n = 4 := by omega
            rcases this with rfl | rfl | rfl | rfl
            · exact Bool.eq_false_iff.2 h1
            · exact Bool.eq_false_iff.2 h2
            · exact Bool.eq_false_iff.2 h3
            · exact Bool.eq_false_iff.2 h4
          · have := nx_put hc r
            rw [← e] at this
            simp [nx, hl, h1, h2, h3, h4] at this

/-! ### Go's own decoder -/
def dec (l : List UInt8) : Nat × Nat := Lib.decodeN l.length (bn l 0) (bn l 1) (bn l 2) (bn l 3)
/-- Does a text of which c was decoded begin with a character? -/
def begB (l : List UInt8) (c : Int) : Bool := if c = 65533 then Lib.hasPrefix l [239, 191, 189] else isCh c

theorem pre_bytes {l : List UInt8} (h : Lib.hasPrefix l [239, 191, 189] = true) : bn l 0 = 239 ∧ bn l 1 = 191 ∧ bn l 2 = 189 ∧ 3 ≤ l.length := by
  match l, h with
  | [], h => simp [Lib.hasPrefix] at h
  | [_], h => simp [Lib.hasPrefix] at h
  | [_, _], h => simp [Lib.hasPrefix] at h
  | a :: b :: c :: r, h =>
    simp [Lib.hasPrefix] at h
    obtain ⟨rfl, rfl, rfl⟩ := h
    simp [bn]
theorem pre_of_bytes {l : List UInt8} (h0 : bn l 0 = 239) (h1 : bn l 1 = 191) (h2 : bn l 2 = 189) (hl : 3 ≤ l.length) : Lib.hasPrefix l [239, 191, 189] = true := by
  match l, hl with
  | a :: b :: c :: r, _ =>
    simp only [bn, List.getD_cons_zero, List.getD_cons_succ] at h0 h1 h2
    have e0 : a = 239 := UInt8.toNat_inj.1 (by rw [h0]; rfl)
    have e1 : b = 191 := UInt8.toNat_inj.1 (by rw [h1]; rfl)
    have e2 : c = 189 := UInt8.toNat_inj.1 (by rw [h2]; rfl)
    subst e0; subst e1; subst e2
    simp [Lib.hasPrefix]

theorem dec_put {c : Int} (h : isCh c = true) (r : List UInt8) : (((dec (put c ++ r)).1 : Nat) : Int) = c ∧ (dec (put c ++ r)).2 = width c ∧ begB (put c ++ r) c = true := by
  have hb := isCh_lo h
  have hc := (isCh_iff c).1 h
  obtain ⟨n, rfl⟩ := Int.eq_ofNat_of_zero_le (show 0 ≤ c by omega)
  rcases put_form h r with ⟨a, hw, e0, hl⟩ | ⟨a, b, hw, e0, e1, hl⟩ | ⟨a, b, hw, e0, e1, e2, hl⟩ | ⟨a, hw, e0, e1, e2, e3, hl⟩
  all_goals
    generalize put (n : Int) ++ r = l at *
  · have d : dec l = (n, 1) := by unfold dec Lib.decodeN; rw [if_pos (by omega)]; congr 1; omega
    rw [d, hw]; exact ⟨rfl, rfl, by unfold begB; rw [if_neg (by omega)]; exact h⟩
  · have d : dec l = (n, 2) := by
      unfold dec Lib.decodeN
      rw [if_neg (by omega), if_pos (by omega), if_pos (by omega)]; congr 1; omega
    rw [d, hw]; exact ⟨rfl, rfl, by unfold begB; rw [if_neg (by omega)]; exact h⟩
  · have d : dec l = (n, 3) := by
      unfold dec Lib.decodeN
      rw [if_neg (by omega), if_neg (by omega), if_pos (by omega), if_pos (by omega)]; congr 1; omega
    rw [d, hw]; refine ⟨rfl, rfl, ?_⟩
    unfold begB
    by_cases hx : (n : Int) = 65533
    · rw [if_pos hx]; exact pre_of_bytes (by omega) (by omega) (by omega) hl
    · rw [if_neg hx]; exact h
  · have d : dec l = (n, 4) := by
      unfold dec Lib.decodeN
      rw [if_neg (by omega), if_neg (by omega), if_neg (by omega), if_pos (by omega), if_pos (by omega)]; congr 1; omega
    rw [d, hw]; exact ⟨rfl, rfl, by unfold begB; rw [if_neg (by omega)]; exact h⟩

theorem decN_cases (n b0 b1 b2 b3 : Nat) :
    (Lib.decodeN n b0 b1 b2 b3 = (65533, 1) ∧ 128 ≤ b0) ∨ (Lib.decodeN n b0 b1 b2 b3 = (b0, 1) ∧ b0 < 128) ∨
    (Lib.decodeN n b0 b1 b2 b3 = (b0 % 32 * 64 + b1 % 64, 2) ∧ b0 / 32 = 6 ∧ b1 / 64 = 2 ∧ 1 < n ∧ 128 ≤ b0 % 32 * 64 + b1 % 64) ∨
    (Lib.decodeN n b0 b1 b2 b3 = (b0 % 16 * 4096 + b1 % 64 * 64 + b2 % 64, 3) ∧ b0 / 16 = 14 ∧ b1 / 64 = 2 ∧ b2 / 64 = 2 ∧ 2 < n ∧ 2048 ≤ b0 % 16 * 4096 + b1 % 64 * 64 + b2 % 64) ∨
    (Lib.decodeN n b0 b1 b2 b3 = (b0 % 8 * 262144 + b1 % 64 * 4096 + b2 % 64 * 64 + b3 % 64, 4) ∧ b0 / 8 = 30 ∧ b1 / 64 = 2 ∧ b2 / 64 = 2 ∧ b3 / 64 = 2 ∧ 3 < n ∧ 65536 ≤ b0 % 8 * 262144 + b1 % 64 * 4096 + b2 % 64 * 64 + b3 % 64) := by
  unfold Lib.decodeN
  by_cases h0 : b0 < 128
  · rw [if_pos h0]; exact Or.inr (Or.inl ⟨rfl, h0⟩)
  rw [if_neg h0]
  by_cases h1 : b0 / 32 = 6 ∧ (1 < n ∧ b1 / 64 = 2)
  · rw [if_pos h1]
    by_cases h2 : b0 % 32 * 64 + b1 % 64 ≥ 128
    · rw [if_pos h2]; exact Or.inr (Or.inr (Or.inl ⟨rfl, h1.1, h1.2.2, h1.2.1, h2⟩))
    · rw [if_neg h2]; exact Or.inl ⟨rfl, by omega⟩
  rw [if_neg h1]
  by_cases h3 : b0 / 16 = 14 ∧ (1 < n ∧ b1 / 64 = 2) ∧ (2 < n ∧ b2 / 64 = 2)
  · rw [if_pos h3]
    split
    · exact Or.inr (Or.inr (Or.inr (Or.inl ⟨rfl, h3.1, h3.2.1.2, h3.2.2.2, h3.2.2.1, by omega⟩)))
    · exact Or.inl ⟨rfl, by omega⟩
  rw [if_neg h3]
  by_cases h4 : b0 / 8 = 30 ∧ (1 < n ∧ b1 / 64 = 2) ∧ (2 < n ∧ b2 / 64 = 2) ∧ (3 < n ∧ b3 / 64 = 2)
  · rw [if_pos h4]
    split
    · exact Or.inr (Or.inr (Or.inr (Or.inr ⟨rfl, h4.1, h4.2.1.2, h4.2.2.1.2, h4.2.2.2.2, h4.2.2.2.1, by omega⟩)))
    · exact Or.inl ⟨rfl, by omega⟩
  rw [if_neg h4]
  exact Or.inl ⟨rfl, by omega⟩

/-- What Go decodes, and what begins with it, is what stands there. -/
theorem put_of_dec {l : List UInt8} (hne : l ≠ []) (h : begB l ((dec l).1 : Nat) = true) : isCh ((dec l).1 : Nat) = true ∧ put ((dec l).1 : Nat) = l.take (dec l).2 := by
  have hlen : 1 ≤ l.length := by cases l with | nil => exact absurd rfl hne | cons _ _ => simp
  have b0 := bn_lt l 0; have b1 := bn_lt l 1; have b2 := bn_lt l 2; have b3 := bn_lt l 3
  have hch : isCh ((dec l).1 : Nat) = true := by
    by_cases hx : (((dec l).1 : Nat) : Int) = 65533
    · rw [hx]; decide
    · simpa [begB, hx] using h
  refine ⟨hch, ?_⟩
  rcases decN_cases l.length (bn l 0) (bn l 1) (bn l 2) (bn l 3) with ⟨hd, g0⟩ | ⟨hd, g0⟩ | ⟨hd, g0, g1, gl, gm⟩ | ⟨hd, g0, g1, g2, gl, gm⟩ | ⟨hd, g0, g1, g2, g3, gl, gm⟩
  all_goals
    change dec l = _ at hd
    rw [hd] at hch h ⊢
    simp only at hch h ⊢
  · -- Go's error: 65533, 1
    exfalso
    obtain ⟨p0, p1, p2, p3⟩ := pre_bytes (by simpa [begB] using h)
    have : dec l = (65533, 3) := by
      unfold dec Lib.decodeN
      rw [p0, p1, p2]
      rw [if_neg (by omega), if_neg (by omega), if_pos (by omega), if_pos (by omega)]
    rw [this] at hd
    exact absurd hd (by decide)
  · exact put_one hch (by omega) (by omega) hlen
  · exact put_two hch (by omega) (by omega) (by omega) (by omega) (by omega)
  · exact put_three hch (by omega) (by omega) (by omega) (by omega) (by omega) (by omega)
  · exact put_four hch (by omega) (by omega) (by omega) (by omega) (by omega) (by omega)

/-- THE TWO WAYS ARE ONE. -/
theorem nx_dec {l : List UInt8} (hne : l ≠ []) : nx l = if begB l ((dec l).1 : Nat) then (((dec l).1 : Int), (dec l).2, 0) else (0, 0, 10) := by
  cases h : begB l ((dec l).1 : Nat) with
  | true =>
    obtain ⟨h1, h2⟩ := put_of_dec hne h
    have e : put ((dec l).1 : Nat) ++ l.drop (dec l).2 = l := by rw [h2, List.take_append_drop]
    have d := dec_put h1 (l.drop (dec l).2)
    have n := nx_put h1 (l.drop (dec l).2)
    rw [e] at d n
    rw [n, ← d.2.1]; rfl
  | false =>
    rcases nx_cases l hne with ⟨c, hc, e, _, _⟩ | ⟨hn, _, _⟩
    · have d := dec_put hc (l.drop (width c))
      rw [e] at d
      rw [d.1, d.2.2] at h
      cases h
    · rw [hn]; rfl

/-! ### how many characters stand one behind the other, and how many bytes they are -/
def leadF : Nat → List UInt8 → Nat × Nat
  | 0, _ => (0, 0)
  | f + 1, l => if l = [] then (0, 0) else if (nx l).2.2 = 0 then ((leadF f (l.drop (nx l).2.1)).1 + 1, (leadF f (l.drop (nx l).2.1)).2 + (nx l).2.1) else (0, 0)
def lead (l : List UInt8) : Nat × Nat := leadF l.length l
theorem leadF_more (f : Nat) : ∀ (l : List UInt8) (g : Nat), l.length ≤ f → l.length ≤ g → leadF f l = leadF g l := by
  induction f with
  | zero =>
    intro l g hl _
    have : l = [] := List.eq_nil_of_length_eq_zero (by omega)
    subst this
    cases g <;> rfl
  | succ f ih =>
    intro l g hl hg
    by_cases hne : l = []
    · subst hne; cases g <;> rfl
    · cases g with
      | zero => exact absurd (List.eq_nil_of_length_eq_zero (by omega)) hne
      | succ g =>
        simp only [leadF, hne, if_false]
        by_cases hz : (nx l).2.2 = 0
        · rcases nx_cases l hne with ⟨c, hch, e, hw, hn⟩ | ⟨hn, _, _⟩
          · have hb := width_bd c
            have hk : (nx l).2.1 = width c := by rw [hn]
            rw [hk, ih (l.drop (width c)) g (by simp; omega) (by simp; omega)]
          · rw [hn] at hz; cases hz
        · simp [hz]

theorem lead_nil : lead [] = (0, 0) := rfl
theorem lead_bad {l : List UInt8} (h : (nx l).2.2 ≠ 0) : lead l = (0, 0) := by
  unfold lead
  cases l.length with
  | zero => rfl
  | succ n => simp [leadF, h]
theorem nx_ok {l : List UInt8} (hne : l ≠ []) (h : (nx l).2.2 = 0) : isCh (nx l).1 = true ∧ (nx l).2.1 = width (nx l).1 ∧ 1 ≤ (nx l).2.1 ∧ (nx l).2.1 ≤ l.length ∧ put (nx l).1 ++ l.drop (nx l).2.1 = l := by
  rcases nx_cases l hne with ⟨c, hch, e, hw, hn⟩ | ⟨hn, _, _⟩
  · rw [hn]; exact ⟨hch, rfl, (width_bd c).1, hw, e⟩
  · rw [hn] at h; cases h
theorem nx_err {l : List UInt8} : (nx l).2.2 = 0 ∨ (nx l).2.2 = 10 := by
  by_cases hne : l = []
  · left; simp [nx, hne]
  · rcases nx_cases l hne with ⟨c, _, _, _, hn⟩ | ⟨hn, _, _⟩ <;> rw [hn]
    · exact Or.inl rfl
    · exact Or.inr rfl
theorem lead_good {l : List UInt8} (hne : l ≠ []) (h : (nx l).2.2 = 0) : lead l = ((lead (l.drop (nx l).2.1)).1 + 1, (lead (l.drop (nx l).2.1)).2 + (nx l).2.1) := by
  obtain ⟨_, _, h1, h2, _⟩ := nx_ok hne h
  unfold lead
  obtain ⟨n, hn⟩ : ∃ n, l.length = n + 1 := ⟨l.length - 1, by omega⟩
  rw [hn]
  simp only [leadF, hne, if_false, h, if_true]
  rw [leadF_more n (l.drop (nx l).2.1) (l.drop (nx l).2.1).length (by simp; omega) (Nat.le_refl _)]
theorem lead_le (n : Nat) : ∀ l : List UInt8, l.length ≤ n → (lead l).1 ≤ (lead l).2 ∧ (lead l).2 ≤ l.length := by
  induction n with
  | zero => intro l h; have : l = [] := List.eq_nil_of_length_eq_zero (by omega)
            subst this; exact ⟨Nat.le_refl _, Nat.le_refl _⟩
  | succ n ih =>
    intro l hl
    by_cases hne : l = []
    · subst hne; exact ⟨Nat.le_refl _, Nat.le_refl _⟩
    · by_cases h : (nx l).2.2 = 0
      · obtain ⟨_, _, h1, h2, _⟩ := nx_ok hne h
        rw [lead_good hne h]
        have := ih (l.drop (nx l).2.1) (by simp; omega)
        simp at this ⊢; omega
      · rw [lead_bad h]; exact ⟨Nat.le_refl _, Nat.zero_le _⟩
/-- A character that stands in front stands there with more behind it. -/
theorem nx_more {a b : List UInt8} (hne : a ≠ []) (h : (nx a).2.2 = 0) : nx (a ++ b) = nx a := by
  rcases nx_cases a hne with ⟨c, hch, e, hw, hn⟩ | ⟨hn, _, _⟩
  · have := nx_put hch (a.drop (width c) ++ b)
    rw [← List.append_assoc, e] at this
    rw [this, hn]
  · rw [hn] at h; cases h
theorem lead_append (n : Nat) : ∀ a b : List UInt8, a.length ≤ n → (lead a).2 = a.length → lead (a ++ b) = ((lead a).1 + (lead b).1, a.length + (lead b).2) := by
  induction n with
  | zero => intro a b h _; have : a = [] := List.eq_nil_of_length_eq_zero (by omega)
            subst this; simp [lead_nil]
  | succ n ih =>
    intro a b hl he
    by_cases hne : a = []
    · subst hne; simp [lead_nil]
    · by_cases h : (nx a).2.2 = 0
      · obtain ⟨_, _, h1, h2, _⟩ := nx_ok hne h
        have hm := nx_more (b := b) hne h
        have hg := lead_good hne h
        have hne' : a ++ b ≠ [] := by simp [hne]
        have hg' := lead_good hne' (by rw [hm]; exact h)
        rw [hm, List.drop_append_of_le_length h2] at hg'
        have := ih (a.drop (nx a).2.1) b (by simp; omega) (by rw [hg] at he; simp at he ⊢; omega)
        rw [hg', this, hg]
        simp only [List.length_drop, Prod.mk.injEq]
        omega
      · rw [lead_bad h] at he
        exact absurd (List.eq_nil_of_length_eq_zero he.symm) hne
end Go.Proofs.YthncfhakbobkkaaGreatDoor.U8
