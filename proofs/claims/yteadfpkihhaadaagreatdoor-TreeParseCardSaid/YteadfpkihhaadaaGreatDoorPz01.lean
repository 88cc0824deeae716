/- Facts and walks for the statement. -/
import Derived.Lib.DecodeN
import Derived.Lib.Strings
import Derived.Lib.Bytealg
import Derived.Lib.IndexLaws
import Derived.Lib.IndexBytes
import Derived.Lib.IndexMore
namespace Go.Proofs.YteadfpkihhaadaaGreatDoor.U8
open Go
def isCh (c : Int) : Bool := decide (c = 9 ∨ c = 10 ∨ c = 13 ∨ (32 ≤ c ∧ c ≤ 55295) ∨ (57344 ≤ c ∧ c ≤ 65533) ∨ (65536 ≤ c ∧ c ≤ 1114111))
theorem isCh_iff (c : Int) : isCh c = true ↔ (c = 9 ∨ c = 10 ∨ c = 13 ∨ (32 ≤ c ∧ c ≤ 55295) ∨ (57344 ≤ c ∧ c ≤ 65533) ∨ (65536 ≤ c ∧ c ≤ 1114111)) := by
  unfold isCh; exact decide_eq_true_iff
theorem isCh_lo {c : Int} (h : isCh c = true) : 9 ≤ c ∧ c ≤ 1114111 := by
  rw [isCh_iff] at h; omega
def bn (l : List UInt8) (i : Nat) : Nat := (l.getD i 0).toNat
theorem bn_lt (l : List UInt8) (i : Nat) : bn l i < 256 := (l.getD i 0).toNat_lt
def toB (x : Int) : UInt8 := x.toNat.toUInt8
theorem toB_nat {x : Int} (h0 : 0 ≤ x) (h1 : x < 256) : (toB x).toNat = x.toNat := by
  unfold toB
  simp only [Nat.toUInt8, UInt8.toNat_ofNat']
  omega
theorem toB_bn (l : List UInt8) (i : Nat) (x : Int) (h : x = bn l i) : toB x = l.getD i 0 := by
  subst h
  apply UInt8.toNat_inj.1
  rw [toB_nat (by omega) (by have := bn_lt l i; omega)]
  simp [bn]
def putZ (c : Int) : List Int :=
  if c ≤ 127 then [c] else if c ≤ 2047 then [192 + c / 64, 128 + c % 64] else if c ≤ 65535 then [224 + c / 4096, 128 + c / 64 % 64, 128 + c % 64]
  else [240 + c / 262144, 128 + c / 4096 % 64, 128 + c / 64 % 64, 128 + c % 64]
def put (c : Int) : List UInt8 := if isCh c then (putZ c).map toB else []
def width (c : Int) : Nat := if c ≤ 127 then 1 else if c ≤ 2047 then 2 else if c ≤ 65535 then 3 else 4
theorem width_bd (c : Int) : 1 ≤ width c ∧ width c ≤ 4 := by
  unfold width; repeat' split
  all_goals omega
theorem putZ_length (c : Int) : (putZ c).length = width c := by
  unfold putZ width; repeat' split
  all_goals rfl
theorem put_length {c : Int} (h : isCh c = true) : (put c).length = width c := by simp [put, h, putZ_length]
theorem put_no {c : Int} (h : isCh c = false) : put c = [] := by simp [put, h]
theorem put_form {c : Int} (h : isCh c = true) (r : List UInt8) :
    (c ≤ 127 ∧ width c = 1 ∧ (bn (put c ++ r) 0 : Int) = c ∧ 1 ≤ (put c ++ r).length) ∨
    (128 ≤ c ∧ c ≤ 2047 ∧ width c = 2 ∧ (bn (put c ++ r) 0 : Int) = 192 + c / 64 ∧ (bn (put c ++ r) 1 : Int) = 128 + c % 64 ∧ 2 ≤ (put c ++ r).length) ∨
    (2048 ≤ c ∧ c ≤ 65535 ∧ width c = 3 ∧ (bn (put c ++ r) 0 : Int) = 224 + c / 4096 ∧ (bn (put c ++ r) 1 : Int) = 128 + c / 64 % 64 ∧ (bn (put c ++ r) 2 : Int) = 128 + c % 64 ∧ 3 ≤ (put c ++ r).length) ∨
    (65536 ≤ c ∧ width c = 4 ∧ (bn (put c ++ r) 0 : Int) = 240 + c / 262144 ∧ (bn (put c ++ r) 1 : Int) = 128 + c / 4096 % 64 ∧ (bn (put c ++ r) 2 : Int) = 128 + c / 64 % 64 ∧ (bn (put c ++ r) 3 : Int) = 128 + c % 64 ∧ 4 ≤ (put c ++ r).length) := by
  have hb := isCh_lo h
  have key : ∀ x : Int, 0 ≤ x → x < 256 → ((toB x).toNat : Int) = x := fun x h0 h1 => by rw [toB_nat h0 h1]; omega
  by_cases h1 : c ≤ 127
  · left
    refine ⟨h1, by simp [width, h1], ?_, by simp [put, h, putZ, h1]⟩
    simp only [put, h, if_true, putZ, h1, bn, List.map_cons, List.map_nil, List.cons_append, List.getD_cons_zero]
    exact key c (by omega) (by omega)
  · by_cases h2 : c ≤ 2047
    · right; left
      refine ⟨by omega, h2, by simp [width, h1, h2], ?_, ?_, by simp [put, h, putZ, h1, h2]⟩
      · simp only [put, h, if_true, putZ, h1, h2, if_false, bn, List.map_cons, List.map_nil, List.cons_append, List.getD_cons_zero]
        exact key _ (by omega) (by omega)
      · simp only [put, h, if_true, putZ, h1, h2, if_false, bn, List.map_cons, List.map_nil, List.cons_append, List.getD_cons_zero, List.getD_cons_succ]
        exact key _ (by omega) (by omega)
    · by_cases h3 : c ≤ 65535
      · right; right; left
        refine ⟨by omega, h3, by simp [width, h1, h2, h3], ?_, ?_, ?_, by simp [put, h, putZ, h1, h2, h3]⟩
        all_goals
          simp only [put, h, if_true, putZ, h1, h2, h3, if_false, bn, List.map_cons, List.map_nil, List.cons_append, List.getD_cons_zero, List.getD_cons_succ]
          exact key _ (by omega) (by omega)
      · right; right; right
        refine ⟨by omega, by simp [width, h1, h2, h3], ?_, ?_, ?_, ?_, by simp [put, h, putZ, h1, h2, h3]⟩
        all_goals
          simp only [put, h, if_true, putZ, h1, h2, h3, if_false, bn, List.map_cons, List.map_nil, List.cons_append, List.getD_cons_zero, List.getD_cons_succ]
          exact key _ (by omega) (by omega)
theorem take_one (l : List UInt8) (h : 1 ≤ l.length) : l.take 1 = [l.getD 0 0] := by
  match l, h with
  | _ :: _, _ => rfl
theorem take_two (l : List UInt8) (h : 2 ≤ l.length) : l.take 2 = [l.getD 0 0, l.getD 1 0] := by
  match l, h with
  | _ :: _ :: _, _ => rfl
theorem take_three (l : List UInt8) (h : 3 ≤ l.length) : l.take 3 = [l.getD 0 0, l.getD 1 0, l.getD 2 0] := by
  match l, h with
  | _ :: _ :: _ :: _, _ => rfl
theorem take_four (l : List UInt8) (h : 4 ≤ l.length) : l.take 4 = [l.getD 0 0, l.getD 1 0, l.getD 2 0, l.getD 3 0] := by
  match l, h with
  | _ :: _ :: _ :: _ :: _, _ => rfl
theorem put_one {c : Int} {l : List UInt8} (h : isCh c = true) (h1 : c ≤ 127) (e0 : c = bn l 0) (hl : 1 ≤ l.length) : put c = l.take 1 := by
  rw [take_one l hl, ← toB_bn l 0 _ e0]; simp [put, h, putZ, h1]
theorem put_two {c : Int} {l : List UInt8} (h : isCh c = true) (h1 : 128 ≤ c) (h2 : c ≤ 2047) (e0 : 192 + c / 64 = bn l 0) (e1 : 128 + c % 64 = bn l 1) (hl : 2 ≤ l.length) : put c = l.take 2 := by
  have g1 : ¬ c ≤ 127 := by omega
  rw [take_two l hl, ← toB_bn l 0 _ e0, ← toB_bn l 1 _ e1]; simp [put, h, putZ, g1, h2]
theorem put_three {c : Int} {l : List UInt8} (h : isCh c = true) (h1 : 2048 ≤ c) (h2 : c ≤ 65535) (e0 : 224 + c / 4096 = bn l 0) (e1 : 128 + c / 64 % 64 = bn l 1) (e2 : 128 + c % 64 = bn l 2) (hl : 3 ≤ l.length) : put c = l.take 3 := by
  have g1 : ¬ c ≤ 127 := by omega
  have g2 : ¬ c ≤ 2047 := by omega
  rw [take_three l hl, ← toB_bn l 0 _ e0, ← toB_bn l 1 _ e1, ← toB_bn l 2 _ e2]; simp [put, h, putZ, g1, g2, h2]
theorem put_four {c : Int} {l : List UInt8} (h : isCh c = true) (h1 : 65536 ≤ c) (e0 : 240 + c / 262144 = bn l 0) (e1 : 128 + c / 4096 % 64 = bn l 1) (e2 : 128 + c / 64 % 64 = bn l 2) (e3 : 128 + c % 64 = bn l 3) (hl : 4 ≤ l.length) : put c = l.take 4 := by
  have g1 : ¬ c ≤ 127 := by omega
  have g2 : ¬ c ≤ 2047 := by omega
  have g3 : ¬ c ≤ 65535 := by omega
  rw [take_four l hl, ← toB_bn l 0 _ e0, ← toB_bn l 1 _ e1, ← toB_bn l 2 _ e2, ← toB_bn l 3 _ e3]; simp [put, h, putZ, g1, g2, g3]
def num (l : List UInt8) (n : Nat) : Int :=
  if n = 1 then bn l 0 else if n = 2 then ((bn l 0 : Int) - 192) * 64 + bn l 1 - 128
  else if n = 3 then (((bn l 0 : Int) - 224) * 64 + bn l 1 - 128) * 64 + bn l 2 - 128
  else ((((bn l 0 : Int) - 240) * 64 + bn l 1 - 128) * 64 + bn l 2 - 128) * 64 + bn l 3 - 128
def hit (l : List UInt8) (n : Nat) : Bool := decide (n ≤ l.length) && (isCh (num l n) && (put (num l n) == l.take n))
def nx (l : List UInt8) : Int × Nat × Int :=
  if l = [] then (0, 0, 0) else if hit l 1 then (num l 1, 1, 0) else if hit l 2 then (num l 2, 2, 0) else if hit l 3 then (num l 3, 3, 0) else if hit l 4 then (num l 4, 4, 0) else (0, 0, 10)
theorem hit_put {l : List UInt8} {n : Nat} (h : hit l n = true) : isCh (num l n) = true ∧ put (num l n) ++ l.drop n = l ∧ n ≤ l.length ∧ n = width (num l n) := by
  simp only [hit, Bool.and_eq_true, decide_eq_true_eq, beq_iff_eq] at h
  obtain ⟨h1, h2, h3⟩ := h
  refine ⟨h2, by rw [h3, List.take_append_drop], h1, ?_⟩
  rw [← put_length h2, h3, List.length_take]; omega
theorem num_put {c : Int} (h : isCh c = true) (r : List UInt8) : num (put c ++ r) (width c) = c := by
  rcases put_form h r with ⟨a, hw, e0, _⟩ | ⟨a, b, hw, e0, e1, _⟩ | ⟨a, b, hw, e0, e1, e2, _⟩ | ⟨a, hw, e0, e1, e2, e3, _⟩
  · rw [hw]; simp only [num, if_true]; omega
  · rw [hw]; simp only [num]; simp only [Nat.reduceEqDiff, if_false, if_true]; omega
  · rw [hw]; simp only [num]; simp only [Nat.reduceEqDiff, if_false, if_true]; omega
  · have hb := isCh_lo h
    rw [hw]; simp only [num]; simp only [Nat.reduceEqDiff, if_false]; omega
theorem hit_own {c : Int} (h : isCh c = true) (r : List UInt8) : hit (put c ++ r) (width c) = true := by
  have hl := put_length h
  simp only [hit, num_put h r, h, Bool.and_eq_true, decide_eq_true_eq, beq_iff_eq]
  refine ⟨by simp; omega, trivial, ?_⟩
  rw [← hl, List.take_left]
theorem put_inj {c d : Int} (hc : isCh c = true) (hd : isCh d = true) {r t : List UInt8} (h : put c ++ r = put d ++ t) : c = d := by
  have e1 := num_put hc r
  have e2 := num_put hd t
  have hw : width c = width d := by
    have f1 := put_form hc r
    have f2 := put_form hd t
    have b1 := isCh_lo hc
    have b2 := isCh_lo hd
    rw [h] at f1
    rcases f1 with ⟨_, hw, e0, _⟩ | ⟨_, _, hw, e0, _⟩ | ⟨_, _, hw, e0, _⟩ | ⟨_, hw, e0, _⟩ <;>
      rcases f2 with ⟨_, hw', e0', _⟩ | ⟨_, _, hw', e0', _⟩ | ⟨_, _, hw', e0', _⟩ | ⟨_, hw', e0', _⟩ <;> omega
  rw [← e1, ← e2, h, hw]
theorem hit_only {c : Int} (h : isCh c = true) (r : List UInt8) {n : Nat} (hn : hit (put c ++ r) n = true) : n = width c := by
  obtain ⟨h1, h2, _, h4⟩ := hit_put hn
  have := put_inj h1 h h2
  rw [h4, this]
theorem nx_put {c : Int} (h : isCh c = true) (r : List UInt8) : nx (put c ++ r) = (c, width c, 0) := by
  have hl := put_length h
  have hb := width_bd c
  have hne : put c ++ r ≠ [] := by intro e; have := congrArg List.length e; rw [List.length_append, hl] at this; simp at this; omega
  have hown := hit_own h r
  have hnum := num_put h r
  have ho : ∀ n, n ≠ width c → hit (put c ++ r) n = false := fun n hn => by
    cases e : hit (put c ++ r) n with
    | false => rfl
    | true => exact absurd (hit_only h r e) hn
  unfold nx
  rw [if_neg hne]
  have hcase : width c = 1 ∨ width c = 2 ∨ width c = 3 ∨ width c = 4 := by omega
  rcases hcase with e | e | e | e <;> rw [e] at hown hnum ho ⊢
  · rw [if_pos hown, hnum]
  · rw [ho 1 (by omega), if_neg (by simp), if_pos hown, hnum]
  · rw [ho 1 (by omega), ho 2 (by omega), if_neg (by simp), if_neg (by simp), if_pos hown, hnum]
  · rw [ho 1 (by omega), ho 2 (by omega), ho 3 (by omega), if_neg (by simp), if_neg (by simp), if_neg (by simp), if_pos hown, hnum]
theorem nx_cases (l : List UInt8) (hl : l ≠ []) : (∃ c, isCh c = true ∧ put c ++ l.drop (width c) = l ∧ width c ≤ l.length ∧ nx l = (c, width c, 0)) ∨ (nx l = (0, 0, 10) ∧ (∀ n, 1 ≤ n → n ≤ 4 → hit l n = false) ∧ ∀ c r, isCh c = true → l ≠ put c ++ r) := by
  have some_ : ∀ n, hit l n = true → (∃ c, isCh c = true ∧ put c ++ l.drop (width c) = l ∧ width c ≤ l.length ∧ nx l = (c, width c, 0)) := fun n hn => by
    obtain ⟨h1, h2, h3, h4⟩ := hit_put hn
    refine ⟨num l n, h1, by rw [← h4]; exact h2, by omega, ?_⟩
    have := nx_put h1 (l.drop n)
    rw [h2] at this
    exact this
  by_cases h1 : hit l 1 = true
  · exact Or.inl (some_ 1 h1)
  · by_cases h2 : hit l 2 = true
    · exact Or.inl (some_ 2 h2)
    · by_cases h3 : hit l 3 = true
      · exact Or.inl (some_ 3 h3)
      · by_cases h4 : hit l 4 = true
        · exact Or.inl (some_ 4 h4)
        · right
          refine ⟨by simp [nx, hl, h1, h2, h3, h4], fun n hn1 hn4 => ?_, fun c r hc e => ?_⟩
          · have : n = 1 ∨ n = 2 ∨ n = 3 ∨ n = 4 := by omega
            rcases this with rfl | rfl | rfl | rfl
            · exact Bool.eq_false_iff.2 h1
            · exact Bool.eq_false_iff.2 h2
            · exact Bool.eq_false_iff.2 h3
            · exact Bool.eq_false_iff.2 h4
          · have := nx_put hc r
            rw [← e] at this
            simp [nx, hl, h1, h2, h3, h4] at this
/-! ### Go's own decoder -/
def dec (l : List UInt8) : Nat × Nat := Lib.decodeN l.length (bn l 0) (bn l 1) (bn l 2) (bn l 3)
def begB (l : List UInt8) (c : Int) : Bool := if c = 65533 then Lib.hasPrefix l [239, 191, 189] else isCh c
theorem pre_bytes {l : List UInt8} (h : Lib.hasPrefix l [239, 191, 189] = true) : bn l 0 = 239 ∧ bn l 1 = 191 ∧ bn l 2 = 189 ∧ 3 ≤ l.length := by
  match l, h with
  | [], h => simp [Lib.hasPrefix] at h
  | [_], h => simp [Lib.hasPrefix] at h
  | [_, _], h => simp [Lib.hasPrefix] at h
  | a :: b :: c :: r, h =>
    simp [Lib.hasPrefix] at h
    obtain ⟨rfl, rfl, rfl⟩ := h
    simp [bn]
theorem pre_of_bytes {l : List UInt8} (h0 : bn l 0 = 239) (h1 : bn l 1 = 191) (h2 : bn l 2 = 189) (hl : 3 ≤ l.length) : Lib.hasPrefix l [239, 191, 189] = true := by
  match l, hl with
  | a :: b :: c :: r, _ =>
    simp only [bn, List.getD_cons_zero, List.getD_cons_succ] at h0 h1 h2
    have e0 : a = 239 := UInt8.toNat_inj.1 (by rw [h0]; rfl)
    have e1 : b = 191 := UInt8.toNat_inj.1 (by rw [h1]; rfl)
    have e2 : c = 189 := UInt8.toNat_inj.1 (by rw [h2]; rfl)
    subst e0; subst e1; subst e2
    simp [Lib.hasPrefix]
theorem dec_put {c : Int} (h : isCh c = true) (r : List UInt8) : (((dec (put c ++ r)).1 : Nat) : Int) = c ∧ (dec (put c ++ r)).2 = width c ∧ begB (put c ++ r) c = true := by
  have hb := isCh_lo h
  have hc := (isCh_iff c).1 h
  obtain ⟨n, rfl⟩ := Int.eq_ofNat_of_zero_le (show 0 ≤ c by omega)
  rcases put_form h r with ⟨a, hw, e0, hl⟩ | ⟨a, b, hw, e0, e1, hl⟩ | ⟨a, b, hw, e0, e1, e2, hl⟩ | ⟨a, hw, e0, e1, e2, e3, hl⟩
  all_goals
    generalize put (n : Int) ++ r = l at *
  · have d : dec l = (n, 1) := by unfold dec Lib.decodeN; rw [if_pos (by omega)]; congr 1; omega
    rw [d, hw]; exact ⟨rfl, rfl, by unfold begB; rw [if_neg (by omega)]; exact h⟩
  · have d : dec l = (n, 2) := by
      unfold dec Lib.decodeN
      rw [if_neg (by omega), if_pos (by omega), if_pos (by omega)]; congr 1; omega
    rw [d, hw]; exact ⟨rfl, rfl, by unfold begB; rw [if_neg (by omega)]; exact h⟩
  · have d : dec l = (n, 3) := by
      unfold dec Lib.decodeN
      rw [if_neg (by omega), if_neg (by omega), if_pos (by omega), if_pos (by omega)]; congr 1; omega
    rw [d, hw]; refine ⟨rfl, rfl, ?_⟩
    unfold begB
    by_cases hx : (n : Int) = 65533
    · rw [if_pos hx]; exact pre_of_bytes (by omega) (by omega) (by omega) hl
    · rw [if_neg hx]; exact h
  · have d : dec l = (n, 4) := by
      unfold dec Lib.decodeN
      rw [if_neg (by omega), if_neg (by omega), if_neg (by omega), if_pos (by omega), if_pos (by omega)]; congr 1; omega
    rw [d, hw]; exact ⟨rfl, rfl, by unfold begB; rw [if_neg (by omega)]; exact h⟩
theorem decN_cases (n b0 b1 b2 b3 : Nat) :
    (Lib.decodeN n b0 b1 b2 b3 = (65533, 1) ∧ 128 ≤ b0) ∨ (Lib.decodeN n b0 b1 b2 b3 = (b0, 1) ∧ b0 < 128) ∨
    (Lib.decodeN n b0 b1 b2 b3 = (b0 % 32 * 64 + b1 % 64, 2) ∧ b0 / 32 = 6 ∧ b1 / 64 = 2 ∧ 1 < n ∧ 128 ≤ b0 % 32 * 64 + b1 % 64) ∨
    (Lib.decodeN n b0 b1 b2 b3 = (b0 % 16 * 4096 + b1 % 64 * 64 + b2 % 64, 3) ∧ b0 / 16 = 14 ∧ b1 / 64 = 2 ∧ b2 / 64 = 2 ∧ 2 < n ∧ 2048 ≤ b0 % 16 * 4096 + b1 % 64 * 64 + b2 % 64) ∨
    (Lib.decodeN n b0 b1 b2 b3 = (b0 % 8 * 262144 + b1 % 64 * 4096 + b2 % 64 * 64 + b3 % 64, 4) ∧ b0 / 8 = 30 ∧ b1 / 64 = 2 ∧ b2 / 64 = 2 ∧ b3 / 64 = 2 ∧ 3 < n ∧ 65536 ≤ b0 % 8 * 262144 + b1 % 64 * 4096 + b2 % 64 * 64 + b3 % 64) := by
  unfold Lib.decodeN
  by_cases h0 : b0 < 128
  · rw [if_pos h0]; exact Or.inr (Or.inl ⟨rfl, h0⟩)
  rw [if_neg h0]
  by_cases h1 : b0 / 32 = 6 ∧ (1 < n ∧ b1 / 64 = 2)
  · rw [if_pos h1]
    by_cases h2 : b0 % 32 * 64 + b1 % 64 ≥ 128
    · rw [if_pos h2]; exact Or.inr (Or.inr (Or.inl ⟨rfl, h1.1, h1.2.2, h1.2.1, h2⟩))
    · rw [if_neg h2]; exact Or.inl ⟨rfl, by omega⟩
  rw [if_neg h1]
  by_cases h3 : b0 / 16 = 14 ∧ (1 < n ∧ b1 / 64 = 2) ∧ (2 < n ∧ b2 / 64 = 2)
  · rw [if_pos h3]
    split
    · exact Or.inr (Or.inr (Or.inr (Or.inl ⟨rfl, h3.1, h3.2.1.2, h3.2.2.2, h3.2.2.1, by omega⟩)))
    · exact Or.inl ⟨rfl, by omega⟩
  rw [if_neg h3]
  by_cases h4 : b0 / 8 = 30 ∧ (1 < n ∧ b1 / 64 = 2) ∧ (2 < n ∧ b2 / 64 = 2) ∧ (3 < n ∧ b3 / 64 = 2)
  · rw [if_pos h4]
    split
    · exact Or.inr (Or.inr (Or.inr (Or.inr ⟨rfl, h4.1, h4.2.1.2, h4.2.2.1.2, h4.2.2.2.2, h4.2.2.2.1, by omega⟩)))
    · exact Or.inl ⟨rfl, by omega⟩
  rw [if_neg h4]
  exact Or.inl ⟨rfl, by omega⟩
theorem put_of_dec {l : List UInt8} (hne : l ≠ []) (h : begB l ((dec l).1 : Nat) = true) : isCh ((dec l).1 : Nat) = true ∧ put ((dec l).1 : Nat) = l.take (dec l).2 := by
  have hlen : 1 ≤ l.length := by cases l with | nil => exact absurd rfl hne | cons _ _ => simp
  have b0 := bn_lt l 0; have b1 := bn_lt l 1; have b2 := bn_lt l 2; have b3 := bn_lt l 3
  have hch : isCh ((dec l).1 : Nat) = true := by
    by_cases hx : (((dec l).1 : Nat) : Int) = 65533
    · rw [hx]; decide
    · simpa [begB, hx] using h
  refine ⟨hch, ?_⟩
  rcases decN_cases l.length (bn l 0) (bn l 1) (bn l 2) (bn l 3) with ⟨hd, g0⟩ | ⟨hd, g0⟩ | ⟨hd, g0, g1, gl, gm⟩ | ⟨hd, g0, g1, g2, gl, gm⟩ | ⟨hd, g0, g1, g2, g3, gl, gm⟩
  all_goals
    change dec l = _ at hd
    rw [hd] at hch h ⊢
    simp only at hch h ⊢
  · -- Go's error: 65533, 1
    exfalso
    obtain ⟨p0, p1, p2, p3⟩ := pre_bytes (by simpa [begB] using h)
    have : dec l = (65533, 3) := by
      unfold dec Lib.decodeN
      rw [p0, p1, p2]
      rw [if_neg (by omega), if_neg (by omega), if_pos (by omega), if_pos (by omega)]
    rw [this] at hd
    exact absurd hd (by decide)
  · exact put_one hch (by omega) (by omega) hlen
  · exact put_two hch (by omega) (by omega) (by omega) (by omega) (by omega)
  · exact put_three hch (by omega) (by omega) (by omega) (by omega) (by omega) (by omega)
  · exact put_four hch (by omega) (by omega) (by omega) (by omega) (by omega) (by omega)
theorem nx_dec {l : List UInt8} (hne : l ≠ []) : nx l = if begB l ((dec l).1 : Nat) then (((dec l).1 : Int), (dec l).2, 0) else (0, 0, 10) := by
  cases h : begB l ((dec l).1 : Nat) with
  | true =>
    obtain ⟨h1, h2⟩ := put_of_dec hne h
    have e : put ((dec l).1 : Nat) ++ l.drop (dec l).2 = l := by rw [h2, List.take_append_drop]
    have d := dec_put h1 (l.drop (dec l).2)
    have n := nx_put h1 (l.drop (dec l).2)
    rw [e] at d n
    rw [n, ← d.2.1]; rfl
  | false =>
    rcases nx_cases l hne with ⟨c, hc, e, _, _⟩ | ⟨hn, _, _⟩
    · have d := dec_put hc (l.drop (width c))
      rw [e] at d
      rw [d.1, d.2.2] at h
      cases h
    · rw [hn]; rfl
/-! ### how many characters stand one behind the other, and how many bytes they are -/
def leadF : Nat → List UInt8 → Nat × Nat
  | 0, _ => (0, 0)
  | f + 1, l => if l = [] then (0, 0) else if (nx l).2.2 = 0 then ((leadF f (l.drop (nx l).2.1)).1 + 1, (leadF f (l.drop (nx l).2.1)).2 + (nx l).2.1) else (0, 0)
def lead (l : List UInt8) : Nat × Nat := leadF l.length l
theorem leadF_more (f : Nat) : ∀ (l : List UInt8) (g : Nat), l.length ≤ f → l.length ≤ g → leadF f l = leadF g l := by
  induction f with
  | zero =>
    intro l g hl _
    have : l = [] := List.eq_nil_of_length_eq_zero (by omega)
    subst this
    cases g <;> rfl
  | succ f ih =>
    intro l g hl hg
    by_cases hne : l = []
    · subst hne; cases g <;> rfl
    · cases g with
      | zero => exact absurd (List.eq_nil_of_length_eq_zero (by omega)) hne
      | succ g =>
        simp only [leadF, hne, if_false]
        by_cases hz : (nx l).2.2 = 0
        · rcases nx_cases l hne with ⟨c, hch, e, hw, hn⟩ | ⟨hn, _, _⟩
          · have hb := width_bd c
            have hk : (nx l).2.1 = width c := by rw [hn]
            rw [hk, ih (l.drop (width c)) g (by simp; omega) (by simp; omega)]
          · rw [hn] at hz; cases hz
        · simp [hz]
theorem lead_nil : lead [] = (0, 0) := rfl
theorem lead_bad {l : List UInt8} (h : (nx l).2.2 ≠ 0) : lead l = (0, 0) := by
  unfold lead
  cases l.length with
  | zero => rfl
  | succ n => simp [leadF, h]
theorem nx_ok {l : List UInt8} (hne : l ≠ []) (h : (nx l).2.2 = 0) : isCh (nx l).1 = true ∧ (nx l).2.1 = width (nx l).1 ∧ 1 ≤ (nx l).2.1 ∧ (nx l).2.1 ≤ l.length ∧ put (nx l).1 ++ l.drop (nx l).2.1 = l := by
  rcases nx_cases l hne with ⟨c, hch, e, hw, hn⟩ | ⟨hn, _, _⟩
  · rw [hn]; exact ⟨hch, rfl, (width_bd c).1, hw, e⟩
  · rw [hn] at h; cases h
theorem nx_err {l : List UInt8} : (nx l).2.2 = 0 ∨ (nx l).2.2 = 10 := by
  by_cases hne : l = []
  · left; simp [nx, hne]
  · rcases nx_cases l hne with ⟨c, _, _, _, hn⟩ | ⟨hn, _, _⟩ <;> rw [hn]
    · exact Or.inl rfl
    · exact Or.inr rfl
theorem lead_good {l : List UInt8} (hne : l ≠ []) (h : (nx l).2.2 = 0) : lead l = ((lead (l.drop (nx l).2.1)).1 + 1, (lead (l.drop (nx l).2.1)).2 + (nx l).2.1) := by
  obtain ⟨_, _, h1, h2, _⟩ := nx_ok hne h
  unfold lead
  obtain ⟨n, hn⟩ : ∃ n, l.length = n + 1 := ⟨l.length - 1, by omega⟩
  rw [hn]
  simp only [leadF, hne, if_false, h, if_true]
  rw [leadF_more n (l.drop (nx l).2.1) (l.drop (nx l).2.1).length (by simp; omega) (Nat.le_refl _)]
theorem lead_le (n : Nat) : ∀ l : List UInt8, l.length ≤ n → (lead l).1 ≤ (lead l).2 ∧ (lead l).2 ≤ l.length := by
  induction n with
  | zero => intro l h; have : l = [] := List.eq_nil_of_length_eq_zero (by omega)
            subst this; exact ⟨Nat.le_refl _, Nat.le_refl _⟩
  | succ n ih =>
    intro l hl
    by_cases hne : l = []
    · subst hne; exact ⟨Nat.le_refl _, Nat.le_refl _⟩
    · by_cases h : (nx l).2.2 = 0
      · obtain ⟨_, _, h1, h2, _⟩ := nx_ok hne h
        rw [lead_good hne h]
        have := ih (l.drop (nx l).2.1) (by simp; omega)
        simp at this ⊢; omega
      · rw [lead_bad h]; exact ⟨Nat.le_refl _, Nat.zero_le _⟩
theorem nx_more {a b : List UInt8} (hne : a ≠ []) (h : (nx a).2.2 = 0) : nx (a ++ b) = nx a := by
  rcases nx_cases a hne with ⟨c, hch, e, hw, hn⟩ | ⟨hn, _, _⟩
  · have := nx_put hch (a.drop (width c) ++ b)
    rw [← List.append_assoc, e] at this
    rw [this, hn]
  · rw [hn] at h; cases h
theorem lead_append (n : Nat) : ∀ a b : List UInt8, a.length ≤ n → (lead a).2 = a.length → lead (a ++ b) = ((lead a).1 + (lead b).1, a.length + (lead b).2) := by
  induction n with
  | zero => intro a b h _; have : a = [] := List.eq_nil_of_length_eq_zero (by omega)
            subst this; simp [lead_nil]
  | succ n ih =>
    intro a b hl he
    by_cases hne : a = []
    · subst hne; simp [lead_nil]
    · by_cases h : (nx a).2.2 = 0
      · obtain ⟨_, _, h1, h2, _⟩ := nx_ok hne h
        have hm := nx_more (b := b) hne h
        have hg := lead_good hne h
        have hne' : a ++ b ≠ [] := by simp [hne]
        have hg' := lead_good hne' (by rw [hm]; exact h)
        rw [hm, List.drop_append_of_le_length h2] at hg'
        have := ih (a.drop (nx a).2.1) b (by simp; omega) (by rw [hg] at he; simp at he ⊢; omega)
        rw [hg', this, hg]
        simp only [List.length_drop, Prod.mk.injEq]
        omega
      · rw [lead_bad h] at he
        exact absurd (List.eq_nil_of_length_eq_zero he.symm) hne
end Go.Proofs.YteadfpkihhaadaaGreatDoor.U8
namespace Go.Proofs.YteadfpkihhaadaaGreatDoor
namespace Nm
def letZ (c : Int) : Bool := decide ((65 ≤ c ∧ c ≤ 90) ∨ (97 ≤ c ∧ c ≤ 122) ∨ c = 95)
def mayZ (c : Int) : Bool := decide ((65 ≤ c ∧ c ≤ 90) ∨ (97 ≤ c ∧ c ≤ 122) ∨ c = 95 ∨ (48 ≤ c ∧ c ≤ 57) ∨ c = 45 ∨ c = 46)
def partZ (c : Int) : Int := if letZ c then 2 else if mayZ c then 1 else 0
def z (b : UInt8) : Int := (b.toNat : Int)
theorem letZ_iff (c : Int) : letZ c = true ↔ (65 ≤ c ∧ c ≤ 90) ∨ (97 ≤ c ∧ c ≤ 122) ∨ c = 95 := by unfold letZ; exact decide_eq_true_iff
theorem mayZ_iff (c : Int) : mayZ c = true ↔ (65 ≤ c ∧ c ≤ 90) ∨ (97 ≤ c ∧ c ≤ 122) ∨ c = 95 ∨ (48 ≤ c ∧ c ≤ 57) ∨ c = 45 ∨ c = 46 := by unfold mayZ; exact decide_eq_true_iff
theorem may_of_let {c : Int} (h : letZ c = true) : mayZ c = true := by rw [letZ_iff] at h; rw [mayZ_iff]; omega
theorem partZ_bd (c : Int) : 0 ≤ partZ c ∧ partZ c ≤ 2 := by unfold partZ; split <;> (try split) <;> omega
theorem partZ_two (c : Int) : partZ c < 2 ↔ letZ c = false := by unfold partZ; cases letZ c <;> cases mayZ c <;> simp
theorem partZ_one (c : Int) : partZ c < 1 ↔ mayZ c = false := by
  unfold partZ
  cases h : letZ c with
  | true => simp [may_of_let h]
  | false => cases mayZ c <;> simp
def lg : Int → List UInt8 → Nat
  | _, [] => 0
  | m, c :: l => if partZ (z c) < m then 0 else lg 1 l + 1
theorem lg_le : ∀ (l : List UInt8) (m : Int), lg m l ≤ l.length
  | [], m => Nat.le_refl _
  | c :: l, m => by
    have := lg_le l 1
    unfold lg; split
    · exact Nat.zero_le _
    · simp only [List.length_cons]; omega
theorem lg_take : ∀ (l : List UInt8) (m : Int) (n : Nat), lg m (l.take n) = min n (lg m l)
  | [], m, n => by simp [lg]
  | c :: l, m, 0 => by simp [lg]
  | c :: l, m, n + 1 => by
    have := lg_take l 1 n
    rw [List.take_succ_cons]
    simp only [lg]
    split
    · omega
    · rw [this]; omega
theorem lg_stop {l : List UInt8} {k : Nat} {m : Int} (hk : k < l.length) (h : partZ (z l[k]) < m) : lg m (l.drop k) = 0 := by
  rw [List.drop_eq_getElem_cons hk]
  unfold lg; rw [if_pos h]
theorem lg_go {l : List UInt8} {k : Nat} {m : Int} (hk : k < l.length) (h : ¬ partZ (z l[k]) < m) : lg m (l.drop k) = lg 1 (l.drop (k + 1)) + 1 := by
  rw [List.drop_eq_getElem_cons hk]
  conv => lhs; unfold lg
  rw [if_neg h]
def mays (l : List UInt8) : Bool := l.all fun c => mayZ (z c)
theorem lg_one_full : ∀ l : List UInt8, lg 1 l = l.length ↔ mays l = true
  | [] => by simp [lg, mays]
  | c :: l => by
    have ih := lg_one_full l
    have hle := lg_le l 1
    unfold mays at ih ⊢
    simp only [lg]
    rw [List.all_cons, List.length_cons]
    cases h : mayZ (z c) with
    | true => rw [if_neg (by rw [partZ_one, h]; decide)]; rw [Bool.true_and, ← ih]; omega
    | false => rw [if_pos ((partZ_one _).2 h)]; simp
def plain (l : List UInt8) : Bool := decide (1 ≤ l.length ∧ l.length ≤ 64 ∧ lg 2 l = l.length)
theorem plain_iff (l : List UInt8) : plain l = true ↔ 1 ≤ l.length ∧ l.length ≤ 64 ∧ lg 2 l = l.length := by unfold plain; exact decide_eq_true_iff
theorem plain_no {l : List UInt8} (h : ¬ (1 ≤ l.length ∧ l.length ≤ 64 ∧ lg 2 l = l.length)) : plain l = false := by
  cases e : plain l with
  | false => rfl
  | true => exact absurd ((plain_iff l).1 e) h
theorem plain_nil : plain [] = false := by decide
theorem plain_said {l : List UInt8} : plain l = true ↔ l.length ≤ 64 ∧ (∃ c r, l = c :: r ∧ letZ (z c) = true) ∧ mays l = true := by
  rw [plain_iff]
  cases l with
  | nil => simp
  | cons c r =>
    have h1 := lg_one_full r
    constructor
    · rintro ⟨_, h64, h⟩
      unfold lg at h
      cases hl : letZ (z c) with
      | false => rw [if_pos ((partZ_two _).2 hl)] at h; simp at h
      | true =>
        rw [if_neg (by rw [partZ_two, hl]; decide)] at h
        refine ⟨h64, ⟨c, r, rfl, hl⟩, ?_⟩
        unfold mays at *
        rw [List.all_cons, may_of_let hl, Bool.true_and]
        exact h1.1 (by simpa using h)
    · rintro ⟨h64, ⟨c', r', e, hl⟩, hm⟩
      obtain ⟨rfl, rfl⟩ := List.cons.inj e
      refine ⟨by simp, h64, ?_⟩
      unfold lg
      rw [if_neg (by rw [partZ_two, hl]; decide)]
      unfold mays at *
      rw [List.all_cons, Bool.and_eq_true] at hm
      rw [h1.2 hm.2]; rfl
theorem plain_may {l : List UInt8} (h : plain l = true) {k : Nat} {c : UInt8} (hk : l[k]? = some c) : mayZ (z c) = true := by
  have := (plain_said.1 h).2.2
  exact List.all_eq_true.1 this c (List.mem_of_getElem? hk)
theorem may_colon : mayZ (z 58) = false := by decide
def split (l : List UInt8) : List UInt8 × List UInt8 × Bool :=
  if plain l then ([], l, true) else if 64 < l.length then ([], [], false)
  else if plain (Lib.cut l [58]).1 && plain (Lib.cut l [58]).2.1 then ((Lib.cut l [58]).1, (Lib.cut l [58]).2.1, true) else ([], [], false)
theorem split_plain {l : List UInt8} (h : plain l = true) : split l = ([], l, true) := by unfold split; rw [if_pos h]
theorem split_long {l : List UInt8} (h : 64 < l.length) : split l = ([], [], false) := by
  unfold split
  rw [if_neg (by rw [plain_iff]; omega), if_pos h]
theorem cut_none {l : List UInt8} (h : Lib.indexByte l 58 = -1) : Lib.cut l [58] = (l, [], false) := by
  unfold Lib.cut; rw [Lib.index_one, if_neg (by omega)]
theorem cut_some {l : List UInt8} {i : Nat} (h : Lib.indexByte l 58 = i) : Lib.cut l [58] = (l.take i, l.drop (i + 1), true) := by
  unfold Lib.cut; rw [Lib.index_one, if_pos (by omega), h, Int.toNat_natCast]; rfl
theorem first_colon {l : List UInt8} {i : Nat} (hc : l[i]? = some 58) (hp : plain (l.take i) = true) : Lib.indexByte l 58 = i := by
  have hge := Lib.indexByte_ge l 58
  by_cases h : Lib.indexByte l 58 = -1
  · exact absurd hc (Lib.indexByte_none h i)
  · obtain ⟨j, hj⟩ : ∃ j : Nat, Lib.indexByte l 58 = j := ⟨(Lib.indexByte l 58).toNat, by omega⟩
    obtain ⟨h1, h2⟩ := Lib.indexByte_some hj
    have hij : ¬ i < j := fun hlt => h2 i hlt hc
    have hji : ¬ j < i := fun hlt => by
      have := plain_may hp (k := j) (c := 58) (by rw [List.getElem?_take]; simp [hlt, h1])
      rw [may_colon] at this; cases this
    rw [hj]; omega
theorem split_hit {l : List UInt8} {i : Nat} (hn : plain l = false) (h64 : l.length ≤ 64) (hc : l[i]? = some 58) (hp : plain (l.take i) = true) (hr : plain (l.drop (i + 1)) = true) :
    split l = (l.take i, l.drop (i + 1), true) := by
  unfold split
  rw [hn, if_neg (by decide), if_neg (by omega), cut_some (first_colon hc hp)]
  simp only [hp, hr, Bool.and_self, if_true]
theorem split_miss {l : List UInt8} (hn : plain l = false) (h : ∀ i : Nat, i < l.length → l[i]? = some 58 → plain (l.take i) = true → plain (l.drop (i + 1)) = true → False) : split l = ([], [], false) := by
  unfold split
  rw [hn, if_neg (by decide)]
  by_cases h64 : 64 < l.length
  · rw [if_pos h64]
  · rw [if_neg h64]
    have hge := Lib.indexByte_ge l 58
    by_cases hi : Lib.indexByte l 58 = -1
    · rw [cut_none hi]; simp only [plain_nil, Bool.and_false]; rfl
    · obtain ⟨j, hj⟩ : ∃ j : Nat, Lib.indexByte l 58 = j := ⟨(Lib.indexByte l 58).toNat, by omega⟩
      have h1 := (Lib.indexByte_some hj).1
      rw [cut_some hj]
      simp only
      rw [if_neg]
      intro hb
      rw [Bool.and_eq_true] at hb
      have hlt : j < l.length := by
        rcases Nat.lt_or_ge j l.length with h | h
        · exact h
        · rw [List.getElem?_eq_none h] at h1; cases h1
      exact h j hlt h1 hb.1 hb.2
def isn (l : List UInt8) : Bool := (split l).2.2
theorem isn_iff (l : List UInt8) : isn l = true ↔ plain l = true ∨ (l.length ≤ 64 ∧ ∃ i, l[i]? = some 58 ∧ plain (l.take i) = true ∧ plain (l.drop (i + 1)) = true) := by
  unfold isn
  constructor
  · intro h
    cases hp : plain l with
    | true => exact Or.inl rfl
    | false =>
      right
      refine ⟨?_, ?_⟩
      · rcases Nat.lt_or_ge 64 l.length with h64 | h64
        · rw [split_long h64] at h; cases h
        · exact h64
      · refine Classical.byContradiction fun hno => ?_
        rw [split_miss hp (fun i _ a b c => hno ⟨i, a, b, c⟩)] at h
        cases h
  · rintro (h | ⟨h64, i, a, b, c⟩)
    · rw [split_plain h]
    · cases hp : plain l with
      | true => rw [split_plain hp]
      | false => rw [split_hit hp h64 a b c]
def bgH (l : List UInt8) : Nat := lg 2 (l.take 64)
def bg (l : List UInt8) : Nat :=
  if bgH l = 0 ∨ bgH l = (l.take 64).length ∨ (l.take 64)[bgH l]? ≠ some 58 then bgH l
  else if lg 2 ((l.take 64).drop (bgH l + 1)) = 0 then bgH l else bgH l + 1 + lg 2 ((l.take 64).drop (bgH l + 1))
theorem plain_take {l : List UInt8} {n : Nat} (h1 : 1 ≤ n) (h2 : n ≤ lg 2 l) (h3 : n ≤ 64) : plain (l.take n) = true := by
  have := lg_le l 2
  rw [plain_iff, lg_take, List.length_take]; omega
theorem plain_take_le {l : List UInt8} {n : Nat} (hn : n ≤ l.length) (h : plain (l.take n) = true) : 1 ≤ n ∧ n ≤ lg 2 l := by
  rw [plain_iff, lg_take, List.length_take] at h; omega
theorem lg_in {l : List UInt8} {n k : Nat} {c : UInt8} (hn : n ≤ lg 2 l) (hk : k < n) (hc : l[k]? = some c) : mayZ (z c) = true := by
  have h1 := lg_le l 2
  have h2 : lg 2 (l.take (lg 2 l)) = (l.take (lg 2 l)).length := by rw [lg_take, List.length_take]; omega
  have key : ∀ (q : List UInt8) (m : Int), 1 ≤ m → lg m q = q.length → mays q = true := by
    intro q
    cases q with
    | nil => intro m _ _; rfl
    | cons a r =>
      intro m hm h
      unfold lg at h
      by_cases hp : partZ (z a) < m
      · rw [if_pos hp] at h; simp at h
      · rw [if_neg hp] at h
        have hr := (lg_one_full r).1 (by simpa using h)
        have ha : mayZ (z a) = true := by
          cases e : mayZ (z a) with
          | true => rfl
          | false => exact absurd ((partZ_one _).2 e) (by omega)
        unfold mays at *
        rw [List.all_cons, ha, hr]; rfl
  have := key _ 2 (by omega) h2
  exact List.all_eq_true.1 this c (List.mem_of_getElem? (i := k) (by rw [List.getElem?_take]; simp [show k < lg 2 l by omega, hc]))
theorem bg_most {l : List UInt8} {n : Nat} (hn : n ≤ l.length) (h64 : n ≤ 64) (h : isn (l.take n) = true) : n ≤ bg l := by
  have hlen : (l.take 64).length = min 64 l.length := List.length_take
  have htt : l.take n = (l.take 64).take n := by rw [List.take_take, Nat.min_eq_left h64]
  rw [htt] at h
  unfold bg bgH
  generalize hL : l.take 64 = L at *
  have hn' : n ≤ L.length := by omega
  have hle := lg_le L 2
  rcases (isn_iff _).1 h with hp | ⟨_, i, a, b, c⟩
  · have := plain_take_le hn' hp
    split
    · omega
    · split <;> omega
  · have hi : i < n := by
      rcases Nat.lt_or_ge i n with h | h
      · exact h
      · rw [List.getElem?_take, if_neg (by omega)] at a; cases a
    have ha : L[i]? = some 58 := by rw [List.getElem?_take, if_pos hi] at a; exact a
    rw [List.take_take, Nat.min_eq_left (by omega)] at b
    have hb := plain_take_le (by omega) b
    have hih : i = lg 2 L := by
      rcases Nat.lt_or_ge i (lg 2 L) with h | h
      · have := lg_in (Nat.le_refl _) h ha
        rw [may_colon] at this; cases this
      · omega
    rw [List.drop_take] at c
    have hc := plain_take_le (by rw [List.length_drop]; omega) c
    rw [← hih]
    rw [if_neg (by rw [ha]; simp; omega), if_neg (by omega)]
    omega
theorem bg_le (l : List UInt8) : bg l ≤ l.length ∧ bg l ≤ 64 := by
  have hlen : (l.take 64).length = min 64 l.length := List.length_take
  unfold bg bgH
  generalize l.take 64 = L at *
  have h1 := lg_le L 2
  split
  · omega
  · rename_i hno
    have h2 := lg_le (L.drop (lg 2 L + 1)) 2
    rw [List.length_drop] at h2
    split <;> omega
theorem bg_is {l : List UInt8} (h0 : bg l ≠ 0) : isn (l.take (bg l)) = true := by
  have hle := bg_le l
  have htt : l.take (bg l) = (l.take 64).take (bg l) := by rw [List.take_take, Nat.min_eq_left hle.2]
  have hlen : (l.take 64).length = min 64 l.length := List.length_take
  rw [htt]
  revert h0 hle
  unfold bg bgH
  generalize l.take 64 = L at *
  clear htt
  have h1 := lg_le L 2
  split
  · intro h0 hle
    exact (isn_iff _).2 (Or.inl (plain_take (by omega) (Nat.le_refl _) hle.2))
  · rename_i hno
    have hno' : lg 2 L ≠ 0 ∧ lg 2 L ≠ L.length ∧ L[lg 2 L]? = some 58 := by
      refine ⟨fun e => hno (Or.inl e), fun e => hno (Or.inr (Or.inl e)), Classical.byContradiction fun e => hno (Or.inr (Or.inr e))⟩
    obtain ⟨n0, n1, n2⟩ := hno'
    split
    · intro h0 hle
      exact (isn_iff _).2 (Or.inl (plain_take (by omega) (Nat.le_refl _) hle.2))
    · rename_i ht
      intro h0 hle
      have h2 := lg_le (L.drop (lg 2 L + 1)) 2
      rw [List.length_drop] at h2
      refine (isn_iff _).2 (Or.inr ⟨by rw [List.length_take]; omega, lg 2 L, ?_, ?_, ?_⟩)
      · rw [List.getElem?_take, if_pos (by omega)]; exact n2
      · rw [List.take_take, Nat.min_eq_left (by omega)]
        exact plain_take (by omega) (Nat.le_refl _) (by omega)
      · rw [List.drop_take]
        exact plain_take (by omega) (by omega) (by omega)
theorem bg_hit {l : List UInt8} {n : Nat} (hn : n ≤ l.length) (h64 : n ≤ 64) (h : isn (l.take n) = true) (hno : ∀ m, n < m → m ≤ l.length → m ≤ 64 → isn (l.take m) = false) : bg l = n := by
  have h1 := bg_most hn h64 h
  have h2 := bg_le l
  rcases Nat.lt_or_ge n (bg l) with hlt | hge
  · have := hno _ hlt h2.1 h2.2
    rw [bg_is (by omega)] at this; cases this
  · omega
theorem bg_none {l : List UInt8} (hno : ∀ m, 0 < m → m ≤ l.length → m ≤ 64 → isn (l.take m) = false) : bg l = 0 := by
  have h2 := bg_le l
  rcases Nat.lt_or_ge 0 (bg l) with hlt | hge
  · have := hno _ hlt h2.1 h2.2
    rw [bg_is (by omega)] at this; cases this
  · omega
/-! ### what follows (P2.4) -/
theorem isn_len {l : List UInt8} (h : isn l = true) : 1 ≤ l.length ∧ l.length ≤ 64 := by
  rcases (isn_iff l).1 h with hp | ⟨h64, i, a, _, _⟩
  · have := (plain_iff l).1 hp; omega
  · refine ⟨?_, h64⟩
    cases l with
    | nil => simp at a
    | cons c r => simp
end Nm
end Go.Proofs.YteadfpkihhaadaaGreatDoor
namespace Go.Proofs.YteadfpkihhaadaaGreatDoor.En
open Go
/-! ### names and numbers -/
def named (l : List UInt8) : Int :=
  if l = [97, 109, 112] then 38 else if l = [108, 116] then 60 else if l = [103, 116] then 62 else if l = [113, 117, 111, 116] then 34 else if l = [97, 112, 111, 115] then 39 else 0
theorem named_bd (l : List UInt8) : 0 ≤ named l ∧ named l ≤ 62 := by unfold named; repeat' split
                                                                     all_goals omega
def dgN (n : Nat) : Int := if 48 ≤ n ∧ n ≤ 57 then (n : Int) - 48 else if 97 ≤ n ∧ n ≤ 102 then (n : Int) - 87 else if 65 ≤ n ∧ n ≤ 70 then (n : Int) - 55 else -1
def dg (b : UInt8) : Int := dgN b.toNat
theorem dg_bd (b : UInt8) : -1 ≤ dg b ∧ dg b ≤ 15 := by unfold dg dgN; repeat' split
                                                        all_goals omega
def isD (base : Int) (b : UInt8) : Bool := decide (0 ≤ dg b ∧ dg b < base)
theorem isD_iff {base : Int} {b : UInt8} : isD base b = true ↔ (0 ≤ dg b ∧ dg b < base) := decide_eq_true_iff
theorem isD_semi (base : Int) : isD base 59 = false := by
  unfold isD
  have : dg 59 = -1 := by decide
  rw [this]; exact decide_eq_false (by omega)
def val (base : Int) (l : List UInt8) : Int := l.foldl (fun n b => n * base + dg b) 0
theorem val_snoc (base : Int) (l : List UInt8) (b : UInt8) : val base (l ++ [b]) = val base l * base + dg b := by
  unfold val; rw [List.foldl_append]; rfl
theorem take_snoc {l : List UInt8} {k : Nat} (h : k < l.length) : l.take (k + 1) = l.take k ++ [l[k]] := by
  rw [List.take_succ_eq_append_getElem h]
def pow (base : Int) : Nat → Int
  | 0 => 1
  | n + 1 => pow base n * base
theorem snoc_ind {Q : List UInt8 → Prop} (h0 : Q []) (hs : ∀ l b, Q l → Q (l ++ [b])) (l : List UInt8) : Q l := by
  have key : ∀ r : List UInt8, Q r.reverse := fun r => by
    induction r with
    | nil => exact h0
    | cons b r ih => rw [List.reverse_cons]; exact hs _ _ ih
  simpa using key l.reverse
theorem val_bd (base : Int) (hb : 1 ≤ base) (l : List UInt8) : (l.all (isD base)) = true → 0 ≤ val base l ∧ val base l < pow base l.length := by
  refine snoc_ind (Q := fun l => (l.all (isD base)) = true → 0 ≤ val base l ∧ val base l < pow base l.length) ?_ ?_ l
  · intro _; exact ⟨by simp [val], by simp [val, pow]⟩
  · intro l b ih h
    rw [List.all_append, Bool.and_eq_true] at h
    obtain ⟨h1, h2⟩ := h
    obtain ⟨i1, i2⟩ := ih h1
    have hb2 := isD_iff.1 (by simpa using h2)
    rw [val_snoc, List.length_append]
    show 0 ≤ _ ∧ _ < pow base l.length * base
    constructor
    · have := Int.mul_nonneg i1 (show 0 ≤ base by omega); omega
    · have h3 : val base l + 1 ≤ pow base l.length := by omega
      have h4 := Int.mul_le_mul_of_nonneg_right h3 (show 0 ≤ base by omega)
      rw [Int.add_mul] at h4
      omega
theorem val16 {l : List UInt8} (h : l.all (isD 16) = true) (hl : l.length ≤ 6) : 0 ≤ val 16 l ∧ val 16 l < 16777216 := by
  have h1 := val_bd 16 (by omega) l h
  have h2 : pow 16 l.length ≤ 16777216 := by
    have : l.length = 0 ∨ l.length = 1 ∨ l.length = 2 ∨ l.length = 3 ∨ l.length = 4 ∨ l.length = 5 ∨ l.length = 6 := by omega
    rcases this with e | e | e | e | e | e | e <;> rw [e] <;> decide
  omega
theorem val10 {l : List UInt8} (h : l.all (isD 10) = true) (hl : l.length ≤ 7) : 0 ≤ val 10 l ∧ val 10 l < 10000000 := by
  have h1 := val_bd 10 (by omega) l h
  have h2 : pow 10 l.length ≤ 10000000 := by
    have : l.length = 0 ∨ l.length = 1 ∨ l.length = 2 ∨ l.length = 3 ∨ l.length = 4 ∨ l.length = 5 ∨ l.length = 6 ∨ l.length = 7 := by omega
    rcases this with e | e | e | e | e | e | e | e <;> rw [e] <;> decide
  omega
def okD (base : Int) (most : Nat) (l : List UInt8) : Bool := decide (1 ≤ l.length ∧ l.length ≤ most) && l.all (isD base)
theorem okD_iff {base : Int} {most : Nat} {l : List UInt8} : okD base most l = true ↔ 1 ≤ l.length ∧ l.length ≤ most ∧ l.all (isD base) = true := by
  unfold okD; rw [Bool.and_eq_true, decide_eq_true_eq]; exact ⟨fun h => ⟨h.1.1, h.1.2, h.2⟩, fun h => ⟨⟨h.1, h.2.1⟩, h.2.2⟩⟩
def pnum (base : Int) (most : Nat) (l : List UInt8) : Int := if okD base most l then val base l else 0
theorem pnum_bd {base : Int} {most : Nat} (h : base = 16 ∧ most = 6 ∨ base = 10 ∧ most = 7) (l : List UInt8) : 0 ≤ pnum base most l ∧ pnum base most l < 16777216 := by
  unfold pnum
  split
  · rename_i hk
    obtain ⟨_, h2, h3⟩ := okD_iff.1 hk
    rcases h with ⟨rfl, rfl⟩ | ⟨rfl, rfl⟩
    · exact val16 h3 h2
    · have := val10 h3 h2; omega
  · omega
def said (t : List UInt8) : Int :=
  if Lib.hasPrefix t [35, 120] then pnum 16 6 (t.drop 2) else if Lib.hasPrefix t [35] then pnum 10 7 (t.drop 1) else named t
theorem said_bd (t : List UInt8) : 0 ≤ said t ∧ said t < 16777216 := by
  unfold said
  split
  · exact pnum_bd (Or.inl ⟨rfl, rfl⟩) _
  · split
    · exact pnum_bd (Or.inr ⟨rfl, rfl⟩) _
    · have := named_bd t; omega
/-! ### a reference -/
def rfb (b : List UInt8) : List UInt8 × Nat :=
  let j := Lib.indexByte b 59
  if j = -1 then ([], 0) else
    let c := U8.put (said (b.take j.toNat))
    if c = [] then ([], 0) else (c, j.toNat + 2)
def rf (l : List UInt8) : List UInt8 × Nat := match l with
  | [] => ([], 0)
  | a :: b => if a = 38 then rfb b else ([], 0)
theorem rf_amp (b : List UInt8) : rf (38 :: b) = rfb b := by simp [rf]
theorem rf_no {l : List UInt8} (h : l.head? ≠ some 38) : rf l = ([], 0) := by
  cases l with
  | nil => rfl
  | cons a b => have : a ≠ 38 := fun e => h (by rw [e]; rfl)
                simp [rf, this]
theorem rfb_miss {b : List UInt8} (h : Lib.indexByte b 59 = -1) : rfb b = ([], 0) := by unfold rfb; rw [h]; rfl
theorem rfb_hit {b : List UInt8} {j : Nat} (h : Lib.indexByte b 59 = j) : rfb b = if U8.put (said (b.take j)) = [] then ([], 0) else (U8.put (said (b.take j)), j + 2) := by
  unfold rfb
  rw [h]
  have : ¬ ((j : Int) = -1) := by omega
  simp only [this, if_false, Int.toNat_natCast]
theorem idx_cases (b : List UInt8) (c : UInt8) : Lib.indexByte b c = -1 ∨ ∃ j : Nat, Lib.indexByte b c = j := by
  have := Lib.indexByte_ge b c
  by_cases h : Lib.indexByte b c = -1
  · exact Or.inl h
  · exact Or.inr ⟨(Lib.indexByte b c).toNat, by omega⟩
theorem idx_of {b : List UInt8} {c : UInt8} {j : Nat} (h1 : b[j]? = some c) (h2 : ∀ k, k < j → b[k]? ≠ some c) : Lib.indexByte b c = j := by
  rcases idx_cases b c with h | ⟨i, h⟩
  · exact absurd h1 (Lib.indexByte_none h j)
  · obtain ⟨g1, g2⟩ := Lib.indexByte_some h
    rcases Nat.lt_trichotomy i j with hl | hl | hl
    · exact absurd g1 (h2 i hl)
    · rw [h, hl]
    · exact absurd h1 (g2 j hl)
theorem idx_lt {b : List UInt8} {c : UInt8} {j : Nat} (h : Lib.indexByte b c = j) : j < b.length := by
  have := (Lib.indexByte_some h).1
  exact (List.getElem?_eq_some_iff.1 this).1
theorem rfb_ok {b : List UInt8} (h : (rfb b).2 ≠ 0) : ∃ j : Nat, Lib.indexByte b 59 = j ∧ rfb b = (U8.put (said (b.take j)), j + 2) ∧ U8.put (said (b.take j)) ≠ [] := by
  rcases idx_cases b 59 with hj | ⟨j, hj⟩
  · rw [rfb_miss hj] at h; exact absurd rfl h
  · rw [rfb_hit hj] at h ⊢
    by_cases hc : U8.put (said (b.take j)) = []
    · rw [if_pos hc] at h; exact absurd rfl h
    · rw [if_neg hc]; exact ⟨j, hj, rfl, hc⟩
theorem rfb_name {nm : List UInt8} {r : List UInt8} (h : ∀ k, k < nm.length → nm[k]? ≠ some 59) (h35 : nm.head? ≠ some 35) (hp : U8.put (named nm) ≠ []) : rfb (nm ++ 59 :: r) = (U8.put (named nm), nm.length + 2) := by
  have hj : Lib.indexByte (nm ++ 59 :: r) 59 = nm.length := idx_of (by simp) (fun k hk => by rw [List.getElem?_append_left hk]; exact h k hk)
  rw [rfb_hit hj, List.take_left]
  have hs : said nm = named nm := by
    unfold said Lib.hasPrefix
    cases nm with
    | nil => rfl
    | cons a t =>
      have ha : ¬ (35 : UInt8) = a := fun e => h35 (by rw [← e]; rfl)
      simp [List.isPrefixOf, ha]
  rw [hs, if_neg hp]
/-! ### digits, up to a ; -/
def num (base : Int) (most : Nat) (l : List UInt8) : List UInt8 × Nat :=
  let j := Lib.indexByte l 59
  if j = -1 then ([], 0) else if okD base most (l.take j.toNat) then (U8.put (val base (l.take j.toNat)), j.toNat) else ([], 0)
theorem num_hit {base : Int} {most : Nat} {l : List UInt8} {j : Nat} (h : Lib.indexByte l 59 = j) : num base most l = if okD base most (l.take j) then (U8.put (val base (l.take j)), j) else ([], 0) := by
  unfold num
  rw [h]
  have : ¬ ((j : Int) = -1) := by omega
  simp only [this, if_false, Int.toNat_natCast]
theorem all_take {l : List UInt8} {p : UInt8 → Bool} {k i : Nat} (h : (l.take k).all p = true) (hi : i < k) {b : UInt8} (hb : l[i]? = some b) : p b = true := by
  have hm : b ∈ l.take k := List.mem_iff_getElem?.2 ⟨i, by rw [List.getElem?_take_of_lt hi]; exact hb⟩
  exact List.all_eq_true.1 h b hm
theorem num_at {base : Int} {most : Nat} {l : List UInt8} {k : Nat} (hm : k ≤ most) (hl : k ≤ l.length) (hd : (l.take k).all (isD base) = true)
    (hx : k = most ∨ k = l.length ∨ ∃ b, l[k]? = some b ∧ isD base b = false) :
    num base most l = if k = 0 ∨ l[k]? ≠ some 59 then ([], 0) else (U8.put (val base (l.take k)), k) := by
  have hsemi := isD_semi base
  by_cases h59 : l[k]? = some 59
  · have hj : Lib.indexByte l 59 = k := idx_of h59 (fun i hi hs => by have := all_take hd hi hs; rw [hsemi] at this; cases this)
    rw [num_hit hj]
    have hlen : (l.take k).length = k := by rw [List.length_take]; omega
    by_cases h0 : k = 0
    · rw [if_neg (by rw [okD_iff, hlen]; omega), if_pos (Or.inl h0)]
    · rw [if_pos (okD_iff.2 ⟨by omega, by omega, hd⟩), if_neg (by rintro (h | h); exact h0 h; exact h h59)]
  · rw [if_pos (Or.inr h59)]
    rcases idx_cases l 59 with hj | ⟨j, hj⟩
    · unfold num; rw [hj]; rfl
    · rw [num_hit hj]
      rw [if_neg]
      intro hok
      have hjl := idx_lt hj
      have hlen : (l.take j).length = j := by rw [List.length_take]; omega
      rw [okD_iff, hlen] at hok
      obtain ⟨a1, a2, a3⟩ := hok
      obtain ⟨g1, g2⟩ := Lib.indexByte_some hj
      rcases Nat.lt_trichotomy j k with h | h | h
      · have := all_take hd h g1; rw [hsemi] at this; cases this
      · rw [h] at g1; exact h59 g1
      · rcases hx with e | e | ⟨b, e1, e2⟩
        · omega
        · omega
        · have := all_take a3 h e1; rw [e2] at this; cases this
theorem hp_cons (a : UInt8) (t : List UInt8) (b : UInt8) (p : List UInt8) : Lib.hasPrefix (a :: t) (b :: p) = ((b == a) && Lib.hasPrefix t p) := rfl
theorem hp_nil (t : List UInt8) : Lib.hasPrefix t [] = true := by unfold Lib.hasPrefix; cases t <;> rfl
theorem idx_cons {a c : UInt8} (h : a ≠ c) (b : List UInt8) : Lib.indexByte (a :: b) c = if Lib.indexByte b c = -1 then -1 else Lib.indexByte b c + 1 := by
  have h1 : (a == c) = false := by simpa using h
  have e : Lib.indexByte (a :: b) c = if a == c then 0 else if Lib.indexByte b c == -1 then -1 else Lib.indexByte b c + 1 := rfl
  rw [e, h1]
  simp only [Bool.false_eq_true, if_false, beq_iff_eq]
theorem rfb_hex (r : List UInt8) : rfb (35 :: 120 :: r) = if (num 16 6 r).1 = [] then ([], 0) else ((num 16 6 r).1, (num 16 6 r).2 + 4) := by
  have i1 : Lib.indexByte (35 :: 120 :: r) 59 = if Lib.indexByte r 59 = -1 then -1 else Lib.indexByte r 59 + 2 := by
    rw [idx_cons (by decide), idx_cons (by decide)]
    have := Lib.indexByte_ge r 59
    by_cases h : Lib.indexByte r 59 = -1
    · simp [h]
    · rw [if_neg h, if_neg (by omega), if_neg h]; omega
  rcases idx_cases r 59 with hj | ⟨j, hj⟩
  · rw [hj, if_pos rfl] at i1
    rw [rfb_miss i1]
    have : num 16 6 r = ([], 0) := by unfold num; rw [hj]; rfl
    rw [this]; rfl
  · rw [hj, if_neg (by omega)] at i1
    have i2 : Lib.indexByte (35 :: 120 :: r) 59 = ((j + 2 : Nat) : Int) := by rw [i1]; omega
    rw [rfb_hit i2, num_hit hj]
    have hs : said ((35 :: 120 :: r).take (j + 2)) = pnum 16 6 (r.take j) := by
      simp only [List.take_succ_cons]
      unfold said
      rw [if_pos (by simp [hp_cons, hp_nil])]
      rfl
    rw [hs]
    unfold pnum
    by_cases hk : okD 16 6 (r.take j) = true
    · rw [if_pos hk, if_pos hk]
    · rw [if_neg hk, if_neg hk]; rfl
theorem rfb_dec (r : List UInt8) (h : r.head? ≠ some 120) : rfb (35 :: r) = if (num 10 7 r).1 = [] then ([], 0) else ((num 10 7 r).1, (num 10 7 r).2 + 3) := by
  have i1 : Lib.indexByte (35 :: r) 59 = if Lib.indexByte r 59 = -1 then -1 else Lib.indexByte r 59 + 1 := idx_cons (by decide) r
  rcases idx_cases r 59 with hj | ⟨j, hj⟩
  · rw [hj, if_pos rfl] at i1
    rw [rfb_miss i1]
    have : num 10 7 r = ([], 0) := by unfold num; rw [hj]; rfl
    rw [this]; rfl
  · rw [hj, if_neg (by omega)] at i1
    have i2 : Lib.indexByte (35 :: r) 59 = ((j + 1 : Nat) : Int) := by rw [i1]; omega
    rw [rfb_hit i2, num_hit hj]
    have hs : said ((35 :: r).take (j + 1)) = pnum 10 7 (r.take j) := by
      simp only [List.take_succ_cons]
      unfold said
      have h1 : Lib.hasPrefix (35 :: r.take j) [35, 120] = false := by
        rw [hp_cons]
        cases r with
        | nil => simp [Lib.hasPrefix]
        | cons a t =>
          have ha : ¬ (120 : UInt8) = a := fun e => h (by rw [← e]; rfl)
          cases j with
          | zero => simp [Lib.hasPrefix]
          | succ j => simp [hp_cons, ha]
      rw [h1, if_neg (by simp), if_pos (by simp [hp_cons, hp_nil])]
      rfl
    rw [hs]
    unfold pnum
    by_cases hk : okD 10 7 (r.take j) = true
    · rw [if_pos hk, if_pos hk]
    · rw [if_neg hk, if_neg hk]; rfl
theorem rfb_none {b : List UInt8} (h35 : b.head? ≠ some 35)
    (h1 : Lib.hasPrefix b [97, 109, 112, 59] = false) (h2 : Lib.hasPrefix b [108, 116, 59] = false) (h3 : Lib.hasPrefix b [103, 116, 59] = false) (h4 : Lib.hasPrefix b [113, 117, 111, 116, 59] = false) (h5 : Lib.hasPrefix b [97, 112, 111, 115, 59] = false) : rfb b = ([], 0) := by
  rcases idx_cases b 59 with hj | ⟨j, hj⟩
  · exact rfb_miss hj
  · rw [rfb_hit hj]
    have hp : ∀ nm : List UInt8, b.take j = nm → Lib.hasPrefix b (nm ++ [59]) = true := by
      intro nm e
      have hsp : b = nm ++ (59 :: b.drop (j + 1)) := by
        have g1 := (Lib.indexByte_some hj).1
        obtain ⟨hl, hg⟩ := List.getElem?_eq_some_iff.1 g1
        rw [← e, ← hg, List.getElem_cons_drop, List.take_append_drop]
      unfold Lib.hasPrefix
      rw [List.isPrefixOf_iff_prefix]
      exact ⟨b.drop (j + 1), by rw [List.append_assoc]; exact hsp.symm⟩
    have hs : said (b.take j) = 0 := by
      have hn : ∀ p, Lib.hasPrefix (b.take j) (35 :: p) = false := by
        intro p
        cases b with
        | nil => simp [Lib.hasPrefix]
        | cons a t =>
          have ha : ¬ (35 : UInt8) = a := fun e => h35 (by rw [← e]; rfl)
          cases j with
          | zero => simp [Lib.hasPrefix]
          | succ j => simp [hp_cons, ha]
      unfold said
      rw [hn, hn, if_neg (by simp), if_neg (by simp)]
      unfold named
      rw [if_neg (fun e => by have := hp _ e; rw [show ([97, 109, 112] : List UInt8) ++ [59] = [97, 109, 112, 59] from rfl, h1] at this; cases this),
        if_neg (fun e => by have := hp _ e; rw [show ([108, 116] : List UInt8) ++ [59] = [108, 116, 59] from rfl, h2] at this; cases this),
        if_neg (fun e => by have := hp _ e; rw [show ([103, 116] : List UInt8) ++ [59] = [103, 116, 59] from rfl, h3] at this; cases this),
        if_neg (fun e => by have := hp _ e; rw [show ([113, 117, 111, 116] : List UInt8) ++ [59] = [113, 117, 111, 116, 59] from rfl, h4] at this; cases this),
        if_neg (fun e => by have := hp _ e; rw [show ([97, 112, 111, 115] : List UInt8) ++ [59] = [97, 112, 111, 115, 59] from rfl, h5] at this; cases this)]
    rw [hs]; rfl
/-! ### a text, piece by piece -/
abbrev Piece := List UInt8 → List UInt8 × Nat × Int
def goes (F : Piece) : Nat → List UInt8 → List UInt8 → Nat → List UInt8 × Nat × Int
  | 0, _, out, _ => (out, 0, 0)
  | f + 1, l, out, at_ =>
    if l = [] then (out, 0, 0) else
      if (F l).2.2 ≠ 0 then ([], at_, (F l).2.2) else goes F f (l.drop (F l).2.1) (out ++ (F l).1) (at_ + (F l).2.1)
def rep (F : Piece) (l : List UInt8) : List UInt8 × Nat × Int := goes F l.length l [] 0
def Moves (F : Piece) : Prop := ∀ l, l ≠ [] → (F l).2.2 = 0 → 1 ≤ (F l).2.1 ∧ (F l).2.1 ≤ l.length
theorem goes_more {F : Piece} (hF : Moves F) : ∀ (f g : Nat) (l out : List UInt8) (at_ : Nat), l.length ≤ f → l.length ≤ g → goes F f l out at_ = goes F g l out at_ := by
  intro f
  induction f with
  | zero =>
    intro g l out at_ hl _
    have : l = [] := List.eq_nil_of_length_eq_zero (by omega)
    subst this
    cases g <;> rfl
  | succ f ih =>
    intro g l out at_ hl hg
    by_cases hne : l = []
    · subst hne; cases g <;> rfl
    · cases g with
      | zero => exact absurd (List.eq_nil_of_length_eq_zero (by omega)) hne
      | succ g =>
        simp only [goes, hne, if_false]
        by_cases hz : (F l).2.2 = 0
        · have := hF l hne hz
          rw [if_neg (by simpa using hz), if_neg (by simpa using hz)]
          exact ih g _ _ _ (by simp; omega) (by simp; omega)
        · rw [if_pos hz, if_pos hz]
theorem goes_nil {F : Piece} (f : Nat) (out : List UInt8) (at_ : Nat) : goes F f [] out at_ = (out, 0, 0) := by cases f <;> rfl
theorem goes_bad {F : Piece} {f : Nat} {l out : List UInt8} {at_ : Nat} (hf : l.length ≤ f) (hne : l ≠ []) (h : (F l).2.2 ≠ 0) : goes F f l out at_ = ([], at_, (F l).2.2) := by
  cases f with
  | zero => exact absurd (List.eq_nil_of_length_eq_zero (by omega)) hne
  | succ f => simp only [goes, hne, if_false]; rw [if_pos h]
theorem goes_good {F : Piece} (hF : Moves F) {f : Nat} {l out : List UInt8} {at_ : Nat} (hf : l.length ≤ f) (hne : l ≠ []) (h : (F l).2.2 = 0) : goes F f l out at_ = goes F f (l.drop (F l).2.1) (out ++ (F l).1) (at_ + (F l).2.1) := by
  have := hF l hne h
  cases f with
  | zero => exact absurd (List.eq_nil_of_length_eq_zero (by omega)) hne
  | succ f =>
    rw [goes_more hF (f + 1) f (l.drop _) _ _ (by simp; omega) (by simp; omega)]
    simp only [goes, hne, if_false]; rw [if_neg (by simpa using h)]
theorem goes_ahead {F : Piece} (hF : Moves F) : ∀ (f : Nat) (l out : List UInt8) (at_ : Nat), l.length ≤ f →
    (goes F f l out at_).2.2 = (rep F l).2.2 ∧ ((rep F l).2.2 = 0 → goes F f l out at_ = (out ++ (rep F l).1, 0, 0)) ∧ ((rep F l).2.2 ≠ 0 → goes F f l out at_ = ([], at_ + (rep F l).2.1, (rep F l).2.2)) := by
  intro f
  induction f with
  | zero =>
    intro l out at_ hl
    have : l = [] := List.eq_nil_of_length_eq_zero (by omega)
    subst this
    exact ⟨rfl, fun _ => by simp [goes, rep], fun h => absurd rfl h⟩
  | succ f ih =>
    intro l out at_ hl
    by_cases hne : l = []
    · subst hne
      exact ⟨rfl, fun _ => by simp [goes, rep], fun h => absurd rfl h⟩
    · by_cases hz : (F l).2.2 = 0
      · have hm := hF l hne hz
        have hd : (l.drop (F l).2.1).length ≤ f := by simp; omega
        have e1 : goes F (f + 1) l out at_ = goes F f (l.drop (F l).2.1) (out ++ (F l).1) (at_ + (F l).2.1) := by
          simp only [goes, hne, if_false]; rw [if_neg (by simpa using hz)]
        have e2 : rep F l = goes F f (l.drop (F l).2.1) ([] ++ (F l).1) (0 + (F l).2.1) := by
          unfold rep
          rw [goes_more hF l.length (f + 1) l [] 0 (Nat.le_refl _) hl]
          simp only [goes, hne, if_false]; rw [if_neg (by simpa using hz)]
        obtain ⟨a1, a2, a3⟩ := ih (l.drop (F l).2.1) (out ++ (F l).1) (at_ + (F l).2.1) hd
        obtain ⟨b1, b2, b3⟩ := ih (l.drop (F l).2.1) ([] ++ (F l).1) (0 + (F l).2.1) hd
        rw [e1, e2]
        refine ⟨by rw [a1, b1], fun h => ?_, fun h => ?_⟩
        · rw [b1] at h; rw [a2 h, b2 h]; simp
        · rw [b1] at h; rw [a3 h, b3 h]; simp; omega
      · have e1 := goes_bad (F := F) (out := out) (at_ := at_) hl hne hz
        have e2 : rep F l = ([], 0, (F l).2.2) := goes_bad (Nat.le_refl _) hne hz
        rw [e1, e2]
        exact ⟨rfl, fun h => absurd h hz, fun _ => by simp⟩
theorem rep_bad {F : Piece} {l : List UInt8} (hne : l ≠ []) (h : (F l).2.2 ≠ 0) : rep F l = ([], 0, (F l).2.2) := goes_bad (Nat.le_refl _) hne h
theorem rep_good {F : Piece} (hF : Moves F) {l : List UInt8} (hne : l ≠ []) (h : (F l).2.2 = 0) :
    ((rep F (l.drop (F l).2.1)).2.2 = 0 → rep F l = ((F l).1 ++ (rep F (l.drop (F l).2.1)).1, 0, 0)) ∧ ((rep F (l.drop (F l).2.1)).2.2 ≠ 0 → rep F l = ([], (F l).2.1 + (rep F (l.drop (F l).2.1)).2.1, (rep F (l.drop (F l).2.1)).2.2)) := by
  have e : rep F l = goes F l.length (l.drop (F l).2.1) ([] ++ (F l).1) (0 + (F l).2.1) := goes_good hF (Nat.le_refl _) hne h
  obtain ⟨_, a2, a3⟩ := goes_ahead hF l.length (l.drop (F l).2.1) ([] ++ (F l).1) (0 + (F l).2.1) (by simp)
  exact ⟨fun h => by rw [e, a2 h]; simp, fun h => by rw [e, a3 h]; simp⟩
theorem rep_ind {F : Piece} (hF : Moves F) {Q : List UInt8 → List UInt8 → Prop} (h0 : Q [] []) (hs : ∀ l q, l ≠ [] → (F l).2.2 = 0 → (rep F (l.drop (F l).2.1)).2.2 = 0 → Q (l.drop (F l).2.1) q → Q l ((F l).1 ++ q)) :
    ∀ (n : Nat) (l : List UInt8), l.length ≤ n → (rep F l).2.2 = 0 → Q l (rep F l).1 := by
  intro n
  induction n with
  | zero =>
    intro l hl _
    have : l = [] := List.eq_nil_of_length_eq_zero (by omega)
    subst this; exact h0
  | succ n ih =>
    intro l hl hz
    by_cases hne : l = []
    · subst hne; exact h0
    · by_cases hf : (F l).2.2 = 0
      · have hm := hF l hne hf
        obtain ⟨g1, g2⟩ := rep_good hF hne hf
        have hz' : (rep F (l.drop (F l).2.1)).2.2 = 0 := Decidable.byContradiction fun h => by rw [g2 h] at hz; exact h hz
        rw [g1 hz']
        exact hs l _ hne hf hz' (ih _ (by simp; omega) hz')
      · rw [rep_bad hne hf] at hz; exact absurd hz hf
end Go.Proofs.YteadfpkihhaadaaGreatDoor.En
namespace Go.Proofs.YteadfpkihhaadaaGreatDoor.En
open Go
def wr (attr : Bool) (c : Int) : List UInt8 :=
  if c = 38 then [38, 97, 109, 112, 59] else if c = 60 then [38, 108, 116, 59] else if c = 62 then [38, 103, 116, 59] else if c = 13 then [38, 35, 49, 51, 59]
  else if attr = true ∧ c = 34 then [38, 113, 117, 111, 116, 59] else if attr = true ∧ c = 9 then [38, 35, 57, 59] else if attr = true ∧ c = 10 then [38, 35, 49, 48, 59] else U8.put c
def dF : Piece := fun l => if l.head? = some 38 then (if (rf l).2 = 0 then ([], 0, 30) else ((rf l).1, (rf l).2, 0)) else (l.take (U8.nx l).2.1, (U8.nx l).2.1, (U8.nx l).2.2)
def eF (attr : Bool) : Piece := fun l => (wr attr (U8.nx l).1, (U8.nx l).2.1, (U8.nx l).2.2)
theorem dF_amp {l : List UInt8} (h : l.head? = some 38) : dF l = if (rf l).2 = 0 then ([], 0, 30) else ((rf l).1, (rf l).2, 0) := by unfold dF; rw [if_pos h]
theorem dF_no {l : List UInt8} (h : l.head? ≠ some 38) : dF l = (l.take (U8.nx l).2.1, (U8.nx l).2.1, (U8.nx l).2.2) := by unfold dF; rw [if_neg h]
theorem put_le (c : Int) : (U8.put c).length ≤ 4 := by
  cases h : U8.isCh c with
  | true => rw [U8.put_length h]; exact (U8.width_bd c).2
  | false => rw [U8.put_no h]; exact Nat.zero_le _
theorem wr_le (attr : Bool) (c : Int) : (wr attr c).length ≤ 6 := by
  unfold wr
  repeat' split
  all_goals first | (simp; done) | (have := put_le c; omega)
theorem rf_bd (l : List UInt8) : (rf l).1.length ≤ 4 ∧ ((rf l).2 ≠ 0 → 2 ≤ (rf l).2 ∧ (rf l).2 ≤ l.length) := by
  cases l with
  | nil => exact ⟨Nat.zero_le _, fun h => absurd rfl h⟩
  | cons a b =>
    by_cases ha : a = 38
    · subst ha
      rw [rf_amp]
      by_cases h : (rfb b).2 = 0
      · refine ⟨?_, fun h' => absurd h h'⟩
        rcases idx_cases b 59 with hj | ⟨j, hj⟩
        · rw [rfb_miss hj]; exact Nat.zero_le _
        · rw [rfb_hit hj] at h ⊢
          by_cases hc : U8.put (said (b.take j)) = []
          · rw [if_pos hc]; exact Nat.zero_le _
          · rw [if_neg hc]; exact put_le _
      · obtain ⟨j, hj, e, _⟩ := rfb_ok h
        have := idx_lt hj
        rw [e]
        exact ⟨put_le _, fun _ => ⟨by simp, by simp; omega⟩⟩
    · rw [rf_no (by simpa using ha)]; exact ⟨Nat.zero_le _, fun h => absurd rfl h⟩
theorem moves_dF : Moves dF := by
  intro l hne h
  by_cases ha : l.head? = some 38
  · rw [dF_amp ha] at h ⊢
    by_cases h0 : (rf l).2 = 0
    · rw [if_pos h0] at h; cases h
    · rw [if_neg h0]
      have := (rf_bd l).2 h0
      exact ⟨by simp only; omega, this.2⟩
  · rw [dF_no ha] at h ⊢
    have := U8.nx_ok hne h
    exact ⟨this.2.2.1, this.2.2.2.1⟩
theorem moves_eF (attr : Bool) : Moves (eF attr) := by
  intro l hne h
  have := U8.nx_ok hne h
  exact ⟨this.2.2.1, this.2.2.2.1⟩
theorem long_dF {l : List UInt8} (_hne : l ≠ []) (h : (dF l).2.2 = 0) : (dF l).1.length ≤ 6 * (dF l).2.1 := by
  by_cases ha : l.head? = some 38
  · rw [dF_amp ha] at h ⊢
    by_cases h0 : (rf l).2 = 0
    · rw [if_pos h0] at h; cases h
    · rw [if_neg h0]
      have := rf_bd l
      have h2 := this.2 h0
      simp only; omega
  · rw [dF_no ha]; simp only [List.length_take]; omega
theorem long_eF {attr : Bool} {l : List UInt8} (_hne : l ≠ []) (h : (eF attr l).2.2 = 0) : (eF attr l).1.length ≤ 6 * (eF attr l).2.1 := by
  have h1 := (moves_eF attr l _hne h).1
  have h2 : (eF attr l).1.length ≤ 6 := wr_le _ _
  omega
/-! ### a byte at a time -/
def wrB (attr : Bool) (b : UInt8) : List UInt8 :=
  if b = 38 then [38, 97, 109, 112, 59] else if b = 60 then [38, 108, 116, 59] else if b = 62 then [38, 103, 116, 59] else if b = 13 then [38, 35, 49, 51, 59]
  else if attr = true ∧ b = 34 then [38, 113, 117, 111, 116, 59] else if attr = true ∧ b = 9 then [38, 35, 57, 59] else if attr = true ∧ b = 10 then [38, 35, 49, 48, 59] else [b]
def encB (attr : Bool) (l : List UInt8) : List UInt8 := l.flatMap (wrB attr)
theorem encB_append (attr : Bool) (a b : List UInt8) : encB attr (a ++ b) = encB attr a ++ encB attr b := List.flatMap_append
theorem encB_cons (attr : Bool) (b : UInt8) (l : List UInt8) : encB attr (b :: l) = wrB attr b ++ encB attr l := rfl
theorem toB_toNat {c : Int} (h0 : 0 ≤ c) (h1 : c < 256) : ((U8.toB c).toNat : Int) = c := by rw [U8.toB_nat h0 h1]; omega
theorem toB_eq {c : Int} (h0 : 0 ≤ c) (h1 : c < 256) (n : Nat) (hn : n < 256) : U8.toB c = n.toUInt8 ↔ c = n := by
  have hn' : n.toUInt8.toNat = n := by simp only [Nat.toUInt8, UInt8.toNat_ofNat']; omega
  have hc := toB_toNat h0 h1
  constructor
  · intro e; rw [e, hn'] at hc; exact hc.symm
  · intro e; apply UInt8.toNat_inj.1; rw [hn']; omega
theorem put_low {c : Int} (h : U8.isCh c = true) (h1 : c ≤ 127) : U8.put c = [U8.toB c] := by
  unfold U8.put U8.putZ; rw [if_pos h, if_pos h1]; rfl
theorem put_high {c : Int} (h : U8.isCh c = true) (h1 : 128 ≤ c) : ∀ b ∈ U8.put c, 128 ≤ b.toNat := by
  have hb := U8.isCh_lo h
  intro b hm
  unfold U8.put U8.putZ at hm
  rw [if_pos h, if_neg (by omega)] at hm
  have key : ∀ x : Int, 128 ≤ x → x < 256 → 128 ≤ (U8.toB x).toNat := fun x a d => by rw [U8.toB_nat (by omega) d]; omega
  split at hm
  · simp only [List.map_cons, List.map_nil, List.mem_cons, List.not_mem_nil, or_false] at hm
    rcases hm with rfl | rfl <;> exact key _ (by omega) (by omega)
  · split at hm
    · simp only [List.map_cons, List.map_nil, List.mem_cons, List.not_mem_nil, or_false] at hm
      rcases hm with rfl | rfl | rfl <;> exact key _ (by omega) (by omega)
    · simp only [List.map_cons, List.map_nil, List.mem_cons, List.not_mem_nil, or_false] at hm
      rcases hm with rfl | rfl | rfl | rfl <;> exact key _ (by omega) (by omega)
theorem ne_of_nat {b : UInt8} {n : Nat} (hn : n < 256) (h : b.toNat ≠ n) : b ≠ n.toUInt8 := fun e => h (by rw [e]; simp only [Nat.toUInt8, UInt8.toNat_ofNat']; omega)
theorem wrB_high {attr : Bool} {b : UInt8} (h : 128 ≤ b.toNat) : wrB attr b = [b] := by
  unfold wrB
  have k : ∀ n : Nat, n < 128 → b ≠ n.toUInt8 := fun n hn => ne_of_nat (by omega) (by omega)
  have k38 : b ≠ 38 := k 38 (by omega)
  have k60 : b ≠ 60 := k 60 (by omega)
  have k62 : b ≠ 62 := k 62 (by omega)
  have k13 : b ≠ 13 := k 13 (by omega)
  have k34 : b ≠ 34 := k 34 (by omega)
  have k9 : b ≠ 9 := k 9 (by omega)
  have k10 : b ≠ 10 := k 10 (by omega)
  rw [if_neg k38, if_neg k60, if_neg k62, if_neg k13, if_neg (fun e => k34 e.2), if_neg (fun e => k9 e.2), if_neg (fun e => k10 e.2)]
theorem encB_high {attr : Bool} {l : List UInt8} (h : ∀ b ∈ l, 128 ≤ b.toNat) : encB attr l = l := by
  induction l with
  | nil => rfl
  | cons b l ih => rw [encB_cons, wrB_high (h b (by simp)), ih (fun x hx => h x (by simp [hx]))]; rfl
theorem wr_put {attr : Bool} {c : Int} (h : U8.isCh c = true) : wr attr c = encB attr (U8.put c) := by
  have hb := U8.isCh_lo h
  by_cases h1 : c ≤ 127
  · rw [put_low h h1, encB_cons]
    show _ = wrB attr (U8.toB c) ++ []
    rw [List.append_nil]
    have k : ∀ n : Nat, n < 256 → (U8.toB c = n.toUInt8 ↔ c = n) := fun n hn => toB_eq (by omega) (by omega) n hn
    have k38 := k 38 (by omega); have k60 := k 60 (by omega); have k62 := k 62 (by omega); have k13 := k 13 (by omega); have k34 := k 34 (by omega); have k9 := k 9 (by omega); have k10 := k 10 (by omega)
    unfold wr wrB
    rw [put_low h h1]
    simp only [show (38 : Nat).toUInt8 = (38 : UInt8) from rfl, show (60 : Nat).toUInt8 = (60 : UInt8) from rfl, show (62 : Nat).toUInt8 = (62 : UInt8) from rfl, show (13 : Nat).toUInt8 = (13 : UInt8) from rfl, show (34 : Nat).toUInt8 = (34 : UInt8) from rfl, show (9 : Nat).toUInt8 = (9 : UInt8) from rfl, show (10 : Nat).toUInt8 = (10 : UInt8) from rfl] at k38 k60 k62 k13 k34 k9 k10
    simp only [k38, k60, k62, k13, k34, k9, k10]
    rfl
  · rw [encB_high (put_high h (by omega))]
    unfold wr
    rw [if_neg (by omega), if_neg (by omega), if_neg (by omega), if_neg (by omega), if_neg (fun e => by omega), if_neg (fun e => by omega), if_neg (fun e => by omega)]
/-! ### which texts are characters -/
def validL (l : List UInt8) : Prop := (U8.lead l).2 = l.length
theorem validL_put {c : Int} (h : U8.isCh c = true) {t : List UInt8} (ht : validL t) : validL (U8.put c ++ t) := by
  have hl := U8.put_length h
  have hw := U8.width_bd c
  have hne : U8.put c ++ t ≠ [] := by intro e; have := congrArg List.length e; rw [List.length_append, hl] at this; simp at this; omega
  have hn := U8.nx_put h t
  have hg := U8.lead_good hne (by rw [hn])
  rw [hn] at hg
  simp only at hg
  rw [← hl, List.drop_left] at hg
  unfold validL at ht ⊢
  rw [hg, List.length_append]; simp only; omega
theorem validL_nil : validL [] := rfl
theorem rep_eF (attr : Bool) : ∀ (n : Nat) (l : List UInt8), l.length ≤ n → (validL l ∧ rep (eF attr) l = (encB attr l, 0, 0)) ∨ (¬ validL l ∧ (rep (eF attr) l).1 = [] ∧ (rep (eF attr) l).2.2 = 10) := by
  intro n
  induction n with
  | zero =>
    intro l hl
    have : l = [] := List.eq_nil_of_length_eq_zero (by omega)
    subst this; exact Or.inl ⟨rfl, rfl⟩
  | succ n ih =>
    intro l hl
    by_cases hne : l = []
    · subst hne; exact Or.inl ⟨rfl, rfl⟩
    · by_cases hz : (U8.nx l).2.2 = 0
      · have hok := U8.nx_ok hne hz
        obtain ⟨g1, g2⟩ := rep_good (moves_eF attr) hne (show (eF attr l).2.2 = 0 from hz)
        have e1 : (eF attr l).2.1 = (U8.nx l).2.1 := rfl
        have e2 : (eF attr l).1 = encB attr (U8.put (U8.nx l).1) := wr_put hok.1
        rw [e1] at g1 g2
        have hg := U8.lead_good hne hz
        have hv : validL l ↔ validL (l.drop (U8.nx l).2.1) := by
          unfold validL; rw [hg, List.length_drop]; simp only; omega
        rcases ih (l.drop (U8.nx l).2.1) (by rw [List.length_drop]; omega) with ⟨h1, h2⟩ | ⟨h1, h2, h3⟩
        · left
          refine ⟨hv.2 h1, ?_⟩
          rw [g1 (by rw [h2]), h2, e2]
          simp only
          rw [← encB_append, hok.2.2.2.2]
        · right
          have := g2 (by rw [h3]; decide)
          exact ⟨fun h => h1 (hv.1 h), by rw [this], by rw [this]; exact h3⟩
      · right
        have hb := rep_bad hne (show (eF attr l).2.2 ≠ 0 from hz)
        refine ⟨fun h => ?_, by rw [hb], by rw [hb]; exact (U8.nx_err).resolve_left hz⟩
        unfold validL at h
        rw [U8.lead_bad hz] at h
        simp only at h
        exact hne (List.eq_nil_of_length_eq_zero h.symm)
theorem rep_eF_of {attr : Bool} {l : List UInt8} (h : validL l) : rep (eF attr) l = (encB attr l, 0, 0) := by
  rcases rep_eF attr l.length l (Nat.le_refl _) with h1 | ⟨h1, _⟩
  · exact h1.2
  · exact absurd h h1
/-! ### what stands for a text's beginning hangs on no more than it -/
/-! ### there and back -/
end Go.Proofs.YteadfpkihhaadaaGreatDoor.En
