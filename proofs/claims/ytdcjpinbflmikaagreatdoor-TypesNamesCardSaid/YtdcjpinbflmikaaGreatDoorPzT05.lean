/- Facts and walks for the statement. -/
import Derived.Test.YtdcjpinbflmikaaGreatDoorPzT00
import Derived.Test.YtdcjpinbflmikaaGreatDoorPzT04
import Derived.Laws.EntriesVeiled
import Derived.Lib.IndexLaws
namespace Go.Proofs.YtdcjpinbflmikaaGreatDoor
namespace Lx
def run (p : UInt8 → Bool) : List UInt8 → Nat
  | [] => 0
  | c :: r => if p c then 1 + run p r else 0
theorem run_le (p : UInt8 → Bool) : ∀ l : List UInt8, run p l ≤ l.length
  | [] => Nat.le_refl _
  | c :: r => by
    have := run_le p r
    unfold run
    split <;> simp <;> omega
theorem run_all (p : UInt8 → Bool) : ∀ (l : List UInt8) (k : Nat), k ≤ l.length → ((l.take k).all p = true ↔ k ≤ run p l)
  | [], k, h => by simp at h; subst h; simp
  | c :: r, 0, _ => by simp
  | c :: r, k + 1, h => by
    have := run_all p r k (by simpa using h)
    unfold run
    rw [List.take_succ_cons, List.all_cons, Bool.and_eq_true]
    cases hc : p c with
    | true => rw [if_pos rfl]; simp only [true_and]; rw [this]; omega
    | false => rw [if_neg (by decide)]; simp
theorem isD_not {c : UInt8} (h : isD c = true) : isL c = false := by
  have := of_decide_eq_true h
  exact decide_eq_false (by omega)
theorem words_all : ∀ w ∈ words, lead w = true ∧ w.all isN = true := by decide
theorem signs_len : ∀ w ∈ signs, w ≠ [] ∧ w.length ≤ 2 ∧ lead w = false ∧ w.all isD = false := by decide
theorem signs_head : ∀ w ∈ signs, ∀ c ∈ w.head?, isD c = false ∧ isL c = false := by decide
theorem whole_ne (l : List UInt8) : whole l ≠ 0 ↔ l ∈ signs ∨ (l ≠ [] ∧ l.all isD = true) ∨ (lead l = true ∧ l.all isN = true) := by
  unfold whole
  by_cases h1 : l ∈ signs
  · rw [if_pos (List.contains_iff_mem.2 h1)]
    exact ⟨fun _ => Or.inl h1, fun _ => by decide⟩
  · rw [if_neg (fun h => h1 (List.contains_iff_mem.1 h))]
    by_cases h2 : l ∈ words
    · rw [if_pos (List.contains_iff_mem.2 h2)]
      exact ⟨fun _ => Or.inr (Or.inr (words_all l h2)), fun _ => by decide⟩
    · rw [if_neg (fun h => h2 (List.contains_iff_mem.1 h))]
      by_cases h3 : l = []
      · subst h3; simp [lead, signs]
      · rw [if_neg h3]
        by_cases h4 : l.all isD = true
        · rw [if_pos h4]
          exact ⟨fun _ => Or.inr (Or.inl ⟨h3, h4⟩), fun _ => by decide⟩
        · rw [if_neg h4]
          by_cases h5 : (lead l && l.all isN) = true
          · rw [if_pos h5]
            rw [Bool.and_eq_true] at h5
            exact ⟨fun _ => Or.inr (Or.inr h5), fun _ => by decide⟩
          · rw [if_neg h5]
            rw [Bool.and_eq_true] at h5
            constructor
            · intro h; exact absurd rfl h
            · rintro (h | h | h)
              · exact absurd h h1
              · exact absurd h.2 h4
              · exact absurd h h5
theorem kind_digit {c : UInt8} {r : List UInt8} (h : isD c = true) : whole (c :: r) ≠ 0 ↔ (c :: r).all isD = true := by
  rw [whole_ne]
  constructor
  · rintro (h1 | h1 | h1)
    · have := (signs_head _ h1 c rfl).1
      rw [h] at this; cases this
    · exact h1.2
    · have : isL c = true := h1.1
      rw [isD_not h] at this; cases this
  · intro h1; exact Or.inr (Or.inl ⟨by simp, h1⟩)
theorem kind_letter {c : UInt8} {r : List UInt8} (h : isL c = true) : whole (c :: r) ≠ 0 ↔ (c :: r).all isN = true := by
  rw [whole_ne]
  constructor
  · rintro (h1 | h1 | h1)
    · have := (signs_head _ h1 c rfl).2
      rw [h] at this; cases this
    · have h2 := h1.2
      rw [List.all_cons, Bool.and_eq_true] at h2
      have := isD_not h2.1
      rw [h] at this; cases this
    · exact h1.2
  · intro h1; exact Or.inr (Or.inr ⟨h, h1⟩)
theorem kind_other {c : UInt8} {r : List UInt8} (h : isD c = false) (h' : isL c = false) : whole (c :: r) ≠ 0 ↔ c :: r ∈ signs := by
  rw [whole_ne]
  constructor
  · rintro (h1 | h1 | h1)
    · exact h1
    · have h2 := h1.2
      rw [List.all_cons, h] at h2; cases h2
    · have : isL c = true := h1.1
      rw [h'] at this; cases this
  · intro h1; exact Or.inl h1
theorem lngo_no {l : List UInt8} : ∀ (f k n : Nat), (∀ j, k ≤ j → j ≤ l.length → whole (l.take j) = 0) → lngo l f k n = n
  | 0, _, _, _ => rfl
  | f + 1, k, n, h => by
    unfold lngo
    split
    · rfl
    · rename_i hk
      split
      · rfl
      · rw [if_neg (by rw [h k (Nat.le_refl _) (by omega)]; simp)]
        exact lngo_no f (k + 1) n (fun j hj hl => h j (by omega) hl)
theorem lngo_run {l : List UInt8} {m : Nat} (hm : m ≤ l.length) (h1 : ∀ j, 1 ≤ j → j ≤ m → whole (l.take j) ≠ 0) (h2 : ∀ j, m < j → j ≤ l.length → whole (l.take j) = 0) : ∀ (f k : Nat), 1 ≤ k → k ≤ m + 1 → m + 1 ≤ f + k → lngo l f k (k - 1) = m
  | 0, k, hk, hkm, hf => by unfold lngo; omega
  | f + 1, k, hk, hkm, hf => by
    by_cases hkm2 : k = m + 1
    · subst hkm2
      exact lngo_no _ _ _ (fun j hj hl => h2 j (by omega) hl)
    · unfold lngo
      rw [if_neg (by omega), if_neg (by omega), if_pos (h1 k hk (by omega))]
      have := lngo_run hm h1 h2 f (k + 1) (by omega) (by omega) (by omega)
      simpa using this
theorem lng_run {l : List UInt8} {m : Nat} (hm : m ≤ l.length) (h1 : ∀ j, 1 ≤ j → j ≤ m → whole (l.take j) ≠ 0) (h2 : ∀ j, m < j → j ≤ l.length → whole (l.take j) = 0) : lng l = m :=
  lngo_run hm h1 h2 _ 1 (Nat.le_refl _) (by omega) (by omega)
theorem lng_digit {c : UInt8} {r : List UInt8} (h : isD c = true) : lng (c :: r) = run isD (c :: r) := by
  have hk : ∀ j, 1 ≤ j → j ≤ (c :: r).length → (whole ((c :: r).take j) ≠ 0 ↔ j ≤ run isD (c :: r)) := fun j hj hl => by
    rw [← run_all isD (c :: r) j hl]
    obtain ⟨j, rfl⟩ : ∃ i, j = i + 1 := ⟨j - 1, by omega⟩
    rw [List.take_succ_cons]
    exact kind_digit h
  refine lng_run (run_le _ _) (fun j hj hl => (hk j hj (Nat.le_trans hl (run_le _ _))).2 hl) (fun j hj hl => ?_)
  refine Decidable.byContradiction fun hn => ?_
  have := (hk j (by omega) hl).1 hn
  omega
theorem lng_letter {c : UInt8} {r : List UInt8} (h : isL c = true) : lng (c :: r) = run isN (c :: r) := by
  have hk : ∀ j, 1 ≤ j → j ≤ (c :: r).length → (whole ((c :: r).take j) ≠ 0 ↔ j ≤ run isN (c :: r)) := fun j hj hl => by
    rw [← run_all isN (c :: r) j hl]
    obtain ⟨j, rfl⟩ : ∃ i, j = i + 1 := ⟨j - 1, by omega⟩
    rw [List.take_succ_cons]
    exact kind_letter h
  refine lng_run (run_le _ _) (fun j hj hl => (hk j hj (Nat.le_trans hl (run_le _ _))).2 hl) (fun j hj hl => ?_)
  refine Decidable.byContradiction fun hn => ?_
  have := (hk j (by omega) hl).1 hn
  omega
def sgn : List UInt8 → Nat
  | [] => 0
  | [c] => if signs.contains [c] then 1 else 0
  | c :: d :: _ => if signs.contains [c, d] then 2 else if signs.contains [c] then 1 else 0
theorem lng_other {c : UInt8} {r : List UInt8} (h : isD c = false) (h' : isL c = false) : lng (c :: r) = sgn (c :: r) := by
  have h3 : ∀ j, 3 ≤ j → j ≤ (c :: r).length → whole ((c :: r).take j) = 0 := fun j hj hl => by
    refine Decidable.byContradiction fun hn => ?_
    obtain ⟨j, rfl⟩ : ∃ i, j = i + 1 := ⟨j - 1, by omega⟩
    rw [List.take_succ_cons] at hn
    have := (signs_len _ ((kind_other h h').1 hn)).2.1
    rw [List.length_cons, List.length_take] at this
    simp at hl
    omega
  have k1 : whole [c] ≠ 0 ↔ [c] ∈ signs := kind_other h h'
  cases r with
  | nil =>
    show lng [c] = if signs.contains [c] then 1 else 0
    by_cases hc : [c] ∈ signs
    · rw [if_pos (List.contains_iff_mem.2 hc)]
      refine lng_run (by simp) (fun j hj hl => ?_) (fun j hj hl => by simp at hl; omega)
      obtain rfl : j = 1 := by omega
      exact k1.2 hc
    · rw [if_neg (fun e => hc (List.contains_iff_mem.1 e))]
      refine lng_run (by simp) (fun j hj hl => by omega) (fun j hj hl => ?_)
      obtain rfl : j = 1 := by simp at hl; omega
      exact Decidable.byContradiction fun hn => hc (k1.1 hn)
  | cons d r =>
    have k2 : whole [c, d] ≠ 0 ↔ [c, d] ∈ signs := kind_other h h'
    show lng (c :: d :: r) = if signs.contains [c, d] then 2 else if signs.contains [c] then 1 else 0
    by_cases h2 : [c, d] ∈ signs
    · rw [if_pos (List.contains_iff_mem.2 h2)]
      unfold lng
      rw [show (c :: d :: r).length + 1 = (r.length + 1) + 1 + 1 by simp]
      rw [lngo, if_neg (by simp), if_neg (by omega), lngo, if_neg (by simp), if_neg (by omega), if_pos (show whole (List.take (1 + 1) (c :: d :: r)) ≠ 0 from k2.2 h2)]
      exact lngo_no _ _ _ (fun j hj hl => h3 j (by omega) hl)
    · rw [if_neg (fun e => h2 (List.contains_iff_mem.1 e))]
      have n2 : whole [c, d] = 0 := Decidable.byContradiction fun hn => h2 (k2.1 hn)
      by_cases hc : [c] ∈ signs
      · rw [if_pos (List.contains_iff_mem.2 hc)]
        refine lng_run (by simp) (fun j hj hl => ?_) (fun j hj hl => ?_)
        · obtain rfl : j = 1 := by omega
          exact k1.2 hc
        · by_cases hj3 : 3 ≤ j
          · exact h3 j hj3 hl
          · obtain rfl : j = 2 := by omega
            exact n2
      · rw [if_neg (fun e => hc (List.contains_iff_mem.1 e))]
        have n1 : whole [c] = 0 := Decidable.byContradiction fun hn => hc (k1.1 hn)
        refine lng_run (by simp) (fun j hj hl => by omega) (fun j hj hl => ?_)
        by_cases hj3 : 3 ≤ j
        · exact h3 j hj3 hl
        · by_cases hj2 : j = 2
          · subst hj2; exact n2
          · obtain rfl : j = 1 := by omega
            exact n1
end Lx
end Go.Proofs.YtdcjpinbflmikaaGreatDoor
namespace Go.Proofs.YtdcjpinbflmikaaGreatDoor
open Go.RowKit
theorem ret_int {k : IntKind} {a b : Int} (h : a = b) : Ending.returned (.int k a) = .returned (.int k b) := by rw [h]
theorem block_lt {w : World} {a : Addr} {v : Value} (hc : w.cell? a = some v) : a.block < w.heap.size := by
  rcases Nat.lt_or_ge a.block w.heap.size with h | h
  · exact h
  · simp [World.cell?, Array.getElem?_eq_none h] at hc
theorem cell_below {B : Nat} {w w' : World} (hb : Below B w w') (hB : w.heap.size ≤ B) {a : Addr} {v : Value} (hc : w.cell? a = some v) : w'.cell? a = some v := by
  rw [hb.cell (Nat.lt_of_lt_of_le (block_lt hc) hB)]; exact hc
def Fits (I : World → Prop) (k : Nat) (C : Array Value) (p : UInt8 → Bool) : Prop := ∀ (c : UInt8) (w : World), I w → Calls Tryz.prog k (#[.int .u8 (c.toNat : Int)] ++ C) w fun e w' => e = .returned (.bool (p c)) ∧ Below w.heap.size w w'
theorem Lx.run_at {p : UInt8 → Bool} {l : List UInt8} {k : Nat} (h : k < l.length) : Lx.run p (l.drop k) = if p l[k] then 1 + Lx.run p (l.drop (k + 1)) else 0 := by
  rw [List.drop_eq_getElem_cons h]; rfl
set_option maxHeartbeats 2000000 in
set_option maxRecDepth 100000 in
theorem lead_among {I : World → Prop} (hst : ∀ w w', I w → Below w.heap.size w w' → I w') (C : Array Value) (p : UInt8 → Bool) (HF : Fits I 211 C p) (s : ByteArray) (w : World) (hs : s.size ≤ maxLen) (hI : I w) :
    Calls Tryz.prog 169 #[.string s, .func (.func 211) #[] C] w fun e w' => e = .returned (.int .i64 (Lx.run p s.data.toList)) ∧ Below w.heap.size w w' := by
  unfold maxLen at hs
  have HL := Lib.hid (Lib.size_eq s)
  have HFF := Lib.hid HF
  have HIw := Lib.hid hI
  obtain ⟨R, hR⟩ : ∃ R, R = Lx.run p s.data.toList := ⟨_, rfl⟩
  rw [← hR]
  have HR := Lib.hid hR
  clear HF hI hR
  go_enter Tryz.func169, Tryz.ntmps169
  go_wp2
  go_loopw [8] (fun i wr => ∃ k : Nat, i = .int .i64 k ∧ k ≤ s.size ∧ Hid (R = k + Lx.run p (s.data.toList.drop k)) ∧ Hid (Below w.heap.size w wr)) (fun i _ => s.size - (intOf i).toNat)
  case atStart => exact ⟨0, rfl, Nat.zero_le _, Lib.hid (by rw [HR.out]; simp), Lib.hid (Below.refl _ _)⟩
  case round =>
    obtain ⟨k, rfl, hk, HI, HB⟩ := hrel
    by_cases hlt : k < s.size
    · have hlt' : (k : Int) < (s.size : Int) := by omega
      have hk' : k < s.data.toList.length := by rw [← HL.out]; exact hlt
      have HS := Lib.hid (show R = k + (if p s[k] then 1 + Lx.run p (s.data.toList.drop (k + 1)) else 0) by
        rw [HI.out, Lx.run_at hk']; rfl)
      have HC := Lib.hid (HFF.out s[k] wr (hst _ _ HIw.out HB.out))
      cases hp : p s[k] with
      | true =>
        rw [hp] at HC HS
        have HE := Lib.hid (show R = ((k + 1 : Nat) : Nat) + Lx.run p (s.data.toList.drop (k + 1)) by rw [HS.out, if_pos rfl]; omega)
        clear HS HI hp
        go_wp2_with fail
        refine HC.out.mono ?_
        rintro e w1 ⟨rfl, b1⟩
        have HB1 := Lib.hid (HB.out.trans (b1.mono HB.out.size))
        clear b1
        go_wp2
        go_roundw
        case rel => exact ⟨k + 1, by go_num, hlt, HE, HB1⟩
        case measure => simp [intOf]; omega
      | false =>
        rw [hp] at HC HS
        have HE := Lib.hid (show R = k by rw [HS.out, if_neg (by decide)]; rfl)
        clear HS HI hp
        go_wp2_with fail
        refine HC.out.mono ?_
        rintro e w1 ⟨rfl, b1⟩
        have HB1 := Lib.hid (HB.out.trans (b1.mono HB.out.size))
        clear b1
        go_wp2
        go_ret
        exact ⟨ret_int (by rw [HE.out]), HB1.out⟩
    · obtain rfl : k = s.size := by omega
      have hlt' : ¬ ((s.size : Nat) : Int) < (s.size : Int) := by omega
      have HE := Lib.hid (show R = s.size by rw [HI.out, List.drop_of_length_le (by rw [← HL.out]; exact Nat.le_refl _)]; rfl)
      clear hlt
      go_wp2
      go_ret
      exact ⟨ret_int (by rw [HE.out]), HB.out⟩
set_option maxHeartbeats 2000000 in
set_option maxRecDepth 100000 in
theorem lead_line {I : World → Prop} (hst : ∀ w w', I w → Below w.heap.size w w' → I w') (C : Array Value) (p : UInt8 → Bool) (HF : Fits I 168 C p) (s : ByteArray) (w : World) (hs : s.size ≤ maxLen) (hI : I w) :
    Calls Tryz.prog 169 #[.string s, .func (.func 168) #[] C] w fun e w' => e = .returned (.int .i64 (Lx.run p s.data.toList)) ∧ Below w.heap.size w w' := by
  unfold maxLen at hs
  have HL := Lib.hid (Lib.size_eq s)
  have HFF := Lib.hid HF
  have HIw := Lib.hid hI
  obtain ⟨R, hR⟩ : ∃ R, R = Lx.run p s.data.toList := ⟨_, rfl⟩
  rw [← hR]
  have HR := Lib.hid hR
  clear HF hI hR
  go_enter Tryz.func169, Tryz.ntmps169
  go_wp2
  go_loopw [8] (fun i wr => ∃ k : Nat, i = .int .i64 k ∧ k ≤ s.size ∧ Hid (R = k + Lx.run p (s.data.toList.drop k)) ∧ Hid (Below w.heap.size w wr)) (fun i _ => s.size - (intOf i).toNat)
  case atStart => exact ⟨0, rfl, Nat.zero_le _, Lib.hid (by rw [HR.out]; simp), Lib.hid (Below.refl _ _)⟩
  case round =>
    obtain ⟨k, rfl, hk, HI, HB⟩ := hrel
    by_cases hlt : k < s.size
    · have hlt' : (k : Int) < (s.size : Int) := by omega
      have hk' : k < s.data.toList.length := by rw [← HL.out]; exact hlt
      have HS := Lib.hid (show R = k + (if p s[k] then 1 + Lx.run p (s.data.toList.drop (k + 1)) else 0) by
        rw [HI.out, Lx.run_at hk']; rfl)
      have HC := Lib.hid (HFF.out s[k] wr (hst _ _ HIw.out HB.out))
      cases hp : p s[k] with
      | true =>
        rw [hp] at HC HS
        have HE := Lib.hid (show R = ((k + 1 : Nat) : Nat) + Lx.run p (s.data.toList.drop (k + 1)) by rw [HS.out, if_pos rfl]; omega)
        clear HS HI hp
        go_wp2_with fail
        refine HC.out.mono ?_
        rintro e w1 ⟨rfl, b1⟩
        have HB1 := Lib.hid (HB.out.trans (b1.mono HB.out.size))
        clear b1
        go_wp2
        go_roundw
        case rel => exact ⟨k + 1, by go_num, hlt, HE, HB1⟩
        case measure => simp [intOf]; omega
      | false =>
        rw [hp] at HC HS
        have HE := Lib.hid (show R = k by rw [HS.out, if_neg (by decide)]; rfl)
        clear HS HI hp
        go_wp2_with fail
        refine HC.out.mono ?_
        rintro e w1 ⟨rfl, b1⟩
        have HB1 := Lib.hid (HB.out.trans (b1.mono HB.out.size))
        clear b1
        go_wp2
        go_ret
        exact ⟨ret_int (by rw [HE.out]), HB1.out⟩
    · obtain rfl : k = s.size := by omega
      have hlt' : ¬ ((s.size : Nat) : Int) < (s.size : Int) := by omega
      have HE := Lib.hid (show R = s.size by rw [HI.out, List.drop_of_length_le (by rw [← HL.out]; exact Nat.le_refl _)]; rfl)
      clear hlt
      go_wp2
      go_ret
      exact ⟨ret_int (by rw [HE.out]), HB.out⟩
set_option maxHeartbeats 2000000 in
set_option maxRecDepth 100000 in
theorem lead_between {I : World → Prop} (hst : ∀ w w', I w → Below w.heap.size w w' → I w') (C : Array Value) (p : UInt8 → Bool) (HF : Fits I 214 C p) (s : ByteArray) (w : World) (hs : s.size ≤ maxLen) (hI : I w) :
    Calls Tryz.prog 169 #[.string s, .func (.func 214) #[] C] w fun e w' => e = .returned (.int .i64 (Lx.run p s.data.toList)) ∧ Below w.heap.size w w' := by
  unfold maxLen at hs
  have HL := Lib.hid (Lib.size_eq s)
  have HFF := Lib.hid HF
  have HIw := Lib.hid hI
  obtain ⟨R, hR⟩ : ∃ R, R = Lx.run p s.data.toList := ⟨_, rfl⟩
  rw [← hR]
  have HR := Lib.hid hR
  clear HF hI hR
  go_enter Tryz.func169, Tryz.ntmps169
  go_wp2
  go_loopw [8] (fun i wr => ∃ k : Nat, i = .int .i64 k ∧ k ≤ s.size ∧ Hid (R = k + Lx.run p (s.data.toList.drop k)) ∧ Hid (Below w.heap.size w wr)) (fun i _ => s.size - (intOf i).toNat)
  case atStart => exact ⟨0, rfl, Nat.zero_le _, Lib.hid (by rw [HR.out]; simp), Lib.hid (Below.refl _ _)⟩
  case round =>
    obtain ⟨k, rfl, hk, HI, HB⟩ := hrel
    by_cases hlt : k < s.size
    · have hlt' : (k : Int) < (s.size : Int) := by omega
      have hk' : k < s.data.toList.length := by rw [← HL.out]; exact hlt
      have HS := Lib.hid (show R = k + (if p s[k] then 1 + Lx.run p (s.data.toList.drop (k + 1)) else 0) by
        rw [HI.out, Lx.run_at hk']; rfl)
      have HC := Lib.hid (HFF.out s[k] wr (hst _ _ HIw.out HB.out))
      cases hp : p s[k] with
      | true =>
        rw [hp] at HC HS
        have HE := Lib.hid (show R = ((k + 1 : Nat) : Nat) + Lx.run p (s.data.toList.drop (k + 1)) by rw [HS.out, if_pos rfl]; omega)
        clear HS HI hp
        go_wp2_with fail
        refine HC.out.mono ?_
        rintro e w1 ⟨rfl, b1⟩
        have HB1 := Lib.hid (HB.out.trans (b1.mono HB.out.size))
        clear b1
        go_wp2
        go_roundw
        case rel => exact ⟨k + 1, by go_num, hlt, HE, HB1⟩
        case measure => simp [intOf]; omega
      | false =>
        rw [hp] at HC HS
        have HE := Lib.hid (show R = k by rw [HS.out, if_neg (by decide)]; rfl)
        clear HS HI hp
        go_wp2_with fail
        refine HC.out.mono ?_
        rintro e w1 ⟨rfl, b1⟩
        have HB1 := Lib.hid (HB.out.trans (b1.mono HB.out.size))
        clear b1
        go_wp2
        go_ret
        exact ⟨ret_int (by rw [HE.out]), HB1.out⟩
    · obtain rfl : k = s.size := by omega
      have hlt' : ¬ ((s.size : Nat) : Int) < (s.size : Int) := by omega
      have HE := Lib.hid (show R = s.size by rw [HI.out, List.drop_of_length_le (by rw [← HL.out]; exact Nat.le_refl _)]; rfl)
      clear hlt
      go_wp2
      go_ret
      exact ⟨ret_int (by rw [HE.out]), HB.out⟩
set_option maxHeartbeats 2000000 in
set_option maxRecDepth 100000 in
theorem lead_either {I : World → Prop} (hst : ∀ w w', I w → Below w.heap.size w w' → I w') (C : Array Value) (p : UInt8 → Bool) (HF : Fits I 215 C p) (s : ByteArray) (w : World) (hs : s.size ≤ maxLen) (hI : I w) :
    Calls Tryz.prog 169 #[.string s, .func (.func 215) #[] C] w fun e w' => e = .returned (.int .i64 (Lx.run p s.data.toList)) ∧ Below w.heap.size w w' := by
  unfold maxLen at hs
  have HL := Lib.hid (Lib.size_eq s)
  have HFF := Lib.hid HF
  have HIw := Lib.hid hI
  obtain ⟨R, hR⟩ : ∃ R, R = Lx.run p s.data.toList := ⟨_, rfl⟩
  rw [← hR]
  have HR := Lib.hid hR
  clear HF hI hR
  go_enter Tryz.func169, Tryz.ntmps169
  go_wp2
  go_loopw [8] (fun i wr => ∃ k : Nat, i = .int .i64 k ∧ k ≤ s.size ∧ Hid (R = k + Lx.run p (s.data.toList.drop k)) ∧ Hid (Below w.heap.size w wr)) (fun i _ => s.size - (intOf i).toNat)
  case atStart => exact ⟨0, rfl, Nat.zero_le _, Lib.hid (by rw [HR.out]; simp), Lib.hid (Below.refl _ _)⟩
  case round =>
    obtain ⟨k, rfl, hk, HI, HB⟩ := hrel
    by_cases hlt : k < s.size
    · have hlt' : (k : Int) < (s.size : Int) := by omega
      have hk' : k < s.data.toList.length := by rw [← HL.out]; exact hlt
      have HS := Lib.hid (show R = k + (if p s[k] then 1 + Lx.run p (s.data.toList.drop (k + 1)) else 0) by
        rw [HI.out, Lx.run_at hk']; rfl)
      have HC := Lib.hid (HFF.out s[k] wr (hst _ _ HIw.out HB.out))
      cases hp : p s[k] with
      | true =>
        rw [hp] at HC HS
        have HE := Lib.hid (show R = ((k + 1 : Nat) : Nat) + Lx.run p (s.data.toList.drop (k + 1)) by rw [HS.out, if_pos rfl]; omega)
        clear HS HI hp
        go_wp2_with fail
        refine HC.out.mono ?_
        rintro e w1 ⟨rfl, b1⟩
        have HB1 := Lib.hid (HB.out.trans (b1.mono HB.out.size))
        clear b1
        go_wp2
        go_roundw
        case rel => exact ⟨k + 1, by go_num, hlt, HE, HB1⟩
        case measure => simp [intOf]; omega
      | false =>
        rw [hp] at HC HS
        have HE := Lib.hid (show R = k by rw [HS.out, if_neg (by decide)]; rfl)
        clear HS HI hp
        go_wp2_with fail
        refine HC.out.mono ?_
        rintro e w1 ⟨rfl, b1⟩
        have HB1 := Lib.hid (HB.out.trans (b1.mono HB.out.size))
        clear b1
        go_wp2
        go_ret
        exact ⟨ret_int (by rw [HE.out]), HB1.out⟩
    · obtain rfl : k = s.size := by omega
      have hlt' : ¬ ((s.size : Nat) : Int) < (s.size : Int) := by omega
      have HE := Lib.hid (show R = s.size by rw [HI.out, List.drop_of_length_le (by rw [← HL.out]; exact Nat.le_refl _)]; rfl)
      clear hlt
      go_wp2
      go_ret
      exact ⟨ret_int (by rw [HE.out]), HB.out⟩
theorem index_mem (l : List UInt8) (c : UInt8) : (0 ≤ Lib.indexByte l c) ↔ c ∈ l := by
  constructor
  · intro h
    obtain ⟨o, ho⟩ : ∃ o : Nat, Lib.indexByte l c = o := ⟨(Lib.indexByte l c).toNat, by omega⟩
    exact List.mem_of_getElem? (Lib.indexByte_some ho).1
  · intro h
    have h1 := Lib.indexByte_ge l c
    by_cases h2 : Lib.indexByte l c = -1
    · obtain ⟨k, hk⟩ := List.getElem?_of_mem h
      exact absurd hk (Lib.indexByte_none h2 k)
    · omega
set_option maxHeartbeats 1000000 in
theorem among_fits (b : Nat) (a : ByteArray) (p : UInt8 → Bool) (hp : ∀ c, p c = true ↔ c ∈ a.data.toList) : Fits (fun w => w.cell? ⟨b, 0, none⟩ = some (.string a)) 211 #[.pointer (some ⟨b, 0, none⟩)] p := by
  intro c w hc
  have HX := Lib.hid (Tryz.strings_IndexByte a (c.toNat : Int) w)
  have HQ := Lib.hid (show (0 ≤ Lib.indexByte a.data.toList ((c.toNat : Int).toNat.toUInt8)) ↔ p c = true by
    rw [hp, index_mem]; simp)
  generalize Lib.indexByte a.data.toList ((c.toNat : Int).toNat.toUInt8) = q at *
  generalize p c = R at *
  clear hp
  show Calls Tryz.prog 211 #[.int .u8 (c.toNat : Int), .pointer (some ⟨b, 0, none⟩)] w _
  cases R with
  | true =>
    have h0 : (0 : Int) ≤ q := HQ.out.2 rfl
    go_enter Tryz.func211, Tryz.ntmps211
    go_wp2_with fail
    refine HX.out.mono ?_
    rintro e w1 ⟨rfl, rfl⟩
    go_wp2
    go_ret
    exact ⟨rfl, Below.refl _ _⟩
  | false =>
    have h0 : ¬ (0 : Int) ≤ q := fun h => by have := HQ.out.1 h; cases this
    go_enter Tryz.func211, Tryz.ntmps211
    go_wp2_with fail
    refine HX.out.mono ?_
    rintro e w1 ⟨rfl, rfl⟩
    go_wp2
    go_ret
    exact ⟨by simp [h0], Below.refl _ _⟩
set_option maxHeartbeats 1000000 in
theorem between_fits (b1 b2 : Nat) (x y : Int) (p : UInt8 → Bool) (hp : ∀ c : UInt8, p c = true ↔ x ≤ (c.toNat : Int) ∧ (c.toNat : Int) ≤ y) :
    Fits (fun w => w.cell? ⟨b1, 0, none⟩ = some (.int .u8 x) ∧ w.cell? ⟨b2, 0, none⟩ = some (.int .u8 y)) 214 #[.pointer (some ⟨b1, 0, none⟩), .pointer (some ⟨b2, 0, none⟩)] p := by
  intro c w hc
  obtain ⟨c1, c2⟩ := hc
  have HQ := Lib.hid (hp c)
  have hb := u8_bd c
  generalize p c = R at *
  clear hp
  show Calls Tryz.prog 214 #[.int .u8 (c.toNat : Int), .pointer (some ⟨b1, 0, none⟩), .pointer (some ⟨b2, 0, none⟩)] w _
  generalize (c.toNat : Int) = z at *
  go_enter Tryz.func214, Tryz.ntmps214
  go_wp2
  all_goals go_ret
  all_goals exact ⟨ret_bool (by rw [Bool.eq_iff_iff, HQ.out]; simp; try omega), Below.refl _ _⟩
set_option maxHeartbeats 1000000 in
theorem line_fits (I : World → Prop) (p : UInt8 → Bool) (hp : ∀ c : UInt8, p c = true ↔ c.toNat ≠ 10) : Fits I 168 #[] p := by
  intro c w _
  have HQ := Lib.hid (hp c)
  have hb := u8_bd c
  have HZ := Lib.hid (show ((c.toNat : Int) != 10) = p c by rw [Bool.eq_iff_iff, HQ.out]; simp; omega)
  generalize p c = R at *
  show Calls Tryz.prog 168 #[.int .u8 (c.toNat : Int)] w _
  clear hp
  generalize (c.toNat : Int) = z at *
  go_enter Tryz.func168, Tryz.ntmps168
  go_wp2
  go_ret
  exact ⟨by rw [← HZ.out]; rfl, Below.refl _ _⟩
end Go.Proofs.YtdcjpinbflmikaaGreatDoor
