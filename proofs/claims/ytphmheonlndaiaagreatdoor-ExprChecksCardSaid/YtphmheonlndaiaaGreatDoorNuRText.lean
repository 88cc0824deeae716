/- Layer 6's reference: rows of digits in memory; digit, trim and less, walked. Conditions: the rows lie there; they have at most 1000 digits.
Layer 6's reference: add and take, walked. Conditions: the rows of digits lie in memory, and are short; what is taken is not more.
Layer 6's reference: long numbers: Minus, Fits, told, walked. Conditions: the digits lie in memory, and are few.
Layer 6's reference: Plus, walked. Conditions: the digits lie in memory, and are few.
Layer 6's reference: Of, walked: a number's digits, and its sign.
Layer 6's reference: Times, walked. Conditions: the digits lie in memory, and are few.
Layer 6's reference: parts, walked: quotient and rest, digit by digit. Conditions: the digits lie in memory, and are few; what it is parted by is not 0.
Layer 6's reference: Add, Sub, Mul, Neg, Div, Mod, walked: each tells, of every two numbers of 64 bits, what the plain facts tell.
Layer 6's reference: Put and Parse, walked. Condition: a text's length fits. -/
import Derived.Test.YtphmheonlndaiaaGreatDoorMem
import Derived.Test.YtphmheonlndaiaaGreatDoorNuProg
import Derived.Deep.AppendLies
import Derived.Deep.RegionHeld3
import Derived.Laws.AppendOwnNone
import Derived.Test.YtphmheonlndaiaaGreatDoorNuText
import Derived.Laws.BytesArg
namespace Go.Proofs.YtphmheonlndaiaaGreatDoor
open Go.RowKit

/-- A row of digits lies in memory. -/
def Dr (w : World) (A : Option Addr) (c : Nat) (l : List Nat) : Prop :=
  (l.length ≤ c ∧ (A = none → c = 0)) ∧ ∀ j (hj : j < l.length), ∃ g, A = some ⟨g, 0, none⟩ ∧ g < w.heap.size ∧ w.cell? ⟨g, j, none⟩ = some (.int .i64 ((l[j] : Nat) : Int))
theorem Dr.below {w w' : World} {A : Option Addr} {c : Nat} {l : List Nat} {B : Nat} (h : Dr w A c l) (hb : Below B w w') (hB : w.heap.size ≤ B) : Dr w' A c l :=
  ⟨h.1, fun j hj => by
    obtain ⟨g, h1, h2, h3⟩ := h.2 j hj
    exact ⟨g, h1, Nat.lt_of_lt_of_le h2 (hb.size), by rw [hb.cell (p := ⟨g, j, none⟩) (by show g < B; omega)]; exact h3⟩⟩
theorem Dr.len {w : World} {A : Option Addr} {c : Nat} {l : List Nat} (h : Dr w A c l) : l.length ≤ c := h.1.1
theorem Dr.take {w : World} {A : Option Addr} {c : Nat} {l : List Nat} (h : Dr w A c l) (k : Nat) : Dr w A c (l.take k) :=
  ⟨⟨by have := h.len; rw [List.length_take]; omega, h.1.2⟩, fun j hj => by
    rw [List.length_take] at hj
    obtain ⟨g, h1, h2, h3⟩ := h.2 j (by omega)
    exact ⟨g, h1, h2, by rw [h3, List.getElem_take]⟩⟩

/-- What trim answers. -/
def TrimA (w : World) (A : Option Addr) (c x : Nat) (e : Ending) (w' : World) : Prop := e = .returned (.slice A (Nu.dig x).length c) ∧ Dr w' A c (Nu.dig x) ∧ w = w'
def TrimP (w : World) (x : Nat) (e : Ending) (w' : World) : Prop := ∃ A c, e = .returned (.slice A (Nu.dig x).length c) ∧ Dr w' A c (Nu.dig x) ∧ w = w'
set_option maxHeartbeats 2000000 in
theorem trim_at (w : World) (A : Option Addr) (c : Nat) (l : List Nat) (h : Dr w A c l) (hd : ∀ d ∈ l, d < 10) (hl : l.length ≤ 1000) :
    Calls Tryz.prog 143 #[.slice A l.length c] w (TrimA w A c (Nu.val l)) := by
  have H := Lib.hid h
  have HD := Lib.hid hd
  have hlc := h.len
  obtain ⟨n, hn⟩ : ∃ n, n = l.length := ⟨_, rfl⟩
  rw [← hn] at hl hlc ⊢
  have HN := Lib.hid hn
  clear h hd hn
  go_enter Tryz.func143, Tryz.ntmps143
  go_wp2
  go_loop [0] (fun v => ∃ k : Nat, v = .slice A k c ∧ k ≤ n ∧ Hid (Nu.val (l.take k) = Nu.val l)) (fun v => match v with | .slice _ k _ => k | _ => 0)
  case atStart => exact ⟨n, rfl, Nat.le_refl _, Lib.hid (by rw [HN.out, List.take_length])⟩
  case round =>
    obtain ⟨k, rfl, hk, HV⟩ := hrel
    have hdone : (∀ h0 : 0 < k, l[k - 1]'(by have := HN.out; omega) ≠ 0) → k = (Nu.dig (Nu.val l)).length ∧ Dr w A c (Nu.dig (Nu.val l)) := fun h0 => by
      have h1 := Nu.trim_done HD.out (k := k) (by have := HN.out; omega) h0 HV.out
      have h2 : k = (Nu.dig (Nu.val l)).length := by rw [← h1, List.length_take]; have := HN.out; omega
      exact ⟨h2, by rw [← h1]; exact H.out.take k⟩
    have HDN := Lib.hid hdone
    clear hdone
    rcases k with _ | k
    · go_wp2
      go_ret
      obtain ⟨q1, q2⟩ := HDN.out (fun h0 => absurd h0 (by omega))
      exact ⟨by rw [← q1]; rfl, q2, rfl⟩
    · have hlt : k < l.length := by rw [← HN.out]; omega
      obtain ⟨g, hA, hg, hc⟩ := H.out.2 k hlt
      subst hA
      have hk1 : ((k + 1 : Nat) : Int) - 1 = (k : Int) := by omega
      have hkc : (k : Int) ≤ (c : Int) := by omega
      by_cases hz : l[k] = 0
      · rw [hz] at hc
        have HZ := Lib.hid (Nu.val_zero_end (l := l) (k := k) (by omega) hz)
        clear hz
        go_wp2
        go_round
        case rel => exact ⟨k, rfl, by omega, Lib.hid (HZ.out.trans HV.out)⟩
        case measure => simp
      · have HZ := Lib.hid hz
        have hz' : ((l[k] : Nat) : Int) ≠ 0 := by omega
        clear hz
        generalize hq : ((l[k] : Nat) : Int) = q at hc hz'
        clear hq
        go_wp2
        go_ret
        obtain ⟨q1, q2⟩ := HDN.out (fun _ => HZ.out)
        exact ⟨by rw [← q1]; rfl, q2, rfl⟩

theorem trim_any (w : World) (A : Option Addr) (c : Nat) (l : List Nat) (h : Dr w A c l) (hd : ∀ d ∈ l, d < 10) (hl : l.length ≤ 1000) :
    Calls Tryz.prog 143 #[.slice A l.length c] w (TrimP w (Nu.val l)) := (trim_at w A c l h hd hl).mono fun _ _ h => ⟨A, c, h⟩
theorem Dr.get {w : World} {A : Option Addr} {c x : Nat} (h : Dr w A c (Nu.dig x)) {j : Nat} (hj : j < (Nu.dig x).length) : ∃ g, A = some ⟨g, 0, none⟩ ∧ g < w.heap.size ∧ w.cell? ⟨g, j, none⟩ = some (.int .i64 ((x / 10 ^ j % 10 : Nat) : Int)) := by
  obtain ⟨g, h1, h2, h3⟩ := h.2 j hj
  exact ⟨g, h1, h2, by rw [h3, Nu.dig_get]⟩
end Go.Proofs.YtphmheonlndaiaaGreatDoor
namespace Go.Proofs.YtphmheonlndaiaaGreatDoor
open Go.RowKit

def intsV (l : List Nat) : List Value := l.map fun (d : Nat) => Value.int .i64 (d : Int)
theorem intsV_snoc (l : List Nat) (d : Nat) : intsV l ++ [.int .i64 (d : Int)] = intsV (l ++ [d]) := by unfold intsV; rw [List.map_append]; rfl
theorem infoInt : (Tryz.prog.info? 3).map (fun i => (i.zero, i.size, i.bytes)) = some (some (.int .i64 0), 1, 8) := by kernel_rfl
/-- A row of digits of one's own. -/
def OwnD (B : Nat) (w : World) (v : Value) (l : List Nat) : Prop := w.ownsRow B 3 1 v l.length (intsV l)
theorem OwnD.dr {B : Nat} {w : World} {A : Option Addr} {n c : Nat} {l : List Nat} (h : OwnD B w (.slice A n c) l) : n = l.length ∧ Dr w A c l := by
  obtain ⟨A', c', e, h1, h2, h3, h4⟩ := own_slice h
  injection e with e1 e2 e3
  subst e1 e2 e3
  refine ⟨rfl, ⟨h3, fun hA => (h2 hA).1⟩, fun j hj => ?_⟩
  obtain ⟨g, hA, hg, _, hc⟩ := h1 (by omega)
  exact ⟨g, hA, hg, hc j _ (by unfold intsV; rw [List.getElem?_map, List.getElem?_eq_getElem hj]; rfl)⟩

/-- What a function that makes digits answers. -/
def DigP (w : World) (x : Nat) (e : Ending) (w' : World) : Prop := ∃ A c, e = .returned (.slice A (Nu.dig x).length c) ∧ Dr w' A c (Nu.dig x) ∧ Below w.heap.size w w'
theorem DigP.from {x : Nat} {w w1 w' : World} {e : Ending} (hb : Below w.heap.size w w1) (h : DigP w1 x e w') : DigP w x e w' := by
  obtain ⟨A, c, h1, h2, h3⟩ := h
  exact ⟨A, c, h1, h2, hb.trans (h3.mono hb.size)⟩
/-- .. in a row of its own. -/
def DigN (w : World) (x : Nat) (e : Ending) (w' : World) : Prop := ∃ A c, e = .returned (.slice A (Nu.dig x).length c) ∧ Dr w' A c (Nu.dig x) ∧ Below w.heap.size w w' ∧ ∀ g, A = some ⟨g, 0, none⟩ → 0 < (Nu.dig x).length → w.heap.size ≤ g
theorem own_new {B : Nat} {w : World} {e : TypeId} {size n c : Nat} {A : Option Addr} {xs : List Value} (h : w.ownsRow B e size (.slice A n c) n xs) : ∀ g, A = some ⟨g, 0, none⟩ → 0 < n → B ≤ g := fun g hg hn => by
  obtain ⟨A', c', e1, h1, _⟩ := own_slice h
  injection e1 with e1 _ _
  subst e1
  obtain ⟨g', h2, _, h3, _⟩ := h1 hn
  rw [hg] at h2
  injection h2 with h2
  injection h2 with h2
  omega
theorem own_fz {w : World} {B : Nat} {e : TypeId} {size g n cap : Nat} {xs : List Value} (h : w.ownsRow B e size (.slice (some ⟨g, 0, none⟩) n cap) n xs) (j : Nat) : w.frozen? ⟨g, j, none⟩ = false := by
  rcases h.2 with ⟨h1, _⟩ | ⟨g', cap', cur, h1, _, h3, _⟩
  · cases h1
  · injection h1 with h1
    injection h1 with h1
    injection h1 with h1
    subst h1
    exact Lib.frozen_of_heap h3 j
structure AddI (w : World) (x y i : Nat) (v : Value) (c : Nat) (l : List Nat) (wr : World) : Prop where
  below : Below w.heap.size w wr
  own : OwnD w.heap.size wr v l
  len : l.length = i
  dig : ∀ d ∈ l, d < 10
  eq : Nu.val l + 10 ^ i * c = x % 10 ^ i + y % 10 ^ i
theorem AddI.drewN {w : World} {x y i c : Nat} {v : Value} {l : List Nat} {wr : World} (h : AddI w x y i v c l wr) (n : Nat) : AddI w x y i v c l (wr.drewN n) :=
  ⟨below_drewN h.below n, own_below h.own (below_drewN (Below.refl wr.heap.size wr) n), h.len, h.dig, h.eq⟩
theorem AddI.next {w : World} {x y i c : Nat} {v v' : Value} {l : List Nat} {wr w' : World} (h : AddI w x y i v c l wr) (hb : Below w.heap.size w w')
    (ho : OwnD w.heap.size w' v' (l ++ [(x / 10 ^ i % 10 + y / 10 ^ i % 10 + c) % 10])) : AddI w x y (i + 1) v' ((x / 10 ^ i % 10 + y / 10 ^ i % 10 + c) / 10) (l ++ [(x / 10 ^ i % 10 + y / 10 ^ i % 10 + c) % 10]) w' := by
  refine ⟨hb, ho, by rw [List.length_append, h.len]; rfl, fun d hd => ?_, ?_⟩
  · rcases List.mem_append.1 hd with hd | hd
    · exact h.dig d hd
    · simp at hd; omega
  · rw [Nu.val_snoc, h.len]
    exact Nu.add_step h.eq
theorem AddI.carry {w : World} {x y q c : Nat} {v : Value} {l : List Nat} {wr : World} (h : AddI w x y (q + 1) v c l wr) (hx : x < 10 ^ q) (hy : y < 10 ^ q) : c = 0 := by
  have h1 := h.eq
  have h2 : 10 ^ (q + 1) = 10 * 10 ^ q := by rw [Nat.pow_succ, Nat.mul_comm]
  rw [Nat.mod_eq_of_lt (by omega), Nat.mod_eq_of_lt (by omega)] at h1
  rcases Nat.eq_zero_or_pos c with h0 | h0
  · exact h0
  · have : 10 ^ (q + 1) * 1 ≤ 10 ^ (q + 1) * c := Nat.mul_le_mul_left _ h0
    omega
theorem AddI.sum {w : World} {x y i : Nat} {v : Value} {l : List Nat} {wr : World} (h : AddI w x y i v 0 l wr) (hx : x < 10 ^ i) (hy : y < 10 ^ i) : Nu.val l = x + y := by
  have h1 := h.eq
  rw [Nat.mod_eq_of_lt hx, Nat.mod_eq_of_lt hy] at h1
  omega
structure TakI (w : World) (x y i : Nat) (v : Value) (c : Nat) (l : List Nat) (wr : World) : Prop where
  below : Below w.heap.size w wr
  own : OwnD w.heap.size wr v l
  len : l.length = i
  dig : ∀ d ∈ l, d < 10
  eq : x % 10 ^ i + 10 ^ i * c = y % 10 ^ i + Nu.val l
theorem TakI.next {w : World} {x y i c c' d : Nat} {v v' : Value} {l : List Nat} {wr w' : World} (h : TakI w x y i v c l wr) (hb : Below w.heap.size w w') (hd : d < 10) (hc : x / 10 ^ i % 10 + 10 * c' = y / 10 ^ i % 10 + c + d)
    (ho : OwnD w.heap.size w' v' (l ++ [d])) : TakI w x y (i + 1) v' c' (l ++ [d]) w' := by
  refine ⟨hb, ho, by rw [List.length_append, h.len]; rfl, fun e he => ?_, ?_⟩
  · rcases List.mem_append.1 he with he | he
    · exact h.dig e he
    · simp at he; omega
  · rw [Nu.val_snoc, h.len]
    exact Nu.take_step h.eq hc
theorem TakI.rest {w : World} {x y i c : Nat} {v : Value} {l : List Nat} {wr : World} (h : TakI w x y i v c l wr) (hx : x < 10 ^ i) (hyx : y ≤ x) : Nu.val l = x - y :=
  Nu.take_end h.eq hx hyx (by have := Nu.val_lt h.dig; rwa [h.len] at this)
end Go.Proofs.YtphmheonlndaiaaGreatDoor
namespace Go.Proofs.YtphmheonlndaiaaGreatDoor
open Go.RowKit


def sg (b : Bool) (n : Nat) : Int := if b then -(n : Int) else n
theorem sg_abs (b : Bool) (n : Nat) : (sg b n).natAbs = n := by cases b <;> simp [sg]
/-- What a function that makes a long number answers. -/
def LgP (w : World) (z : Int) (e : Ending) (w' : World) : Prop := ∃ A c b n, e = .returned (.agg #[.slice A (Nu.dig n).length c, .bool b]) ∧ Dr w' A c (Nu.dig n) ∧ sg b n = z ∧ Below w.heap.size w w'
theorem LgP.from {z : Int} {w w1 w' : World} {e : Ending} (hb : Below w.heap.size w w1) (h : LgP w1 z e w') : LgP w z e w' := by
  obtain ⟨A, c, b, n, h1, h2, h3, h4⟩ := h
  exact ⟨A, c, b, n, h1, h2, h3, hb.trans (h4.mono hb.size)⟩
theorem Dr.below2 {w w' : World} {A : Option Addr} {c : Nat} {l : List Nat} (h : Dr w A c l) (hb : Below w.heap.size w w') : Dr w' A c l := h.below hb (Nat.le_refl _)

theorem Nu.fits_test {m d : Nat} (hd : d < 10) : ∃ t : Int, (-9223372036854775808 + (d : Int)).tdiv 10 = t ∧ -9223372036854775808 ≤ t ∧ t ≤ 0 ∧ (-(m : Int) < t ↔ 9223372036854775808 < 10 * m + d) := by
  refine ⟨-(((9223372036854775808 - d) / 10 : Nat) : Int), ?_, by omega, by omega, by omega⟩
  have : (-9223372036854775808 + (d : Int)) = -((9223372036854775808 - d : Nat) : Int) := by omega
  rw [this, Int.neg_tdiv, Int.tdiv_eq_ediv_of_nonneg (by omega)]
  rfl
theorem Nu.top_lim {x k : Nat} (h : 9223372036854775808 < x / 10 ^ k) : 9223372036854775808 < x := Nat.lt_of_lt_of_le h (Nat.div_le_self _ _)
def fitV (z : Int) : Value := .tuple #[.int .i64 (if Nu.fits z then z else 0), .bool (decide (Nu.fits z))]
set_option maxHeartbeats 2000000 in
set_option maxRecDepth 100000 in
theorem fits_any (w : World) (A : Option Addr) (c x : Nat) (b : Bool) (h : Dr w A c (Nu.dig x)) (hx : (Nu.dig x).length ≤ 500) :
    Calls Tryz.prog 159 #[.agg #[.slice A (Nu.dig x).length c, .bool b]] w fun e w' => e = .returned (fitV (sg b x)) ∧ Below w.heap.size w w' := by
  obtain ⟨W0, hW0⟩ : ∃ W0, W0 = w.alloc (.cells #[.slice A (Nu.dig x).length c, .bool b] 166) := ⟨_, rfl⟩
  have hb0 : Below w.heap.size w W0 := by rw [hW0]; exact (Below.refl _ _).alloc (Nat.le_refl _) _
  have hk0 : IsBlk W0 w.heap.size 166 #[.slice A (Nu.dig x).length c, .bool b] := by rw [hW0]; exact IsBlk.new _ _ _
  have t0 := hk0.at_ 0
  have t1 := hk0.at_ 1
  have HX := Lib.hid (fun j hj => (h.below2 hb0).get (j := j) hj)
  have H0 := Lib.hid (Nu.top_full x)
  have hqc := h.len
  obtain ⟨q, hq⟩ : ∃ q, q = (Nu.dig x).length := ⟨_, rfl⟩
  rw [← hq] at hx HX hqc t0 hW0 H0 ⊢
  obtain ⟨R, hR⟩ : ∃ R, R = fitV (sg b x) := ⟨_, rfl⟩
  rw [← hR]
  have HR := Lib.hid hR
  have HW0 := Lib.hid hW0
  have HB0 := Lib.hid hb0
  clear h hR hq hW0 hb0 hk0
  simp only [List.getElem?_toArray, List.getElem?_cons_zero, List.getElem?_cons_succ] at t0 t1
  go_enter Tryz.func159, Tryz.ntmps159
  go_wp2
  rw [← HW0.out]
  go_loop [4, 5] (fun nv iv => ∃ k m : Nat, nv = .int .i64 (-(m : Int)) ∧ iv = .int .i64 ((k : Int) - 1) ∧ k ≤ q ∧ m ≤ 9223372036854775808 ∧ Hid (m = x / 10 ^ k)) (fun _ iv => (intOf iv + 1).toNat)
  case atStart => exact ⟨q, 0, rfl, rfl, Nat.le_refl _, by omega, Lib.hid H0.out.symm⟩
  case round =>
    obtain ⟨k, m, rfl, rfl, hk, hm, HI⟩ := hrel
    rcases k with _ | k
    · have hneg : ¬ ((0 : Nat) : Int) - 1 ≥ 0 := by omega
      have HM := Lib.hid (HI.out.trans (Nu.top_zero x))
      have hF : ∀ z : Int, ∀ p : Bool, (Nu.fits z ↔ p = true) → fitV z = .tuple #[.int .i64 (if p then z else 0), .bool p] := fun z p hp => by
        unfold fitV
        cases p with
        | true => rw [if_pos (hp.2 rfl), decide_eq_true (hp.2 rfl)]; rfl
        | false => rw [if_neg (fun h => by have := hp.1 h; cases this), decide_eq_false (fun h => by have := hp.1 h; cases this)]; rfl
      have HF := Lib.hid hF
      clear hF HI
      cases b with
      | true =>
        have HE := Lib.hid (show R = .tuple #[.int .i64 (-(m : Int)), .bool true] by rw [HR.out, HF.out _ true (by unfold Nu.fits sg; have := HM.out; simp; omega), ← HM.out]; rfl)
        go_wp2
        go_ret2
        exact ⟨by rw [HE.out]; rfl, HB0.out⟩
      | false =>
        by_cases hz : m = 0
        · subst hz
          have HE := Lib.hid (show R = .tuple #[.int .i64 0, .bool true] by rw [HR.out, HF.out _ true (by unfold Nu.fits sg; have := HM.out; simp; omega), ← HM.out]; rfl)
          go_wp2
          go_ret2
          exact ⟨by rw [HE.out]; rfl, HB0.out⟩
        · have hz' : (-(m : Int) == 0) = false := beq_eq_false_iff_ne.2 (by omega)
          by_cases hl : m = 9223372036854775808
          · have HE := Lib.hid (show R = .tuple #[.int .i64 0, .bool false] by rw [HR.out, HF.out _ false (by unfold Nu.fits sg; have := HM.out; simp; omega), ← HM.out]; rfl)
            have hl' : (-(m : Int) == -9223372036854775808) = true := beq_iff_eq.2 (by omega)
            clear hl
            go_wp2
            go_ret2
            exact ⟨by rw [HE.out]; rfl, HB0.out⟩
          · have HE := Lib.hid (show R = .tuple #[.int .i64 (m : Int), .bool true] by rw [HR.out, HF.out _ true (by unfold Nu.fits sg; have := HM.out; simp; omega), ← HM.out]; rfl)
            have hl' : (-(m : Int) == -9223372036854775808) = false := beq_eq_false_iff_ne.2 (by omega)
            have hl2 : -(-(m : Int)) = (m : Int) := by omega
            have hm2 : m < 9223372036854775808 := by omega
            clear hl
            go_wp2
            go_ret2
            exact ⟨by rw [HE.out]; rfl, HB0.out⟩
    · obtain ⟨g, hA, hg, hc⟩ := HX.out k (by omega)
      subst hA
      have e0 : ((k + 1 : Nat) : Int) - 1 = (k : Int) := by omega
      rw [e0]
      have HST := Lib.hid (Nu.top_step x k)
      have HXD := Lib.hid (Nu.top_lim (x := x) (k := k))
      have hd9 : x / 10 ^ k % 10 < 10 := Nat.mod_lt _ (by decide)
      generalize x / 10 ^ k % 10 = d at *
      obtain ⟨t, ht, ht1, ht2, ht3⟩ := Nu.fits_test (m := m) hd9
      have HT3 := Lib.hid ht3
      have hkq : (k : Int) < (q : Int) := by omega
      clear e0 ht3
      by_cases hlim : 9223372036854775808 < 10 * m + d
      · have htt : -(m : Int) < t := HT3.out.2 hlim
        have HE := Lib.hid (show R = .tuple #[.int .i64 0, .bool false] by
          have h1 := HXD.out (by rw [HST.out, ← HI.out]; exact hlim)
          rw [HR.out]
          unfold fitV
          have h2 : ¬ Nu.fits (sg b x) := by cases b <;> (unfold Nu.fits sg; simp; omega)
          rw [if_neg h2, decide_eq_false h2])
        clear hlim
        go_wp2
        go_ret2
        exact ⟨by rw [HE.out]; rfl, HB0.out⟩
      · have htt : ¬ -(m : Int) < t := fun h => hlim (HT3.out.1 h)
        have hm2 : 10 * m + d ≤ 9223372036854775808 := by omega
        have hs1 : 10 * -(m : Int) - (d : Int) = -((10 * m + d : Nat) : Int) := by omega
        have HN := Lib.hid (show 10 * m + d = x / 10 ^ k by rw [HST.out, ← HI.out])
        clear hlim
        go_wp2
        go_round
        case rel => exact ⟨k, 10 * m + d, by first | rfl | (congr 1; omega), rfl, by omega, by omega, HN⟩
        case measure => simp [intOf]

set_option maxHeartbeats 2000000 in
theorem told_any (w : World) (A : Option Addr) (c x : Nat) (b : Bool) (h : Dr w A c (Nu.dig x)) (hx : (Nu.dig x).length ≤ 500) :
    Calls Tryz.prog 142 #[.agg #[.slice A (Nu.dig x).length c, .bool b]] w fun e w' => e = .returned (tv (Nu.tell (sg b x))) ∧ Below w.heap.size w w' := by
  obtain ⟨W0, hW0⟩ : ∃ W0, W0 = w.alloc (.cells #[.slice A (Nu.dig x).length c, .bool b] 166) := ⟨_, rfl⟩
  have hb0 : Below w.heap.size w W0 := by rw [hW0]; exact (Below.refl _ _).alloc (Nat.le_refl _) _
  have HF := Lib.hid (fits_any W0 A c x b (h.below2 hb0) hx)
  have HB0 := Lib.hid hb0
  have HW0 := Lib.hid hW0
  unfold fitV at HF
  clear h hb0 hW0
  generalize (Nu.dig x).length = q at *
  generalize sg b x = z at *
  by_cases hf : Nu.fits z
  · rw [Nu.tell_in hf]
    rw [if_pos hf, decide_eq_true hf] at HF
    clear hf
    go_enter Tryz.func142, Tryz.ntmps142
    go_wp2_with fail
    rw [← HW0.out]
    refine HF.out.mono ?_
    rintro e w1 ⟨rfl, h1⟩
    have HB := Lib.hid (HB0.out.trans (h1.mono HB0.out.size))
    clear h1
    go_wp2
    go_ret2
    exact ⟨rfl, HB.out⟩
  · rw [Nu.tell_out hf]
    rw [if_neg hf, decide_eq_false hf] at HF
    clear hf
    go_enter Tryz.func142, Tryz.ntmps142
    go_wp2_with fail
    rw [← HW0.out]
    refine HF.out.mono ?_
    rintro e w1 ⟨rfl, h1⟩
    have HB := Lib.hid (HB0.out.trans (h1.mono HB0.out.size))
    clear h1
    go_wp2
    go_ret2
    exact ⟨rfl, HB.out⟩
end Go.Proofs.YtphmheonlndaiaaGreatDoor
namespace Go.Proofs.YtphmheonlndaiaaGreatDoor
open Go.RowKit

theorem sz (w : World) (o : Obj) : (w.alloc o).heap.size = w.heap.size + 1 := by simp
theorem plus_same (b : Bool) (x y : Nat) : sg b x + sg b y = sg b (x + y) := by cases b <;> simp [sg] <;> omega
theorem plus_less (b : Bool) {x y : Nat} (h : x < y) : sg b x + sg (!b) y = sg (!b) (y - x) := by cases b <;> simp [sg] <;> omega
theorem plus_more (b : Bool) {x y : Nat} (h : ¬ x < y) : sg b x + sg (!b) y = sg b (x - y) := by cases b <;> simp [sg] <;> omega
theorem Dr.far {w : World} {A : Option Addr} {c : Nat} {l : List Nat} (h : Dr w A c l) {r : Nat} {u0 : Option Addr} {n0 c0 : Nat} (hk : w.cell? ⟨r, 0, none⟩ = some (.slice u0 n0 c0)) (v0 v1 : Value) : Dr ((w.setCell ⟨r, 0, none⟩ v0).setCell ⟨r, 1, none⟩ v1) A c l :=
  ⟨h.1, fun j hj => by
    obtain ⟨g, h1, h2, h3⟩ := h.2 j hj
    obtain ⟨g', q1, q2, q3⟩ := h.2 0 (by omega)
    have hgr : g ≠ r := by
      rintro rfl
      obtain rfl : g' = g := by rw [h1] at q1; injection q1 with q1; injection q1 with q1; exact q1.symm
      rw [hk] at q3
      cases q3
    refine ⟨g, h1, by simp [World.setCell]; exact h2, ?_⟩
    have e1 := Below.heap_setCell w ⟨r, 0, none⟩ v0 g hgr
    have e2 := Below.heap_setCell (w.setCell ⟨r, 0, none⟩ v0) ⟨r, 1, none⟩ v1 g hgr
    rw [World.cell?_of_block (a := ⟨g, j, none⟩) (e2.trans e1)]
    exact h3⟩
theorem s4 {W w3 : World} {a : Nat} {u0 u1 u2 u3 v0 v1 : Value} (hb : Below (a + 2) W w3) (t0 : W.cell? ⟨a, 0, none⟩ = some u0) (t1 : W.cell? ⟨a, 1, none⟩ = some u1) (t2 : W.cell? ⟨a + 1, 0, none⟩ = some u2) (t3 : W.cell? ⟨a + 1, 1, none⟩ = some u3) :
    ((w3.setCell ⟨a + 1 + 1, 0, none⟩ v0).setCell ⟨a + 1 + 1, 1, none⟩ v1).cell? ⟨a, 0, none⟩ = some u0 ∧ ((w3.setCell ⟨a + 1 + 1, 0, none⟩ v0).setCell ⟨a + 1 + 1, 1, none⟩ v1).cell? ⟨a, 1, none⟩ = some u1 ∧
    ((w3.setCell ⟨a + 1 + 1, 0, none⟩ v0).setCell ⟨a + 1 + 1, 1, none⟩ v1).cell? ⟨a + 1, 0, none⟩ = some u2 ∧ ((w3.setCell ⟨a + 1 + 1, 0, none⟩ v0).setCell ⟨a + 1 + 1, 1, none⟩ v1).cell? ⟨a + 1, 1, none⟩ = some u3 := by
  have h := (hb.setCell (p := ⟨a + 1 + 1, 0, none⟩) (by show a + 2 ≤ a + 1 + 1; omega) v0).setCell (p := ⟨a + 1 + 1, 1, none⟩) (by show a + 2 ≤ a + 1 + 1; omega) v1
  exact ⟨(h.cell (p := ⟨a, 0, none⟩) (by show a < a + 2; omega)).trans t0, (h.cell (p := ⟨a, 1, none⟩) (by show a < a + 2; omega)).trans t1, (h.cell (p := ⟨a + 1, 0, none⟩) (by show a + 1 < a + 2; omega)).trans t2, (h.cell (p := ⟨a + 1, 1, none⟩) (by show a + 1 < a + 2; omega)).trans t3⟩
theorem below_two {w w3 : World} (h : Below w.heap.size w w3) (v0 v1 : Value) : Below w.heap.size w ((w3.setCell ⟨w.heap.size + 1 + 1, 0, none⟩ v0).setCell ⟨w.heap.size + 1 + 1, 1, none⟩ v1) :=
  (h.setCell (p := ⟨_, 0, none⟩) (by show w.heap.size ≤ w.heap.size + 1 + 1; omega) v0).setCell (p := ⟨_, 1, none⟩) (by show w.heap.size ≤ w.heap.size + 1 + 1; omega) v1
end Go.Proofs.YtphmheonlndaiaaGreatDoor
namespace Go.Proofs.YtphmheonlndaiaaGreatDoor
open Go.RowKit

theorem of_step (b : Bool) (r : Nat) : (sg b r).tmod 10 = sg b (r % 10) ∧ max (sg b (r % 10)) (-(sg b (r % 10))) = ((r % 10 : Nat) : Int) ∧ (sg b r).tdiv 10 = sg b (r / 10) := by
  cases b
  · refine ⟨?_, ?_, ?_⟩
    · show ((r : Int)).tmod 10 = _; rw [Int.tmod_eq_emod_of_nonneg (by omega)]; rfl
    · show max ((r % 10 : Nat) : Int) (-((r % 10 : Nat) : Int)) = _; omega
    · show ((r : Int)).tdiv 10 = _; rw [Int.tdiv_eq_ediv_of_nonneg (by omega)]; rfl
  · refine ⟨?_, ?_, ?_⟩
    · show (-(r : Int)).tmod 10 = _; rw [Int.neg_tmod, Int.tmod_eq_emod_of_nonneg (by omega)]; rfl
    · show max (-((r % 10 : Nat) : Int)) (-(-((r % 10 : Nat) : Int))) = _; omega
    · show (-(r : Int)).tdiv 10 = _; rw [Int.neg_tdiv, Int.tdiv_eq_ediv_of_nonneg (by omega)]; rfl
structure OfI (w : World) (b : Bool) (N r : Nat) (v : Value) (l : List Nat) (wr : World) : Prop where
  below : Below w.heap.size w wr
  blk : IsBlk wr (w.heap.size + 1) 166 #[v, .bool b]
  res : IsBlk wr w.heap.size 166 #[.slice none 0 0, .bool false]
  own : OwnD (w.heap.size + 2) wr v l
  eq : l ++ Nu.dig r = Nu.dig N
theorem OfI.next {w : World} {b : Bool} {N r : Nat} {v v' : Value} {l : List Nat} {wr w' : World} (h : OfI w b N r v l wr) (hr : r ≠ 0) (hb : Below (w.heap.size + 2) wr w') (ho : OwnD (w.heap.size + 2) w' v' (l ++ [r % 10])) :
    OfI w b N (r / 10) v' (l ++ [r % 10]) (w'.setCell ⟨w.heap.size + 1, 0, none⟩ v') := by
  have hs := h.blk.lt
  refine ⟨(h.below.trans (hb.mono (by omega))).setCell (p := ⟨_, 0, none⟩) (by show w.heap.size ≤ w.heap.size + 1; omega) _, (h.blk.below hb (by omega)).set 0 v', (h.res.below hb (by omega)).far (by show w.heap.size ≠ w.heap.size + 1; omega) _, ?_, ?_⟩
  · exact ownsRow_setCell_below ho (a := ⟨_, 0, none⟩) (by show w.heap.size + 1 < w.heap.size + 2; omega) _
  · rw [List.append_assoc, List.singleton_append, ← Nu.dig_pos hr]; exact h.eq
set_option maxHeartbeats 4000000 in
set_option maxRecDepth 100000 in
theorem of_any (w : World) (b : Bool) (N : Nat) (hf : Nu.fits (sg b N)) (hb0 : b = true → N ≠ 0) :
    Calls Tryz.prog 116 #[.int .i64 (sg b N)] w (LgP w (sg b N)) := by
  have hlt : decide (sg b N < 0) = b := by cases b with
    | true => exact decide_eq_true (by have := hb0 rfl; unfold sg; simp; omega)
    | false => exact decide_eq_false (by unfold sg; simp)
  have hNL : (Nu.dig N).length ≤ 100 := by
    refine Nat.le_trans (Nu.dig_len_le (n := N) (k := 19) ?_) (by decide)
    unfold Nu.fits sg at hf; cases b <;> simp at hf <;> omega
  obtain ⟨W0, hW0⟩ : ∃ W0, W0 = (w.alloc (.cells #[.slice none 0 0, .bool false] 166)).alloc (.cells #[.slice none 0 0, .bool b] 166) := ⟨_, rfl⟩
  have H0 := Lib.hid (show OfI w b N N (.slice none 0 0) [] W0 by
    have hb1 : Below w.heap.size w W0 := by rw [hW0]; exact ((Below.refl _ _).alloc (Nat.le_refl _) _).alloc (by simp) _
    refine ⟨hb1, ?_, ?_, ?_, rfl⟩
    · rw [hW0]
      have := IsBlk.new (w.alloc (.cells #[.slice none 0 0, .bool false] 166)) 166 #[.slice none 0 0, .bool b]
      rw [sz] at this
      exact this
    · rw [hW0]
      exact IsBlk.below (B := w.heap.size + 1) (IsBlk.new w _ _) ((Below.refl _ _).alloc (by simp) _) (by omega)
    · unfold OwnD; exact World.ownsRow_nil _ _ _ _)
  have HW0 := Lib.hid hW0
  have HNL := Lib.hid hNL
  obtain ⟨z0, hz0⟩ : ∃ z, z = sg b N := ⟨_, rfl⟩
  have HZ0 := Lib.hid hz0
  rw [← hz0] at hlt hf ⊢
  unfold Nu.fits at hf
  have hN : N ≤ 9223372036854775808 := by unfold sg at hz0; cases b <;> simp at hz0 <;> omega
  clear hz0 hW0 hb0 hNL
  go_enter Tryz.func116, Tryz.ntmps116
  go_wp2
  rw [← HW0.out]
  go_loopw [0] (fun zv wr => ∃ (r : Nat) (z : Int) (l : List Nat) (v : Value), zv = .int .i64 z ∧ r ≤ N ∧ Hid (z = sg b r ∧ OfI w b N r v l wr)) (fun zv _ => (intOf zv).natAbs)
  case atStart => exact ⟨N, z0, [], _, rfl, Nat.le_refl _, Lib.hid ⟨HZ0.out, H0.out⟩⟩
  case round =>
    obtain ⟨r, z, l, v, rfl, hr, HI⟩ := hrel
    obtain ⟨Av, cv, hv, _, _, _, _⟩ := own_slice HI.out.2.own
    subst hv
    have k0 := HI.out.2.blk.at_ 0
    have k1 := HI.out.2.blk.at_ 1
    have q0 := HI.out.2.res.at_ 0
    have q1 := HI.out.2.res.at_ 1
    have f0 := HI.out.2.blk.fz 0
    have g0 := HI.out.2.res.fz 0
    have g1 := HI.out.2.res.fz 1
    simp only [List.getElem?_toArray, List.getElem?_cons_zero, List.getElem?_cons_succ] at k0 k1 q0 q1
    have hzb : -9223372036854775808 ≤ z ∧ z ≤ 9223372036854775807 := by have h1 := HI.out.1; have h2 := HZ0.out; unfold sg at h1 h2; cases b <;> simp at h1 h2 <;> omega
    by_cases hr0 : r = 0
    · have hz : z = 0 := by have h1 := HI.out.1; unfold sg at h1; cases b <;> simp at h1 <;> omega
      subst hz hr0
      have HL := Lib.hid (show l = Nu.dig N from by have := HI.out.2.eq; rwa [Nu.dig_zero, List.append_nil] at this)
      have HR := Lib.hid (HI.out.2.own.dr).2
      have HB := Lib.hid HI.out.2.below
      have HQ := Lib.hid (show l.length = (Nu.dig N).length by rw [HL.out])
      clear f0
      go_wp2
      refine bodyPost_ret (v := .agg #[.slice Av l.length cv, .bool b]) (by simp [results, Tryz.results116, go_sem, q0, q1]) rfl ?_
      have hd := HR.out
      rw [HL.out] at hd
      exact ⟨Av, cv, b, N, by rw [HQ.out], hd.far q0 _ _, HZ0.out.symm, (HB.out.setCell (p := ⟨_, 0, none⟩) (Nat.le_refl _) _).setCell (p := ⟨_, 1, none⟩) (Nat.le_refl _) _⟩
    · have hz : ¬ z = 0 := by have h1 := HI.out.1; unfold sg at h1; cases b <;> simp at h1 <;> omega
      have hz' : (z != 0) = true := by simp [bne, hz]
      obtain ⟨s1, s2, s3⟩ := of_step b r
      rw [← HI.out.1] at s1 s3
      have HM := Lib.hid (show (sg b (r / 10)).natAbs < z.natAbs by rw [HI.out.1, sg_abs, sg_abs]; omega)
      obtain ⟨dz, hdz⟩ : ∃ d, d = sg b (r % 10) := ⟨_, rfl⟩
      obtain ⟨zq, hzq⟩ : ∃ q, q = sg b (r / 10) := ⟨_, rfl⟩
      have hdz9 : -10 < dz ∧ dz < 10 := by unfold sg at hdz; cases b <;> simp at hdz <;> omega
      rw [← hdz] at s1 s2
      rw [← hzq] at s3 HM
      have HZQ := Lib.hid hzq
      have hzqb : -9223372036854775808 ≤ zq ∧ zq ≤ 9223372036854775807 := by have h1 := HM.out; omega
      obtain ⟨d, hd⟩ : ∃ d, d = r % 10 := ⟨_, rfl⟩
      rw [← hd] at s2
      have HO := Lib.hid (show wr.ownsRow (w.heap.size + 2) 3 1 (.slice Av l.length cv) l.length (intsV l) from HI.out.2.own)
      have HNX := Lib.hid (fun v' w' hb ho => HI.out.2.next (v' := v') (w' := w') hr0 hb ho)
      rw [← hd] at HNX
      have HBK := Lib.hid HI.out.2.blk
      have hl10 : l.length ≤ 100 := by have h1 := HNL.out; rw [← HI.out.2.eq, List.length_append] at h1; omega
      have hws : w.heap.size + 2 ≤ wr.heap.size := by have := HI.out.2.blk.lt; omega
      have HR0 := Lib.hid (show r / 10 ≤ N by omega)
      clear hdz hzq hd hz hzb hr0 hr
      obtain ⟨i0, hi0, hz0, hz1, hz2⟩ := info_parts infoInt
      have hbig : l.length + 1 ≤ maxLen := by unfold maxLen; omega
      clear q0 q1 g0 g1
      go_wp2_with (at_builtin; (refine wpList_append_own _ rfl _ _ _ rfl (w.heap.size + 2) 3 i0 _ 1 8 Tryz.underlying164 hi0 hz0 hz1 hz2 rfl (by omega) (.slice Av l.length cv) l.length (intsV l) (by rfl) (by exact HO.out.alloc _) _ 1 _ [.int .i64 d] (by rfl) rfl (by intro j u hu; exact news_at _ _ _ _ (by simp) j u hu) (by intro u hu; simp at hu; subst hu; rfl) hbig (by omega) (by simp; omega) ?_); intro v3 w3 hown3 hgr3 _; obtain ⟨A3, c3, hv3, _, _, _, _⟩ := own_slice hown3; subst hv3; have B3 := Lib.hid (Below.grown ((Below.refl (w.heap.size + 2) wr).alloc hws _) hgr3 (by simp; omega) (fun k hk => (HO.out.lt k hk).1)); have H3 := Lib.hid hown3; have kb := HBK.out.below B3.out (by omega); have k0 := kb.at_ 0; have k1 := kb.at_ 1; have f0 := kb.fz 0; clear kb hown3 hgr3; simp only [List.getElem?_toArray, List.getElem?_cons_zero, List.getElem?_cons_succ] at k0 k1)
      go_roundw
      case rel =>
        refine ⟨r / 10, zq, l ++ [d], .slice A3 (l.length + 1) c3, rfl, HR0.out, Lib.hid ⟨HZQ.out, HNX.out _ _ B3.out ?_⟩⟩
        unfold OwnD
        rw [List.length_append, ← intsV_snoc]
        exact H3.out
      case measure => have := HM.out; simpa [intOf] using this
end Go.Proofs.YtphmheonlndaiaaGreatDoor
namespace Go.Proofs.YtphmheonlndaiaaGreatDoor
open Go.RowKit

theorem times_step (x y i : Nat) : x * (y % 10 ^ (i + 1)) = x * (y % 10 ^ i) + (y / 10 ^ i % 10) * (10 ^ i * x) := by
  rw [Nu.mod_pow_step, Nat.mul_add, ← Nat.mul_assoc, Nat.mul_comm x (10 ^ i), Nat.mul_comm (10 ^ i * x)]
theorem times_sg (b b2 : Bool) (x y : Nat) : sg b x * sg b2 y = sg (b != b2) (x * y) := by
  cases b <;> cases b2 <;> simp [sg, Int.neg_mul, Int.mul_neg]
theorem made_ints (i : Nat) : (madeCells (Value.int .i64 0).cells (i * 1)).toList = intsV (List.replicate i 0) := by
  unfold madeCells intsV
  simp [Value.cells, Nat.mod_one, List.map_replicate, List.map_const']
theorem intsV_app (l m : List Nat) : intsV l ++ intsV m = intsV (l ++ m) := by unfold intsV; rw [List.map_append]
theorem Dr.news {w : World} {a : Addr} {c : Nat} {l : List Nat} (h : Dr w (some a) c l) : ∀ (j : Nat) (u : Value), (intsV l)[j]? = some u → w.cell? (a.add j) = some u := fun j u hu => by
  unfold intsV at hu
  rw [List.getElem?_map] at hu
  have hj : j < l.length := by
    rcases Nat.lt_or_ge j l.length with h1 | h1
    · exact h1
    · rw [List.getElem?_eq_none h1] at hu; cases hu
  rw [List.getElem?_eq_getElem hj] at hu
  obtain ⟨g, h1, _, h3⟩ := h.2 j hj
  injection h1 with h1
  subst h1
  have hadd : (⟨g, 0, none⟩ : Addr).add j = ⟨g, j, none⟩ := by unfold Addr.add; split <;> simp_all
  rw [hadd, h3]
  exact hu
structure TmI (W0 : World) (S : Nat) (A : Option Addr) (c : Nat) (wr : World) : Prop where
  below : Below W0.heap.size W0 wr
  dr : Dr wr A c (Nu.dig S)
theorem small_len {S x y : Nat} (hx : x < 10 ^ 100) (hy : y < 10 ^ 100) (h : S ≤ x * y) : (Nu.dig S).length ≤ 200 := by
  refine Nu.dig_len_le (Nat.lt_of_le_of_lt h ?_)
  rw [show 200 = 100 + 100 from rfl, Nat.pow_add]
  exact Nat.mul_lt_mul'' hx hy
/-- Two long numbers in their boxes, and the answer's. -/
def W3 (w : World) (a b a2 b2 : Value) : World := ((w.alloc (.cells #[a, b] 166)).alloc (.cells #[a2, b2] 166)).alloc (.cells #[.slice none 0 0, .bool false] 166)
structure W3P (w : World) (a b a2 b2 : Value) (W0 : World) : Prop where
  below : Below w.heap.size w W0
  b0 : IsBlk W0 w.heap.size 166 #[a, b]
  b1 : IsBlk W0 (w.heap.size + 1) 166 #[a2, b2]
  b2 : IsBlk W0 (w.heap.size + 2) 166 #[.slice none 0 0, .bool false]
  size : W0.heap.size = w.heap.size + 3
theorem W3P.mk_ (w : World) (a b a2 b2 : Value) : W3P w a b a2 b2 (W3 w a b a2 b2) := by
  unfold W3
  refine ⟨(((Below.refl _ _).alloc (Nat.le_refl _) _).alloc (by simp) _).alloc (by simp only [sz]; omega) _, ?_, ?_, ?_, by simp⟩
  · refine IsBlk.below (B := w.heap.size + 1) (IsBlk.new w _ _) ?_ (by omega)
    exact ((Below.refl _ _).alloc (by simp) _).alloc (by simp) _
  · have := IsBlk.new (w.alloc (.cells #[a, b] 166)) 166 #[a2, b2]
    rw [sz] at this
    refine IsBlk.below (B := w.heap.size + 2) this ?_ (by omega)
    exact (Below.refl _ _).alloc (by simp) _
  · have := IsBlk.new ((w.alloc (.cells #[a, b] 166)).alloc (.cells #[a2, b2] 166)) 166 #[.slice none 0 0, .bool false]
    rw [sz, sz] at this
    exact this
end Go.Proofs.YtphmheonlndaiaaGreatDoor
namespace Go.Proofs.YtphmheonlndaiaaGreatDoor
open Go.RowKit

theorem parts_step {x y i : Nat} (hy : 0 < y) : (x / 10 ^ i % 10 + 10 * (x / 10 ^ (i + 1) % y)) % y = x / 10 ^ i % y ∧ (x / 10 ^ i % 10 + 10 * (x / 10 ^ (i + 1) % y)) / y = x / y / 10 ^ i % 10 ∧ (x / 10 ^ i % 10 + 10 * (x / 10 ^ (i + 1) % y)) / y < 10 := by
  have h1 := Nu.top_step x i
  have h2 : x / y / 10 ^ i = x / 10 ^ i / y := by rw [Nat.div_div_eq_div_mul, Nat.div_div_eq_div_mul, Nat.mul_comm]
  rw [h2]
  generalize x / 10 ^ i = X at *
  generalize x / 10 ^ (i + 1) = Z at *
  have hd : X % 10 < 10 := Nat.mod_lt _ (by decide)
  generalize X % 10 = d at *
  subst h1
  have e : 10 * Z + d = (d + 10 * (Z % y)) + y * (10 * (Z / y)) := by
    have h3 := Nat.div_add_mod Z y
    have h4 : y * (10 * (Z / y)) = 10 * (y * (Z / y)) := by rw [Nat.mul_left_comm]
    omega
  have hlt : (d + 10 * (Z % y)) / y < 10 := by
    have := Nat.mod_lt Z hy
    rw [Nat.div_lt_iff_lt_mul hy]
    omega
  refine ⟨?_, ?_, hlt⟩
  · rw [e, Nat.add_mul_mod_self_left]
  · rw [e, Nat.add_mul_div_left _ _ hy]
    generalize (d + 10 * (Z % y)) / y = g at *
    generalize Z / y = hq at *
    omega
def qlist (x y n k : Nat) : List Nat := (List.range n).map fun j => if k ≤ j then x / y / 10 ^ j % 10 else 0
theorem qlist_len (x y n k : Nat) : (qlist x y n k).length = n := by unfold qlist; simp
theorem qlist_get (x y n k j : Nat) (h : j < (qlist x y n k).length) : (qlist x y n k)[j] = if k ≤ j then x / y / 10 ^ j % 10 else 0 := by simp [qlist]
theorem qlist_top (x y n : Nat) : qlist x y n n = List.replicate n 0 := by
  refine List.ext_getElem (by simp [qlist]) fun j h1 h2 => ?_
  rw [qlist_get, List.getElem_replicate, if_neg (by rw [qlist_len] at h1; omega)]
theorem qlist_zero (x y n i : Nat) : (qlist x y n (i + 1)).set i 0 = qlist x y n (i + 1) := by
  refine List.ext_getElem (by simp) fun j h1 h2 => ?_
  rw [List.getElem_set]
  split
  · rename_i h
    subst h
    rw [qlist_get, if_neg (by omega)]
  · rfl
theorem qlist_set (x y n i : Nat) : (qlist x y n (i + 1)).set i (x / y / 10 ^ i % 10) = qlist x y n i := by
  refine List.ext_getElem (by simp [qlist_len]) fun j h1 h2 => ?_
  rw [List.getElem_set, qlist_get, qlist_get]
  split
  · rename_i h
    subst h
    rw [if_pos (Nat.le_refl _)]
  · rename_i h
    by_cases hj : i + 1 ≤ j
    · rw [if_pos hj, if_pos (by omega)]
    · rw [if_neg hj, if_neg (by omega)]
theorem val_range (q n : Nat) : Nu.val ((List.range n).map fun j => q / 10 ^ j % 10) = q % 10 ^ n := by
  induction n with
  | zero => simp [Nu.val, Nat.mod_one]
  | succ n ih => rw [List.range_succ, List.map_append, List.map_singleton, Nu.val_snoc, ih, List.length_map, List.length_range, Nu.mod_pow_step]
theorem qlist_val {x y n : Nat} (h : x < 10 ^ n) : Nu.val (qlist x y n 0) = x / y ∧ ∀ d ∈ qlist x y n 0, d < 10 := by
  have e : qlist x y n 0 = (List.range n).map fun j => x / y / 10 ^ j % 10 := by unfold qlist; simp
  rw [e]
  refine ⟨by rw [val_range, Nat.mod_eq_of_lt (Nat.lt_of_le_of_lt (Nat.div_le_self _ _) h)], fun d hd => ?_⟩
  obtain ⟨j, _, rfl⟩ := List.mem_map.1 hd
  exact Nat.mod_lt _ (by decide)
theorem cons_len {d r y : Nat} (hd : d < 10) (hr : r < y) (hy : (Nu.dig y).length ≤ 100) (S : Nat) (hS : S ≤ d + 10 * r) : (Nu.dig S).length ≤ 101 := by
  refine Nu.dig_len_le ?_
  have := Nu.dig_len_iff.1 hy
  rw [Nat.pow_succ]
  omega
theorem own_one (w : World) (d : Nat) : (w.alloc (.cells #[.int .i64 (d : Int)] 3)).ownsRow w.heap.size 3 1 (.slice (some ⟨w.heap.size, 0, none⟩) 1 1) 1 (intsV [d]) :=
  ⟨rfl, Or.inr ⟨w.heap.size, 1, _, rfl, Nat.le_refl _, heap_alloc_new w _, Nat.le_refl _, by unfold maxLen; omega, rfl, rfl⟩⟩
/-- A number that a cell holds. -/
def tOf (g i : Nat) (w : World) : Nat := (intOf ((w.cell? ⟨g, i, none⟩).getD (.int .i64 0))).toNat
theorem quo_end {R t y : Nat} (h1 : t * y ≤ R) (h2 : R - t * y < y) : t = R / y ∧ R - t * y = R % y := by
  have e : R = (R - t * y) + y * t := by rw [Nat.mul_comm y t]; omega
  have hy : 0 < y := by omega
  have h3 : R / y = t := by rw [e, Nat.add_mul_div_left _ _ hy, Nat.div_eq_of_lt h2, Nat.zero_add]
  have h4 : R % y = R - t * y := by
    conv => lhs; rw [e]
    rw [Nat.add_mul_mod_self_left, Nat.mod_eq_of_lt h2]
  exact ⟨h3.symm, h4.symm⟩
theorem quo_more {R t y : Nat} (h1 : t * y ≤ R) (h2 : ¬ R - t * y < y) : (t + 1) * y ≤ R ∧ R - t * y - y = R - (t + 1) * y := by
  rw [Nat.add_mul, Nat.one_mul]; omega
structure PtI (w : World) (n : Nat) (L : List Nat) (r : Nat) (A : Option Addr) (c : Nat) (wr : World) : Prop where
  below : Below w.heap.size w wr
  own : wr.ownsRow w.heap.size 3 1 (.slice (some ⟨w.heap.size, 0, none⟩) n n) n (intsV L)
  dr : Dr wr A c (Nu.dig r)
theorem PtI.next {w : World} {n r r' : Nat} {L : List Nat} {A A' : Option Addr} {c c' : Nat} {wr w' : World} (h : PtI w n L r A c wr) (hb : Below wr.heap.size wr w') (hd : Dr w' A' c' (Nu.dig r')) : PtI w n L r' A' c' w' :=
  ⟨h.below.trans (hb.mono h.below.size), own_below h.own hb, hd⟩
def PartsP (w : World) (x y : Nat) (e : Ending) (w' : World) : Prop := ∃ A c A2 c2, e = .returned (.tuple #[.slice A (Nu.dig (x / y)).length c, .slice A2 (Nu.dig (x % y)).length c2]) ∧ Dr w' A c (Nu.dig (x / y)) ∧ Dr w' A2 c2 (Nu.dig (x % y)) ∧ Below w.heap.size w w'
end Go.Proofs.YtphmheonlndaiaaGreatDoor
namespace Go.Proofs.YtphmheonlndaiaaGreatDoor
open Go.RowKit

theorem lg_len {b : Bool} {n k : Nat} {z : Int} (h : sg b n = z) (hz : z.natAbs < 10 ^ k) : (Nu.dig n).length ≤ k := by
  refine Nu.dig_len_le ?_
  rw [← h, sg_abs] at hz
  exact hz
theorem fits_abs {z : Int} (h : Nu.fits z) : z.natAbs < 10 ^ 19 := by unfold Nu.fits at h; omega
theorem sum_abs {a b : Int} (ha : Nu.fits a) (hb : Nu.fits b) : (a + b).natAbs < 10 ^ 20 := by unfold Nu.fits at ha hb; omega
theorem dif_abs {a b : Int} (ha : Nu.fits a) (hb : Nu.fits b) : (a + -b).natAbs < 10 ^ 20 := by unfold Nu.fits at ha hb; omega
theorem mul_abs {a b : Int} (ha : Nu.fits a) (hb : Nu.fits b) : (a * b).natAbs < 10 ^ 38 := by
  rw [Int.natAbs_mul]
  have h1 := fits_abs ha
  have h2 := fits_abs hb
  rw [show 38 = 19 + 19 from rfl, Nat.pow_add]
  exact Nat.mul_lt_mul'' h1 h2
theorem of_z (w : World) (a : Int) (h : Nu.fits a) : Calls Tryz.prog 116 #[.int .i64 a] w (LgP w a) := by
  have e : a = sg (decide (a < 0)) a.natAbs := by
    unfold sg
    by_cases h0 : a < 0
    · rw [decide_eq_true h0]; simp; omega
    · rw [decide_eq_false h0]; simp; omega
  have := of_any w (decide (a < 0)) a.natAbs (by rw [← e]; exact h) (fun h0 => by have := of_decide_eq_true h0; omega)
  rw [← e] at this
  exact this
theorem told_z (w : World) (A : Option Addr) (c x : Nat) (b : Bool) (z : Int) (h : Dr w A c (Nu.dig x)) (hz : sg b x = z) (hx : (Nu.dig x).length ≤ 500) :
    Calls Tryz.prog 142 #[.agg #[.slice A (Nu.dig x).length c, .bool b]] w fun e w' => e = .returned (tv (Nu.tell z)) ∧ Below w.heap.size w w' := hz ▸ told_any w A c x b h hx
theorem tdiv_sg {a b : Int} : sg (decide (a < 0) != decide (b < 0)) (a.natAbs / b.natAbs) = a.tdiv b := by
  have ea : a = sg (decide (a < 0)) a.natAbs := by
    unfold sg
    by_cases h0 : a < 0
    · rw [decide_eq_true h0]; simp; omega
    · rw [decide_eq_false h0]; simp; omega
  have eb : b = sg (decide (b < 0)) b.natAbs := by
    unfold sg
    by_cases h0 : b < 0
    · rw [decide_eq_true h0]; simp; omega
    · rw [decide_eq_false h0]; simp; omega
  conv => rhs; rw [ea, eb]
  generalize decide (a < 0) = p
  generalize decide (b < 0) = q
  cases p <;> cases q <;> simp [sg, Int.neg_tdiv, Int.tdiv_neg] <;> exact (Int.tdiv_eq_ediv_of_nonneg (Int.natCast_nonneg _)).symm
theorem tmod_sg {a b : Int} : sg (decide (a < 0)) (a.natAbs % b.natAbs) = a.tmod b := by
  have ea : a = sg (decide (a < 0)) a.natAbs := by
    unfold sg
    by_cases h0 : a < 0
    · rw [decide_eq_true h0]; simp; omega
    · rw [decide_eq_false h0]; simp; omega
  have eb : a.tmod b = a.tmod b.natAbs := by
    rcases Int.natAbs_eq b with h | h
    · rw [← h]
    · conv => lhs; rw [h, Int.tmod_neg]
  rw [eb]
  conv => rhs; rw [ea]
  generalize decide (a < 0) = p
  cases p <;> simp [sg, Int.neg_tmod] <;> exact (Int.tmod_eq_emod_of_nonneg (Int.natCast_nonneg _)).symm
theorem run_field0 (A : Option Addr) (n c : Nat) (b : Bool) (w : World) : (Instr.field 166 (.agg #[.slice A n c, .bool b]) 0).run Tryz.prog w = .ok (.slice A n c) w := by kernel_rfl
theorem quo_len {a b : Nat} (h : a < 10 ^ 19) : (Nu.dig (a / b)).length ≤ 500 := Nat.le_trans (Nu.dig_len_le (Nat.lt_of_le_of_lt (Nat.div_le_self a b) h)) (by decide)
theorem mod_len {a b : Nat} (h : a < 10 ^ 19) : (Nu.dig (a % b)).length ≤ 500 := Nat.le_trans (Nu.dig_len_le (Nat.lt_of_le_of_lt (Nat.mod_le a b) h)) (by decide)
end Go.Proofs.YtphmheonlndaiaaGreatDoor
namespace Go.Proofs.YtphmheonlndaiaaGreatDoor
open Go.RowKit

def toB (x : Int) : UInt8 := UInt8.ofNat x.toNat
theorem conv1 (w : World) (a : Int) : (convert 60 9 (.slice (some ⟨w.heap.size, 0, none⟩) 1 1)).run Tryz.prog (w.alloc (.cells #[.int .u8 a] 5)) = .ok (.string ⟨#[toB a]⟩) (w.alloc (.cells #[.int .u8 a] 5)) := by
  have h := run_convert_bytes_arg (P := Tryz.prog) (w.alloc (.cells #[.int .u8 a] 5)) 60 5 Tryz.underlying60 Tryz.underlying5 w.heap.size 0 1 1 [a] rfl (fun i hi => by
    obtain rfl : i = 0 := by omega
    exact World.cell?_alloc_mark w #[.int .u8 a] 5 (0, 0) 0) 9 Tryz.underlying9
  exact h
def wr_ (N i : Nat) : List UInt8 := ((Nu.dig N).take i).reverse.map (fun d => UInt8.ofNat (48 + d))
theorem wr_zero (N : Nat) : wr_ N 0 = [] := by simp [wr_]
theorem wr_succ {N i : Nat} (h : i < (Nu.dig N).length) : wr_ N (i + 1) = UInt8.ofNat (48 + N / 10 ^ i % 10) :: wr_ N i := by
  unfold wr_
  rw [List.take_succ_eq_append_getElem h, Nu.dig_get]
  simp
theorem wr_len (N i : Nat) : (wr_ N i).length ≤ i := by unfold wr_; rw [List.length_map, List.length_reverse]; exact List.length_take_le _ _
theorem wr_all (N : Nat) (h : N ≠ 0) : wr_ N (Nu.dig N).length = Lib.decDigits N := by unfold wr_; rw [List.take_length, Nu.dec_dig h]
theorem toB_dig {d : Nat} : toB (48 + (d : Int)) = UInt8.ofNat (48 + d) := by unfold toB; congr 1
set_option maxHeartbeats 4000000 in
set_option maxRecDepth 100000 in
theorem rput_any (n : Int) (w : World) (hn : Nu.fits n) :
    Calls Tryz.prog 85 #[.int .i64 n] w fun e w' => e = .returned (.string ⟨(Lib.itoa n).toArray⟩) ∧ Below w.heap.size w w' := by
  have HO := Lib.hid (of_z w n hn)
  have HN := Lib.hid hn
  obtain ⟨R, hR⟩ : ∃ R : ByteArray, R = ⟨(Lib.itoa n).toArray⟩ := ⟨_, rfl⟩
  rw [← hR]
  have HR := Lib.hid hR
  clear hn hR
  go_enter Tryz.func85, Tryz.ntmps85
  go_wp2_with fail
  refine HO.out.mono ?_
  rintro e w1 ⟨A, c, b, N, rfl, hd, hs, hb⟩
  obtain ⟨W1, hW1⟩ : ∃ W, W = w1.alloc (.cells #[.slice A (Nu.dig N).length c, .bool b] 166) := ⟨_, rfl⟩
  have hb1 : Below w1.heap.size w1 W1 := by rw [hW1]; exact (Below.refl _ _).alloc (Nat.le_refl _) _
  have HK := Lib.hid (show IsBlk W1 w1.heap.size 166 #[.slice A (Nu.dig N).length c, .bool b] by rw [hW1]; exact IsBlk.new _ _ _)
  have HD := Lib.hid (hd.below2 hb1)
  have HB1 := Lib.hid (hb.trans (hb1.mono hb.size))
  have HS := Lib.hid hs
  have hql : (Nu.dig N).length ≤ 19 := lg_len hs (fits_abs HN.out)
  have hqc := hd.len
  obtain ⟨q, hq⟩ : ∃ q, q = (Nu.dig N).length := ⟨_, rfl⟩
  rw [← hq] at hql HK hqc hW1 ⊢
  have HQ := Lib.hid hq
  have HW1 := Lib.hid hW1
  clear hd hs hb hb1 hq hW1
  go_wp2
  rw [← HW1.out]
  go_loopw [4, 5] (fun sv iv wr => ∃ (i : Nat) (S : ByteArray), sv = .string S ∧ iv = .int .i64 i ∧ i ≤ q ∧ S.size ≤ 19 ∧ Hid (S.data.toList = wr_ N i ∧ Below W1.heap.size W1 wr)) (fun _ iv _ => q - (intOf iv).toNat)
  case atStart => exact ⟨0, ⟨#[]⟩, rfl, rfl, Nat.zero_le _, by decide, Lib.hid ⟨by rw [wr_zero], Below.refl _ _⟩⟩
  case round =>
    obtain ⟨i, S, rfl, rfl, hi, hS, HI⟩ := hrel
    have kb := HK.out.below HI.out.2 HK.out.lt
    have k0 := kb.at_ 0
    have k1 := kb.at_ 1
    simp only [List.getElem?_toArray, List.getElem?_cons_zero, List.getElem?_cons_succ] at k0 k1
    clear kb
    by_cases hlt : i < q
    · have hlt' : (i : Int) < (q : Int) := by omega
      have hltd : i < (Nu.dig N).length := by rw [← HQ.out]; exact hlt
      obtain ⟨g, hA, hg, hc⟩ := (HD.out.below2 HI.out.2).get hltd
      subst hA
      have HWS := Lib.hid (wr_succ hltd)
      have hd9 : N / 10 ^ i % 10 < 10 := Nat.mod_lt _ (by decide)
      generalize N / 10 ^ i % 10 = d at *
      have HTB := Lib.hid (toB_dig (d := d))
      have kc := conv1
      have HWL := Lib.hid (wr_len N i)
      have HSS := Lib.hid (show S.size = (wr_ N i).length by rw [Lib.size_eq, HI.out.1])
      have hSi : S.size ≤ i := by rw [HSS.out]; exact HWL.out
      clear hltd
      go_wp2
      go_roundw
      case rel => exact ⟨i + 1, _, rfl, by go_num, hlt, by rw [ByteArray.size_append]; have : (⟨#[toB (48 + (d : Int))]⟩ : ByteArray).size = 1 := rfl; omega, Lib.hid ⟨by
        rw [HWS.out, ← HTB.out, ByteArray.data_append, Array.toList_append, HI.out.1]; rfl, HI.out.2.alloc HI.out.2.size _⟩⟩
      case measure => simp [intOf]; omega
    · obtain rfl : i = q := by omega
      have hlt' : ¬ (i : Int) < (i : Int) := by omega
      have HB := Lib.hid (HB1.out.trans (HI.out.2.mono HB1.out.size))
      by_cases hN0 : N = 0
      · have hSn : S.toList = [] := by
          rw [Lib.toList_data, HI.out.1, show i = 0 by rw [HQ.out, hN0, Nu.dig_zero]; rfl, wr_zero]
        have HE := Lib.hid (show R = ⟨#[48]⟩ by
          rw [HR.out, show n = 0 by rw [← HS.out, hN0]; unfold sg; cases b <;> rfl]
          rw [show Lib.itoa 0 = [48] by unfold Lib.itoa; rw [if_neg (by decide), show (0 : Int).toNat = 0 from rfl, Lib.decDigits]; rfl])
        clear hlt hN0
        go_wp2
        go_ret
        exact ⟨by rw [HE.out]; rfl, HB.out⟩
      · have HSD := Lib.hid (show S.data.toList = Lib.decDigits N by rw [HI.out.1, HQ.out, wr_all N hN0])
        have hSn : S.toList.isEmpty = false := by
          rw [Lib.toList_data, HSD.out]
          cases hh : Lib.decDigits N with
          | nil => exact absurd hh (Nu.dec_mag N).2.2.1
          | cons _ _ => rfl
        cases b with
        | true =>
          have HE := Lib.hid (show R = ⟨#[45]⟩ ++ S by
            refine HR.out.trans (ba_eq ?_)
            rw [data_mk, ByteArray.data_append, Array.toList_append, HSD.out]
            have h1 := HS.out
            unfold sg at h1
            simp at h1
            unfold Lib.itoa
            rw [if_pos (by omega), show n.natAbs = N by omega]; rfl)
          clear hlt hN0
          go_wp2
          go_ret
          exact ⟨by rw [HE.out]; rfl, HB.out⟩
        | false =>
          have HE := Lib.hid (show R = S by
            refine HR.out.trans (ba_eq ?_)
            rw [data_mk, HSD.out]
            have h1 := HS.out
            unfold sg at h1
            simp at h1
            unfold Lib.itoa
            rw [if_neg (by omega), show n.toNat = N by omega])
          clear hlt hN0
          go_wp2
          go_ret
          exact ⟨by rw [HE.out]; rfl, HB.out⟩

def dgs (l : List UInt8) : List Nat := l.reverse.map fun c => c.toNat - 48
theorem dgs_cons (c : UInt8) (r : List UInt8) : dgs (c :: r) = dgs r ++ [c.toNat - 48] := by unfold dgs; simp
theorem dgs_val (l : List UInt8) : Nu.val (dgs l) = Nu.magF 0 l := by
  induction hn : l.length using Nat.strongRecOn generalizing l with
  | _ n ih =>
    by_cases hne : l = []
    · subst hne; rw [Nu.magF_nil]; rfl
    · obtain ⟨m, c, rfl⟩ : ∃ m c, l = m ++ [c] := ⟨l.dropLast, l.getLast hne, (List.dropLast_concat_getLast hne).symm⟩
      rw [Nu.magF_app, Nu.magF_cons, Nu.magF_nil]
      have h1 : dgs (m ++ [c]) = (c.toNat - 48) :: dgs m := by unfold dgs; simp
      rw [h1]
      simp only [Nu.val]
      rw [ih m.length (by rw [← hn]; simp) m rfl]
      omega
theorem dgs_lt {l : List UInt8} (h : Nu.allDg l = true) : ∀ d ∈ dgs l, d < 10 := fun d hd => by
  unfold dgs at hd
  obtain ⟨c, hc, rfl⟩ := List.mem_map.1 hd
  have := List.all_eq_true.1 h c (List.mem_reverse.1 hc)
  have := of_decide_eq_true this
  omega
theorem dgs_len (l : List UInt8) : (dgs l).length = l.length := by unfold dgs; simp
theorem mag_len {l : List UInt8} (h : Nu.allDg l = true) : (Nu.dig (Nu.magF 0 l)).length ≤ l.length := by
  rw [← dgs_val]
  refine Nu.dig_len_le ?_
  have := Nu.val_lt (dgs_lt h)
  rwa [dgs_len] at this
structure RpI (w : World) (D : List UInt8) (k : Nat) (v : Value) (wr : World) : Prop where
  below : Below w.heap.size w wr
  own : OwnD w.heap.size wr v (dgs (D.drop k))
  all : Nu.allDg (D.drop k) = true
set_option maxHeartbeats 4000000 in
set_option maxRecDepth 100000 in
theorem rparse_plain (D : ByteArray) (w : World) (hs : D.size ≤ 400) (hb : Nu.below D.data.toList = false) (hne : D.size ≠ 0) (h48 : (D.data.toList.head? = some 48) → D.size = 1) :
    Calls Tryz.prog 128 #[.string D] w fun e w' => e = .returned (tv (Nu.prs D.data.toList)) ∧ Below w.heap.size w w' := by
  have HDL := Lib.hid (Lib.size_eq D)
  obtain ⟨R, hR⟩ : ∃ R, R = Nu.prs D.data.toList := ⟨_, rfl⟩
  rw [← hR]
  have hpos : 0 < D.size := by omega
  have HH := Lib.hid (show D.data.toList.head? = some D[0] by
    have : 0 < D.data.toList.length := by rw [← HDL.out]; exact hpos
    rw [List.head?_eq_getElem?, List.getElem?_eq_getElem this]
    rfl)
  have HRR := Lib.hid (show R = if Nu.allDg D.data.toList then Nu.tell (sg false (Nu.magF 0 D.data.toList)) else (0, 2) by
    rw [hR]
    unfold Nu.prs Nu.worth
    have hw : Nu.isW D.data.toList = Nu.allDg D.data.toList := by
      unfold Nu.isW
      rw [Nu.strip_other hb]
      by_cases h0 : D.data.toList.head? = some 48
      · have h1 : D.data.toList = [48] := by
          have h2 := h48 h0
          rw [Lib.size_eq] at h2
          obtain ⟨a, ha⟩ := List.length_eq_one_iff.1 h2
          rw [ha] at h0 ⊢
          simp at h0
          rw [h0]
        rw [h1]; decide
      · have h2 : (D.data.toList == [48]) = false := by
          rw [beq_eq_false_iff_ne]; intro e; rw [e] at h0; exact h0 rfl
        have h3 : D.data.toList.isEmpty = false := by
          cases hh : D.data.toList with
          | nil => have h1 := HDL.out; rw [hh] at h1; exact absurd h1 hne
          | cons _ _ => rfl
        rw [h2, show (D.data.toList.head? != some 48) = true by simpa using h0, h3]
        simp
    rw [hw, hb, Nu.strip_other hb]
    rfl)
  have hDn : D.toList.isEmpty = false := by
    rw [Lib.toList_data]
    cases hh : D.data.toList with
    | nil => have h1 := HDL.out; rw [hh] at h1; exact absurd h1 hne
    | cons _ _ => rfl
  have hm1 : ((D[0].toNat : Int) == 45) = false := by
    rw [beq_eq_false_iff_ne]
    intro e
    have h1 : D[0] = 45 := UInt8.toNat_inj.1 (by show D[0].toNat = 45; omega)
    unfold Nu.below at hb
    rw [HH.out, h1] at hb
    exact absurd hb (by decide)
  by_cases hz : (D[0].toNat : Int) = 48
  · have hz' : ((D[0].toNat : Int) == 48) = true := beq_iff_eq.2 hz
    have h1 : D.size = 1 := h48 (by rw [HH.out]; exact congrArg some (UInt8.toNat_inj.1 (by show D[0].toNat = 48; omega)))
    have h1' : ¬ (D.size : Int) > 1 := by omega
    clear hz hR hne h1 h48 hb
    go_enter Tryz.func128, Tryz.ntmps128
    go_wp2
    go_loopw [5, 6] (fun v iv wr => ∃ k : Nat, iv = .int .i64 ((k : Int) - 1) ∧ k ≤ D.size ∧ Hid (RpI w D.data.toList k v wr)) (fun _ iv _ => (intOf iv + 1).toNat)
    case atStart => exact ⟨D.size, rfl, Nat.le_refl _, Lib.hid (RpI.mk (Below.refl _ _) (by rw [HDL.out, List.drop_length]; unfold OwnD; exact World.ownsRow_nil _ _ _ _) (by rw [HDL.out, List.drop_length]; rfl))⟩
    case round =>
      obtain ⟨k, rfl, hk, HI⟩ := hrel
      obtain ⟨Av, cv, hv, _, _, _, _⟩ := own_slice HI.out.own
      subst hv
      obtain ⟨m, hm⟩ : ∃ m, m = (dgs (D.data.toList.drop k)).length := ⟨_, rfl⟩
      have hll : m ≤ D.size := by rw [hm, dgs_len, List.length_drop, ← HDL.out]; omega
      rw [← hm]
      have HM := Lib.hid hm
      clear hm
      rcases k with _ | k
      · have hneg : ¬ ((0 : Nat) : Int) - 1 ≥ 0 := by omega
        have HA := Lib.hid (show Nu.allDg D.data.toList = true from by have h1 := HI.out.all; rwa [List.drop_zero] at h1)
        have HOW := Lib.hid (show OwnD w.heap.size wr (.slice Av m cv) (dgs D.data.toList) from by have h1 := HI.out.own; rw [← HM.out, List.drop_zero] at h1; exact h1)
        have HM0 := Lib.hid (show m = (dgs D.data.toList).length by have h1 := HM.out; rwa [List.drop_zero] at h1)
        have HE := Lib.hid (show R = Nu.tell (sg false (Nu.magF 0 D.data.toList)) by rw [HRR.out, HA.out]; rfl)
        have HT := Lib.hid (trim_any wr Av cv (dgs D.data.toList) (HOW.out.dr).2 (dgs_lt HA.out) (by rw [dgs_len, ← HDL.out]; omega))
        rw [dgs_val, ← HM0.out] at HT
        have HML := Lib.hid (mag_len HA.out)
        have HB := Lib.hid HI.out.below
        go_wp2_with fail
        refine HT.out.mono ?_
        rintro e w1 ⟨A1, c1, rfl, hd1, rfl⟩
        have HTO := Lib.hid (told_any wr A1 c1 _ false hd1 (Nat.le_trans HML.out (by rw [← HDL.out]; omega)))
        unfold tv at HTO
        rw [← HE.out] at HTO
        clear hd1
        go_wp2_with fail
        refine HTO.out.mono ?_
        rintro e w2 ⟨rfl, h2⟩
        have HB2 := Lib.hid (HB.out.trans (h2.mono HB.out.size))
        clear h2
        go_wp2
        go_ret2
        exact ⟨rfl, HB2.out⟩
      · have hlt : k < D.size := by omega
        have e0 : ((k + 1 : Nat) : Int) - 1 = (k : Int) := by omega
        rw [e0]
        have hkl : k < D.data.toList.length := by rw [← HDL.out]; exact hlt
        have HDR := Lib.hid (show D.data.toList.drop k = D[k] :: D.data.toList.drop (k + 1) by rw [List.drop_eq_getElem_cons hkl]; rfl)
        have HAL := Lib.hid (show Nu.allDg D.data.toList = true → 48 ≤ (D[k].toNat : Int) ∧ (D[k].toNat : Int) ≤ 57 from fun h => by
          have h1 := List.all_eq_true.1 h D[k] (by
            have : D[k] ∈ D.data.toList.drop k := by rw [HDR.out]; exact List.mem_cons_self ..
            exact List.mem_of_mem_drop this)
          have := of_decide_eq_true h1
          omega)
        have HBAD := Lib.hid (show ¬ (48 ≤ (D[k].toNat : Int) ∧ (D[k].toNat : Int) ≤ 57) → R = (0, 2) from fun h => by
          rw [HRR.out]
          cases hh : Nu.allDg D.data.toList with
          | false => rfl
          | true => exact absurd (HAL.out hh) h)
        have hkD : (k : Int) < (D.size : Int) := by omega
        have HB := Lib.hid HI.out.below
        clear e0
        by_cases h1 : (D[k].toNat : Int) < 48
        · have HE := Lib.hid (HBAD.out (by omega))
          go_wp2
          go_ret2
          exact ⟨by rw [HE.out]; rfl, HB.out⟩
        · by_cases h2 : (D[k].toNat : Int) > 57
          · have HE := Lib.hid (HBAD.out (by omega))
            go_wp2
            go_ret2
            exact ⟨by rw [HE.out]; rfl, HB.out⟩
          · obtain ⟨i0, hi0, hz0, hz1, hz2⟩ := info_parts infoInt
            have HNX := Lib.hid (fun (v' : Value) (w' : World) (hb : Below w.heap.size w w') (ho : OwnD w.heap.size w' v' (dgs (D.data.toList.drop (k + 1)) ++ [D[k].toNat - 48])) => show RpI w D.data.toList k v' w' from
              ⟨hb, by rw [HDR.out, dgs_cons]; exact ho, by rw [HDR.out]; unfold Nu.allDg; rw [List.all_cons, show Nu.isDg D[k] = true from decide_eq_true (by omega)]; exact HI.out.all⟩)
            obtain ⟨d, hd⟩ : ∃ d, d = D[k].toNat - 48 := ⟨_, rfl⟩
            rw [← hd] at HNX
            have HD := Lib.hid (show (D[k].toNat : Int) - 48 = (d : Int) by omega)
            obtain ⟨L, hL⟩ : ∃ L, L = dgs (D.data.toList.drop (k + 1)) := ⟨_, rfl⟩
            rw [← hL] at HNX
            have hLm : m = L.length := by rw [hL]; exact HM.out
            rw [hLm] at hll ⊢
            have HO := Lib.hid (show wr.ownsRow w.heap.size 3 1 (.slice Av L.length cv) L.length (intsV L) from by rw [hL]; exact HI.out.own)
            have hws : w.heap.size ≤ wr.heap.size := HB.out.size
            have HBW := Lib.hid HB.out
            have hbig : L.length + 1 ≤ maxLen := by unfold maxLen; omega
            clear hd hL hLm
            go_wp2_with (at_builtin; (refine wpList_append_own _ rfl _ _ _ rfl w.heap.size 3 i0 _ 1 8 Tryz.underlying164 hi0 hz0 hz1 hz2 rfl (by omega) (.slice Av L.length cv) L.length (intsV L) (by rfl) (by exact HO.out.alloc _) _ 1 _ [.int .i64 ((D[k].toNat : Int) - 48)] (by rfl) rfl (by intro j u hu; exact news_at _ _ _ _ (by simp) j u hu) (by intro u hu; simp at hu; subst hu; rfl) hbig (by omega) (by simp; omega) ?_); intro v3 w3 hown3 hgr3 _; obtain ⟨A3, c3, hv3, _, _, _, _⟩ := own_slice hown3; subst hv3; have B3 := Lib.hid (HBW.out.trans (Below.grown ((Below.refl w.heap.size wr).alloc hws _) hgr3 (by simp; omega) (fun k hk => (HO.out.lt k hk).1))); have H3 := Lib.hid hown3; clear hown3 hgr3)
            go_roundw
            case rel => exact ⟨k, rfl, by omega, Lib.hid (HNX.out _ _ B3.out (by unfold OwnD; rw [List.length_append, ← intsV_snoc]; have h4 := H3.out; rw [HD.out] at h4; exact h4))⟩
            case measure => simp [intOf]
  · have hz' : ((D[0].toNat : Int) == 48) = false := beq_eq_false_iff_ne.2 hz
    clear hz hR hne h48 hb
    go_enter Tryz.func128, Tryz.ntmps128
    go_wp2
    go_loopw [5, 6] (fun v iv wr => ∃ k : Nat, iv = .int .i64 ((k : Int) - 1) ∧ k ≤ D.size ∧ Hid (RpI w D.data.toList k v wr)) (fun _ iv _ => (intOf iv + 1).toNat)
    case atStart => exact ⟨D.size, rfl, Nat.le_refl _, Lib.hid (RpI.mk (Below.refl _ _) (by rw [HDL.out, List.drop_length]; unfold OwnD; exact World.ownsRow_nil _ _ _ _) (by rw [HDL.out, List.drop_length]; rfl))⟩
    case round =>
      obtain ⟨k, rfl, hk, HI⟩ := hrel
      obtain ⟨Av, cv, hv, _, _, _, _⟩ := own_slice HI.out.own
      subst hv
      obtain ⟨m, hm⟩ : ∃ m, m = (dgs (D.data.toList.drop k)).length := ⟨_, rfl⟩
      have hll : m ≤ D.size := by rw [hm, dgs_len, List.length_drop, ← HDL.out]; omega
      rw [← hm]
      have HM := Lib.hid hm
      clear hm
      rcases k with _ | k
      · have hneg : ¬ ((0 : Nat) : Int) - 1 ≥ 0 := by omega
        have HA := Lib.hid (show Nu.allDg D.data.toList = true from by have h1 := HI.out.all; rwa [List.drop_zero] at h1)
        have HOW := Lib.hid (show OwnD w.heap.size wr (.slice Av m cv) (dgs D.data.toList) from by have h1 := HI.out.own; rw [← HM.out, List.drop_zero] at h1; exact h1)
        have HM0 := Lib.hid (show m = (dgs D.data.toList).length by have h1 := HM.out; rwa [List.drop_zero] at h1)
        have HE := Lib.hid (show R = Nu.tell (sg false (Nu.magF 0 D.data.toList)) by rw [HRR.out, HA.out]; rfl)
        have HT := Lib.hid (trim_any wr Av cv (dgs D.data.toList) (HOW.out.dr).2 (dgs_lt HA.out) (by rw [dgs_len, ← HDL.out]; omega))
        rw [dgs_val, ← HM0.out] at HT
        have HML := Lib.hid (mag_len HA.out)
        have HB := Lib.hid HI.out.below
        go_wp2_with fail
        refine HT.out.mono ?_
        rintro e w1 ⟨A1, c1, rfl, hd1, rfl⟩
        have HTO := Lib.hid (told_any wr A1 c1 _ false hd1 (Nat.le_trans HML.out (by rw [← HDL.out]; omega)))
        unfold tv at HTO
        rw [← HE.out] at HTO
        clear hd1
        go_wp2_with fail
        refine HTO.out.mono ?_
        rintro e w2 ⟨rfl, h2⟩
        have HB2 := Lib.hid (HB.out.trans (h2.mono HB.out.size))
        clear h2
        go_wp2
        go_ret2
        exact ⟨rfl, HB2.out⟩
      · have hlt : k < D.size := by omega
        have e0 : ((k + 1 : Nat) : Int) - 1 = (k : Int) := by omega
        rw [e0]
        have hkl : k < D.data.toList.length := by rw [← HDL.out]; exact hlt
        have HDR := Lib.hid (show D.data.toList.drop k = D[k] :: D.data.toList.drop (k + 1) by rw [List.drop_eq_getElem_cons hkl]; rfl)
        have HAL := Lib.hid (show Nu.allDg D.data.toList = true → 48 ≤ (D[k].toNat : Int) ∧ (D[k].toNat : Int) ≤ 57 from fun h => by
          have h1 := List.all_eq_true.1 h D[k] (by
            have : D[k] ∈ D.data.toList.drop k := by rw [HDR.out]; exact List.mem_cons_self ..
            exact List.mem_of_mem_drop this)
          have := of_decide_eq_true h1
          omega)
        have HBAD := Lib.hid (show ¬ (48 ≤ (D[k].toNat : Int) ∧ (D[k].toNat : Int) ≤ 57) → R = (0, 2) from fun h => by
          rw [HRR.out]
          cases hh : Nu.allDg D.data.toList with
          | false => rfl
          | true => exact absurd (HAL.out hh) h)
        have hkD : (k : Int) < (D.size : Int) := by omega
        have HB := Lib.hid HI.out.below
        clear e0
        by_cases h1 : (D[k].toNat : Int) < 48
        · have HE := Lib.hid (HBAD.out (by omega))
          go_wp2
          go_ret2
          exact ⟨by rw [HE.out]; rfl, HB.out⟩
        · by_cases h2 : (D[k].toNat : Int) > 57
          · have HE := Lib.hid (HBAD.out (by omega))
            go_wp2
            go_ret2
            exact ⟨by rw [HE.out]; rfl, HB.out⟩
          · obtain ⟨i0, hi0, hz0, hz1, hz2⟩ := info_parts infoInt
            have HNX := Lib.hid (fun (v' : Value) (w' : World) (hb : Below w.heap.size w w') (ho : OwnD w.heap.size w' v' (dgs (D.data.toList.drop (k + 1)) ++ [D[k].toNat - 48])) => show RpI w D.data.toList k v' w' from
              ⟨hb, by rw [HDR.out, dgs_cons]; exact ho, by rw [HDR.out]; unfold Nu.allDg; rw [List.all_cons, show Nu.isDg D[k] = true from decide_eq_true (by omega)]; exact HI.out.all⟩)
            obtain ⟨d, hd⟩ : ∃ d, d = D[k].toNat - 48 := ⟨_, rfl⟩
            rw [← hd] at HNX
            have HD := Lib.hid (show (D[k].toNat : Int) - 48 = (d : Int) by omega)
            obtain ⟨L, hL⟩ : ∃ L, L = dgs (D.data.toList.drop (k + 1)) := ⟨_, rfl⟩
            rw [← hL] at HNX
            have hLm : m = L.length := by rw [hL]; exact HM.out
            rw [hLm] at hll ⊢
            have HO := Lib.hid (show wr.ownsRow w.heap.size 3 1 (.slice Av L.length cv) L.length (intsV L) from by rw [hL]; exact HI.out.own)
            have hws : w.heap.size ≤ wr.heap.size := HB.out.size
            have HBW := Lib.hid HB.out
            have hbig : L.length + 1 ≤ maxLen := by unfold maxLen; omega
            clear hd hL hLm
            go_wp2_with (at_builtin; (refine wpList_append_own _ rfl _ _ _ rfl w.heap.size 3 i0 _ 1 8 Tryz.underlying164 hi0 hz0 hz1 hz2 rfl (by omega) (.slice Av L.length cv) L.length (intsV L) (by rfl) (by exact HO.out.alloc _) _ 1 _ [.int .i64 ((D[k].toNat : Int) - 48)] (by rfl) rfl (by intro j u hu; exact news_at _ _ _ _ (by simp) j u hu) (by intro u hu; simp at hu; subst hu; rfl) hbig (by omega) (by simp; omega) ?_); intro v3 w3 hown3 hgr3 _; obtain ⟨A3, c3, hv3, _, _, _, _⟩ := own_slice hown3; subst hv3; have B3 := Lib.hid (HBW.out.trans (Below.grown ((Below.refl w.heap.size wr).alloc hws _) hgr3 (by simp; omega) (fun k hk => (HO.out.lt k hk).1))); have H3 := Lib.hid hown3; clear hown3 hgr3)
            go_roundw
            case rel => exact ⟨k, rfl, by omega, Lib.hid (HNX.out _ _ B3.out (by unfold OwnD; rw [List.length_append, ← intsV_snoc]; have h4 := H3.out; rw [HD.out] at h4; exact h4))⟩
            case measure => simp [intOf]

theorem head0 {D : ByteArray} (hpos : 0 < D.size) : D.data.toList.head? = some D[0] := by
  have : 0 < D.data.toList.length := by rw [← Lib.size_eq]; exact hpos
  rw [List.head?_eq_getElem?, List.getElem?_eq_getElem this]
  rfl
theorem nempty {D : ByteArray} (hne : D.size ≠ 0) : D.data.toList.isEmpty = false := by
  cases hh : D.data.toList with
  | nil => have h1 := Lib.size_eq D; rw [hh] at h1; exact absurd h1 hne
  | cons _ _ => rfl
theorem empty_ {D : ByteArray} (h : D.size = 0) : D.data.toList = [] := List.length_eq_zero_iff.1 (by rw [← Lib.size_eq]; exact h)
set_option maxHeartbeats 4000000 in
set_option maxRecDepth 100000 in
/-- No writing: nothing, or a nought ahead of more. -/
theorem rparse_bad (D : ByteArray) (w : World) (hb : Nu.below D.data.toList = false) (h : D.size = 0 ∨ (D.data.toList.head? = some 48 ∧ D.size ≠ 1)) :
    Calls Tryz.prog 128 #[.string D] w fun e w' => e = .returned (tv (Nu.prs D.data.toList)) ∧ Below w.heap.size w w' := by
  have HE := Lib.hid (show Nu.prs D.data.toList = (0, 2) by
    unfold Nu.prs
    rw [show Nu.isW D.data.toList = false by
      unfold Nu.isW
      rw [Nu.strip_other hb]
      rcases h with h | ⟨h, h1⟩
      · rw [empty_ h]; rfl
      · rw [show (D.data.toList == [48]) = false from beq_eq_false_iff_ne.2 (fun e => h1 (by rw [Lib.size_eq, e]; rfl)), show (D.data.toList.head? != some 48) = false by rw [h]; rfl]
        simp]
    rfl)
  obtain ⟨R, hR⟩ : ∃ R, R = Nu.prs D.data.toList := ⟨_, rfl⟩
  rw [← hR] at HE ⊢
  clear hR
  by_cases h0 : D.size = 0
  · have hDn : D.toList = [] := by rw [Lib.toList_data]; exact empty_ h0
    clear h h0 hb
    go_enter Tryz.func128, Tryz.ntmps128
    go_wp2
    go_ret2
    exact ⟨by rw [HE.out]; rfl, Below.refl _ _⟩
  · obtain ⟨h48, h1⟩ := h.resolve_left h0
    have hDn : D.toList.isEmpty = false := by rw [Lib.toList_data]; exact nempty h0
    have hpos : 0 < D.size := by omega
    have hh := head0 hpos
    rw [h48] at hh
    injection hh with hh
    have hz : ((D[0].toNat : Int) == 48) = true := by rw [← hh]; rfl
    have hm : ((D[0].toNat : Int) == 45) = false := by rw [← hh]; rfl
    have hbig : (D.size : Int) > 1 := by omega
    clear h h0 hb h48 hh h1
    go_enter Tryz.func128, Tryz.ntmps128
    go_wp2
    go_ret2
    exact ⟨by rw [HE.out]; rfl, Below.refl _ _⟩
set_option maxHeartbeats 4000000 in
set_option maxRecDepth 100000 in
/-- Behind a minus. -/
theorem rparse_minus (s : ByteArray) (w : World) (hs : s.size ≤ 400) (hb : Nu.below s.data.toList = true) :
    Calls Tryz.prog 128 #[.string s] w fun e w' => e = .returned (tv (Nu.prs s.data.toList)) ∧ Below w.heap.size w w' := by
  have hsz0 : s.size ≠ 0 := fun h => by rw [empty_ h] at hb; cases hb
  have hsn : s.toList.isEmpty = false := by rw [Lib.toList_data]; exact nempty hsz0
  have hspos : 0 < s.size := by omega
  have hs1 : (1 : Int) ≤ (s.size : Int) := by omega
  have hm1 : ((s[0].toNat : Int) == 45) = true := by
    have h1 := head0 hspos
    unfold Nu.below at hb
    rw [h1] at hb
    have h2 : s[0] = 45 := by simpa using hb
    rw [h2]; rfl
  obtain ⟨D, hD⟩ : ∃ D, s.extract 1 s.size = D := ⟨_, rfl⟩
  have hDD : D.data.toList = Nu.strip s.data.toList := by
    rw [← hD, Lib.extract_to_end]
    have h1 := Nu.strip_minus hb
    conv => lhs; rw [h1]
    rfl
  have hDs : D.size ≤ 400 := by rw [← hD, ByteArray.size_extract]; omega
  have HDL := Lib.hid (Lib.size_eq D)
  obtain ⟨R, hR⟩ : ∃ R, R = Nu.prs s.data.toList := ⟨_, rfl⟩
  rw [← hR]
  have hw : Nu.isW s.data.toList = (!D.data.toList.isEmpty && D.data.toList.head? != some 48 && Nu.allDg D.data.toList) := by
    unfold Nu.isW
    rw [hDD, show (s.data.toList == [48]) = false from beq_eq_false_iff_ne.2 (fun e => by rw [e] at hb; cases hb)]
    rfl
  have hRv : R = if (!D.data.toList.isEmpty && D.data.toList.head? != some 48 && Nu.allDg D.data.toList) then Nu.tell (sg true (Nu.magF 0 D.data.toList)) else (0, 2) := by
    rw [hR]
    unfold Nu.prs
    rw [hw, Nu.worth_b hb, hDD]
    rfl
  clear hw hDD hR hb hsz0
  by_cases h0 : D.size = 0
  · have hDn : D.toList = [] := by rw [Lib.toList_data]; exact empty_ h0
    have HE := Lib.hid (show R = (0, 2) by rw [hRv, empty_ h0]; rfl)
    clear h0 hRv
    go_enter Tryz.func128, Tryz.ntmps128
    go_wp2
    go_ret2
    exact ⟨by rw [HE.out]; rfl, Below.refl _ _⟩
  · have hDn : D.toList.isEmpty = false := by rw [Lib.toList_data]; exact nempty h0
    have hpos : 0 < D.size := by omega
    have hh := head0 hpos
    by_cases hz : (D[0].toNat : Int) = 48
    · have hz' : ((D[0].toNat : Int) == 48) = true := beq_iff_eq.2 hz
      have HE := Lib.hid (show R = (0, 2) by
        rw [hRv, hh, show D[0] = 48 from UInt8.toNat_inj.1 (by show D[0].toNat = 48; omega)]
        simp)
      clear h0 hRv hh hz
      by_cases hbig : (D.size : Int) > 1
      ·
        go_enter Tryz.func128, Tryz.ntmps128
        go_wp2
        go_ret2
        exact ⟨by rw [HE.out]; rfl, Below.refl _ _⟩
      ·
        go_enter Tryz.func128, Tryz.ntmps128
        go_wp2
        go_ret2
        exact ⟨by rw [HE.out]; rfl, Below.refl _ _⟩
    · have hz' : ((D[0].toNat : Int) == 48) = false := beq_eq_false_iff_ne.2 hz
      have HRR := Lib.hid (show R = if Nu.allDg D.data.toList then Nu.tell (sg true (Nu.magF 0 D.data.toList)) else (0, 2) by
        rw [hRv, nempty h0, hh, show (some D[0] != some (48 : UInt8)) = true by
          simp only [bne_iff_ne, ne_eq, Option.some.injEq]
          intro e; rw [e] at hz; exact hz rfl]
        rfl)
      clear h0 hRv hh hz hs
      go_enter Tryz.func128, Tryz.ntmps128
      go_wp2
      go_loopw [5, 6] (fun v iv wr => ∃ k : Nat, iv = .int .i64 ((k : Int) - 1) ∧ k ≤ D.size ∧ Hid (RpI w D.data.toList k v wr)) (fun _ iv _ => (intOf iv + 1).toNat)
      case atStart => exact ⟨D.size, rfl, Nat.le_refl _, Lib.hid (RpI.mk (Below.refl _ _) (by rw [HDL.out, List.drop_length]; unfold OwnD; exact World.ownsRow_nil _ _ _ _) (by rw [HDL.out, List.drop_length]; rfl))⟩
      case round =>
        obtain ⟨k, rfl, hk, HI⟩ := hrel
        obtain ⟨Av, cv, hv, _, _, _, _⟩ := own_slice HI.out.own
        subst hv
        obtain ⟨m, hm⟩ : ∃ m, m = (dgs (D.data.toList.drop k)).length := ⟨_, rfl⟩
        have hll : m ≤ D.size := by rw [hm, dgs_len, List.length_drop, ← HDL.out]; omega
        rw [← hm]
        have HM := Lib.hid hm
        clear hm
        rcases k with _ | k
        · have hneg : ¬ ((0 : Nat) : Int) - 1 ≥ 0 := by omega
          have HA := Lib.hid (show Nu.allDg D.data.toList = true from by have h1 := HI.out.all; rwa [List.drop_zero] at h1)
          have HOW := Lib.hid (show OwnD w.heap.size wr (.slice Av m cv) (dgs D.data.toList) from by have h1 := HI.out.own; rw [← HM.out, List.drop_zero] at h1; exact h1)
          have HM0 := Lib.hid (show m = (dgs D.data.toList).length by have h1 := HM.out; rwa [List.drop_zero] at h1)
          have HE := Lib.hid (show R = Nu.tell (sg true (Nu.magF 0 D.data.toList)) by rw [HRR.out, HA.out]; rfl)
          have HT := Lib.hid (trim_any wr Av cv (dgs D.data.toList) (HOW.out.dr).2 (dgs_lt HA.out) (by rw [dgs_len, ← HDL.out]; omega))
          rw [dgs_val, ← HM0.out] at HT
          have HML := Lib.hid (mag_len HA.out)
          have HB := Lib.hid HI.out.below
          go_wp2_with fail
          refine HT.out.mono ?_
          rintro e w1 ⟨A1, c1, rfl, hd1, rfl⟩
          have HTO := Lib.hid (told_any wr A1 c1 _ true hd1 (Nat.le_trans HML.out (by rw [← HDL.out]; omega)))
          unfold tv at HTO
          rw [← HE.out] at HTO
          clear hd1
          go_wp2_with fail
          refine HTO.out.mono ?_
          rintro e w2 ⟨rfl, h2⟩
          have HB2 := Lib.hid (HB.out.trans (h2.mono HB.out.size))
          clear h2
          go_wp2
          go_ret2
          exact ⟨rfl, HB2.out⟩
        · have hlt : k < D.size := by omega
          have e0 : ((k + 1 : Nat) : Int) - 1 = (k : Int) := by omega
          rw [e0]
          have hkl : k < D.data.toList.length := by rw [← HDL.out]; exact hlt
          have HDR := Lib.hid (show D.data.toList.drop k = D[k] :: D.data.toList.drop (k + 1) by rw [List.drop_eq_getElem_cons hkl]; rfl)
          have HAL := Lib.hid (show Nu.allDg D.data.toList = true → 48 ≤ (D[k].toNat : Int) ∧ (D[k].toNat : Int) ≤ 57 from fun h => by
            have h1 := List.all_eq_true.1 h D[k] (by
              have : D[k] ∈ D.data.toList.drop k := by rw [HDR.out]; exact List.mem_cons_self ..
              exact List.mem_of_mem_drop this)
            have := of_decide_eq_true h1
            omega)
          have HBAD := Lib.hid (show ¬ (48 ≤ (D[k].toNat : Int) ∧ (D[k].toNat : Int) ≤ 57) → R = (0, 2) from fun h => by
            rw [HRR.out]
            cases hh : Nu.allDg D.data.toList with
            | false => rfl
            | true => exact absurd (HAL.out hh) h)
          have hkD : (k : Int) < (D.size : Int) := by omega
          have HB := Lib.hid HI.out.below
          clear e0
          by_cases h1 : (D[k].toNat : Int) < 48
          · have HE := Lib.hid (HBAD.out (by omega))
            go_wp2
            go_ret2
            exact ⟨by rw [HE.out]; rfl, HB.out⟩
          · by_cases h2 : (D[k].toNat : Int) > 57
            · have HE := Lib.hid (HBAD.out (by omega))
              go_wp2
              go_ret2
              exact ⟨by rw [HE.out]; rfl, HB.out⟩
            · obtain ⟨i0, hi0, hz0, hz1, hz2⟩ := info_parts infoInt
              have HNX := Lib.hid (fun (v' : Value) (w' : World) (hb : Below w.heap.size w w') (ho : OwnD w.heap.size w' v' (dgs (D.data.toList.drop (k + 1)) ++ [D[k].toNat - 48])) => show RpI w D.data.toList k v' w' from
                ⟨hb, by rw [HDR.out, dgs_cons]; exact ho, by rw [HDR.out]; unfold Nu.allDg; rw [List.all_cons, show Nu.isDg D[k] = true from decide_eq_true (by omega)]; exact HI.out.all⟩)
              obtain ⟨d, hd⟩ : ∃ d, d = D[k].toNat - 48 := ⟨_, rfl⟩
              rw [← hd] at HNX
              have HD := Lib.hid (show (D[k].toNat : Int) - 48 = (d : Int) by omega)
              obtain ⟨L, hL⟩ : ∃ L, L = dgs (D.data.toList.drop (k + 1)) := ⟨_, rfl⟩
              rw [← hL] at HNX
              have hLm : m = L.length := by rw [hL]; exact HM.out
              rw [hLm] at hll ⊢
              have HO := Lib.hid (show wr.ownsRow w.heap.size 3 1 (.slice Av L.length cv) L.length (intsV L) from by rw [hL]; exact HI.out.own)
              have hws : w.heap.size ≤ wr.heap.size := HB.out.size
              have HBW := Lib.hid HB.out
              have hbig : L.length + 1 ≤ maxLen := by unfold maxLen; omega
              clear hd hL hLm
              go_wp2_with (at_builtin; (refine wpList_append_own _ rfl _ _ _ rfl w.heap.size 3 i0 _ 1 8 Tryz.underlying164 hi0 hz0 hz1 hz2 rfl (by omega) (.slice Av L.length cv) L.length (intsV L) (by rfl) (by exact HO.out.alloc _) _ 1 _ [.int .i64 ((D[k].toNat : Int) - 48)] (by rfl) rfl (by intro j u hu; exact news_at _ _ _ _ (by simp) j u hu) (by intro u hu; simp at hu; subst hu; rfl) hbig (by omega) (by simp; omega) ?_); intro v3 w3 hown3 hgr3 _; obtain ⟨A3, c3, hv3, _, _, _, _⟩ := own_slice hown3; subst hv3; have B3 := Lib.hid (HBW.out.trans (Below.grown ((Below.refl w.heap.size wr).alloc hws _) hgr3 (by simp; omega) (fun k hk => (HO.out.lt k hk).1))); have H3 := Lib.hid hown3; clear hown3 hgr3)
              go_roundw
              case rel => exact ⟨k, rfl, by omega, Lib.hid (HNX.out _ _ B3.out (by unfold OwnD; rw [List.length_append, ← intsV_snoc]; have h4 := H3.out; rw [HD.out] at h4; exact h4))⟩
              case measure => simp [intOf]
theorem rparse_any (s : ByteArray) (w : World) (hs : s.size ≤ 400) :
    Calls Tryz.prog 128 #[.string s] w fun e w' => e = .returned (tv (Nu.prs s.data.toList)) ∧ Below w.heap.size w w' := by
  cases hb : Nu.below s.data.toList with
  | true => exact rparse_minus s w hs hb
  | false =>
    by_cases h0 : s.size = 0
    · exact rparse_bad s w hb (Or.inl h0)
    · by_cases h48 : s.data.toList.head? = some 48 ∧ s.size ≠ 1
      · exact rparse_bad s w hb (Or.inr h48)
      · exact rparse_plain s w hs hb h0 (fun h => by
          by_cases h1 : s.size = 1
          · exact h1
          · exact absurd ⟨h, h1⟩ h48)
end Go.Proofs.YtphmheonlndaiaaGreatDoor
