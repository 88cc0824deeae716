/- Facts and walks for the statement. -/
import Derived.Test.YtmmdigeciphglaaGreatDoorPzB26
import Derived.Test.YtmmdigeciphglaaGreatDoorPzP00
import Derived.Shelf.Strings.Builder1
import Derived.Shelf.Strings.Builder2
import Derived.Shelf.Strings.OnBuilder
import Derived.Shelf.Strings.Trim
import Derived.Shelf.Small.Utf8
import Derived.Shelf.Small.Strs
import Derived.Shelf.Small.Wraps
import Derived.Shelf.Strings.BuilderF
import Derived.Shelf.Strings.BuilderK
import Derived.Shelf.Strconv.Itoa0
import Derived.Shelf.Strconv.Itoa1
import Derived.Shelf.LaysM
import Derived.Shelf.Strconv.Itoa2
import Derived.Shelf.Strconv.Itoa3
import Derived.Shelf.Strconv.Itoa4
import Derived.Shelf.Strconv.ParseIntEmpty
import Derived.Shelf.Strconv.Clone
import Derived.Shelf.Strconv.SyntaxError
import Derived.Shelf.LaysC
import Derived.Shelf.Strconv.ToError
import Derived.Shelf.Strconv.Lower
import Derived.Shelf.Strconv.ParseUint10
import Derived.Shelf.Strconv.ParseUint10Empty
import Derived.Shelf.Strconv.ParseUint10Any
import Derived.Shelf.Strconv.ParseInt10
import Derived.Shelf.Strconv.RangeError
import Derived.Shelf.Strconv.ToErrorRange
import Derived.Shelf.Strconv.ParseUintEmpty
import Derived.Shelf.Strconv.ParseUint10b64
import Derived.Shelf.Strconv.ParseUint10b32
import Derived.Shelf.Strconv.ParseUint10b16
import Derived.Shelf.Strconv.ParseUint10b8
import Derived.Shelf.Strconv.ParseUint10At
import Derived.Shelf.Strconv.ParseInt10At64
import Derived.Shelf.Strconv.ParseInt10At32
import Derived.Shelf.Strconv.ParseInt10At16
import Derived.Shelf.Strconv.ParseInt10At8
import Derived.Shelf.Strconv.ParseInt10All
import Derived.Shelf.Strconv.ParseIntPublic10
import Derived.Shelf.Strconv.ErrVarParseInt
import Derived.Shelf.Strings.Search1
import Derived.Shelf.Strings.Prefix
import Derived.Shelf.Strings.Runes
import Derived.Shelf.Strings.AsciiSet
import Derived.Shelf.Unicode.DecodeSlow
import Derived.Shelf.Unicode.DecodeAny
import Derived.Test.YtmmdigeciphglaaGreatDoorProg
import Derived.WalkKit
import Derived.WalkLawsBesides
import Derived.Outline
import Derived.Handy
import Derived.Lib.OthersKept
import Derived.Lib.Hide
import Derived.WalkSmall
import Derived.Deep.DeepFit
import Derived.Deep.QuietTactic
import Derived.BigQuiet
import Derived.WalkSpells
import Derived.IntWalk
import Derived.Deep.AppendLies
import Derived.Deep.RegionHeld3
import Derived.Laws.AppendOwnNone
import Derived.Lib.ItoaNum
import Derived.Lib.ParseIntBCases
import Derived.Lib.CutLaws
import Derived.Test.YtmmdigeciphglaaGreatDoorChecked
import Derived.LaidEql
import Derived.Stop.Asserts
import Derived.RowKitTokens
import Derived.Lib.SmallJoins
import Derived.Lib.LaidTab
import Derived.Laws.BytesArg
namespace Go.Proofs.YtmmdigeciphglaaGreatDoor
open Go.RowKit
def Dr (w : World) (A : Option Addr) (c : Nat) (l : List Nat) : Prop :=
  (l.length ≤ c ∧ (A = none → c = 0)) ∧ ∀ j (hj : j < l.length), ∃ g, A = some ⟨g, 0, none⟩ ∧ g < w.heap.size ∧ w.cell? ⟨g, j, none⟩ = some (.int .i64 ((l[j] : Nat) : Int))
theorem Dr.below {w w' : World} {A : Option Addr} {c : Nat} {l : List Nat} {B : Nat} (h : Dr w A c l) (hb : Below B w w') (hB : w.heap.size ≤ B) : Dr w' A c l :=
  ⟨h.1, fun j hj => by
    obtain ⟨g, h1, h2, h3⟩ := h.2 j hj
    exact ⟨g, h1, Nat.lt_of_lt_of_le h2 (hb.size), by rw [hb.cell (p := ⟨g, j, none⟩) (by show g < B; omega)]; exact h3⟩⟩
theorem Dr.len {w : World} {A : Option Addr} {c : Nat} {l : List Nat} (h : Dr w A c l) : l.length ≤ c := h.1.1
theorem Dr.take {w : World} {A : Option Addr} {c : Nat} {l : List Nat} (h : Dr w A c l) (k : Nat) : Dr w A c (l.take k) :=
  ⟨⟨by have := h.len; rw [List.length_take]; omega, h.1.2⟩, fun j hj => by
    rw [List.length_take] at hj
    obtain ⟨g, h1, h2, h3⟩ := h.2 j (by omega)
    exact ⟨g, h1, h2, by rw [h3, List.getElem_take]⟩⟩
def TrimA (w : World) (A : Option Addr) (c x : Nat) (e : Ending) (w' : World) : Prop := e = .returned (.slice A (Nu.dig x).length c) ∧ Dr w' A c (Nu.dig x) ∧ w = w'
def TrimP (w : World) (x : Nat) (e : Ending) (w' : World) : Prop := ∃ A c, e = .returned (.slice A (Nu.dig x).length c) ∧ Dr w' A c (Nu.dig x) ∧ w = w'
set_option maxHeartbeats 2000000 in
theorem trim_at (w : World) (A : Option Addr) (c : Nat) (l : List Nat) (h : Dr w A c l) (hd : ∀ d ∈ l, d < 10) (hl : l.length ≤ 1000) :
    Calls Tryz.prog 183 #[.slice A l.length c] w (TrimA w A c (Nu.val l)) := by
  have H := Lib.hid h
  have HD := Lib.hid hd
  have hlc := h.len
  obtain ⟨n, hn⟩ : ∃ n, n = l.length := ⟨_, rfl⟩
  rw [← hn] at hl hlc ⊢
  have HN := Lib.hid hn
  clear h hd hn
  go_enter Tryz.func183, Tryz.ntmps183
  go_wp2
  go_loop [0] (fun v => ∃ k : Nat, v = .slice A k c ∧ k ≤ n ∧ Hid (Nu.val (l.take k) = Nu.val l)) (fun v => match v with | .slice _ k _ => k | _ => 0)
  case atStart => exact ⟨n, rfl, Nat.le_refl _, Lib.hid (by rw [HN.out, List.take_length])⟩
  case round =>
    obtain ⟨k, rfl, hk, HV⟩ := hrel
    have hdone : (∀ h0 : 0 < k, l[k - 1]'(by have := HN.out; omega) ≠ 0) → k = (Nu.dig (Nu.val l)).length ∧ Dr w A c (Nu.dig (Nu.val l)) := fun h0 => by
      have h1 := Nu.trim_done HD.out (k := k) (by have := HN.out; omega) h0 HV.out
      have h2 : k = (Nu.dig (Nu.val l)).length := by rw [← h1, List.length_take]; have := HN.out; omega
      exact ⟨h2, by rw [← h1]; exact H.out.take k⟩
    have HDN := Lib.hid hdone
    clear hdone
    rcases k with _ | k
    · go_wp2
      go_ret
      obtain ⟨q1, q2⟩ := HDN.out (fun h0 => absurd h0 (by omega))
      exact ⟨by rw [← q1]; rfl, q2, rfl⟩
    · have hlt : k < l.length := by rw [← HN.out]; omega
      obtain ⟨g, hA, hg, hc⟩ := H.out.2 k hlt
      subst hA
      have hk1 : ((k + 1 : Nat) : Int) - 1 = (k : Int) := by omega
      have hkc : (k : Int) ≤ (c : Int) := by omega
      by_cases hz : l[k] = 0
      · rw [hz] at hc
        have HZ := Lib.hid (Nu.val_zero_end (l := l) (k := k) (by omega) hz)
        clear hz
        go_wp2
        go_round
        case rel => exact ⟨k, rfl, by omega, Lib.hid (HZ.out.trans HV.out)⟩
        case measure => simp
      · have HZ := Lib.hid hz
        have hz' : ((l[k] : Nat) : Int) ≠ 0 := by omega
        clear hz
        generalize hq : ((l[k] : Nat) : Int) = q at hc hz'
        clear hq
        go_wp2
        go_ret
        obtain ⟨q1, q2⟩ := HDN.out (fun _ => HZ.out)
        exact ⟨by rw [← q1]; rfl, q2, rfl⟩
theorem trim_any (w : World) (A : Option Addr) (c : Nat) (l : List Nat) (h : Dr w A c l) (hd : ∀ d ∈ l, d < 10) (hl : l.length ≤ 1000) :
    Calls Tryz.prog 183 #[.slice A l.length c] w (TrimP w (Nu.val l)) := (trim_at w A c l h hd hl).mono fun _ _ h => ⟨A, c, h⟩
theorem Dr.get {w : World} {A : Option Addr} {c x : Nat} (h : Dr w A c (Nu.dig x)) {j : Nat} (hj : j < (Nu.dig x).length) : ∃ g, A = some ⟨g, 0, none⟩ ∧ g < w.heap.size ∧ w.cell? ⟨g, j, none⟩ = some (.int .i64 ((x / 10 ^ j % 10 : Nat) : Int)) := by
  obtain ⟨g, h1, h2, h3⟩ := h.2 j hj
  exact ⟨g, h1, h2, by rw [h3, Nu.dig_get]⟩
end Go.Proofs.YtmmdigeciphglaaGreatDoor
namespace Go.Proofs.YtmmdigeciphglaaGreatDoor
open Go.RowKit
def intsV (l : List Nat) : List Value := l.map fun (d : Nat) => Value.int .i64 (d : Int)
theorem intsV_snoc (l : List Nat) (d : Nat) : intsV l ++ [.int .i64 (d : Int)] = intsV (l ++ [d]) := by unfold intsV; rw [List.map_append]; rfl
theorem infoInt : (Tryz.prog.info? 3).map (fun i => (i.zero, i.size, i.bytes)) = some (some (.int .i64 0), 1, 8) := by kernel_rfl
def OwnD (B : Nat) (w : World) (v : Value) (l : List Nat) : Prop := w.ownsRow B 3 1 v l.length (intsV l)
theorem OwnD.dr {B : Nat} {w : World} {A : Option Addr} {n c : Nat} {l : List Nat} (h : OwnD B w (.slice A n c) l) : n = l.length ∧ Dr w A c l := by
  obtain ⟨A', c', e, h1, h2, h3, h4⟩ := own_slice h
  injection e with e1 e2 e3
  subst e1 e2 e3
  refine ⟨rfl, ⟨h3, fun hA => (h2 hA).1⟩, fun j hj => ?_⟩
  obtain ⟨g, hA, hg, _, hc⟩ := h1 (by omega)
  exact ⟨g, hA, hg, hc j _ (by unfold intsV; rw [List.getElem?_map, List.getElem?_eq_getElem hj]; rfl)⟩
end Go.Proofs.YtmmdigeciphglaaGreatDoor
namespace Go.Proofs.YtmmdigeciphglaaGreatDoor
open Go.RowKit
def sg (b : Bool) (n : Nat) : Int := if b then -(n : Int) else n
theorem Dr.below2 {w w' : World} {A : Option Addr} {c : Nat} {l : List Nat} (h : Dr w A c l) (hb : Below w.heap.size w w') : Dr w' A c l := h.below hb (Nat.le_refl _)
theorem Nu.fits_test {m d : Nat} (hd : d < 10) : ∃ t : Int, (-9223372036854775808 + (d : Int)).tdiv 10 = t ∧ -9223372036854775808 ≤ t ∧ t ≤ 0 ∧ (-(m : Int) < t ↔ 9223372036854775808 < 10 * m + d) := by
  refine ⟨-(((9223372036854775808 - d) / 10 : Nat) : Int), ?_, by omega, by omega, by omega⟩
  have : (-9223372036854775808 + (d : Int)) = -((9223372036854775808 - d : Nat) : Int) := by omega
  rw [this, Int.neg_tdiv, Int.tdiv_eq_ediv_of_nonneg (by omega)]
  rfl
theorem Nu.top_lim {x k : Nat} (h : 9223372036854775808 < x / 10 ^ k) : 9223372036854775808 < x := Nat.lt_of_lt_of_le h (Nat.div_le_self _ _)
def fitV (z : Int) : Value := .tuple #[.int .i64 (if Nu.fits z then z else 0), .bool (decide (Nu.fits z))]
set_option maxHeartbeats 2000000 in
set_option maxRecDepth 100000 in
theorem fits_any (w : World) (A : Option Addr) (c x : Nat) (b : Bool) (h : Dr w A c (Nu.dig x)) (hx : (Nu.dig x).length ≤ 500) :
    Calls Tryz.prog 179 #[.agg #[.slice A (Nu.dig x).length c, .bool b]] w fun e w' => e = .returned (fitV (sg b x)) ∧ Below w.heap.size w w' := by
  obtain ⟨W0, hW0⟩ : ∃ W0, W0 = w.alloc (.cells #[.slice A (Nu.dig x).length c, .bool b] 233) := ⟨_, rfl⟩
  have hb0 : Below w.heap.size w W0 := by rw [hW0]; exact (Below.refl _ _).alloc (Nat.le_refl _) _
  have hk0 : IsBlk W0 w.heap.size 233 #[.slice A (Nu.dig x).length c, .bool b] := by rw [hW0]; exact IsBlk.new _ _ _
  have t0 := hk0.at_ 0
  have t1 := hk0.at_ 1
  have HX := Lib.hid (fun j hj => (h.below2 hb0).get (j := j) hj)
  have H0 := Lib.hid (Nu.top_full x)
  have hqc := h.len
  obtain ⟨q, hq⟩ : ∃ q, q = (Nu.dig x).length := ⟨_, rfl⟩
  rw [← hq] at hx HX hqc t0 hW0 H0 ⊢
  obtain ⟨R, hR⟩ : ∃ R, R = fitV (sg b x) := ⟨_, rfl⟩
  rw [← hR]
  have HR := Lib.hid hR
  have HW0 := Lib.hid hW0
  have HB0 := Lib.hid hb0
  clear h hR hq hW0 hb0 hk0
  simp only [List.getElem?_toArray, List.getElem?_cons_zero, List.getElem?_cons_succ] at t0 t1
  go_enter Tryz.func179, Tryz.ntmps179
  go_wp2
  rw [← HW0.out]
  go_loop [4, 5] (fun nv iv => ∃ k m : Nat, nv = .int .i64 (-(m : Int)) ∧ iv = .int .i64 ((k : Int) - 1) ∧ k ≤ q ∧ m ≤ 9223372036854775808 ∧ Hid (m = x / 10 ^ k)) (fun _ iv => (intOf iv + 1).toNat)
  case atStart => exact ⟨q, 0, rfl, rfl, Nat.le_refl _, by omega, Lib.hid H0.out.symm⟩
  case round =>
    obtain ⟨k, m, rfl, rfl, hk, hm, HI⟩ := hrel
    rcases k with _ | k
    · have hneg : ¬ ((0 : Nat) : Int) - 1 ≥ 0 := by omega
      have HM := Lib.hid (HI.out.trans (Nu.top_zero x))
      have hF : ∀ z : Int, ∀ p : Bool, (Nu.fits z ↔ p = true) → fitV z = .tuple #[.int .i64 (if p then z else 0), .bool p] := fun z p hp => by
        unfold fitV
        cases p with
        | true => rw [if_pos (hp.2 rfl), decide_eq_true (hp.2 rfl)]; rfl
        | false => rw [if_neg (fun h => by have := hp.1 h; cases this), decide_eq_false (fun h => by have := hp.1 h; cases this)]; rfl
      have HF := Lib.hid hF
      clear hF HI
      cases b with
      | true =>
        have HE := Lib.hid (show R = .tuple #[.int .i64 (-(m : Int)), .bool true] by rw [HR.out, HF.out _ true (by unfold Nu.fits sg; have := HM.out; simp; omega), ← HM.out]; rfl)
        go_wp2
        go_ret2
        exact ⟨by rw [HE.out]; rfl, HB0.out⟩
      | false =>
        by_cases hz : m = 0
        · subst hz
          have HE := Lib.hid (show R = .tuple #[.int .i64 0, .bool true] by rw [HR.out, HF.out _ true (by unfold Nu.fits sg; have := HM.out; simp; omega), ← HM.out]; rfl)
          go_wp2
          go_ret2
          exact ⟨by rw [HE.out]; rfl, HB0.out⟩
        · have hz' : (-(m : Int) == 0) = false := beq_eq_false_iff_ne.2 (by omega)
          by_cases hl : m = 9223372036854775808
          · have HE := Lib.hid (show R = .tuple #[.int .i64 0, .bool false] by rw [HR.out, HF.out _ false (by unfold Nu.fits sg; have := HM.out; simp; omega), ← HM.out]; rfl)
            have hl' : (-(m : Int) == -9223372036854775808) = true := beq_iff_eq.2 (by omega)
            clear hl
            go_wp2
            go_ret2
            exact ⟨by rw [HE.out]; rfl, HB0.out⟩
          · have HE := Lib.hid (show R = .tuple #[.int .i64 (m : Int), .bool true] by rw [HR.out, HF.out _ true (by unfold Nu.fits sg; have := HM.out; simp; omega), ← HM.out]; rfl)
            have hl' : (-(m : Int) == -9223372036854775808) = false := beq_eq_false_iff_ne.2 (by omega)
            have hl2 : -(-(m : Int)) = (m : Int) := by omega
            have hm2 : m < 9223372036854775808 := by omega
            clear hl
            go_wp2
            go_ret2
            exact ⟨by rw [HE.out]; rfl, HB0.out⟩
    · obtain ⟨g, hA, hg, hc⟩ := HX.out k (by omega)
      subst hA
      have e0 : ((k + 1 : Nat) : Int) - 1 = (k : Int) := by omega
      rw [e0]
      have HST := Lib.hid (Nu.top_step x k)
      have HXD := Lib.hid (Nu.top_lim (x := x) (k := k))
      have hd9 : x / 10 ^ k % 10 < 10 := Nat.mod_lt _ (by decide)
      generalize x / 10 ^ k % 10 = d at *
      obtain ⟨t, ht, ht1, ht2, ht3⟩ := Nu.fits_test (m := m) hd9
      have HT3 := Lib.hid ht3
      have hkq : (k : Int) < (q : Int) := by omega
      clear e0 ht3
      by_cases hlim : 9223372036854775808 < 10 * m + d
      · have htt : -(m : Int) < t := HT3.out.2 hlim
        have HE := Lib.hid (show R = .tuple #[.int .i64 0, .bool false] by
          have h1 := HXD.out (by rw [HST.out, ← HI.out]; exact hlim)
          rw [HR.out]
          unfold fitV
          have h2 : ¬ Nu.fits (sg b x) := by cases b <;> (unfold Nu.fits sg; simp; omega)
          rw [if_neg h2, decide_eq_false h2])
        clear hlim
        go_wp2
        go_ret2
        exact ⟨by rw [HE.out]; rfl, HB0.out⟩
      · have htt : ¬ -(m : Int) < t := fun h => hlim (HT3.out.1 h)
        have hm2 : 10 * m + d ≤ 9223372036854775808 := by omega
        have hs1 : 10 * -(m : Int) - (d : Int) = -((10 * m + d : Nat) : Int) := by omega
        have HN := Lib.hid (show 10 * m + d = x / 10 ^ k by rw [HST.out, ← HI.out])
        clear hlim
        go_wp2
        go_round
        case rel => exact ⟨k, 10 * m + d, by first | rfl | (congr 1; omega), rfl, by omega, by omega, HN⟩
        case measure => simp [intOf]
set_option maxHeartbeats 2000000 in
theorem told_any (w : World) (A : Option Addr) (c x : Nat) (b : Bool) (h : Dr w A c (Nu.dig x)) (hx : (Nu.dig x).length ≤ 500) :
    Calls Tryz.prog 165 #[.agg #[.slice A (Nu.dig x).length c, .bool b]] w fun e w' => e = .returned (tv (Nu.tell (sg b x))) ∧ Below w.heap.size w w' := by
  obtain ⟨W0, hW0⟩ : ∃ W0, W0 = w.alloc (.cells #[.slice A (Nu.dig x).length c, .bool b] 233) := ⟨_, rfl⟩
  have hb0 : Below w.heap.size w W0 := by rw [hW0]; exact (Below.refl _ _).alloc (Nat.le_refl _) _
  have HF := Lib.hid (fits_any W0 A c x b (h.below2 hb0) hx)
  have HB0 := Lib.hid hb0
  have HW0 := Lib.hid hW0
  unfold fitV at HF
  clear h hb0 hW0
  generalize (Nu.dig x).length = q at *
  generalize sg b x = z at *
  by_cases hf : Nu.fits z
  · rw [Nu.tell_in hf]
    rw [if_pos hf, decide_eq_true hf] at HF
    clear hf
    go_enter Tryz.func165, Tryz.ntmps165
    go_wp2_with fail
    rw [← HW0.out]
    refine HF.out.mono ?_
    rintro e w1 ⟨rfl, h1⟩
    have HB := Lib.hid (HB0.out.trans (h1.mono HB0.out.size))
    clear h1
    go_wp2
    go_ret2
    exact ⟨rfl, HB.out⟩
  · rw [Nu.tell_out hf]
    rw [if_neg hf, decide_eq_false hf] at HF
    clear hf
    go_enter Tryz.func165, Tryz.ntmps165
    go_wp2_with fail
    rw [← HW0.out]
    refine HF.out.mono ?_
    rintro e w1 ⟨rfl, h1⟩
    have HB := Lib.hid (HB0.out.trans (h1.mono HB0.out.size))
    clear h1
    go_wp2
    go_ret2
    exact ⟨rfl, HB.out⟩
end Go.Proofs.YtmmdigeciphglaaGreatDoor
namespace Go.Proofs.YtmmdigeciphglaaGreatDoor
open Go.RowKit
end Go.Proofs.YtmmdigeciphglaaGreatDoor
namespace Go.Proofs.YtmmdigeciphglaaGreatDoor
open Go.RowKit
end Go.Proofs.YtmmdigeciphglaaGreatDoor
namespace Go.Proofs.YtmmdigeciphglaaGreatDoor
open Go.RowKit
end Go.Proofs.YtmmdigeciphglaaGreatDoor
namespace Go.Proofs.YtmmdigeciphglaaGreatDoor
open Go.RowKit
end Go.Proofs.YtmmdigeciphglaaGreatDoor
namespace Go.Proofs.YtmmdigeciphglaaGreatDoor
open Go.RowKit
end Go.Proofs.YtmmdigeciphglaaGreatDoor
namespace Go.Proofs.YtmmdigeciphglaaGreatDoor
open Go.RowKit
def dgs (l : List UInt8) : List Nat := l.reverse.map fun c => c.toNat - 48
theorem dgs_cons (c : UInt8) (r : List UInt8) : dgs (c :: r) = dgs r ++ [c.toNat - 48] := by unfold dgs; simp
theorem dgs_val (l : List UInt8) : Nu.val (dgs l) = Nu.magF 0 l := by
  induction hn : l.length using Nat.strongRecOn generalizing l with
  | _ n ih =>
    by_cases hne : l = []
    · subst hne; rw [Nu.magF_nil]; rfl
    · obtain ⟨m, c, rfl⟩ : ∃ m c, l = m ++ [c] := ⟨l.dropLast, l.getLast hne, (List.dropLast_concat_getLast hne).symm⟩
      rw [Nu.magF_app, Nu.magF_cons, Nu.magF_nil]
      have h1 : dgs (m ++ [c]) = (c.toNat - 48) :: dgs m := by unfold dgs; simp
      rw [h1]
      simp only [Nu.val]
      rw [ih m.length (by rw [← hn]; simp) m rfl]
      omega
theorem dgs_lt {l : List UInt8} (h : Nu.allDg l = true) : ∀ d ∈ dgs l, d < 10 := fun d hd => by
  unfold dgs at hd
  obtain ⟨c, hc, rfl⟩ := List.mem_map.1 hd
  have := List.all_eq_true.1 h c (List.mem_reverse.1 hc)
  have := of_decide_eq_true this
  omega
theorem dgs_len (l : List UInt8) : (dgs l).length = l.length := by unfold dgs; simp
theorem mag_len {l : List UInt8} (h : Nu.allDg l = true) : (Nu.dig (Nu.magF 0 l)).length ≤ l.length := by
  rw [← dgs_val]
  refine Nu.dig_len_le ?_
  have := Nu.val_lt (dgs_lt h)
  rwa [dgs_len] at this
structure RpI (w : World) (D : List UInt8) (k : Nat) (v : Value) (wr : World) : Prop where
  below : Below w.heap.size w wr
  own : OwnD w.heap.size wr v (dgs (D.drop k))
  all : Nu.allDg (D.drop k) = true
set_option maxHeartbeats 4000000 in
set_option maxRecDepth 100000 in
theorem rparse_plain (D : ByteArray) (w : World) (hs : D.size ≤ 400) (hb : Nu.below D.data.toList = false) (hne : D.size ≠ 0) (h48 : (D.data.toList.head? = some 48) → D.size = 1) :
    Calls Tryz.prog 172 #[.string D] w fun e w' => e = .returned (tv (Nu.prs D.data.toList)) ∧ Below w.heap.size w w' := by
  have HDL := Lib.hid (Lib.size_eq D)
  obtain ⟨R, hR⟩ : ∃ R, R = Nu.prs D.data.toList := ⟨_, rfl⟩
  rw [← hR]
  have hpos : 0 < D.size := by omega
  have HH := Lib.hid (show D.data.toList.head? = some D[0] by
    have : 0 < D.data.toList.length := by rw [← HDL.out]; exact hpos
    rw [List.head?_eq_getElem?, List.getElem?_eq_getElem this]
    rfl)
  have HRR := Lib.hid (show R = if Nu.allDg D.data.toList then Nu.tell (sg false (Nu.magF 0 D.data.toList)) else (0, 2) by
    rw [hR]
    unfold Nu.prs Nu.worth
    have hw : Nu.isW D.data.toList = Nu.allDg D.data.toList := by
      unfold Nu.isW
      rw [Nu.strip_other hb]
      by_cases h0 : D.data.toList.head? = some 48
      · have h1 : D.data.toList = [48] := by
          have h2 := h48 h0
          rw [Lib.size_eq] at h2
          obtain ⟨a, ha⟩ := List.length_eq_one_iff.1 h2
          rw [ha] at h0 ⊢
          simp at h0
          rw [h0]
        rw [h1]; decide
      · have h2 : (D.data.toList == [48]) = false := by
          rw [beq_eq_false_iff_ne]; intro e; rw [e] at h0; exact h0 rfl
        have h3 : D.data.toList.isEmpty = false := by
          cases hh : D.data.toList with
          | nil => have h1 := HDL.out; rw [hh] at h1; exact absurd h1 hne
          | cons _ _ => rfl
        rw [h2, show (D.data.toList.head? != some 48) = true by simpa using h0, h3]
        simp
    rw [hw, hb, Nu.strip_other hb]
    rfl)
  have hDn : D.toList.isEmpty = false := by
    rw [Lib.toList_data]
    cases hh : D.data.toList with
    | nil => have h1 := HDL.out; rw [hh] at h1; exact absurd h1 hne
    | cons _ _ => rfl
  have hm1 : ((D[0].toNat : Int) == 45) = false := by
    rw [beq_eq_false_iff_ne]
    intro e
    have h1 : D[0] = 45 := UInt8.toNat_inj.1 (by show D[0].toNat = 45; omega)
    unfold Nu.below at hb
    rw [HH.out, h1] at hb
    exact absurd hb (by decide)
  by_cases hz : (D[0].toNat : Int) = 48
  · have hz' : ((D[0].toNat : Int) == 48) = true := beq_iff_eq.2 hz
    have h1 : D.size = 1 := h48 (by rw [HH.out]; exact congrArg some (UInt8.toNat_inj.1 (by show D[0].toNat = 48; omega)))
    have h1' : ¬ (D.size : Int) > 1 := by omega
    clear hz hR hne h1 h48 hb
    go_enter Tryz.func172, Tryz.ntmps172
    go_wp2
    go_loopw [5, 6] (fun v iv wr => ∃ k : Nat, iv = .int .i64 ((k : Int) - 1) ∧ k ≤ D.size ∧ Hid (RpI w D.data.toList k v wr)) (fun _ iv _ => (intOf iv + 1).toNat)
    case atStart => exact ⟨D.size, rfl, Nat.le_refl _, Lib.hid (RpI.mk (Below.refl _ _) (by rw [HDL.out, List.drop_length]; unfold OwnD; exact World.ownsRow_nil _ _ _ _) (by rw [HDL.out, List.drop_length]; rfl))⟩
    case round =>
      obtain ⟨k, rfl, hk, HI⟩ := hrel
      obtain ⟨Av, cv, hv, _, _, _, _⟩ := own_slice HI.out.own
      subst hv
      obtain ⟨m, hm⟩ : ∃ m, m = (dgs (D.data.toList.drop k)).length := ⟨_, rfl⟩
      have hll : m ≤ D.size := by rw [hm, dgs_len, List.length_drop, ← HDL.out]; omega
      rw [← hm]
      have HM := Lib.hid hm
      clear hm
      rcases k with _ | k
      · have hneg : ¬ ((0 : Nat) : Int) - 1 ≥ 0 := by omega
        have HA := Lib.hid (show Nu.allDg D.data.toList = true from by have h1 := HI.out.all; rwa [List.drop_zero] at h1)
        have HOW := Lib.hid (show OwnD w.heap.size wr (.slice Av m cv) (dgs D.data.toList) from by have h1 := HI.out.own; rw [← HM.out, List.drop_zero] at h1; exact h1)
        have HM0 := Lib.hid (show m = (dgs D.data.toList).length by have h1 := HM.out; rwa [List.drop_zero] at h1)
        have HE := Lib.hid (show R = Nu.tell (sg false (Nu.magF 0 D.data.toList)) by rw [HRR.out, HA.out]; rfl)
        have HT := Lib.hid (trim_any wr Av cv (dgs D.data.toList) (HOW.out.dr).2 (dgs_lt HA.out) (by rw [dgs_len, ← HDL.out]; omega))
        rw [dgs_val, ← HM0.out] at HT
        have HML := Lib.hid (mag_len HA.out)
        have HB := Lib.hid HI.out.below
        go_wp2_with fail
        refine HT.out.mono ?_
        rintro e w1 ⟨A1, c1, rfl, hd1, rfl⟩
        have HTO := Lib.hid (told_any wr A1 c1 _ false hd1 (Nat.le_trans HML.out (by rw [← HDL.out]; omega)))
        unfold tv at HTO
        rw [← HE.out] at HTO
        clear hd1
        go_wp2_with fail
        refine HTO.out.mono ?_
        rintro e w2 ⟨rfl, h2⟩
        have HB2 := Lib.hid (HB.out.trans (h2.mono HB.out.size))
        clear h2
        go_wp2
        go_ret2
        exact ⟨rfl, HB2.out⟩
      · have hlt : k < D.size := by omega
        have e0 : ((k + 1 : Nat) : Int) - 1 = (k : Int) := by omega
        rw [e0]
        have hkl : k < D.data.toList.length := by rw [← HDL.out]; exact hlt
        have HDR := Lib.hid (show D.data.toList.drop k = D[k] :: D.data.toList.drop (k + 1) by rw [List.drop_eq_getElem_cons hkl]; rfl)
        have HAL := Lib.hid (show Nu.allDg D.data.toList = true → 48 ≤ (D[k].toNat : Int) ∧ (D[k].toNat : Int) ≤ 57 from fun h => by
          have h1 := List.all_eq_true.1 h D[k] (by
            have : D[k] ∈ D.data.toList.drop k := by rw [HDR.out]; exact List.mem_cons_self ..
            exact List.mem_of_mem_drop this)
          have := of_decide_eq_true h1
          omega)
        have HBAD := Lib.hid (show ¬ (48 ≤ (D[k].toNat : Int) ∧ (D[k].toNat : Int) ≤ 57) → R = (0, 2) from fun h => by
          rw [HRR.out]
          cases hh : Nu.allDg D.data.toList with
          | false => rfl
          | true => exact absurd (HAL.out hh) h)
        have hkD : (k : Int) < (D.size : Int) := by omega
        have HB := Lib.hid HI.out.below
        clear e0
        by_cases h1 : (D[k].toNat : Int) < 48
        · have HE := Lib.hid (HBAD.out (by omega))
          go_wp2
          go_ret2
          exact ⟨by rw [HE.out]; rfl, HB.out⟩
        · by_cases h2 : (D[k].toNat : Int) > 57
          · have HE := Lib.hid (HBAD.out (by omega))
            go_wp2
            go_ret2
            exact ⟨by rw [HE.out]; rfl, HB.out⟩
          · obtain ⟨i0, hi0, hz0, hz1, hz2⟩ := info_parts infoInt
            have HNX := Lib.hid (fun (v' : Value) (w' : World) (hb : Below w.heap.size w w') (ho : OwnD w.heap.size w' v' (dgs (D.data.toList.drop (k + 1)) ++ [D[k].toNat - 48])) => show RpI w D.data.toList k v' w' from
              ⟨hb, by rw [HDR.out, dgs_cons]; exact ho, by rw [HDR.out]; unfold Nu.allDg; rw [List.all_cons, show Nu.isDg D[k] = true from decide_eq_true (by omega)]; exact HI.out.all⟩)
            obtain ⟨d, hd⟩ : ∃ d, d = D[k].toNat - 48 := ⟨_, rfl⟩
            rw [← hd] at HNX
            have HD := Lib.hid (show (D[k].toNat : Int) - 48 = (d : Int) by omega)
            obtain ⟨L, hL⟩ : ∃ L, L = dgs (D.data.toList.drop (k + 1)) := ⟨_, rfl⟩
            rw [← hL] at HNX
            have hLm : m = L.length := by rw [hL]; exact HM.out
            rw [hLm] at hll ⊢
            have HO := Lib.hid (show wr.ownsRow w.heap.size 3 1 (.slice Av L.length cv) L.length (intsV L) from by rw [hL]; exact HI.out.own)
            have hws : w.heap.size ≤ wr.heap.size := HB.out.size
            have HBW := Lib.hid HB.out
            have hbig : L.length + 1 ≤ maxLen := by unfold maxLen; omega
            clear hd hL hLm
            go_wp2_with (at_builtin; (refine wpList_append_own _ rfl _ _ _ rfl w.heap.size 3 i0 _ 1 8 Tryz.underlying231 hi0 hz0 hz1 hz2 rfl (by omega) (.slice Av L.length cv) L.length (intsV L) (by rfl) (by exact HO.out.alloc _) _ 1 _ [.int .i64 ((D[k].toNat : Int) - 48)] (by rfl) rfl (by intro j u hu; exact news_at _ _ _ _ (by simp) j u hu) (by intro u hu; simp at hu; subst hu; rfl) hbig (by omega) (by simp; omega) ?_); intro v3 w3 hown3 hgr3 _; obtain ⟨A3, c3, hv3, _, _, _, _⟩ := own_slice hown3; subst hv3; have B3 := Lib.hid (HBW.out.trans (Below.grown ((Below.refl w.heap.size wr).alloc hws _) hgr3 (by simp; omega) (fun k hk => (HO.out.lt k hk).1))); have H3 := Lib.hid hown3; clear hown3 hgr3)
            go_roundw
            case rel => exact ⟨k, rfl, by omega, Lib.hid (HNX.out _ _ B3.out (by unfold OwnD; rw [List.length_append, ← intsV_snoc]; have h4 := H3.out; rw [HD.out] at h4; exact h4))⟩
            case measure => simp [intOf]
  · have hz' : ((D[0].toNat : Int) == 48) = false := beq_eq_false_iff_ne.2 hz
    clear hz hR hne h48 hb
    go_enter Tryz.func172, Tryz.ntmps172
    go_wp2
    go_loopw [5, 6] (fun v iv wr => ∃ k : Nat, iv = .int .i64 ((k : Int) - 1) ∧ k ≤ D.size ∧ Hid (RpI w D.data.toList k v wr)) (fun _ iv _ => (intOf iv + 1).toNat)
    case atStart => exact ⟨D.size, rfl, Nat.le_refl _, Lib.hid (RpI.mk (Below.refl _ _) (by rw [HDL.out, List.drop_length]; unfold OwnD; exact World.ownsRow_nil _ _ _ _) (by rw [HDL.out, List.drop_length]; rfl))⟩
    case round =>
      obtain ⟨k, rfl, hk, HI⟩ := hrel
      obtain ⟨Av, cv, hv, _, _, _, _⟩ := own_slice HI.out.own
      subst hv
      obtain ⟨m, hm⟩ : ∃ m, m = (dgs (D.data.toList.drop k)).length := ⟨_, rfl⟩
      have hll : m ≤ D.size := by rw [hm, dgs_len, List.length_drop, ← HDL.out]; omega
      rw [← hm]
      have HM := Lib.hid hm
      clear hm
      rcases k with _ | k
      · have hneg : ¬ ((0 : Nat) : Int) - 1 ≥ 0 := by omega
        have HA := Lib.hid (show Nu.allDg D.data.toList = true from by have h1 := HI.out.all; rwa [List.drop_zero] at h1)
        have HOW := Lib.hid (show OwnD w.heap.size wr (.slice Av m cv) (dgs D.data.toList) from by have h1 := HI.out.own; rw [← HM.out, List.drop_zero] at h1; exact h1)
        have HM0 := Lib.hid (show m = (dgs D.data.toList).length by have h1 := HM.out; rwa [List.drop_zero] at h1)
        have HE := Lib.hid (show R = Nu.tell (sg false (Nu.magF 0 D.data.toList)) by rw [HRR.out, HA.out]; rfl)
        have HT := Lib.hid (trim_any wr Av cv (dgs D.data.toList) (HOW.out.dr).2 (dgs_lt HA.out) (by rw [dgs_len, ← HDL.out]; omega))
        rw [dgs_val, ← HM0.out] at HT
        have HML := Lib.hid (mag_len HA.out)
        have HB := Lib.hid HI.out.below
        go_wp2_with fail
        refine HT.out.mono ?_
        rintro e w1 ⟨A1, c1, rfl, hd1, rfl⟩
        have HTO := Lib.hid (told_any wr A1 c1 _ false hd1 (Nat.le_trans HML.out (by rw [← HDL.out]; omega)))
        unfold tv at HTO
        rw [← HE.out] at HTO
        clear hd1
        go_wp2_with fail
        refine HTO.out.mono ?_
        rintro e w2 ⟨rfl, h2⟩
        have HB2 := Lib.hid (HB.out.trans (h2.mono HB.out.size))
        clear h2
        go_wp2
        go_ret2
        exact ⟨rfl, HB2.out⟩
      · have hlt : k < D.size := by omega
        have e0 : ((k + 1 : Nat) : Int) - 1 = (k : Int) := by omega
        rw [e0]
        have hkl : k < D.data.toList.length := by rw [← HDL.out]; exact hlt
        have HDR := Lib.hid (show D.data.toList.drop k = D[k] :: D.data.toList.drop (k + 1) by rw [List.drop_eq_getElem_cons hkl]; rfl)
        have HAL := Lib.hid (show Nu.allDg D.data.toList = true → 48 ≤ (D[k].toNat : Int) ∧ (D[k].toNat : Int) ≤ 57 from fun h => by
          have h1 := List.all_eq_true.1 h D[k] (by
            have : D[k] ∈ D.data.toList.drop k := by rw [HDR.out]; exact List.mem_cons_self ..
            exact List.mem_of_mem_drop this)
          have := of_decide_eq_true h1
          omega)
        have HBAD := Lib.hid (show ¬ (48 ≤ (D[k].toNat : Int) ∧ (D[k].toNat : Int) ≤ 57) → R = (0, 2) from fun h => by
          rw [HRR.out]
          cases hh : Nu.allDg D.data.toList with
          | false => rfl
          | true => exact absurd (HAL.out hh) h)
        have hkD : (k : Int) < (D.size : Int) := by omega
        have HB := Lib.hid HI.out.below
        clear e0
        by_cases h1 : (D[k].toNat : Int) < 48
        · have HE := Lib.hid (HBAD.out (by omega))
          go_wp2
          go_ret2
          exact ⟨by rw [HE.out]; rfl, HB.out⟩
        · by_cases h2 : (D[k].toNat : Int) > 57
          · have HE := Lib.hid (HBAD.out (by omega))
            go_wp2
            go_ret2
            exact ⟨by rw [HE.out]; rfl, HB.out⟩
          · obtain ⟨i0, hi0, hz0, hz1, hz2⟩ := info_parts infoInt
            have HNX := Lib.hid (fun (v' : Value) (w' : World) (hb : Below w.heap.size w w') (ho : OwnD w.heap.size w' v' (dgs (D.data.toList.drop (k + 1)) ++ [D[k].toNat - 48])) => show RpI w D.data.toList k v' w' from
              ⟨hb, by rw [HDR.out, dgs_cons]; exact ho, by rw [HDR.out]; unfold Nu.allDg; rw [List.all_cons, show Nu.isDg D[k] = true from decide_eq_true (by omega)]; exact HI.out.all⟩)
            obtain ⟨d, hd⟩ : ∃ d, d = D[k].toNat - 48 := ⟨_, rfl⟩
            rw [← hd] at HNX
            have HD := Lib.hid (show (D[k].toNat : Int) - 48 = (d : Int) by omega)
            obtain ⟨L, hL⟩ : ∃ L, L = dgs (D.data.toList.drop (k + 1)) := ⟨_, rfl⟩
            rw [← hL] at HNX
            have hLm : m = L.length := by rw [hL]; exact HM.out
            rw [hLm] at hll ⊢
            have HO := Lib.hid (show wr.ownsRow w.heap.size 3 1 (.slice Av L.length cv) L.length (intsV L) from by rw [hL]; exact HI.out.own)
            have hws : w.heap.size ≤ wr.heap.size := HB.out.size
            have HBW := Lib.hid HB.out
            have hbig : L.length + 1 ≤ maxLen := by unfold maxLen; omega
            clear hd hL hLm
            go_wp2_with (at_builtin; (refine wpList_append_own _ rfl _ _ _ rfl w.heap.size 3 i0 _ 1 8 Tryz.underlying231 hi0 hz0 hz1 hz2 rfl (by omega) (.slice Av L.length cv) L.length (intsV L) (by rfl) (by exact HO.out.alloc _) _ 1 _ [.int .i64 ((D[k].toNat : Int) - 48)] (by rfl) rfl (by intro j u hu; exact news_at _ _ _ _ (by simp) j u hu) (by intro u hu; simp at hu; subst hu; rfl) hbig (by omega) (by simp; omega) ?_); intro v3 w3 hown3 hgr3 _; obtain ⟨A3, c3, hv3, _, _, _, _⟩ := own_slice hown3; subst hv3; have B3 := Lib.hid (HBW.out.trans (Below.grown ((Below.refl w.heap.size wr).alloc hws _) hgr3 (by simp; omega) (fun k hk => (HO.out.lt k hk).1))); have H3 := Lib.hid hown3; clear hown3 hgr3)
            go_roundw
            case rel => exact ⟨k, rfl, by omega, Lib.hid (HNX.out _ _ B3.out (by unfold OwnD; rw [List.length_append, ← intsV_snoc]; have h4 := H3.out; rw [HD.out] at h4; exact h4))⟩
            case measure => simp [intOf]
theorem head0 {D : ByteArray} (hpos : 0 < D.size) : D.data.toList.head? = some D[0] := by
  have : 0 < D.data.toList.length := by rw [← Lib.size_eq]; exact hpos
  rw [List.head?_eq_getElem?, List.getElem?_eq_getElem this]
  rfl
theorem nempty {D : ByteArray} (hne : D.size ≠ 0) : D.data.toList.isEmpty = false := by
  cases hh : D.data.toList with
  | nil => have h1 := Lib.size_eq D; rw [hh] at h1; exact absurd h1 hne
  | cons _ _ => rfl
theorem empty_ {D : ByteArray} (h : D.size = 0) : D.data.toList = [] := List.length_eq_zero_iff.1 (by rw [← Lib.size_eq]; exact h)
set_option maxHeartbeats 4000000 in
set_option maxRecDepth 100000 in
theorem rparse_bad (D : ByteArray) (w : World) (hb : Nu.below D.data.toList = false) (h : D.size = 0 ∨ (D.data.toList.head? = some 48 ∧ D.size ≠ 1)) :
    Calls Tryz.prog 172 #[.string D] w fun e w' => e = .returned (tv (Nu.prs D.data.toList)) ∧ Below w.heap.size w w' := by
  have HE := Lib.hid (show Nu.prs D.data.toList = (0, 2) by
    unfold Nu.prs
    rw [show Nu.isW D.data.toList = false by
      unfold Nu.isW
      rw [Nu.strip_other hb]
      rcases h with h | ⟨h, h1⟩
      · rw [empty_ h]; rfl
      · rw [show (D.data.toList == [48]) = false from beq_eq_false_iff_ne.2 (fun e => h1 (by rw [Lib.size_eq, e]; rfl)), show (D.data.toList.head? != some 48) = false by rw [h]; rfl]
        simp]
    rfl)
  obtain ⟨R, hR⟩ : ∃ R, R = Nu.prs D.data.toList := ⟨_, rfl⟩
  rw [← hR] at HE ⊢
  clear hR
  by_cases h0 : D.size = 0
  · have hDn : D.toList = [] := by rw [Lib.toList_data]; exact empty_ h0
    clear h h0 hb
    go_enter Tryz.func172, Tryz.ntmps172
    go_wp2
    go_ret2
    exact ⟨by rw [HE.out]; rfl, Below.refl _ _⟩
  · obtain ⟨h48, h1⟩ := h.resolve_left h0
    have hDn : D.toList.isEmpty = false := by rw [Lib.toList_data]; exact nempty h0
    have hpos : 0 < D.size := by omega
    have hh := head0 hpos
    rw [h48] at hh
    injection hh with hh
    have hz : ((D[0].toNat : Int) == 48) = true := by rw [← hh]; rfl
    have hm : ((D[0].toNat : Int) == 45) = false := by rw [← hh]; rfl
    have hbig : (D.size : Int) > 1 := by omega
    clear h h0 hb h48 hh h1
    go_enter Tryz.func172, Tryz.ntmps172
    go_wp2
    go_ret2
    exact ⟨by rw [HE.out]; rfl, Below.refl _ _⟩
set_option maxHeartbeats 4000000 in
set_option maxRecDepth 100000 in
theorem rparse_minus (s : ByteArray) (w : World) (hs : s.size ≤ 400) (hb : Nu.below s.data.toList = true) :
    Calls Tryz.prog 172 #[.string s] w fun e w' => e = .returned (tv (Nu.prs s.data.toList)) ∧ Below w.heap.size w w' := by
  have hsz0 : s.size ≠ 0 := fun h => by rw [empty_ h] at hb; cases hb
  have hsn : s.toList.isEmpty = false := by rw [Lib.toList_data]; exact nempty hsz0
  have hspos : 0 < s.size := by omega
  have hs1 : (1 : Int) ≤ (s.size : Int) := by omega
  have hm1 : ((s[0].toNat : Int) == 45) = true := by
    have h1 := head0 hspos
    unfold Nu.below at hb
    rw [h1] at hb
    have h2 : s[0] = 45 := by simpa using hb
    rw [h2]; rfl
  obtain ⟨D, hD⟩ : ∃ D, s.extract 1 s.size = D := ⟨_, rfl⟩
  have hDD : D.data.toList = Nu.strip s.data.toList := by
    rw [← hD, Lib.extract_to_end]
    have h1 := Nu.strip_minus hb
    conv => lhs; rw [h1]
    rfl
  have hDs : D.size ≤ 400 := by rw [← hD, ByteArray.size_extract]; omega
  have HDL := Lib.hid (Lib.size_eq D)
  obtain ⟨R, hR⟩ : ∃ R, R = Nu.prs s.data.toList := ⟨_, rfl⟩
  rw [← hR]
  have hw : Nu.isW s.data.toList = (!D.data.toList.isEmpty && D.data.toList.head? != some 48 && Nu.allDg D.data.toList) := by
    unfold Nu.isW
    rw [hDD, show (s.data.toList == [48]) = false from beq_eq_false_iff_ne.2 (fun e => by rw [e] at hb; cases hb)]
    rfl
  have hRv : R = if (!D.data.toList.isEmpty && D.data.toList.head? != some 48 && Nu.allDg D.data.toList) then Nu.tell (sg true (Nu.magF 0 D.data.toList)) else (0, 2) := by
    rw [hR]
    unfold Nu.prs
    rw [hw, Nu.worth_b hb, hDD]
    rfl
  clear hw hDD hR hb hsz0
  by_cases h0 : D.size = 0
  · have hDn : D.toList = [] := by rw [Lib.toList_data]; exact empty_ h0
    have HE := Lib.hid (show R = (0, 2) by rw [hRv, empty_ h0]; rfl)
    clear h0 hRv
    go_enter Tryz.func172, Tryz.ntmps172
    go_wp2
    go_ret2
    exact ⟨by rw [HE.out]; rfl, Below.refl _ _⟩
  · have hDn : D.toList.isEmpty = false := by rw [Lib.toList_data]; exact nempty h0
    have hpos : 0 < D.size := by omega
    have hh := head0 hpos
    by_cases hz : (D[0].toNat : Int) = 48
    · have hz' : ((D[0].toNat : Int) == 48) = true := beq_iff_eq.2 hz
      have HE := Lib.hid (show R = (0, 2) by
        rw [hRv, hh, show D[0] = 48 from UInt8.toNat_inj.1 (by show D[0].toNat = 48; omega)]
        simp)
      clear h0 hRv hh hz
      by_cases hbig : (D.size : Int) > 1
      ·
        go_enter Tryz.func172, Tryz.ntmps172
        go_wp2
        go_ret2
        exact ⟨by rw [HE.out]; rfl, Below.refl _ _⟩
      ·
        go_enter Tryz.func172, Tryz.ntmps172
        go_wp2
        go_ret2
        exact ⟨by rw [HE.out]; rfl, Below.refl _ _⟩
    · have hz' : ((D[0].toNat : Int) == 48) = false := beq_eq_false_iff_ne.2 hz
      have HRR := Lib.hid (show R = if Nu.allDg D.data.toList then Nu.tell (sg true (Nu.magF 0 D.data.toList)) else (0, 2) by
        rw [hRv, nempty h0, hh, show (some D[0] != some (48 : UInt8)) = true by
          simp only [bne_iff_ne, ne_eq, Option.some.injEq]
          intro e; rw [e] at hz; exact hz rfl]
        rfl)
      clear h0 hRv hh hz hs
      go_enter Tryz.func172, Tryz.ntmps172
      go_wp2
      go_loopw [5, 6] (fun v iv wr => ∃ k : Nat, iv = .int .i64 ((k : Int) - 1) ∧ k ≤ D.size ∧ Hid (RpI w D.data.toList k v wr)) (fun _ iv _ => (intOf iv + 1).toNat)
      case atStart => exact ⟨D.size, rfl, Nat.le_refl _, Lib.hid (RpI.mk (Below.refl _ _) (by rw [HDL.out, List.drop_length]; unfold OwnD; exact World.ownsRow_nil _ _ _ _) (by rw [HDL.out, List.drop_length]; rfl))⟩
      case round =>
        obtain ⟨k, rfl, hk, HI⟩ := hrel
        obtain ⟨Av, cv, hv, _, _, _, _⟩ := own_slice HI.out.own
        subst hv
        obtain ⟨m, hm⟩ : ∃ m, m = (dgs (D.data.toList.drop k)).length := ⟨_, rfl⟩
        have hll : m ≤ D.size := by rw [hm, dgs_len, List.length_drop, ← HDL.out]; omega
        rw [← hm]
        have HM := Lib.hid hm
        clear hm
        rcases k with _ | k
        · have hneg : ¬ ((0 : Nat) : Int) - 1 ≥ 0 := by omega
          have HA := Lib.hid (show Nu.allDg D.data.toList = true from by have h1 := HI.out.all; rwa [List.drop_zero] at h1)
          have HOW := Lib.hid (show OwnD w.heap.size wr (.slice Av m cv) (dgs D.data.toList) from by have h1 := HI.out.own; rw [← HM.out, List.drop_zero] at h1; exact h1)
          have HM0 := Lib.hid (show m = (dgs D.data.toList).length by have h1 := HM.out; rwa [List.drop_zero] at h1)
          have HE := Lib.hid (show R = Nu.tell (sg true (Nu.magF 0 D.data.toList)) by rw [HRR.out, HA.out]; rfl)
          have HT := Lib.hid (trim_any wr Av cv (dgs D.data.toList) (HOW.out.dr).2 (dgs_lt HA.out) (by rw [dgs_len, ← HDL.out]; omega))
          rw [dgs_val, ← HM0.out] at HT
          have HML := Lib.hid (mag_len HA.out)
          have HB := Lib.hid HI.out.below
          go_wp2_with fail
          refine HT.out.mono ?_
          rintro e w1 ⟨A1, c1, rfl, hd1, rfl⟩
          have HTO := Lib.hid (told_any wr A1 c1 _ true hd1 (Nat.le_trans HML.out (by rw [← HDL.out]; omega)))
          unfold tv at HTO
          rw [← HE.out] at HTO
          clear hd1
          go_wp2_with fail
          refine HTO.out.mono ?_
          rintro e w2 ⟨rfl, h2⟩
          have HB2 := Lib.hid (HB.out.trans (h2.mono HB.out.size))
          clear h2
          go_wp2
          go_ret2
          exact ⟨rfl, HB2.out⟩
        · have hlt : k < D.size := by omega
          have e0 : ((k + 1 : Nat) : Int) - 1 = (k : Int) := by omega
          rw [e0]
          have hkl : k < D.data.toList.length := by rw [← HDL.out]; exact hlt
          have HDR := Lib.hid (show D.data.toList.drop k = D[k] :: D.data.toList.drop (k + 1) by rw [List.drop_eq_getElem_cons hkl]; rfl)
          have HAL := Lib.hid (show Nu.allDg D.data.toList = true → 48 ≤ (D[k].toNat : Int) ∧ (D[k].toNat : Int) ≤ 57 from fun h => by
            have h1 := List.all_eq_true.1 h D[k] (by
              have : D[k] ∈ D.data.toList.drop k := by rw [HDR.out]; exact List.mem_cons_self ..
              exact List.mem_of_mem_drop this)
            have := of_decide_eq_true h1
            omega)
          have HBAD := Lib.hid (show ¬ (48 ≤ (D[k].toNat : Int) ∧ (D[k].toNat : Int) ≤ 57) → R = (0, 2) from fun h => by
            rw [HRR.out]
            cases hh : Nu.allDg D.data.toList with
            | false => rfl
            | true => exact absurd (HAL.out hh) h)
          have hkD : (k : Int) < (D.size : Int) := by omega
          have HB := Lib.hid HI.out.below
          clear e0
          by_cases h1 : (D[k].toNat : Int) < 48
          · have HE := Lib.hid (HBAD.out (by omega))
            go_wp2
            go_ret2
            exact ⟨by rw [HE.out]; rfl, HB.out⟩
          · by_cases h2 : (D[k].toNat : Int) > 57
            · have HE := Lib.hid (HBAD.out (by omega))
              go_wp2
              go_ret2
              exact ⟨by rw [HE.out]; rfl, HB.out⟩
            · obtain ⟨i0, hi0, hz0, hz1, hz2⟩ := info_parts infoInt
              have HNX := Lib.hid (fun (v' : Value) (w' : World) (hb : Below w.heap.size w w') (ho : OwnD w.heap.size w' v' (dgs (D.data.toList.drop (k + 1)) ++ [D[k].toNat - 48])) => show RpI w D.data.toList k v' w' from
                ⟨hb, by rw [HDR.out, dgs_cons]; exact ho, by rw [HDR.out]; unfold Nu.allDg; rw [List.all_cons, show Nu.isDg D[k] = true from decide_eq_true (by omega)]; exact HI.out.all⟩)
              obtain ⟨d, hd⟩ : ∃ d, d = D[k].toNat - 48 := ⟨_, rfl⟩
              rw [← hd] at HNX
              have HD := Lib.hid (show (D[k].toNat : Int) - 48 = (d : Int) by omega)
              obtain ⟨L, hL⟩ : ∃ L, L = dgs (D.data.toList.drop (k + 1)) := ⟨_, rfl⟩
              rw [← hL] at HNX
              have hLm : m = L.length := by rw [hL]; exact HM.out
              rw [hLm] at hll ⊢
              have HO := Lib.hid (show wr.ownsRow w.heap.size 3 1 (.slice Av L.length cv) L.length (intsV L) from by rw [hL]; exact HI.out.own)
              have hws : w.heap.size ≤ wr.heap.size := HB.out.size
              have HBW := Lib.hid HB.out
              have hbig : L.length + 1 ≤ maxLen := by unfold maxLen; omega
              clear hd hL hLm
              go_wp2_with (at_builtin; (refine wpList_append_own _ rfl _ _ _ rfl w.heap.size 3 i0 _ 1 8 Tryz.underlying231 hi0 hz0 hz1 hz2 rfl (by omega) (.slice Av L.length cv) L.length (intsV L) (by rfl) (by exact HO.out.alloc _) _ 1 _ [.int .i64 ((D[k].toNat : Int) - 48)] (by rfl) rfl (by intro j u hu; exact news_at _ _ _ _ (by simp) j u hu) (by intro u hu; simp at hu; subst hu; rfl) hbig (by omega) (by simp; omega) ?_); intro v3 w3 hown3 hgr3 _; obtain ⟨A3, c3, hv3, _, _, _, _⟩ := own_slice hown3; subst hv3; have B3 := Lib.hid (HBW.out.trans (Below.grown ((Below.refl w.heap.size wr).alloc hws _) hgr3 (by simp; omega) (fun k hk => (HO.out.lt k hk).1))); have H3 := Lib.hid hown3; clear hown3 hgr3)
              go_roundw
              case rel => exact ⟨k, rfl, by omega, Lib.hid (HNX.out _ _ B3.out (by unfold OwnD; rw [List.length_append, ← intsV_snoc]; have h4 := H3.out; rw [HD.out] at h4; exact h4))⟩
              case measure => simp [intOf]
theorem rparse_any (s : ByteArray) (w : World) (hs : s.size ≤ 400) :
    Calls Tryz.prog 172 #[.string s] w fun e w' => e = .returned (tv (Nu.prs s.data.toList)) ∧ Below w.heap.size w w' := by
  cases hb : Nu.below s.data.toList with
  | true => exact rparse_minus s w hs hb
  | false =>
    by_cases h0 : s.size = 0
    · exact rparse_bad s w hb (Or.inl h0)
    · by_cases h48 : s.data.toList.head? = some 48 ∧ s.size ≠ 1
      · exact rparse_bad s w hb (Or.inr h48)
      · exact rparse_plain s w hs hb h0 (fun h => by
          by_cases h1 : s.size = 1
          · exact h1
          · exact absurd ⟨h, h1⟩ h48)
end Go.Proofs.YtmmdigeciphglaaGreatDoor
