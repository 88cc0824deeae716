/- Layer 6's reference: rows of digits in memory; digit, trim and less, walked. Conditions: the rows lie there; they have at most 1000 digits. -/
import Derived.Test.YtbeoobgnpcbnnaaDoorNuProg
import Derived.Deep.AppendLies
namespace Go.Proofs.YtbeoobgnpcbnnaaDoor
open Go.RowKit

theorem below_drewN {B : Nat} {w w' : World} (h : Below B w w') (n : Nat) : Below B w (w'.drewN n) := ⟨h.os, h.tape, h.output, h.size, h.block⟩
/-- A row of digits lies in memory. -/
def Dr (w : World) (A : Option Addr) (c : Nat) (l : List Nat) : Prop :=
  (l.length ≤ c ∧ (A = none → c = 0)) ∧ ∀ j (hj : j < l.length), ∃ g, A = some ⟨g, 0, none⟩ ∧ g < w.heap.size ∧ w.cell? ⟨g, j, none⟩ = some (.int .i64 ((l[j] : Nat) : Int))
theorem Dr.below {w w' : World} {A : Option Addr} {c : Nat} {l : List Nat} {B : Nat} (h : Dr w A c l) (hb : Below B w w') (hB : w.heap.size ≤ B) : Dr w' A c l :=
  ⟨h.1, fun j hj => by
    obtain ⟨g, h1, h2, h3⟩ := h.2 j hj
    exact ⟨g, h1, Nat.lt_of_lt_of_le h2 (hb.size), by rw [hb.cell (p := ⟨g, j, none⟩) (by show g < B; omega)]; exact h3⟩⟩
theorem Dr.len {w : World} {A : Option Addr} {c : Nat} {l : List Nat} (h : Dr w A c l) : l.length ≤ c := h.1.1
theorem Dr.take {w : World} {A : Option Addr} {c : Nat} {l : List Nat} (h : Dr w A c l) (k : Nat) : Dr w A c (l.take k) :=
  ⟨⟨by have := h.len; rw [List.length_take]; omega, h.1.2⟩, fun j hj => by
    rw [List.length_take] at hj
    obtain ⟨g, h1, h2, h3⟩ := h.2 j (by omega)
    exact ⟨g, h1, h2, by rw [h3, List.getElem_take]⟩⟩

set_option maxHeartbeats 1000000 in
theorem digit_any (w : World) (A : Option Addr) (c : Nat) (l : List Nat) (i : Nat) (h : Dr w A c l) :
    Calls Tryd.prog 49 #[.slice A l.length c, .int .i64 i] w fun e w' => e = .returned (.int .i64 ((l.getD i 0 : Nat) : Int)) ∧ w = w' := by
  by_cases hil : i < l.length
  · obtain ⟨g, hA, hg, hc⟩ := h.2 i hil
    have hlc := h.len
    rw [List.getD_eq_getElem?_getD, List.getElem?_eq_getElem hil, Option.getD_some]
    generalize l[i] = d at *
    generalize l.length = n at *
    subst hA
    have hil' : (i : Int) < (n : Int) := by omega
    clear h
    go_enter Tryd.func49, Tryd.ntmps49
    go_wp2
    go_ret
    exact ⟨rfl, rfl⟩
  · rw [List.getD_eq_getElem?_getD, List.getElem?_eq_none (by omega), Option.getD_none]
    generalize l.length = n at *
    have hil' : ¬ (i : Int) < (n : Int) := by omega
    clear h
    go_enter Tryd.func49, Tryd.ntmps49
    go_wp2
    go_ret
    exact ⟨rfl, rfl⟩

/-- What trim answers. -/
def TrimA (w : World) (A : Option Addr) (c x : Nat) (e : Ending) (w' : World) : Prop := e = .returned (.slice A (Nu.dig x).length c) ∧ Dr w' A c (Nu.dig x) ∧ w = w'
def TrimP (w : World) (x : Nat) (e : Ending) (w' : World) : Prop := ∃ A c, e = .returned (.slice A (Nu.dig x).length c) ∧ Dr w' A c (Nu.dig x) ∧ w = w'
set_option maxHeartbeats 2000000 in
theorem trim_at (w : World) (A : Option Addr) (c : Nat) (l : List Nat) (h : Dr w A c l) (hd : ∀ d ∈ l, d < 10) (hl : l.length ≤ 1000) :
    Calls Tryd.prog 36 #[.slice A l.length c] w (TrimA w A c (Nu.val l)) := by
  have H := Lib.hid h
  have HD := Lib.hid hd
  have hlc := h.len
  obtain ⟨n, hn⟩ : ∃ n, n = l.length := ⟨_, rfl⟩
  rw [← hn] at hl hlc ⊢
  have HN := Lib.hid hn
  clear h hd hn
  go_enter Tryd.func36, Tryd.ntmps36
  go_wp2
  go_loop [0] (fun v => ∃ k : Nat, v = .slice A k c ∧ k ≤ n ∧ Hid (Nu.val (l.take k) = Nu.val l)) (fun v => match v with | .slice _ k _ => k | _ => 0)
  case atStart => exact ⟨n, rfl, Nat.le_refl _, Lib.hid (by rw [HN.out, List.take_length])⟩
  case round =>
    obtain ⟨k, rfl, hk, HV⟩ := hrel
    have hdone : (∀ h0 : 0 < k, l[k - 1]'(by have := HN.out; omega) ≠ 0) → k = (Nu.dig (Nu.val l)).length ∧ Dr w A c (Nu.dig (Nu.val l)) := fun h0 => by
      have h1 := Nu.trim_done HD.out (k := k) (by have := HN.out; omega) h0 HV.out
      have h2 : k = (Nu.dig (Nu.val l)).length := by rw [← h1, List.length_take]; have := HN.out; omega
      exact ⟨h2, by rw [← h1]; exact H.out.take k⟩
    have HDN := Lib.hid hdone
    clear hdone
    rcases k with _ | k
    · go_wp2
      go_ret
      obtain ⟨q1, q2⟩ := HDN.out (fun h0 => absurd h0 (by omega))
      exact ⟨by rw [← q1]; rfl, q2, rfl⟩
    · have hlt : k < l.length := by rw [← HN.out]; omega
      obtain ⟨g, hA, hg, hc⟩ := H.out.2 k hlt
      subst hA
      have hk1 : ((k + 1 : Nat) : Int) - 1 = (k : Int) := by omega
      have hkc : (k : Int) ≤ (c : Int) := by omega
      by_cases hz : l[k] = 0
      · rw [hz] at hc
        have HZ := Lib.hid (Nu.val_zero_end (l := l) (k := k) (by omega) hz)
        clear hz
        go_wp2
        go_round
        case rel => exact ⟨k, rfl, by omega, Lib.hid (HZ.out.trans HV.out)⟩
        case measure => simp
      · have HZ := Lib.hid hz
        have hz' : ((l[k] : Nat) : Int) ≠ 0 := by omega
        clear hz
        generalize hq : ((l[k] : Nat) : Int) = q at hc hz'
        clear hq
        go_wp2
        go_ret
        obtain ⟨q1, q2⟩ := HDN.out (fun _ => HZ.out)
        exact ⟨by rw [← q1]; rfl, q2, rfl⟩

theorem trim_any (w : World) (A : Option Addr) (c : Nat) (l : List Nat) (h : Dr w A c l) (hd : ∀ d ∈ l, d < 10) (hl : l.length ≤ 1000) :
    Calls Tryd.prog 36 #[.slice A l.length c] w (TrimP w (Nu.val l)) := (trim_at w A c l h hd hl).mono fun _ _ h => ⟨A, c, h⟩
theorem Dr.get {w : World} {A : Option Addr} {c x : Nat} (h : Dr w A c (Nu.dig x)) {j : Nat} (hj : j < (Nu.dig x).length) : ∃ g, A = some ⟨g, 0, none⟩ ∧ g < w.heap.size ∧ w.cell? ⟨g, j, none⟩ = some (.int .i64 ((x / 10 ^ j % 10 : Nat) : Int)) := by
  obtain ⟨g, h1, h2, h3⟩ := h.2 j hj
  exact ⟨g, h1, h2, by rw [h3, Nu.dig_get]⟩
set_option maxHeartbeats 2000000 in
theorem less_any (w : World) (A A2 : Option Addr) (c c2 x y : Nat) (h : Dr w A c (Nu.dig x)) (h2 : Dr w A2 c2 (Nu.dig y)) (hx : (Nu.dig x).length ≤ 1000) :
    Calls Tryd.prog 40 #[.slice A (Nu.dig x).length c, .slice A2 (Nu.dig y).length c2] w fun e w' => e = .returned (.bool (decide (x < y))) ∧ Below w.heap.size w w' := by
  by_cases hl : (Nu.dig x).length = (Nu.dig y).length
  · have HX := Lib.hid (fun j hj => h.get (j := j) hj)
    have HY := Lib.hid (fun j hj => h2.get (j := j) hj)
    have hlc := h.len
    have hlc2 := h2.len
    have H0 := Lib.hid (show x / 10 ^ (Nu.dig x).length = y / 10 ^ (Nu.dig x).length by rw [Nu.top_full, hl, Nu.top_full])
    rw [← hl] at HY hlc2 ⊢
    generalize (Nu.dig x).length = n at *
    obtain ⟨R, hR⟩ : ∃ R, R = decide (x < y) := ⟨_, rfl⟩
    rw [← hR]
    have HR := Lib.hid hR
    clear h h2 hl hR
    go_enter Tryd.func40, Tryd.ntmps40
    go_wp2
    go_loopw [5] (fun v wr => ∃ k : Nat, v = .int .i64 ((k : Int) - 1) ∧ k ≤ n ∧ Hid (x / 10 ^ k = y / 10 ^ k ∧ Below w.heap.size w wr)) (fun v _ => (intOf v + 1).toNat)
    case atStart => exact ⟨n, rfl, Nat.le_refl _, Lib.hid ⟨H0.out, Below.refl _ _⟩⟩
    case round =>
      obtain ⟨k, rfl, hk, HI⟩ := hrel
      rcases k with _ | k
      · have HE := Lib.hid (show R = false by rw [HR.out]; refine decide_eq_false ?_; have h0 := HI.out.1; rw [Nu.top_zero, Nu.top_zero] at h0; omega)
        have hneg : ¬ ((0 : Nat) : Int) - 1 ≥ 0 := by omega
        go_wp2
        go_ret
        exact ⟨by rw [HE.out]; rfl, HI.out.2⟩
      · obtain ⟨g, hA, hg, hc⟩ := HX.out k (by omega)
        obtain ⟨g2, hA2, hg2, hc2⟩ := HY.out k (by omega)
        subst hA hA2
        have e0 : ((k + 1 : Nat) : Int) - 1 = (k : Int) := by omega
        rw [e0]
        replace hc := (HI.out.2.cell (p := ⟨g, k, none⟩) hg).trans hc
        replace hc2 := (HI.out.2.cell (p := ⟨g2, k, none⟩) hg2).trans hc2
        have HLT := Lib.hid (fun h1 => (Nu.lt_of_top (x := x) (y := y) (i := k) HI.out.1 h1))
        have HGT := Lib.hid (fun h1 => (Nu.lt_of_top (x := y) (y := x) (i := k) HI.out.1.symm h1))
        have HEQ := Lib.hid (fun (h1 : x / 10 ^ k % 10 = y / 10 ^ k % 10) => show x / 10 ^ k = y / 10 ^ k by rw [Nu.top_step x k, Nu.top_step y k, h1, HI.out.1])
        have HB := Lib.hid HI.out.2
        have hk' : k < n := by omega
        have hki : (k : Int) < (n : Int) := by omega
        have hki0 : (0 : Int) ≤ (k : Int) := by omega
        clear HI e0
        generalize x / 10 ^ k % 10 = a at *
        generalize y / 10 ^ k % 10 = b at *
        by_cases hab : a = b
        · have HE2 := Lib.hid (HEQ.out hab)
          subst hab
          go_wp2_with fail
          go_quiet (fail)
          go_wp2
          go_roundw
          case rel => exact ⟨k, rfl, by omega, Lib.hid ⟨HE2.out, below_drewN HB.out _⟩⟩
          case measure => simp [intOf]
        · have d1 : ((a : Int) == (b : Int)) = false := beq_eq_false_iff_ne.2 (by omega)
          have d2 : ((a : Int) != (b : Int)) = true := by simp [bne, d1]
          have HE := Lib.hid (show R = decide (a < b) by
            rw [HR.out, Bool.eq_iff_iff, decide_eq_true_iff, decide_eq_true_iff]
            constructor
            · intro h1
              rcases Nat.lt_or_ge a b with h3 | h3
              · omega
              · have := HGT.out (by omega); omega
            · intro h1; exact HLT.out (by omega))
          clear hab
          go_wp2_with fail
          go_quiet (fail)
          go_wp2_with fail
          go_quiet (fail)
          go_wp2
          go_ret
          exact ⟨by rw [HE.out]; rfl, below_drewN (below_drewN HB.out _) _⟩
  · have hd : decide (x < y) = decide ((Nu.dig x).length < (Nu.dig y).length) := by
      rw [Bool.eq_iff_iff, decide_eq_true_iff, decide_eq_true_iff]
      constructor
      · intro h1
        rcases Nat.lt_or_ge (Nu.dig x).length (Nu.dig y).length with h3 | h3
        · omega
        · have := Nu.lt_of_len (x := y) (y := x) (by omega); omega
      · intro h1; exact Nu.lt_of_len (by omega)
    rw [hd]
    clear hd h h2
    generalize (Nu.dig x).length = n at *
    generalize (Nu.dig y).length = m at *
    have d1 : ((n : Int) == (m : Int)) = false := beq_eq_false_iff_ne.2 (by omega)
    have d2 : ((n : Int) != (m : Int)) = true := by simp [bne, d1]
    clear hl
    go_enter Tryd.func40, Tryd.ntmps40
    go_wp2
    go_ret
    exact ⟨rfl, Below.refl _ _⟩
end Go.Proofs.YtbeoobgnpcbnnaaDoor
