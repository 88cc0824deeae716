/- Facts and walks for the statement. -/
import Derived.Test.YtdcjpinbflmikaaGreatDoorPzW03
import Derived.Test.YtdcjpinbflmikaaGreatDoorPzW04
import Derived.Deep.AppendLies
import Derived.Deep.RegionHeld3
import Derived.Laws.AppendOwnNone
import Derived.Test.YtdcjpinbflmikaaGreatDoorPzW09
import Derived.Laws.BytesArg
namespace Go.Proofs.YtdcjpinbflmikaaGreatDoor
open Go.RowKit
def Dr (w : World) (A : Option Addr) (c : Nat) (l : List Nat) : Prop :=
  (l.length ≤ c ∧ (A = none → c = 0)) ∧ ∀ j (hj : j < l.length), ∃ g, A = some ⟨g, 0, none⟩ ∧ g < w.heap.size ∧ w.cell? ⟨g, j, none⟩ = some (.int .i64 ((l[j] : Nat) : Int))
theorem Dr.below {w w' : World} {A : Option Addr} {c : Nat} {l : List Nat} {B : Nat} (h : Dr w A c l) (hb : Below B w w') (hB : w.heap.size ≤ B) : Dr w' A c l :=
  ⟨h.1, fun j hj => by
    obtain ⟨g, h1, h2, h3⟩ := h.2 j hj
    exact ⟨g, h1, Nat.lt_of_lt_of_le h2 (hb.size), by rw [hb.cell (p := ⟨g, j, none⟩) (by show g < B; omega)]; exact h3⟩⟩
theorem Dr.len {w : World} {A : Option Addr} {c : Nat} {l : List Nat} (h : Dr w A c l) : l.length ≤ c := h.1.1
theorem Dr.take {w : World} {A : Option Addr} {c : Nat} {l : List Nat} (h : Dr w A c l) (k : Nat) : Dr w A c (l.take k) :=
  ⟨⟨by have := h.len; rw [List.length_take]; omega, h.1.2⟩, fun j hj => by
    rw [List.length_take] at hj
    obtain ⟨g, h1, h2, h3⟩ := h.2 j (by omega)
    exact ⟨g, h1, h2, by rw [h3, List.getElem_take]⟩⟩
set_option maxHeartbeats 1000000 in
theorem digit_any (w : World) (A : Option Addr) (c : Nat) (l : List Nat) (i : Nat) (h : Dr w A c l) :
    Calls Tryz.prog 259 #[.slice A l.length c, .int .i64 i] w fun e w' => e = .returned (.int .i64 ((l.getD i 0 : Nat) : Int)) ∧ w = w' := by
  by_cases hil : i < l.length
  · obtain ⟨g, hA, hg, hc⟩ := h.2 i hil
    have hlc := h.len
    rw [List.getD_eq_getElem?_getD, List.getElem?_eq_getElem hil, Option.getD_some]
    generalize l[i] = d at *
    generalize l.length = n at *
    subst hA
    have hil' : (i : Int) < (n : Int) := by omega
    clear h
    go_enter Tryz.func259, Tryz.ntmps259
    go_wp2
    go_ret
    exact ⟨rfl, rfl⟩
  · rw [List.getD_eq_getElem?_getD, List.getElem?_eq_none (by omega), Option.getD_none]
    generalize l.length = n at *
    have hil' : ¬ (i : Int) < (n : Int) := by omega
    clear h
    go_enter Tryz.func259, Tryz.ntmps259
    go_wp2
    go_ret
    exact ⟨rfl, rfl⟩
def TrimA (w : World) (A : Option Addr) (c x : Nat) (e : Ending) (w' : World) : Prop := e = .returned (.slice A (Nu.dig x).length c) ∧ Dr w' A c (Nu.dig x) ∧ w = w'
def TrimP (w : World) (x : Nat) (e : Ending) (w' : World) : Prop := ∃ A c, e = .returned (.slice A (Nu.dig x).length c) ∧ Dr w' A c (Nu.dig x) ∧ w = w'
set_option maxHeartbeats 2000000 in
theorem trim_at (w : World) (A : Option Addr) (c : Nat) (l : List Nat) (h : Dr w A c l) (hd : ∀ d ∈ l, d < 10) (hl : l.length ≤ 1000) :
    Calls Tryz.prog 241 #[.slice A l.length c] w (TrimA w A c (Nu.val l)) := by
  have H := Lib.hid h
  have HD := Lib.hid hd
  have hlc := h.len
  obtain ⟨n, hn⟩ : ∃ n, n = l.length := ⟨_, rfl⟩
  rw [← hn] at hl hlc ⊢
  have HN := Lib.hid hn
  clear h hd hn
  go_enter Tryz.func241, Tryz.ntmps241
  go_wp2
  go_loop [0] (fun v => ∃ k : Nat, v = .slice A k c ∧ k ≤ n ∧ Hid (Nu.val (l.take k) = Nu.val l)) (fun v => match v with | .slice _ k _ => k | _ => 0)
  case atStart => exact ⟨n, rfl, Nat.le_refl _, Lib.hid (by rw [HN.out, List.take_length])⟩
  case round =>
    obtain ⟨k, rfl, hk, HV⟩ := hrel
    have hdone : (∀ h0 : 0 < k, l[k - 1]'(by have := HN.out; omega) ≠ 0) → k = (Nu.dig (Nu.val l)).length ∧ Dr w A c (Nu.dig (Nu.val l)) := fun h0 => by
      have h1 := Nu.trim_done HD.out (k := k) (by have := HN.out; omega) h0 HV.out
      have h2 : k = (Nu.dig (Nu.val l)).length := by rw [← h1, List.length_take]; have := HN.out; omega
      exact ⟨h2, by rw [← h1]; exact H.out.take k⟩
    have HDN := Lib.hid hdone
    clear hdone
    rcases k with _ | k
    · go_wp2
      go_ret
      obtain ⟨q1, q2⟩ := HDN.out (fun h0 => absurd h0 (by omega))
      exact ⟨by rw [← q1]; rfl, q2, rfl⟩
    · have hlt : k < l.length := by rw [← HN.out]; omega
      obtain ⟨g, hA, hg, hc⟩ := H.out.2 k hlt
      subst hA
      have hk1 : ((k + 1 : Nat) : Int) - 1 = (k : Int) := by omega
      have hkc : (k : Int) ≤ (c : Int) := by omega
      by_cases hz : l[k] = 0
      · rw [hz] at hc
        have HZ := Lib.hid (Nu.val_zero_end (l := l) (k := k) (by omega) hz)
        clear hz
        go_wp2
        go_round
        case rel => exact ⟨k, rfl, by omega, Lib.hid (HZ.out.trans HV.out)⟩
        case measure => simp
      · have HZ := Lib.hid hz
        have hz' : ((l[k] : Nat) : Int) ≠ 0 := by omega
        clear hz
        generalize hq : ((l[k] : Nat) : Int) = q at hc hz'
        clear hq
        go_wp2
        go_ret
        obtain ⟨q1, q2⟩ := HDN.out (fun _ => HZ.out)
        exact ⟨by rw [← q1]; rfl, q2, rfl⟩
theorem trim_any (w : World) (A : Option Addr) (c : Nat) (l : List Nat) (h : Dr w A c l) (hd : ∀ d ∈ l, d < 10) (hl : l.length ≤ 1000) :
    Calls Tryz.prog 241 #[.slice A l.length c] w (TrimP w (Nu.val l)) := (trim_at w A c l h hd hl).mono fun _ _ h => ⟨A, c, h⟩
theorem Dr.get {w : World} {A : Option Addr} {c x : Nat} (h : Dr w A c (Nu.dig x)) {j : Nat} (hj : j < (Nu.dig x).length) : ∃ g, A = some ⟨g, 0, none⟩ ∧ g < w.heap.size ∧ w.cell? ⟨g, j, none⟩ = some (.int .i64 ((x / 10 ^ j % 10 : Nat) : Int)) := by
  obtain ⟨g, h1, h2, h3⟩ := h.2 j hj
  exact ⟨g, h1, h2, by rw [h3, Nu.dig_get]⟩
set_option maxHeartbeats 2000000 in
theorem less_any (w : World) (A A2 : Option Addr) (c c2 x y : Nat) (h : Dr w A c (Nu.dig x)) (h2 : Dr w A2 c2 (Nu.dig y)) (hx : (Nu.dig x).length ≤ 1000) :
    Calls Tryz.prog 243 #[.slice A (Nu.dig x).length c, .slice A2 (Nu.dig y).length c2] w fun e w' => e = .returned (.bool (decide (x < y))) ∧ Below w.heap.size w w' := by
  by_cases hl : (Nu.dig x).length = (Nu.dig y).length
  · have HX := Lib.hid (fun j hj => h.get (j := j) hj)
    have HY := Lib.hid (fun j hj => h2.get (j := j) hj)
    have hlc := h.len
    have hlc2 := h2.len
    have H0 := Lib.hid (show x / 10 ^ (Nu.dig x).length = y / 10 ^ (Nu.dig x).length by rw [Nu.top_full, hl, Nu.top_full])
    rw [← hl] at HY hlc2 ⊢
    generalize (Nu.dig x).length = n at *
    obtain ⟨R, hR⟩ : ∃ R, R = decide (x < y) := ⟨_, rfl⟩
    rw [← hR]
    have HR := Lib.hid hR
    clear h h2 hl hR
    go_enter Tryz.func243, Tryz.ntmps243
    go_wp2
    go_loopw [5] (fun v wr => ∃ k : Nat, v = .int .i64 ((k : Int) - 1) ∧ k ≤ n ∧ Hid (x / 10 ^ k = y / 10 ^ k ∧ Below w.heap.size w wr)) (fun v _ => (intOf v + 1).toNat)
    case atStart => exact ⟨n, rfl, Nat.le_refl _, Lib.hid ⟨H0.out, Below.refl _ _⟩⟩
    case round =>
      obtain ⟨k, rfl, hk, HI⟩ := hrel
      rcases k with _ | k
      · have HE := Lib.hid (show R = false by rw [HR.out]; refine decide_eq_false ?_; have h0 := HI.out.1; rw [Nu.top_zero, Nu.top_zero] at h0; omega)
        have hneg : ¬ ((0 : Nat) : Int) - 1 ≥ 0 := by omega
        go_wp2
        go_ret
        exact ⟨by rw [HE.out]; rfl, HI.out.2⟩
      · obtain ⟨g, hA, hg, hc⟩ := HX.out k (by omega)
        obtain ⟨g2, hA2, hg2, hc2⟩ := HY.out k (by omega)
        subst hA hA2
        have e0 : ((k + 1 : Nat) : Int) - 1 = (k : Int) := by omega
        rw [e0]
        replace hc := (HI.out.2.cell (p := ⟨g, k, none⟩) hg).trans hc
        replace hc2 := (HI.out.2.cell (p := ⟨g2, k, none⟩) hg2).trans hc2
        have HLT := Lib.hid (fun h1 => (Nu.lt_of_top (x := x) (y := y) (i := k) HI.out.1 h1))
        have HGT := Lib.hid (fun h1 => (Nu.lt_of_top (x := y) (y := x) (i := k) HI.out.1.symm h1))
        have HEQ := Lib.hid (fun (h1 : x / 10 ^ k % 10 = y / 10 ^ k % 10) => show x / 10 ^ k = y / 10 ^ k by rw [Nu.top_step x k, Nu.top_step y k, h1, HI.out.1])
        have HB := Lib.hid HI.out.2
        have hk' : k < n := by omega
        have hki : (k : Int) < (n : Int) := by omega
        have hki0 : (0 : Int) ≤ (k : Int) := by omega
        clear HI e0
        generalize x / 10 ^ k % 10 = a at *
        generalize y / 10 ^ k % 10 = b at *
        by_cases hab : a = b
        · have HE2 := Lib.hid (HEQ.out hab)
          subst hab
          go_wp2_with fail
          go_quiet (fail)
          go_wp2
          go_roundw
          case rel => exact ⟨k, rfl, by omega, Lib.hid ⟨HE2.out, below_drewN HB.out _⟩⟩
          case measure => simp [intOf]
        · have d1 : ((a : Int) == (b : Int)) = false := beq_eq_false_iff_ne.2 (by omega)
          have d2 : ((a : Int) != (b : Int)) = true := by simp [bne, d1]
          have HE := Lib.hid (show R = decide (a < b) by
            rw [HR.out, Bool.eq_iff_iff, decide_eq_true_iff, decide_eq_true_iff]
            constructor
            · intro h1
              rcases Nat.lt_or_ge a b with h3 | h3
              · omega
              · have := HGT.out (by omega); omega
            · intro h1; exact HLT.out (by omega))
          clear hab
          go_wp2_with fail
          go_quiet (fail)
          go_wp2_with fail
          go_quiet (fail)
          go_wp2
          go_ret
          exact ⟨by rw [HE.out]; rfl, below_drewN (below_drewN HB.out _) _⟩
  · have hd : decide (x < y) = decide ((Nu.dig x).length < (Nu.dig y).length) := by
      rw [Bool.eq_iff_iff, decide_eq_true_iff, decide_eq_true_iff]
      constructor
      · intro h1
        rcases Nat.lt_or_ge (Nu.dig x).length (Nu.dig y).length with h3 | h3
        · omega
        · have := Nu.lt_of_len (x := y) (y := x) (by omega); omega
      · intro h1; exact Nu.lt_of_len (by omega)
    rw [hd]
    clear hd h h2
    generalize (Nu.dig x).length = n at *
    generalize (Nu.dig y).length = m at *
    have d1 : ((n : Int) == (m : Int)) = false := beq_eq_false_iff_ne.2 (by omega)
    have d2 : ((n : Int) != (m : Int)) = true := by simp [bne, d1]
    clear hl
    go_enter Tryz.func243, Tryz.ntmps243
    go_wp2
    go_ret
    exact ⟨rfl, Below.refl _ _⟩
end Go.Proofs.YtdcjpinbflmikaaGreatDoor
namespace Go.Proofs.YtdcjpinbflmikaaGreatDoor
open Go.RowKit
def intsV (l : List Nat) : List Value := l.map fun (d : Nat) => Value.int .i64 (d : Int)
theorem intsV_snoc (l : List Nat) (d : Nat) : intsV l ++ [.int .i64 (d : Int)] = intsV (l ++ [d]) := by unfold intsV; rw [List.map_append]; rfl
theorem infoInt : (Tryz.prog.info? 3).map (fun i => (i.zero, i.size, i.bytes)) = some (some (.int .i64 0), 1, 8) := by kernel_rfl
def OwnD (B : Nat) (w : World) (v : Value) (l : List Nat) : Prop := w.ownsRow B 3 1 v l.length (intsV l)
theorem OwnD.dr {B : Nat} {w : World} {A : Option Addr} {n c : Nat} {l : List Nat} (h : OwnD B w (.slice A n c) l) : n = l.length ∧ Dr w A c l := by
  obtain ⟨A', c', e, h1, h2, h3, h4⟩ := own_slice h
  injection e with e1 e2 e3
  subst e1 e2 e3
  refine ⟨rfl, ⟨h3, fun hA => (h2 hA).1⟩, fun j hj => ?_⟩
  obtain ⟨g, hA, hg, _, hc⟩ := h1 (by omega)
  exact ⟨g, hA, hg, hc j _ (by unfold intsV; rw [List.getElem?_map, List.getElem?_eq_getElem hj]; rfl)⟩
def DigP (w : World) (x : Nat) (e : Ending) (w' : World) : Prop := ∃ A c, e = .returned (.slice A (Nu.dig x).length c) ∧ Dr w' A c (Nu.dig x) ∧ Below w.heap.size w w'
def DigN (w : World) (x : Nat) (e : Ending) (w' : World) : Prop := ∃ A c, e = .returned (.slice A (Nu.dig x).length c) ∧ Dr w' A c (Nu.dig x) ∧ Below w.heap.size w w' ∧ ∀ g, A = some ⟨g, 0, none⟩ → 0 < (Nu.dig x).length → w.heap.size ≤ g
theorem own_new {B : Nat} {w : World} {e : TypeId} {size n c : Nat} {A : Option Addr} {xs : List Value} (h : w.ownsRow B e size (.slice A n c) n xs) : ∀ g, A = some ⟨g, 0, none⟩ → 0 < n → B ≤ g := fun g hg hn => by
  obtain ⟨A', c', e1, h1, _⟩ := own_slice h
  injection e1 with e1 _ _
  subst e1
  obtain ⟨g', h2, _, h3, _⟩ := h1 hn
  rw [hg] at h2
  injection h2 with h2
  injection h2 with h2
  omega
theorem own_fz {w : World} {B : Nat} {e : TypeId} {size g n cap : Nat} {xs : List Value} (h : w.ownsRow B e size (.slice (some ⟨g, 0, none⟩) n cap) n xs) (j : Nat) : w.frozen? ⟨g, j, none⟩ = false := by
  rcases h.2 with ⟨h1, _⟩ | ⟨g', cap', cur, h1, _, h3, _⟩
  · cases h1
  · injection h1 with h1
    injection h1 with h1
    injection h1 with h1
    subst h1
    exact Lib.frozen_of_heap h3 j
structure AddI (w : World) (x y i : Nat) (v : Value) (c : Nat) (l : List Nat) (wr : World) : Prop where
  below : Below w.heap.size w wr
  own : OwnD w.heap.size wr v l
  len : l.length = i
  dig : ∀ d ∈ l, d < 10
  eq : Nu.val l + 10 ^ i * c = x % 10 ^ i + y % 10 ^ i
theorem AddI.next {w : World} {x y i c : Nat} {v v' : Value} {l : List Nat} {wr w' : World} (h : AddI w x y i v c l wr) (hb : Below w.heap.size w w')
    (ho : OwnD w.heap.size w' v' (l ++ [(x / 10 ^ i % 10 + y / 10 ^ i % 10 + c) % 10])) : AddI w x y (i + 1) v' ((x / 10 ^ i % 10 + y / 10 ^ i % 10 + c) / 10) (l ++ [(x / 10 ^ i % 10 + y / 10 ^ i % 10 + c) % 10]) w' := by
  refine ⟨hb, ho, by rw [List.length_append, h.len]; rfl, fun d hd => ?_, ?_⟩
  · rcases List.mem_append.1 hd with hd | hd
    · exact h.dig d hd
    · simp at hd; omega
  · rw [Nu.val_snoc, h.len]
    exact Nu.add_step h.eq
theorem AddI.carry {w : World} {x y q c : Nat} {v : Value} {l : List Nat} {wr : World} (h : AddI w x y (q + 1) v c l wr) (hx : x < 10 ^ q) (hy : y < 10 ^ q) : c = 0 := by
  have h1 := h.eq
  have h2 : 10 ^ (q + 1) = 10 * 10 ^ q := by rw [Nat.pow_succ, Nat.mul_comm]
  rw [Nat.mod_eq_of_lt (by omega), Nat.mod_eq_of_lt (by omega)] at h1
  rcases Nat.eq_zero_or_pos c with h0 | h0
  · exact h0
  · have : 10 ^ (q + 1) * 1 ≤ 10 ^ (q + 1) * c := Nat.mul_le_mul_left _ h0
    omega
theorem AddI.sum {w : World} {x y i : Nat} {v : Value} {l : List Nat} {wr : World} (h : AddI w x y i v 0 l wr) (hx : x < 10 ^ i) (hy : y < 10 ^ i) : Nu.val l = x + y := by
  have h1 := h.eq
  rw [Nat.mod_eq_of_lt hx, Nat.mod_eq_of_lt hy] at h1
  omega
set_option maxHeartbeats 4000000 in
set_option maxRecDepth 100000 in
theorem add_gen (w : World) (A A2 : Option Addr) (c c2 x y : Nat) (l1 l2 : List Nat) (h : Dr w A c l1) (h2 : Dr w A2 c2 l2) (g1 : ∀ i, l1.getD i 0 = x / 10 ^ i % 10) (g2 : ∀ i, l2.getD i 0 = y / 10 ^ i % 10) (hxl : x < 10 ^ l1.length) (hyl : y < 10 ^ l2.length) (hx : l1.length ≤ 500) (hy : l2.length ≤ 500) :
    Calls Tryz.prog 242 #[.slice A l1.length c, .slice A2 l2.length c2] w (DigP w (x + y)) := by
  have H0 := Lib.hid (show AddI w x y 0 (.slice none 0 0) 0 [] w from ⟨Below.refl _ _, by unfold OwnD; exact World.ownsRow_nil _ _ _ _, rfl, fun d hd => (by cases hd), by simp [Nu.val, Nat.mod_one]⟩)
  obtain ⟨n, hn⟩ : ∃ n, n = l1.length := ⟨_, rfl⟩
  obtain ⟨m, hm⟩ : ∃ m, m = l2.length := ⟨_, rfl⟩
  have HDX := Lib.hid (fun w1 (hb : Below w.heap.size w w1) (i : Nat) => digit_any w1 A c l1 i (h.below hb (Nat.le_refl _)))
  have HDY := Lib.hid (fun w1 (hb : Below w.heap.size w w1) (i : Nat) => digit_any w1 A2 c2 l2 i (h2.below hb (Nat.le_refl _)))
  simp only [g1] at HDX
  simp only [g2] at HDY
  rw [← hn] at hx HDX hxl ⊢
  rw [← hm] at hy HDY hyl ⊢
  obtain ⟨q, hq⟩ : ∃ q, q = max n m := ⟨_, rfl⟩
  have HX := Lib.hid (show x < 10 ^ q from Nat.lt_of_lt_of_le hxl (Nat.pow_le_pow_right (by decide) (by omega)))
  have HY := Lib.hid (show y < 10 ^ q from Nat.lt_of_lt_of_le hyl (Nat.pow_le_pow_right (by decide) (by omega)))
  clear h h2 hn hm g1 g2 hxl hyl
  have hq1 : (max (n : Int) (m : Int)) = (q : Int) := by omega
  have hqb : q ≤ 500 := by omega
  have HQ1 := Lib.hid hq1
  clear hq hq1
  go_enter Tryz.func242, Tryz.ntmps242
  go_wp2
  go_loopw [5, 6, 7] (fun v cv iv wr => ∃ (i k : Nat) (l : List Nat), iv = .int .i64 i ∧ cv = .int .i64 k ∧ i ≤ q + 1 ∧ k ≤ 1 ∧ Hid (AddI w x y i v k l wr)) (fun _ _ iv _ => q + 1 - (intOf iv).toNat)
  case atStart => exact ⟨0, 0, [], rfl, rfl, by omega, by omega, H0⟩
  case round =>
    obtain ⟨i, k, l, rfl, rfl, hi, hk, HI⟩ := hrel
    have hq1 := HQ1.out
    obtain ⟨Av, cv, hv, _, _, _, _⟩ := own_slice HI.out.own
    subst hv
    rw [HI.out.len] at *
    by_cases hgo : i < q ∨ k ≠ 0
    · have HB := Lib.hid HI.out.below
      have HA1 := Lib.hid (HDX.out wr HB.out i)
      have HA2 := Lib.hid (HDY.out wr HB.out i)
      have HNX := Lib.hid (fun v' w' hb ho => HI.out.next (v' := v') (w' := w') hb ho)
      have ha9 : x / 10 ^ i % 10 < 10 := Nat.mod_lt _ (by decide)
      have hb9 : y / 10 ^ i % 10 < 10 := Nat.mod_lt _ (by decide)
      generalize x / 10 ^ i % 10 = a at *
      generalize y / 10 ^ i % 10 = b at *
      have HO := Lib.hid (show wr.ownsRow w.heap.size 3 1 (.slice Av i cv) i (intsV l) from by have h3 := HI.out.own; unfold OwnD at h3; rw [HI.out.len] at h3; exact h3)
      have HLEN := Lib.hid HI.out.len
      have hws : w.heap.size ≤ wr.heap.size := HB.out.size
      obtain ⟨i0, hi0, hz0, hz1, hz2⟩ := info_parts infoInt
      have hiq : i ≤ q := by
        rcases Nat.lt_or_ge q i with h3 | h3
        · obtain rfl : i = q + 1 := by omega
          have h4 := HI.out.carry HX.out HY.out
          omega
        · exact h3
      have hbig : i + 1 ≤ maxLen := by unfold maxLen; omega
      have HBW := Lib.hid HI.out.below
      by_cases hlt : i < q
      · have hlt' : (i : Int) < (q : Int) := by omega
        go_wp2_with fail
        refine HA1.out.mono ?_
        rintro e w1 ⟨rfl, rfl⟩
        go_wp2_with fail
        refine HA2.out.mono ?_
        rintro e w1 ⟨rfl, rfl⟩
        go_wp2_with (at_builtin; (refine wpList_append_own _ rfl _ _ _ rfl w.heap.size 3 i0 _ 1 8 Tryz.underlying166 hi0 hz0 hz1 hz2 rfl (by omega) (.slice Av i cv) i (intsV l) (by rfl) (by exact HO.out.alloc _) _ 1 _ [.int .i64 (((a : Int) + (b : Int) + (k : Int)) % 10)] (by rfl) rfl (by intro j u hu; exact news_at _ _ _ _ (by simp) j u hu) (by intro u hu; simp at hu; subst hu; rfl) hbig (by omega) (by simp; omega) ?_); intro v3 w3 hown3 hgr3 _; obtain ⟨A3, c3, hv3, _, _, _, _⟩ := own_slice hown3; subst hv3; have B3 := Lib.hid (HBW.out.trans (Below.grown ((Below.refl w.heap.size wr).alloc hws _) hgr3 (by simp; omega) (fun k hk => (HO.out.lt k hk).1))); have H3 := Lib.hid hown3; clear hown3 hgr3)
        go_roundw
        case rel => exact ⟨i + 1, (a + b + k) / 10, l ++ [(a + b + k) % 10], by go_num, by go_num, by omega, by omega, Lib.hid (HNX.out _ _ B3.out (by unfold OwnD; rw [List.length_append, HLEN.out, ← intsV_snoc]; have h4 := H3.out; exact h4))⟩
        case measure => simp [intOf]; omega
      · have hlt' : ¬ (i : Int) < (q : Int) := by omega
        have hk0 : (k : Int) > 0 := by omega
        go_wp2_with fail
        refine HA1.out.mono ?_
        rintro e w1 ⟨rfl, rfl⟩
        go_wp2_with fail
        refine HA2.out.mono ?_
        rintro e w1 ⟨rfl, rfl⟩
        go_wp2_with (at_builtin; (refine wpList_append_own _ rfl _ _ _ rfl w.heap.size 3 i0 _ 1 8 Tryz.underlying166 hi0 hz0 hz1 hz2 rfl (by omega) (.slice Av i cv) i (intsV l) (by rfl) (by exact HO.out.alloc _) _ 1 _ [.int .i64 (((a : Int) + (b : Int) + (k : Int)) % 10)] (by rfl) rfl (by intro j u hu; exact news_at _ _ _ _ (by simp) j u hu) (by intro u hu; simp at hu; subst hu; rfl) hbig (by omega) (by simp; omega) ?_); intro v3 w3 hown3 hgr3 _; obtain ⟨A3, c3, hv3, _, _, _, _⟩ := own_slice hown3; subst hv3; have B3 := Lib.hid (HBW.out.trans (Below.grown ((Below.refl w.heap.size wr).alloc hws _) hgr3 (by simp; omega) (fun k hk => (HO.out.lt k hk).1))); have H3 := Lib.hid hown3; clear hown3 hgr3)
        go_roundw
        case rel => exact ⟨i + 1, (a + b + k) / 10, l ++ [(a + b + k) % 10], by go_num, by go_num, by omega, by omega, Lib.hid (HNX.out _ _ B3.out (by unfold OwnD; rw [List.length_append, HLEN.out, ← intsV_snoc]; have h4 := H3.out; exact h4))⟩
        case measure => simp [intOf]; omega
    · obtain rfl : k = 0 := by omega
      have hlt' : ¬ (i : Int) < (q : Int) := by omega
      have HS := Lib.hid (HI.out.sum (Nat.lt_of_lt_of_le HX.out (Nat.pow_le_pow_right (by decide) (by omega))) (Nat.lt_of_lt_of_le HY.out (Nat.pow_le_pow_right (by decide) (by omega))))
      have HT := Lib.hid (trim_any wr Av cv l (HI.out.own.dr).2 HI.out.dig (by rw [HI.out.len]; omega))
      rw [HS.out, HI.out.len] at HT
      have HB := Lib.hid HI.out.below
      go_wp2_with fail
      refine HT.out.mono ?_
      rintro e w1 ⟨A1, c1, rfl, hd1, rfl⟩
      have HD := Lib.hid hd1
      clear hd1
      go_wp2
      go_ret
      exact ⟨A1, c1, rfl, HD.out, HB.out⟩
theorem add_dig (w : World) (A A2 : Option Addr) (c c2 x y : Nat) (h : Dr w A c (Nu.dig x)) (h2 : Dr w A2 c2 (Nu.dig y)) (hx : (Nu.dig x).length ≤ 500) (hy : (Nu.dig y).length ≤ 500) :
    Calls Tryz.prog 242 #[.slice A (Nu.dig x).length c, .slice A2 (Nu.dig y).length c2] w (DigP w (x + y)) :=
  add_gen w A A2 c c2 x y _ _ h h2 (Nu.dig_at x) (Nu.dig_at y) (Nu.lt_pow_len x) (Nu.lt_pow_len y) hx hy
structure TakI (w : World) (x y i : Nat) (v : Value) (c : Nat) (l : List Nat) (wr : World) : Prop where
  below : Below w.heap.size w wr
  own : OwnD w.heap.size wr v l
  len : l.length = i
  dig : ∀ d ∈ l, d < 10
  eq : x % 10 ^ i + 10 ^ i * c = y % 10 ^ i + Nu.val l
theorem TakI.next {w : World} {x y i c c' d : Nat} {v v' : Value} {l : List Nat} {wr w' : World} (h : TakI w x y i v c l wr) (hb : Below w.heap.size w w') (hd : d < 10) (hc : x / 10 ^ i % 10 + 10 * c' = y / 10 ^ i % 10 + c + d)
    (ho : OwnD w.heap.size w' v' (l ++ [d])) : TakI w x y (i + 1) v' c' (l ++ [d]) w' := by
  refine ⟨hb, ho, by rw [List.length_append, h.len]; rfl, fun e he => ?_, ?_⟩
  · rcases List.mem_append.1 he with he | he
    · exact h.dig e he
    · simp at he; omega
  · rw [Nu.val_snoc, h.len]
    exact Nu.take_step h.eq hc
theorem TakI.rest {w : World} {x y i c : Nat} {v : Value} {l : List Nat} {wr : World} (h : TakI w x y i v c l wr) (hx : x < 10 ^ i) (hyx : y ≤ x) : Nu.val l = x - y :=
  Nu.take_end h.eq hx hyx (by have := Nu.val_lt h.dig; rwa [h.len] at this)
set_option maxHeartbeats 4000000 in
set_option maxRecDepth 100000 in
theorem take_new (w : World) (A A2 : Option Addr) (c c2 x y : Nat) (h : Dr w A c (Nu.dig x)) (h2 : Dr w A2 c2 (Nu.dig y)) (hx : (Nu.dig x).length ≤ 500) (hyx : y ≤ x) :
    Calls Tryz.prog 244 #[.slice A (Nu.dig x).length c, .slice A2 (Nu.dig y).length c2] w (DigN w (x - y)) := by
  have H0 := Lib.hid (show TakI w x y 0 (.slice none 0 0) 0 [] w from ⟨Below.refl _ _, by unfold OwnD; exact World.ownsRow_nil _ _ _ _, rfl, fun d hd => (by cases hd), by simp [Nu.val, Nat.mod_one]⟩)
  obtain ⟨q, hn⟩ : ∃ n, n = (Nu.dig x).length := ⟨_, rfl⟩
  obtain ⟨m, hm⟩ : ∃ m, m = (Nu.dig y).length := ⟨_, rfl⟩
  have HDX := Lib.hid (fun w1 (hb : Below w.heap.size w w1) (i : Nat) (hi : i < (Nu.dig x).length) => (h.below hb (Nat.le_refl _)).get hi)
  have HDY := Lib.hid (fun w1 (hb : Below w.heap.size w w1) (i : Nat) => digit_any w1 A2 c2 (Nu.dig y) i (h2.below hb (Nat.le_refl _)))
  simp only [Nu.dig_at] at HDY
  have hqc : (Nu.dig x).length ≤ c := h.len
  rw [← hn] at hx HDX hqc ⊢
  rw [← hm] at HDY ⊢
  have HX := Lib.hid (show x < 10 ^ q from Nu.dig_len_iff.1 (by omega))
  have HYX := Lib.hid hyx
  clear h h2 hn hm hyx
  go_enter Tryz.func244, Tryz.ntmps244
  go_wp2
  go_loopw [5, 6, 7] (fun v cv iv wr => ∃ (i k : Nat) (l : List Nat), iv = .int .i64 i ∧ cv = .int .i64 k ∧ i ≤ q ∧ k ≤ 1 ∧ Hid (TakI w x y i v k l wr)) (fun _ _ iv _ => q - (intOf iv).toNat)
  case atStart => exact ⟨0, 0, [], rfl, rfl, by omega, by omega, H0⟩
  case round =>
    obtain ⟨i, k, l, rfl, rfl, hi, hk, HI⟩ := hrel
    obtain ⟨Av, cv, hv, _, _, _, _⟩ := own_slice HI.out.own
    subst hv
    rw [HI.out.len] at *
    by_cases hlt : i < q
    · have hlt' : (i : Int) < (q : Int) := by omega
      have hii0 : (0 : Int) ≤ (i : Int) := by omega
      have HB := Lib.hid HI.out.below
      obtain ⟨g, hA, hg, hc⟩ := HDX.out wr HB.out i hlt
      subst hA
      have HA2 := Lib.hid (fun n => HDY.out (wr.drewN n) (below_drewN HB.out n) i)
      have ha9 : x / 10 ^ i % 10 < 10 := Nat.mod_lt _ (by decide)
      have hb9 : y / 10 ^ i % 10 < 10 := Nat.mod_lt _ (by decide)
      have HN0 := Lib.hid (fun v' w' c' d hb hd hc ho => HI.out.next (v' := v') (w' := w') (c' := c') (d := d) hb hd hc ho)
      generalize x / 10 ^ i % 10 = a at *
      generalize y / 10 ^ i % 10 = b at *
      have HO0 := Lib.hid (show wr.ownsRow w.heap.size 3 1 (.slice Av i cv) i (intsV l) from by have h3 := HI.out.own; unfold OwnD at h3; rw [HI.out.len] at h3; exact h3)
      have HLEN := Lib.hid HI.out.len
      obtain ⟨i0, hi0, hz0, hz1, hz2⟩ := info_parts infoInt
      have hbig : i + 1 ≤ maxLen := by unfold maxLen; omega
      have s1 : IntKind.i64.wrap ((a : Int) - (b : Int)) = (a : Int) - (b : Int) := IntWalk.i64_in _ (by omega)
      have s2 : IntKind.i64.wrap ((a : Int) - (b : Int) - (k : Int)) = (a : Int) - (b : Int) - (k : Int) := IntWalk.i64_in _ (by omega)
      have hki : i < q := hlt
      go_wp2_with fail
      go_quiet ((go_at_call 259; exact Calls.quiet_of_same ((HA2.out _).mono fun _ _ h => ⟨h.1, h.2.symm⟩)))
      have HO := Lib.hid (own_below HO0.out (below_drewN (Below.refl wr.heap.size wr) nq))
      have HBW := Lib.hid (below_drewN HB.out nq)
      clear s1 s2 hc HA2 HO0 HB HI hki
      generalize wr.drewN nq = wq at *
      have hws : w.heap.size ≤ wq.heap.size := HBW.out.size
      by_cases hab : a < b + k
      · have hab' : (a : Int) - (b : Int) - (k : Int) < 0 := by omega
        obtain ⟨d, hd⟩ : ∃ d : Nat, d = a + 10 - b - k := ⟨_, rfl⟩
        have HD := Lib.hid (show (a : Int) - (b : Int) - (k : Int) + 10 = (d : Int) by omega)
        have HNX := Lib.hid (fun v' w' hb ho => HN0.out v' w' 1 d hb (by omega) (by omega) ho)
        clear hd HN0
        go_wp2_with (at_builtin; (refine wpList_append_own _ rfl _ _ _ rfl w.heap.size 3 i0 _ 1 8 Tryz.underlying166 hi0 hz0 hz1 hz2 rfl (by omega) (.slice Av i cv) i (intsV l) (by rfl) (by exact HO.out.alloc _) _ 1 _ [.int .i64 ((a : Int) - (b : Int) - (k : Int) + 10)] (by rfl) rfl (by intro j u hu; exact news_at _ _ _ _ (by simp) j u hu) (by intro u hu; simp at hu; subst hu; rfl) hbig (by omega) (by simp; omega) ?_); intro v3 w3 hown3 hgr3 _; obtain ⟨A3, c3, hv3, _, _, _, _⟩ := own_slice hown3; subst hv3; have B3 := Lib.hid (HBW.out.trans (Below.grown ((Below.refl w.heap.size wq).alloc hws _) hgr3 (by simp; omega) (fun k hk => (HO.out.lt k hk).1))); have H3 := Lib.hid hown3; clear hown3 hgr3)
        go_roundw
        case rel => exact ⟨i + 1, 1, l ++ [d], by go_num, rfl, by omega, by omega, Lib.hid (HNX.out _ _ B3.out (by unfold OwnD; rw [List.length_append, HLEN.out, ← intsV_snoc]; have h4 := H3.out; rw [HD.out] at h4; exact h4))⟩
        case measure => simp [intOf]; omega
      · have hab' : ¬ (a : Int) - (b : Int) - (k : Int) < 0 := by omega
        obtain ⟨d, hd⟩ : ∃ d : Nat, d = a - b - k := ⟨_, rfl⟩
        have HD := Lib.hid (show (a : Int) - (b : Int) - (k : Int) = (d : Int) by omega)
        have HNX := Lib.hid (fun v' w' hb ho => HN0.out v' w' 0 d hb (by omega) (by omega) ho)
        clear hd HN0
        go_wp2_with (at_builtin; (refine wpList_append_own _ rfl _ _ _ rfl w.heap.size 3 i0 _ 1 8 Tryz.underlying166 hi0 hz0 hz1 hz2 rfl (by omega) (.slice Av i cv) i (intsV l) (by rfl) (by exact HO.out.alloc _) _ 1 _ [.int .i64 ((a : Int) - (b : Int) - (k : Int))] (by rfl) rfl (by intro j u hu; exact news_at _ _ _ _ (by simp) j u hu) (by intro u hu; simp at hu; subst hu; rfl) hbig (by omega) (by simp; omega) ?_); intro v3 w3 hown3 hgr3 _; obtain ⟨A3, c3, hv3, _, _, _, _⟩ := own_slice hown3; subst hv3; have B3 := Lib.hid (HBW.out.trans (Below.grown ((Below.refl w.heap.size wq).alloc hws _) hgr3 (by simp; omega) (fun k hk => (HO.out.lt k hk).1))); have H3 := Lib.hid hown3; clear hown3 hgr3)
        go_roundw
        case rel => exact ⟨i + 1, 0, l ++ [d], by go_num, rfl, by omega, by omega, Lib.hid (HNX.out _ _ B3.out (by unfold OwnD; rw [List.length_append, HLEN.out, ← intsV_snoc]; have h4 := H3.out; rw [HD.out] at h4; exact h4))⟩
        case measure => simp [intOf]; omega
    · obtain rfl : i = q := by omega
      have hlt' : ¬ (i : Int) < (i : Int) := by omega
      have HS := Lib.hid (HI.out.rest HX.out HYX.out)
      have HLEN2 := Lib.hid (show (Nu.dig (x - y)).length ≤ i from by
        rw [← HS.out]
        refine Nu.dig_len_le ?_
        have := Nu.val_lt HI.out.dig
        rwa [HI.out.len] at this)
      have HNEW := Lib.hid (own_new (show wr.ownsRow w.heap.size 3 1 (.slice Av i cv) i (intsV l) from by have h3 := HI.out.own; unfold OwnD at h3; rw [HI.out.len] at h3; exact h3))
      have HT := Lib.hid (trim_at wr Av cv l (HI.out.own.dr).2 HI.out.dig (by rw [HI.out.len]; omega))
      rw [HS.out, HI.out.len] at HT
      have HB := Lib.hid HI.out.below
      go_wp2_with fail
      refine HT.out.mono ?_
      rintro e w1 ⟨rfl, hd1, rfl⟩
      have HD := Lib.hid hd1
      clear hd1
      go_wp2
      go_ret
      exact ⟨Av, cv, rfl, HD.out, HB.out, fun g hg hl => HNEW.out g hg (by
        have h1 := HLEN2.out
        omega)⟩
theorem take_dig (w : World) (A A2 : Option Addr) (c c2 x y : Nat) (h : Dr w A c (Nu.dig x)) (h2 : Dr w A2 c2 (Nu.dig y)) (hx : (Nu.dig x).length ≤ 500) (hyx : y ≤ x) :
    Calls Tryz.prog 244 #[.slice A (Nu.dig x).length c, .slice A2 (Nu.dig y).length c2] w (DigP w (x - y)) :=
  (take_new w A A2 c c2 x y h h2 hx hyx).mono fun _ _ ⟨A3, c3, h1, h2, h3, _⟩ => ⟨A3, c3, h1, h2, h3⟩
end Go.Proofs.YtdcjpinbflmikaaGreatDoor
namespace Go.Proofs.YtdcjpinbflmikaaGreatDoor
open Go.RowKit
def sg (b : Bool) (n : Nat) : Int := if b then -(n : Int) else n
theorem sg_abs (b : Bool) (n : Nat) : (sg b n).natAbs = n := by cases b <;> simp [sg]
def LgP (w : World) (z : Int) (e : Ending) (w' : World) : Prop := ∃ A c b n, e = .returned (.agg #[.slice A (Nu.dig n).length c, .bool b]) ∧ Dr w' A c (Nu.dig n) ∧ sg b n = z ∧ Below w.heap.size w w'
theorem Dr.below2 {w w' : World} {A : Option Addr} {c : Nat} {l : List Nat} (h : Dr w A c l) (hb : Below w.heap.size w w') : Dr w' A c l := h.below hb (Nat.le_refl _)
set_option maxHeartbeats 2000000 in
set_option maxRecDepth 100000 in
theorem minus_any (w : World) (A : Option Addr) (c n : Nat) (b : Bool) (h : Dr w A c (Nu.dig n)) :
    Calls Tryz.prog 195 #[.agg #[.slice A (Nu.dig n).length c, .bool b]] w (LgP w (- sg b n)) := by
  have H := Lib.hid (show - sg b n = sg (!b) n from by cases b <;> simp [sg])
  have HD := Lib.hid h
  rw [H.out]
  clear h
  obtain ⟨q, hq⟩ : ∃ q, q = (Nu.dig n).length := ⟨_, rfl⟩
  rw [← hq]
  have HQ := Lib.hid hq
  clear hq
  go_enter Tryz.func195, Tryz.ntmps195
  go_wp2
  refine bodyPost_ret (v := .agg #[.slice A q c, .bool (!b)]) (by simp [results, Tryz.results195, go_sem]) rfl ?_
  have hB : ∀ o1 o2, Below w.heap.size w ((w.alloc o1).alloc o2) := fun o1 o2 => ((Below.refl _ _).alloc (Nat.le_refl _) _).alloc (by simp) _
  exact ⟨A, c, !b, n, by rw [HQ.out], HD.out.below2 (hB _ _), rfl, hB _ _⟩
theorem Nu.fits_test {m d : Nat} (hd : d < 10) : ∃ t : Int, (-9223372036854775808 + (d : Int)).tdiv 10 = t ∧ -9223372036854775808 ≤ t ∧ t ≤ 0 ∧ (-(m : Int) < t ↔ 9223372036854775808 < 10 * m + d) := by
  refine ⟨-(((9223372036854775808 - d) / 10 : Nat) : Int), ?_, by omega, by omega, by omega⟩
  have : (-9223372036854775808 + (d : Int)) = -((9223372036854775808 - d : Nat) : Int) := by omega
  rw [this, Int.neg_tdiv, Int.tdiv_eq_ediv_of_nonneg (by omega)]
  rfl
theorem Nu.top_lim {x k : Nat} (h : 9223372036854775808 < x / 10 ^ k) : 9223372036854775808 < x := Nat.lt_of_lt_of_le h (Nat.div_le_self _ _)
def fitV (z : Int) : Value := .tuple #[.int .i64 (if Nu.fits z then z else 0), .bool (decide (Nu.fits z))]
set_option maxHeartbeats 2000000 in
set_option maxRecDepth 100000 in
theorem fits_any (w : World) (A : Option Addr) (c x : Nat) (b : Bool) (h : Dr w A c (Nu.dig x)) (hx : (Nu.dig x).length ≤ 500) :
    Calls Tryz.prog 222 #[.agg #[.slice A (Nu.dig x).length c, .bool b]] w fun e w' => e = .returned (fitV (sg b x)) ∧ Below w.heap.size w w' := by
  obtain ⟨W0, hW0⟩ : ∃ W0, W0 = w.alloc (.cells #[.slice A (Nu.dig x).length c, .bool b] 268) := ⟨_, rfl⟩
  have hb0 : Below w.heap.size w W0 := by rw [hW0]; exact (Below.refl _ _).alloc (Nat.le_refl _) _
  have hk0 : IsBlk W0 w.heap.size 268 #[.slice A (Nu.dig x).length c, .bool b] := by rw [hW0]; exact IsBlk.new _ _ _
  have t0 := hk0.at_ 0
  have t1 := hk0.at_ 1
  have HX := Lib.hid (fun j hj => (h.below2 hb0).get (j := j) hj)
  have H0 := Lib.hid (Nu.top_full x)
  have hqc := h.len
  obtain ⟨q, hq⟩ : ∃ q, q = (Nu.dig x).length := ⟨_, rfl⟩
  rw [← hq] at hx HX hqc t0 hW0 H0 ⊢
  obtain ⟨R, hR⟩ : ∃ R, R = fitV (sg b x) := ⟨_, rfl⟩
  rw [← hR]
  have HR := Lib.hid hR
  have HW0 := Lib.hid hW0
  have HB0 := Lib.hid hb0
  clear h hR hq hW0 hb0 hk0
  simp only [List.getElem?_toArray, List.getElem?_cons_zero, List.getElem?_cons_succ] at t0 t1
  go_enter Tryz.func222, Tryz.ntmps222
  go_wp2
  rw [← HW0.out]
  go_loop [4, 5] (fun nv iv => ∃ k m : Nat, nv = .int .i64 (-(m : Int)) ∧ iv = .int .i64 ((k : Int) - 1) ∧ k ≤ q ∧ m ≤ 9223372036854775808 ∧ Hid (m = x / 10 ^ k)) (fun _ iv => (intOf iv + 1).toNat)
  case atStart => exact ⟨q, 0, rfl, rfl, Nat.le_refl _, by omega, Lib.hid H0.out.symm⟩
  case round =>
    obtain ⟨k, m, rfl, rfl, hk, hm, HI⟩ := hrel
    rcases k with _ | k
    · have hneg : ¬ ((0 : Nat) : Int) - 1 ≥ 0 := by omega
      have HM := Lib.hid (HI.out.trans (Nu.top_zero x))
      have hF : ∀ z : Int, ∀ p : Bool, (Nu.fits z ↔ p = true) → fitV z = .tuple #[.int .i64 (if p then z else 0), .bool p] := fun z p hp => by
        unfold fitV
        cases p with
        | true => rw [if_pos (hp.2 rfl), decide_eq_true (hp.2 rfl)]; rfl
        | false => rw [if_neg (fun h => by have := hp.1 h; cases this), decide_eq_false (fun h => by have := hp.1 h; cases this)]; rfl
      have HF := Lib.hid hF
      clear hF HI
      cases b with
      | true =>
        have HE := Lib.hid (show R = .tuple #[.int .i64 (-(m : Int)), .bool true] by rw [HR.out, HF.out _ true (by unfold Nu.fits sg; have := HM.out; simp; omega), ← HM.out]; rfl)
        go_wp2
        go_ret2
        exact ⟨by rw [HE.out]; rfl, HB0.out⟩
      | false =>
        by_cases hz : m = 0
        · subst hz
          have HE := Lib.hid (show R = .tuple #[.int .i64 0, .bool true] by rw [HR.out, HF.out _ true (by unfold Nu.fits sg; have := HM.out; simp; omega), ← HM.out]; rfl)
          go_wp2
          go_ret2
          exact ⟨by rw [HE.out]; rfl, HB0.out⟩
        · have hz' : (-(m : Int) == 0) = false := beq_eq_false_iff_ne.2 (by omega)
          by_cases hl : m = 9223372036854775808
          · have HE := Lib.hid (show R = .tuple #[.int .i64 0, .bool false] by rw [HR.out, HF.out _ false (by unfold Nu.fits sg; have := HM.out; simp; omega), ← HM.out]; rfl)
            have hl' : (-(m : Int) == -9223372036854775808) = true := beq_iff_eq.2 (by omega)
            clear hl
            go_wp2
            go_ret2
            exact ⟨by rw [HE.out]; rfl, HB0.out⟩
          · have HE := Lib.hid (show R = .tuple #[.int .i64 (m : Int), .bool true] by rw [HR.out, HF.out _ true (by unfold Nu.fits sg; have := HM.out; simp; omega), ← HM.out]; rfl)
            have hl' : (-(m : Int) == -9223372036854775808) = false := beq_eq_false_iff_ne.2 (by omega)
            have hl2 : -(-(m : Int)) = (m : Int) := by omega
            have hm2 : m < 9223372036854775808 := by omega
            clear hl
            go_wp2
            go_ret2
            exact ⟨by rw [HE.out]; rfl, HB0.out⟩
    · obtain ⟨g, hA, hg, hc⟩ := HX.out k (by omega)
      subst hA
      have e0 : ((k + 1 : Nat) : Int) - 1 = (k : Int) := by omega
      rw [e0]
      have HST := Lib.hid (Nu.top_step x k)
      have HXD := Lib.hid (Nu.top_lim (x := x) (k := k))
      have hd9 : x / 10 ^ k % 10 < 10 := Nat.mod_lt _ (by decide)
      generalize x / 10 ^ k % 10 = d at *
      obtain ⟨t, ht, ht1, ht2, ht3⟩ := Nu.fits_test (m := m) hd9
      have HT3 := Lib.hid ht3
      have hkq : (k : Int) < (q : Int) := by omega
      clear e0 ht3
      by_cases hlim : 9223372036854775808 < 10 * m + d
      · have htt : -(m : Int) < t := HT3.out.2 hlim
        have HE := Lib.hid (show R = .tuple #[.int .i64 0, .bool false] by
          have h1 := HXD.out (by rw [HST.out, ← HI.out]; exact hlim)
          rw [HR.out]
          unfold fitV
          have h2 : ¬ Nu.fits (sg b x) := by cases b <;> (unfold Nu.fits sg; simp; omega)
          rw [if_neg h2, decide_eq_false h2])
        clear hlim
        go_wp2
        go_ret2
        exact ⟨by rw [HE.out]; rfl, HB0.out⟩
      · have htt : ¬ -(m : Int) < t := fun h => hlim (HT3.out.1 h)
        have hm2 : 10 * m + d ≤ 9223372036854775808 := by omega
        have hs1 : 10 * -(m : Int) - (d : Int) = -((10 * m + d : Nat) : Int) := by omega
        have HN := Lib.hid (show 10 * m + d = x / 10 ^ k by rw [HST.out, ← HI.out])
        clear hlim
        go_wp2
        go_round
        case rel => exact ⟨k, 10 * m + d, by first | rfl | (congr 1; omega), rfl, by omega, by omega, HN⟩
        case measure => simp [intOf]
set_option maxHeartbeats 2000000 in
theorem told_any (w : World) (A : Option Addr) (c x : Nat) (b : Bool) (h : Dr w A c (Nu.dig x)) (hx : (Nu.dig x).length ≤ 500) :
    Calls Tryz.prog 194 #[.agg #[.slice A (Nu.dig x).length c, .bool b]] w fun e w' => e = .returned (tv (Nu.tell (sg b x))) ∧ Below w.heap.size w w' := by
  obtain ⟨W0, hW0⟩ : ∃ W0, W0 = w.alloc (.cells #[.slice A (Nu.dig x).length c, .bool b] 268) := ⟨_, rfl⟩
  have hb0 : Below w.heap.size w W0 := by rw [hW0]; exact (Below.refl _ _).alloc (Nat.le_refl _) _
  have HF := Lib.hid (fits_any W0 A c x b (h.below2 hb0) hx)
  have HB0 := Lib.hid hb0
  have HW0 := Lib.hid hW0
  unfold fitV at HF
  clear h hb0 hW0
  generalize (Nu.dig x).length = q at *
  generalize sg b x = z at *
  by_cases hf : Nu.fits z
  · rw [Nu.tell_in hf]
    rw [if_pos hf, decide_eq_true hf] at HF
    clear hf
    go_enter Tryz.func194, Tryz.ntmps194
    go_wp2_with fail
    rw [← HW0.out]
    refine HF.out.mono ?_
    rintro e w1 ⟨rfl, h1⟩
    have HB := Lib.hid (HB0.out.trans (h1.mono HB0.out.size))
    clear h1
    go_wp2
    go_ret2
    exact ⟨rfl, HB.out⟩
  · rw [Nu.tell_out hf]
    rw [if_neg hf, decide_eq_false hf] at HF
    clear hf
    go_enter Tryz.func194, Tryz.ntmps194
    go_wp2_with fail
    rw [← HW0.out]
    refine HF.out.mono ?_
    rintro e w1 ⟨rfl, h1⟩
    have HB := Lib.hid (HB0.out.trans (h1.mono HB0.out.size))
    clear h1
    go_wp2
    go_ret2
    exact ⟨rfl, HB.out⟩
end Go.Proofs.YtdcjpinbflmikaaGreatDoor
namespace Go.Proofs.YtdcjpinbflmikaaGreatDoor
open Go.RowKit
theorem sz (w : World) (o : Obj) : (w.alloc o).heap.size = w.heap.size + 1 := by simp
theorem plus_same (b : Bool) (x y : Nat) : sg b x + sg b y = sg b (x + y) := by cases b <;> simp [sg] <;> omega
theorem plus_less (b : Bool) {x y : Nat} (h : x < y) : sg b x + sg (!b) y = sg (!b) (y - x) := by cases b <;> simp [sg] <;> omega
theorem plus_more (b : Bool) {x y : Nat} (h : ¬ x < y) : sg b x + sg (!b) y = sg b (x - y) := by cases b <;> simp [sg] <;> omega
theorem Dr.far {w : World} {A : Option Addr} {c : Nat} {l : List Nat} (h : Dr w A c l) {r : Nat} {u0 : Option Addr} {n0 c0 : Nat} (hk : w.cell? ⟨r, 0, none⟩ = some (.slice u0 n0 c0)) (v0 v1 : Value) : Dr ((w.setCell ⟨r, 0, none⟩ v0).setCell ⟨r, 1, none⟩ v1) A c l :=
  ⟨h.1, fun j hj => by
    obtain ⟨g, h1, h2, h3⟩ := h.2 j hj
    obtain ⟨g', q1, q2, q3⟩ := h.2 0 (by omega)
    have hgr : g ≠ r := by
      rintro rfl
      obtain rfl : g' = g := by rw [h1] at q1; injection q1 with q1; injection q1 with q1; exact q1.symm
      rw [hk] at q3
      cases q3
    refine ⟨g, h1, by simp [World.setCell]; exact h2, ?_⟩
    have e1 := Below.heap_setCell w ⟨r, 0, none⟩ v0 g hgr
    have e2 := Below.heap_setCell (w.setCell ⟨r, 0, none⟩ v0) ⟨r, 1, none⟩ v1 g hgr
    rw [World.cell?_of_block (a := ⟨g, j, none⟩) (e2.trans e1)]
    exact h3⟩
theorem s4 {W w3 : World} {a : Nat} {u0 u1 u2 u3 v0 v1 : Value} (hb : Below (a + 2) W w3) (t0 : W.cell? ⟨a, 0, none⟩ = some u0) (t1 : W.cell? ⟨a, 1, none⟩ = some u1) (t2 : W.cell? ⟨a + 1, 0, none⟩ = some u2) (t3 : W.cell? ⟨a + 1, 1, none⟩ = some u3) :
    ((w3.setCell ⟨a + 1 + 1, 0, none⟩ v0).setCell ⟨a + 1 + 1, 1, none⟩ v1).cell? ⟨a, 0, none⟩ = some u0 ∧ ((w3.setCell ⟨a + 1 + 1, 0, none⟩ v0).setCell ⟨a + 1 + 1, 1, none⟩ v1).cell? ⟨a, 1, none⟩ = some u1 ∧
    ((w3.setCell ⟨a + 1 + 1, 0, none⟩ v0).setCell ⟨a + 1 + 1, 1, none⟩ v1).cell? ⟨a + 1, 0, none⟩ = some u2 ∧ ((w3.setCell ⟨a + 1 + 1, 0, none⟩ v0).setCell ⟨a + 1 + 1, 1, none⟩ v1).cell? ⟨a + 1, 1, none⟩ = some u3 := by
  have h := (hb.setCell (p := ⟨a + 1 + 1, 0, none⟩) (by show a + 2 ≤ a + 1 + 1; omega) v0).setCell (p := ⟨a + 1 + 1, 1, none⟩) (by show a + 2 ≤ a + 1 + 1; omega) v1
  exact ⟨(h.cell (p := ⟨a, 0, none⟩) (by show a < a + 2; omega)).trans t0, (h.cell (p := ⟨a, 1, none⟩) (by show a < a + 2; omega)).trans t1, (h.cell (p := ⟨a + 1, 0, none⟩) (by show a + 1 < a + 2; omega)).trans t2, (h.cell (p := ⟨a + 1, 1, none⟩) (by show a + 1 < a + 2; omega)).trans t3⟩
theorem below_two {w w3 : World} (h : Below w.heap.size w w3) (v0 v1 : Value) : Below w.heap.size w ((w3.setCell ⟨w.heap.size + 1 + 1, 0, none⟩ v0).setCell ⟨w.heap.size + 1 + 1, 1, none⟩ v1) :=
  (h.setCell (p := ⟨_, 0, none⟩) (by show w.heap.size ≤ w.heap.size + 1 + 1; omega) v0).setCell (p := ⟨_, 1, none⟩) (by show w.heap.size ≤ w.heap.size + 1 + 1; omega) v1
set_option maxHeartbeats 2000000 in
set_option maxRecDepth 100000 in
theorem plus_any (w : World) (A A2 : Option Addr) (c c2 x y : Nat) (b b2 : Bool) (h : Dr w A c (Nu.dig x)) (h2 : Dr w A2 c2 (Nu.dig y)) (hx : (Nu.dig x).length ≤ 400) (hy : (Nu.dig y).length ≤ 400) :
    Calls Tryz.prog 225 #[.agg #[.slice A (Nu.dig x).length c, .bool b], .agg #[.slice A2 (Nu.dig y).length c2, .bool b2]] w (LgP w (sg b x + sg b2 y)) := by
  obtain ⟨W0, hW0⟩ : ∃ W0, W0 = ((w.alloc (.cells #[.slice A (Nu.dig x).length c, .bool b] 268)).alloc (.cells #[.slice A2 (Nu.dig y).length c2, .bool b2] 268)).alloc (.cells #[.slice none 0 0, .bool false] 268) := ⟨_, rfl⟩
  have hb0 : Below w.heap.size w W0 := by rw [hW0]; exact (((Below.refl _ _).alloc (Nat.le_refl _) _).alloc (by simp) _).alloc (by simp only [sz]; omega) _
  have hk0 : IsBlk W0 w.heap.size 268 #[.slice A (Nu.dig x).length c, .bool b] := by
    rw [hW0]
    refine IsBlk.below (B := w.heap.size + 1) (IsBlk.new w _ _) ?_ (by omega)
    exact ((Below.refl _ _).alloc (by simp) _).alloc (by simp) _
  have hk1 : IsBlk W0 (w.heap.size + 1) 268 #[.slice A2 (Nu.dig y).length c2, .bool b2] := by
    rw [hW0]
    have := IsBlk.new (w.alloc (.cells #[.slice A (Nu.dig x).length c, .bool b] 268)) 268 #[.slice A2 (Nu.dig y).length c2, .bool b2]
    rw [sz] at this
    refine IsBlk.below (B := w.heap.size + 2) this ?_ (by omega)
    exact (Below.refl _ _).alloc (by simp) _
  have hk2 : IsBlk W0 (w.heap.size + 2) 268 #[.slice none 0 0, .bool false] := by
    rw [hW0]
    have := IsBlk.new ((w.alloc (.cells #[.slice A (Nu.dig x).length c, .bool b] 268)).alloc (.cells #[.slice A2 (Nu.dig y).length c2, .bool b2] 268)) 268 #[.slice none 0 0, .bool false]
    rw [sz, sz] at this
    exact this
  have HK2 := Lib.hid hk2
  clear hk2
  have hs0 : W0.heap.size = w.heap.size + 3 := by rw [hW0]; simp
  have t0 := hk0.at_ 0
  have t1 := hk0.at_ 1
  have t2 := hk1.at_ 0
  have t3 := hk1.at_ 1
  simp only [List.getElem?_toArray, List.getElem?_cons_zero, List.getElem?_cons_succ] at t0 t1 t2 t3
  have HADD := Lib.hid (fun w1 (hb : Below W0.heap.size W0 w1) => add_dig w1 A A2 c c2 x y ((h.below2 hb0).below2 hb) ((h2.below2 hb0).below2 hb) (by omega) (by omega))
  have HLESS := Lib.hid (less_any W0 A A2 c c2 x y (h.below2 hb0) (h2.below2 hb0) (by omega))
  have HTK := Lib.hid (fun w1 (hb : Below W0.heap.size W0 w1) (hyx : y ≤ x) => take_dig w1 A A2 c c2 x y ((h.below2 hb0).below2 hb) ((h2.below2 hb0).below2 hb) (by omega) hyx)
  have HTK2 := Lib.hid (fun w1 (hb : Below W0.heap.size W0 w1) (hxy : x ≤ y) => take_dig w1 A2 A c2 c y x ((h2.below2 hb0).below2 hb) ((h.below2 hb0).below2 hb) (by omega) hxy)
  generalize (Nu.dig x).length = n at *
  generalize (Nu.dig y).length = m at *
  have HL := Lib.hid (show w.heap.size < W0.heap.size ∧ w.heap.size + 1 < W0.heap.size by omega)
  have HW0 := Lib.hid hW0
  have HB0 := Lib.hid hb0
  clear h h2 hW0 hb0 hk0 hk1
  by_cases hbb : b = b2
  · subst hbb
    rw [plus_same]
    clear HLESS HTK HTK2
    go_enter Tryz.func225, Tryz.ntmps225
    go_wp2
    rw [← HW0.out]
    go_region_held3 (fun w' => w'.cell? ⟨w.heap.size, 0, none⟩ = some (.slice A n c) ∧ w'.cell? ⟨w.heap.size, 1, none⟩ = some (.bool b) ∧ w'.cell? ⟨w.heap.size + 1, 0, none⟩ = some (.slice A2 m c2) ∧ w'.cell? ⟨w.heap.size + 1, 1, none⟩ = some (.bool b))
        (first | exact ⟨t0, t1, t2, t3⟩ | exact ⟨(h3.cell (p := ⟨w.heap.size, 0, none⟩) HL.out.1).trans t0, (h3.cell (p := ⟨w.heap.size, 1, none⟩) HL.out.1).trans t1, (h3.cell (p := ⟨w.heap.size + 1, 0, none⟩) HL.out.2).trans t2, (h3.cell (p := ⟨w.heap.size + 1, 1, none⟩) HL.out.2).trans t3⟩ | exact s4 (h3.mono HL.out.2) t0 t1 t2 t3)
        (first | (go_at_call 242; refine (HADD.out _ ((Below.refl _ _).drew)).mono ?_; rintro e w3 ⟨A3, c3, rfl, hd3, h3⟩; have kb := HK2.out.below ((Below.refl W0.heap.size W0).drew.trans h3) HK2.out.lt; have k0 := kb.at_ 0; have k1 := kb.at_ 1; have f0 := kb.fz 0; have f1 := kb.fz 1; have KB := Lib.hid kb; have HD3 := Lib.hid hd3; clear kb hd3; simp only [List.getElem?_toArray, List.getElem?_cons_zero, List.getElem?_cons_succ] at k0 k1))
    go_wp2
    refine bodyPost_ret (v := .agg #[.slice A3 (Nu.dig (x + y)).length c3, .bool b]) (by simp [results, Tryz.results225, go_sem, k0, k1]) rfl ?_
    exact ⟨A3, c3, b, x + y, rfl, HD3.out.far k0 _ _, rfl, below_two (HB0.out.trans (((Below.refl W0.heap.size W0).drew.trans h3).mono HB0.out.size)) _ _⟩
  · have HBN := Lib.hid (show b2 = !b by cases b <;> cases b2 <;> simp_all)
    have hne1 : (b == b2) = false := by cases b <;> cases b2 <;> simp_all
    clear hbb HADD
    by_cases hlt : x < y
    · rw [show sg b x + sg b2 y = sg b2 (y - x) by rw [HBN.out]; exact plus_less b hlt]
      have hle : x ≤ y := Nat.le_of_lt hlt
      rw [decide_eq_true hlt] at HLESS
      have HT := Lib.hid (fun w1 hb => HTK2.out w1 hb hle)
      clear hlt hle HTK HTK2
      go_enter Tryz.func225, Tryz.ntmps225
      go_wp2_with fail
      rw [← HW0.out]
      refine HLESS.out.mono ?_
      rintro e w1 ⟨rfl, h1⟩
      replace t0 := (h1.cell (p := ⟨w.heap.size, 0, none⟩) HL.out.1).trans t0
      replace t1 := (h1.cell (p := ⟨w.heap.size, 1, none⟩) HL.out.1).trans t1
      replace t2 := (h1.cell (p := ⟨w.heap.size + 1, 0, none⟩) HL.out.2).trans t2
      replace t3 := (h1.cell (p := ⟨w.heap.size + 1, 1, none⟩) HL.out.2).trans t3
      have HT1 := Lib.hid (fun w2 (hb : Below w1.heap.size w1 w2) => HT.out w2 (h1.trans (hb.mono h1.size)))
      replace HK2 := Lib.hid (HK2.out.below h1 HK2.out.lt)
      replace HL := Lib.hid (show w.heap.size < w1.heap.size ∧ w.heap.size + 1 < w1.heap.size from ⟨Nat.lt_of_lt_of_le HL.out.1 h1.size, Nat.lt_of_lt_of_le HL.out.2 h1.size⟩)
      replace HB0 := Lib.hid (HB0.out.trans (h1.mono HB0.out.size))
      clear HT HW0 HLESS h1 hs0
      clear W0
      obtain ⟨W0, hW0⟩ : ∃ W, W = w1 := ⟨_, rfl⟩
      subst hW0
      go_wp2
      go_region_held3 (fun w' => w'.cell? ⟨w.heap.size, 0, none⟩ = some (.slice A n c) ∧ w'.cell? ⟨w.heap.size, 1, none⟩ = some (.bool b) ∧ w'.cell? ⟨w.heap.size + 1, 0, none⟩ = some (.slice A2 m c2) ∧ w'.cell? ⟨w.heap.size + 1, 1, none⟩ = some (.bool b2))
          (first | exact ⟨t0, t1, t2, t3⟩ | exact ⟨(h3.cell (p := ⟨w.heap.size, 0, none⟩) HL.out.1).trans t0, (h3.cell (p := ⟨w.heap.size, 1, none⟩) HL.out.1).trans t1, (h3.cell (p := ⟨w.heap.size + 1, 0, none⟩) HL.out.2).trans t2, (h3.cell (p := ⟨w.heap.size + 1, 1, none⟩) HL.out.2).trans t3⟩ | exact s4 (h3.mono HL.out.2) t0 t1 t2 t3)
          (first | (go_at_call 244; refine (HT1.out _ ((Below.refl _ _).drew)).mono ?_; rintro e w3 ⟨A3, c3, rfl, hd3, h3⟩; have kb := HK2.out.below ((Below.refl W0.heap.size W0).drew.trans h3) HK2.out.lt; have k0 := kb.at_ 0; have k1 := kb.at_ 1; have f0 := kb.fz 0; have f1 := kb.fz 1; have KB := Lib.hid kb; have HD3 := Lib.hid hd3; clear kb hd3; simp only [List.getElem?_toArray, List.getElem?_cons_zero, List.getElem?_cons_succ] at k0 k1))
      go_wp2
      refine bodyPost_ret (v := .agg #[.slice A3 (Nu.dig (y - x)).length c3, .bool b2]) (by simp [results, Tryz.results225, go_sem, k0, k1]) rfl ?_
      exact ⟨A3, c3, b2, y - x, rfl, HD3.out.far k0 _ _, rfl, below_two (HB0.out.trans (((Below.refl W0.heap.size W0).drew.trans h3).mono HB0.out.size)) _ _⟩
    · rw [show sg b x + sg b2 y = sg b (x - y) by rw [HBN.out]; exact plus_more b hlt]
      have hle : y ≤ x := by omega
      rw [decide_eq_false hlt] at HLESS
      have HT := Lib.hid (fun w1 hb => HTK.out w1 hb hle)
      clear hlt hle HTK HTK2
      go_enter Tryz.func225, Tryz.ntmps225
      go_wp2_with fail
      rw [← HW0.out]
      refine HLESS.out.mono ?_
      rintro e w1 ⟨rfl, h1⟩
      replace t0 := (h1.cell (p := ⟨w.heap.size, 0, none⟩) HL.out.1).trans t0
      replace t1 := (h1.cell (p := ⟨w.heap.size, 1, none⟩) HL.out.1).trans t1
      replace t2 := (h1.cell (p := ⟨w.heap.size + 1, 0, none⟩) HL.out.2).trans t2
      replace t3 := (h1.cell (p := ⟨w.heap.size + 1, 1, none⟩) HL.out.2).trans t3
      have HT1 := Lib.hid (fun w2 (hb : Below w1.heap.size w1 w2) => HT.out w2 (h1.trans (hb.mono h1.size)))
      replace HK2 := Lib.hid (HK2.out.below h1 HK2.out.lt)
      replace HL := Lib.hid (show w.heap.size < w1.heap.size ∧ w.heap.size + 1 < w1.heap.size from ⟨Nat.lt_of_lt_of_le HL.out.1 h1.size, Nat.lt_of_lt_of_le HL.out.2 h1.size⟩)
      replace HB0 := Lib.hid (HB0.out.trans (h1.mono HB0.out.size))
      clear HT HW0 HLESS h1 hs0
      clear W0
      obtain ⟨W0, hW0⟩ : ∃ W, W = w1 := ⟨_, rfl⟩
      subst hW0
      go_wp2
      go_region_held3 (fun w' => w'.cell? ⟨w.heap.size, 0, none⟩ = some (.slice A n c) ∧ w'.cell? ⟨w.heap.size, 1, none⟩ = some (.bool b) ∧ w'.cell? ⟨w.heap.size + 1, 0, none⟩ = some (.slice A2 m c2) ∧ w'.cell? ⟨w.heap.size + 1, 1, none⟩ = some (.bool b2))
          (first | exact ⟨t0, t1, t2, t3⟩ | exact ⟨(h3.cell (p := ⟨w.heap.size, 0, none⟩) HL.out.1).trans t0, (h3.cell (p := ⟨w.heap.size, 1, none⟩) HL.out.1).trans t1, (h3.cell (p := ⟨w.heap.size + 1, 0, none⟩) HL.out.2).trans t2, (h3.cell (p := ⟨w.heap.size + 1, 1, none⟩) HL.out.2).trans t3⟩ | exact s4 (h3.mono HL.out.2) t0 t1 t2 t3)
          (first | (go_at_call 244; refine (HT1.out _ ((Below.refl _ _).drew)).mono ?_; rintro e w3 ⟨A3, c3, rfl, hd3, h3⟩; have kb := HK2.out.below ((Below.refl W0.heap.size W0).drew.trans h3) HK2.out.lt; have k0 := kb.at_ 0; have k1 := kb.at_ 1; have f0 := kb.fz 0; have f1 := kb.fz 1; have KB := Lib.hid kb; have HD3 := Lib.hid hd3; clear kb hd3; simp only [List.getElem?_toArray, List.getElem?_cons_zero, List.getElem?_cons_succ] at k0 k1))
      go_wp2
      refine bodyPost_ret (v := .agg #[.slice A3 (Nu.dig (x - y)).length c3, .bool b]) (by simp [results, Tryz.results225, go_sem, k0, k1]) rfl ?_
      exact ⟨A3, c3, b, x - y, rfl, HD3.out.far k0 _ _, rfl, below_two (HB0.out.trans (((Below.refl W0.heap.size W0).drew.trans h3).mono HB0.out.size)) _ _⟩
end Go.Proofs.YtdcjpinbflmikaaGreatDoor
namespace Go.Proofs.YtdcjpinbflmikaaGreatDoor
open Go.RowKit
theorem of_step (b : Bool) (r : Nat) : (sg b r).tmod 10 = sg b (r % 10) ∧ max (sg b (r % 10)) (-(sg b (r % 10))) = ((r % 10 : Nat) : Int) ∧ (sg b r).tdiv 10 = sg b (r / 10) := by
  cases b
  · refine ⟨?_, ?_, ?_⟩
    · show ((r : Int)).tmod 10 = _; rw [Int.tmod_eq_emod_of_nonneg (by omega)]; rfl
    · show max ((r % 10 : Nat) : Int) (-((r % 10 : Nat) : Int)) = _; omega
    · show ((r : Int)).tdiv 10 = _; rw [Int.tdiv_eq_ediv_of_nonneg (by omega)]; rfl
  · refine ⟨?_, ?_, ?_⟩
    · show (-(r : Int)).tmod 10 = _; rw [Int.neg_tmod, Int.tmod_eq_emod_of_nonneg (by omega)]; rfl
    · show max (-((r % 10 : Nat) : Int)) (-(-((r % 10 : Nat) : Int))) = _; omega
    · show (-(r : Int)).tdiv 10 = _; rw [Int.neg_tdiv, Int.tdiv_eq_ediv_of_nonneg (by omega)]; rfl
structure OfI (w : World) (b : Bool) (N r : Nat) (v : Value) (l : List Nat) (wr : World) : Prop where
  below : Below w.heap.size w wr
  blk : IsBlk wr (w.heap.size + 1) 268 #[v, .bool b]
  res : IsBlk wr w.heap.size 268 #[.slice none 0 0, .bool false]
  own : OwnD (w.heap.size + 2) wr v l
  eq : l ++ Nu.dig r = Nu.dig N
theorem OfI.next {w : World} {b : Bool} {N r : Nat} {v v' : Value} {l : List Nat} {wr w' : World} (h : OfI w b N r v l wr) (hr : r ≠ 0) (hb : Below (w.heap.size + 2) wr w') (ho : OwnD (w.heap.size + 2) w' v' (l ++ [r % 10])) :
    OfI w b N (r / 10) v' (l ++ [r % 10]) (w'.setCell ⟨w.heap.size + 1, 0, none⟩ v') := by
  have hs := h.blk.lt
  refine ⟨(h.below.trans (hb.mono (by omega))).setCell (p := ⟨_, 0, none⟩) (by show w.heap.size ≤ w.heap.size + 1; omega) _, (h.blk.below hb (by omega)).set 0 v', (h.res.below hb (by omega)).far (by show w.heap.size ≠ w.heap.size + 1; omega) _, ?_, ?_⟩
  · exact ownsRow_setCell_below ho (a := ⟨_, 0, none⟩) (by show w.heap.size + 1 < w.heap.size + 2; omega) _
  · rw [List.append_assoc, List.singleton_append, ← Nu.dig_pos hr]; exact h.eq
set_option maxHeartbeats 4000000 in
set_option maxRecDepth 100000 in
theorem nuof_any (w : World) (b : Bool) (N : Nat) (hf : Nu.fits (sg b N)) (hb0 : b = true → N ≠ 0) :
    Calls Tryz.prog 196 #[.int .i64 (sg b N)] w (LgP w (sg b N)) := by
  have hlt : decide (sg b N < 0) = b := by cases b with
    | true => exact decide_eq_true (by have := hb0 rfl; unfold sg; simp; omega)
    | false => exact decide_eq_false (by unfold sg; simp)
  have hNL : (Nu.dig N).length ≤ 100 := by
    refine Nat.le_trans (Nu.dig_len_le (n := N) (k := 19) ?_) (by decide)
    unfold Nu.fits sg at hf; cases b <;> simp at hf <;> omega
  obtain ⟨W0, hW0⟩ : ∃ W0, W0 = (w.alloc (.cells #[.slice none 0 0, .bool false] 268)).alloc (.cells #[.slice none 0 0, .bool b] 268) := ⟨_, rfl⟩
  have H0 := Lib.hid (show OfI w b N N (.slice none 0 0) [] W0 by
    have hb1 : Below w.heap.size w W0 := by rw [hW0]; exact ((Below.refl _ _).alloc (Nat.le_refl _) _).alloc (by simp) _
    refine ⟨hb1, ?_, ?_, ?_, rfl⟩
    · rw [hW0]
      have := IsBlk.new (w.alloc (.cells #[.slice none 0 0, .bool false] 268)) 268 #[.slice none 0 0, .bool b]
      rw [sz] at this
      exact this
    · rw [hW0]
      exact IsBlk.below (B := w.heap.size + 1) (IsBlk.new w _ _) ((Below.refl _ _).alloc (by simp) _) (by omega)
    · unfold OwnD; exact World.ownsRow_nil _ _ _ _)
  have HW0 := Lib.hid hW0
  have HNL := Lib.hid hNL
  obtain ⟨z0, hz0⟩ : ∃ z, z = sg b N := ⟨_, rfl⟩
  have HZ0 := Lib.hid hz0
  rw [← hz0] at hlt hf ⊢
  unfold Nu.fits at hf
  have hN : N ≤ 9223372036854775808 := by unfold sg at hz0; cases b <;> simp at hz0 <;> omega
  clear hz0 hW0 hb0 hNL
  go_enter Tryz.func196, Tryz.ntmps196
  go_wp2
  rw [← HW0.out]
  go_loopw [0] (fun zv wr => ∃ (r : Nat) (z : Int) (l : List Nat) (v : Value), zv = .int .i64 z ∧ r ≤ N ∧ Hid (z = sg b r ∧ OfI w b N r v l wr)) (fun zv _ => (intOf zv).natAbs)
  case atStart => exact ⟨N, z0, [], _, rfl, Nat.le_refl _, Lib.hid ⟨HZ0.out, H0.out⟩⟩
  case round =>
    obtain ⟨r, z, l, v, rfl, hr, HI⟩ := hrel
    obtain ⟨Av, cv, hv, _, _, _, _⟩ := own_slice HI.out.2.own
    subst hv
    have k0 := HI.out.2.blk.at_ 0
    have k1 := HI.out.2.blk.at_ 1
    have q0 := HI.out.2.res.at_ 0
    have q1 := HI.out.2.res.at_ 1
    have f0 := HI.out.2.blk.fz 0
    have g0 := HI.out.2.res.fz 0
    have g1 := HI.out.2.res.fz 1
    simp only [List.getElem?_toArray, List.getElem?_cons_zero, List.getElem?_cons_succ] at k0 k1 q0 q1
    have hzb : -9223372036854775808 ≤ z ∧ z ≤ 9223372036854775807 := by have h1 := HI.out.1; have h2 := HZ0.out; unfold sg at h1 h2; cases b <;> simp at h1 h2 <;> omega
    by_cases hr0 : r = 0
    · have hz : z = 0 := by have h1 := HI.out.1; unfold sg at h1; cases b <;> simp at h1 <;> omega
      subst hz hr0
      have HL := Lib.hid (show l = Nu.dig N from by have := HI.out.2.eq; rwa [Nu.dig_zero, List.append_nil] at this)
      have HR := Lib.hid (HI.out.2.own.dr).2
      have HB := Lib.hid HI.out.2.below
      have HQ := Lib.hid (show l.length = (Nu.dig N).length by rw [HL.out])
      clear f0
      go_wp2
      refine bodyPost_ret (v := .agg #[.slice Av l.length cv, .bool b]) (by simp [results, Tryz.results196, go_sem, q0, q1]) rfl ?_
      have hd := HR.out
      rw [HL.out] at hd
      exact ⟨Av, cv, b, N, by rw [HQ.out], hd.far q0 _ _, HZ0.out.symm, (HB.out.setCell (p := ⟨_, 0, none⟩) (Nat.le_refl _) _).setCell (p := ⟨_, 1, none⟩) (Nat.le_refl _) _⟩
    · have hz : ¬ z = 0 := by have h1 := HI.out.1; unfold sg at h1; cases b <;> simp at h1 <;> omega
      have hz' : (z != 0) = true := by simp [bne, hz]
      obtain ⟨s1, s2, s3⟩ := of_step b r
      rw [← HI.out.1] at s1 s3
      have HM := Lib.hid (show (sg b (r / 10)).natAbs < z.natAbs by rw [HI.out.1, sg_abs, sg_abs]; omega)
      obtain ⟨dz, hdz⟩ : ∃ d, d = sg b (r % 10) := ⟨_, rfl⟩
      obtain ⟨zq, hzq⟩ : ∃ q, q = sg b (r / 10) := ⟨_, rfl⟩
      have hdz9 : -10 < dz ∧ dz < 10 := by unfold sg at hdz; cases b <;> simp at hdz <;> omega
      rw [← hdz] at s1 s2
      rw [← hzq] at s3 HM
      have HZQ := Lib.hid hzq
      have hzqb : -9223372036854775808 ≤ zq ∧ zq ≤ 9223372036854775807 := by have h1 := HM.out; omega
      obtain ⟨d, hd⟩ : ∃ d, d = r % 10 := ⟨_, rfl⟩
      rw [← hd] at s2
      have HO := Lib.hid (show wr.ownsRow (w.heap.size + 2) 3 1 (.slice Av l.length cv) l.length (intsV l) from HI.out.2.own)
      have HNX := Lib.hid (fun v' w' hb ho => HI.out.2.next (v' := v') (w' := w') hr0 hb ho)
      rw [← hd] at HNX
      have HBK := Lib.hid HI.out.2.blk
      have hl10 : l.length ≤ 100 := by have h1 := HNL.out; rw [← HI.out.2.eq, List.length_append] at h1; omega
      have hws : w.heap.size + 2 ≤ wr.heap.size := by have := HI.out.2.blk.lt; omega
      have HR0 := Lib.hid (show r / 10 ≤ N by omega)
      clear hdz hzq hd hz hzb hr0 hr
      obtain ⟨i0, hi0, hz0, hz1, hz2⟩ := info_parts infoInt
      have hbig : l.length + 1 ≤ maxLen := by unfold maxLen; omega
      clear q0 q1 g0 g1
      go_wp2_with (at_builtin; (refine wpList_append_own _ rfl _ _ _ rfl (w.heap.size + 2) 3 i0 _ 1 8 Tryz.underlying166 hi0 hz0 hz1 hz2 rfl (by omega) (.slice Av l.length cv) l.length (intsV l) (by rfl) (by exact HO.out.alloc _) _ 1 _ [.int .i64 d] (by rfl) rfl (by intro j u hu; exact news_at _ _ _ _ (by simp) j u hu) (by intro u hu; simp at hu; subst hu; rfl) hbig (by omega) (by simp; omega) ?_); intro v3 w3 hown3 hgr3 _; obtain ⟨A3, c3, hv3, _, _, _, _⟩ := own_slice hown3; subst hv3; have B3 := Lib.hid (Below.grown ((Below.refl (w.heap.size + 2) wr).alloc hws _) hgr3 (by simp; omega) (fun k hk => (HO.out.lt k hk).1)); have H3 := Lib.hid hown3; have kb := HBK.out.below B3.out (by omega); have k0 := kb.at_ 0; have k1 := kb.at_ 1; have f0 := kb.fz 0; clear kb hown3 hgr3; simp only [List.getElem?_toArray, List.getElem?_cons_zero, List.getElem?_cons_succ] at k0 k1)
      go_roundw
      case rel =>
        refine ⟨r / 10, zq, l ++ [d], .slice A3 (l.length + 1) c3, rfl, HR0.out, Lib.hid ⟨HZQ.out, HNX.out _ _ B3.out ?_⟩⟩
        unfold OwnD
        rw [List.length_append, ← intsV_snoc]
        exact H3.out
      case measure => have := HM.out; simpa [intOf] using this
end Go.Proofs.YtdcjpinbflmikaaGreatDoor
namespace Go.Proofs.YtdcjpinbflmikaaGreatDoor
open Go.RowKit
theorem times_step (x y i : Nat) : x * (y % 10 ^ (i + 1)) = x * (y % 10 ^ i) + (y / 10 ^ i % 10) * (10 ^ i * x) := by
  rw [Nu.mod_pow_step, Nat.mul_add, ← Nat.mul_assoc, Nat.mul_comm x (10 ^ i), Nat.mul_comm (10 ^ i * x)]
theorem times_sg (b b2 : Bool) (x y : Nat) : sg b x * sg b2 y = sg (b != b2) (x * y) := by
  cases b <;> cases b2 <;> simp [sg, Int.neg_mul, Int.mul_neg]
theorem made_ints (i : Nat) : (madeCells (Value.int .i64 0).cells (i * 1)).toList = intsV (List.replicate i 0) := by
  unfold madeCells intsV
  simp [Value.cells, Nat.mod_one, List.map_replicate, List.map_const']
theorem intsV_app (l m : List Nat) : intsV l ++ intsV m = intsV (l ++ m) := by unfold intsV; rw [List.map_append]
theorem Dr.news {w : World} {a : Addr} {c : Nat} {l : List Nat} (h : Dr w (some a) c l) : ∀ (j : Nat) (u : Value), (intsV l)[j]? = some u → w.cell? (a.add j) = some u := fun j u hu => by
  unfold intsV at hu
  rw [List.getElem?_map] at hu
  have hj : j < l.length := by
    rcases Nat.lt_or_ge j l.length with h1 | h1
    · exact h1
    · rw [List.getElem?_eq_none h1] at hu; cases hu
  rw [List.getElem?_eq_getElem hj] at hu
  obtain ⟨g, h1, _, h3⟩ := h.2 j hj
  injection h1 with h1
  subst h1
  have hadd : (⟨g, 0, none⟩ : Addr).add j = ⟨g, j, none⟩ := by unfold Addr.add; split <;> simp_all
  rw [hadd, h3]
  exact hu
structure TmI (W0 : World) (S : Nat) (A : Option Addr) (c : Nat) (wr : World) : Prop where
  below : Below W0.heap.size W0 wr
  dr : Dr wr A c (Nu.dig S)
theorem small_len {S x y : Nat} (hx : x < 10 ^ 100) (hy : y < 10 ^ 100) (h : S ≤ x * y) : (Nu.dig S).length ≤ 200 := by
  refine Nu.dig_len_le (Nat.lt_of_le_of_lt h ?_)
  rw [show 200 = 100 + 100 from rfl, Nat.pow_add]
  exact Nat.mul_lt_mul'' hx hy
def W3 (w : World) (a b a2 b2 : Value) : World := ((w.alloc (.cells #[a, b] 268)).alloc (.cells #[a2, b2] 268)).alloc (.cells #[.slice none 0 0, .bool false] 268)
structure W3P (w : World) (a b a2 b2 : Value) (W0 : World) : Prop where
  below : Below w.heap.size w W0
  b0 : IsBlk W0 w.heap.size 268 #[a, b]
  b1 : IsBlk W0 (w.heap.size + 1) 268 #[a2, b2]
  b2 : IsBlk W0 (w.heap.size + 2) 268 #[.slice none 0 0, .bool false]
  size : W0.heap.size = w.heap.size + 3
theorem W3P.mk_ (w : World) (a b a2 b2 : Value) : W3P w a b a2 b2 (W3 w a b a2 b2) := by
  unfold W3
  refine ⟨(((Below.refl _ _).alloc (Nat.le_refl _) _).alloc (by simp) _).alloc (by simp only [sz]; omega) _, ?_, ?_, ?_, by simp⟩
  · refine IsBlk.below (B := w.heap.size + 1) (IsBlk.new w _ _) ?_ (by omega)
    exact ((Below.refl _ _).alloc (by simp) _).alloc (by simp) _
  · have := IsBlk.new (w.alloc (.cells #[a, b] 268)) 268 #[a2, b2]
    rw [sz] at this
    refine IsBlk.below (B := w.heap.size + 2) this ?_ (by omega)
    exact (Below.refl _ _).alloc (by simp) _
  · have := IsBlk.new ((w.alloc (.cells #[a, b] 268)).alloc (.cells #[a2, b2] 268)) 268 #[.slice none 0 0, .bool false]
    rw [sz, sz] at this
    exact this
set_option maxHeartbeats 4000000 in
set_option maxRecDepth 100000 in
theorem times_any (w : World) (A A2 : Option Addr) (c c2 x y : Nat) (b b2 : Bool) (h : Dr w A c (Nu.dig x)) (h2 : Dr w A2 c2 (Nu.dig y)) (hx : (Nu.dig x).length ≤ 100) (hy : (Nu.dig y).length ≤ 100) :
    Calls Tryz.prog 223 #[.agg #[.slice A (Nu.dig x).length c, .bool b], .agg #[.slice A2 (Nu.dig y).length c2, .bool b2]] w (LgP w (sg b x * sg b2 y)) := by
  rw [times_sg]
  obtain ⟨W0, hW0⟩ : ∃ W0, W0 = W3 w (.slice A (Nu.dig x).length c) (.bool b) (.slice A2 (Nu.dig y).length c2) (.bool b2) := ⟨_, rfl⟩
  have hp := W3P.mk_ w (.slice A (Nu.dig x).length c) (.bool b) (.slice A2 (Nu.dig y).length c2) (.bool b2)
  rw [← hW0] at hp
  unfold W3 at hW0
  have HX10 := Lib.hid (show x < 10 ^ 100 from Nu.dig_len_iff.1 hx)
  have HY10 := Lib.hid (show y < 10 ^ 100 from Nu.dig_len_iff.1 hy)
  have HDA := Lib.hid (h.below2 hp.below)
  have HDB := Lib.hid (h2.below2 hp.below)
  have hcn := HDA.out.len
  have hcm := HDB.out.len
  obtain ⟨n, hn⟩ : ∃ n, n = (Nu.dig x).length := ⟨_, rfl⟩
  obtain ⟨m, hm⟩ : ∃ m, m = (Nu.dig y).length := ⟨_, rfl⟩
  rw [← hn] at hx hp hW0 hcn ⊢
  rw [← hm] at hy hp hW0 hcm ⊢
  have HN := Lib.hid hn
  have HM := Lib.hid hm
  have HP := Lib.hid hp
  have HW0 := Lib.hid hW0
  clear h h2 hn hm hp hW0
  go_enter Tryz.func223, Tryz.ntmps223
  go_wp2
  rw [← HW0.out]
  go_loopw [5, 6] (fun v iv wr => ∃ (i S : Nat) (A5 : Option Addr) (c5 : Nat), v = .slice A5 (Nu.dig S).length c5 ∧ iv = .int .i64 i ∧ i ≤ m ∧ Hid (S = x * (y % 10 ^ i) ∧ TmI W0 S A5 c5 wr)) (fun _ iv _ => m - (intOf iv).toNat)
  case atStart => exact ⟨0, 0, none, 0, by rw [Nu.dig_zero]; rfl, rfl, Nat.zero_le _, Lib.hid ⟨by simp [Nat.mod_one], ⟨Below.refl _ _, by rw [Nu.dig_zero]; exact ⟨⟨Nat.zero_le _, fun _ => rfl⟩, fun j hj => absurd hj (by simp)⟩⟩⟩⟩
  case round =>
    obtain ⟨i, S, A5, c5, rfl, rfl, hi, HI⟩ := hrel
    have kb1 := HP.out.b1.below HI.out.2.below HP.out.b1.lt
    have t2 := kb1.at_ 0
    simp only [List.getElem?_toArray, List.getElem?_cons_zero] at t2
    clear kb1
    by_cases hlt : i < m
    · have hlt' : (i : Int) < (m : Int) := by omega
      have HC := Lib.hid (fun wr2 (hb : Below W0.heap.size W0 wr2) => (HDB.out.below2 hb).get (j := i) (by rw [← HM.out]; exact hlt))
      obtain ⟨g2, hA2, hg2, hc2⟩ := HC.out wr HI.out.2.below
      subst hA2
      have hd9 : y / 10 ^ i % 10 < 10 := Nat.mod_lt _ (by decide)
      have HST := Lib.hid (times_step x y i)
      have HSL := Lib.hid (fun k (hk : k ≤ y / 10 ^ i % 10) => small_len (S := x * (y % 10 ^ i) + k * (10 ^ i * x)) HX10.out HY10.out (by
        have h1 := times_step x y i
        have h3 : k * (10 ^ i * x) ≤ (y / 10 ^ i % 10) * (10 ^ i * x) := Nat.mul_le_mul_right _ hk
        have h4 : x * (y % 10 ^ (i + 1)) ≤ x * y := Nat.mul_le_mul_left _ (Nat.mod_le _ _)
        omega))
      obtain ⟨d, hd⟩ : ∃ d, d = y / 10 ^ i % 10 := ⟨_, rfl⟩
      rw [← hd] at hd9 HST HSL
      have HD := Lib.hid hd
      rw [← hd] at hc2
      clear hd
      have HI0 := Lib.hid (show S = x * (y % 10 ^ i) + 0 * (10 ^ i * x) ∧ TmI W0 S A5 c5 wr by rw [Nat.zero_mul, Nat.add_zero]; exact HI.out)
      go_wp2
      go_loopw [5, 7] (fun v kv wr2 => ∃ (k S2 : Nat) (A6 : Option Addr) (c6 : Nat), v = .slice A6 (Nu.dig S2).length c6 ∧ kv = .int .i64 k ∧ k ≤ d ∧ Hid (S2 = x * (y % 10 ^ i) + k * (10 ^ i * x) ∧ TmI W0 S2 A6 c6 wr2)) (fun _ kv _ => d - (intOf kv).toNat)
      case atStart => exact ⟨0, S, A5, c5, rfl, rfl, Nat.zero_le _, HI0⟩
      case round =>
        obtain ⟨k, S2, A6, c6, rfl, rfl, hk, HJ⟩ := hrel
        have kb1 := HP.out.b1.below HJ.out.2.below HP.out.b1.lt
        have t2 := kb1.at_ 0
        simp only [List.getElem?_toArray, List.getElem?_cons_zero] at t2
        obtain ⟨g3, hA3, hg3, hc3⟩ := HC.out wr HJ.out.2.below
        injection hA3 with hA3
        injection hA3 with hA3
        subst hA3
        rw [← HD.out] at hc3
        clear kb1
        by_cases hkd : k < d
        · have hkd' : (k : Int) < (d : Int) := by omega
          obtain ⟨i0, hi0, hz0, hz1, hz2⟩ := info_parts infoInt
          obtain ⟨W1, hr1, how1, hg1⟩ := run_makeSlice_full (P := Tryz.prog) (w := wr) wr.heap.size 166 3 i0 _ 1 Tryz.underlying166 hi0 hz0 hz1 .i64 .i64 i (by omega) (by rw [hz2]; omega) (by unfold maxLen; omega) (Nat.le_refl _)
          rw [made_ints] at how1
          have hb1 : Below wr.heap.size wr W1 := Below.grown (Below.refl _ _) hg1 (Nat.le_refl _) (fun k hk => by cases hk)
          have hB1 := HJ.out.2.below.trans (hb1.mono HJ.out.2.below.size)
          have kb0 := HP.out.b0.below hB1 HP.out.b0.lt
          have t0 := kb0.at_ 0
          simp only [List.getElem?_toArray, List.getElem?_cons_zero] at t0
          have HS6 := Lib.hid (HJ.out.2.dr.below2 hb1)
          have HO1 := Lib.hid how1
          have HB1 := Lib.hid hB1
          have hws : wr.heap.size ≤ W1.heap.size := hb1.size
          have HBW := Lib.hid hb1
          have HDA1 := Lib.hid (HDA.out.below2 hB1)
          have HNXT := Lib.hid (show S2 + 10 ^ i * x = x * (y % 10 ^ i) + (k + 1) * (10 ^ i * x) by rw [HJ.out.1, Nat.add_mul, Nat.one_mul, Nat.add_assoc])
          have HS2L := Lib.hid (show (Nu.dig S2).length ≤ 200 by rw [HJ.out.1]; exact HSL.out k (by omega))
          have HCALL := Lib.hid (fun (w3 : World) (A7 : Option Addr) (c7 : Nat) (hd6 : Dr w3 A6 c6 (Nu.dig S2)) (hd7 : Dr w3 A7 c7 (List.replicate i 0 ++ Nu.dig x)) =>
            add_gen w3 A6 A7 c6 c7 S2 (10 ^ i * x) _ _ hd6 hd7 (Nu.dig_at S2) (fun j => by rw [Nu.val_at (Nu.shift_lt i x), Nu.replicate_dig]) (Nu.lt_pow_len S2) (by
              have h1 := Nu.val_lt (Nu.shift_lt i x)
              rwa [Nu.replicate_dig] at h1) (by have := HS2L.out; omega) (by rw [List.length_append, List.length_replicate, ← HN.out]; omega))
          have hlen7 : (List.replicate i 0 ++ Nu.dig x).length = i + n := by rw [List.length_append, List.length_replicate, ← HN.out]
          rw [hlen7] at HCALL
          have HL7 := Lib.hid hlen7
          have hbig : i + n ≤ maxLen := by unfold maxLen; omega
          clear hb1 hB1 kb0 how1 hg1 hc2 hg2 hlen7
          cases A with
          | none =>
            obtain rfl : c = 0 := HDA1.out.1.2 rfl
            obtain rfl : n = 0 := by omega
            have HX0 := Lib.hid (show Nu.dig x = [] from List.length_eq_zero_iff.1 HN.out.symm)
            go_wp2_with (at_builtin; (refine wpList_append_own_none rfl _ _ _ rfl wr.heap.size 3 i0 1 Tryz.underlying166 hi0 (.slice (some ⟨wr.heap.size, 0, none⟩) i i) i (intsV (List.replicate i 0)) (by rfl) (by exact HO1.out) (by rfl) ?_))
            have HD7 := Lib.hid (show Dr W1 (some ⟨wr.heap.size, 0, none⟩) i (List.replicate i 0 ++ Nu.dig x) from by
              rw [HX0.out, List.append_nil]
              have h1 : OwnD wr.heap.size W1 (.slice (some ⟨wr.heap.size, 0, none⟩) i i) (List.replicate i 0) := by unfold OwnD; rw [List.length_replicate]; exact HO1.out
              exact h1.dr.2)
            have HCC := Lib.hid (HCALL.out W1 _ _ HS6.out HD7.out)
            go_wp2_with fail
            refine HCC.out.mono ?_
            rintro e w4 ⟨A8, c8, rfl, hd8, hb8⟩
            have HD8 := Lib.hid hd8
            have HB8 := Lib.hid (HB1.out.trans (hb8.mono HB1.out.size))
            clear hd8 hb8
            go_wp2
            go_roundw
            case rel => exact ⟨k + 1, S2 + 10 ^ i * x, A8, c8, rfl, by go_num, by omega, Lib.hid ⟨HNXT.out, HB8.out, HD8.out⟩⟩
            case measure => simp [intOf]; omega
          | some a =>
            go_wp2_with (at_builtin; (refine wpList_append_own _ rfl _ _ _ rfl wr.heap.size 3 i0 _ 1 8 Tryz.underlying166 hi0 hz0 hz1 hz2 rfl (by omega) (.slice (some ⟨wr.heap.size, 0, none⟩) i i) i (intsV (List.replicate i 0)) (by rfl) (by exact HO1.out) a n c (intsV (Nu.dig x)) (by rfl) (by unfold intsV; rw [List.length_map, ← HN.out]; omega) (by intro j u hu; exact HDA1.out.news j u hu) (by intro u hu; unfold intsV at hu; obtain ⟨q, _, rfl⟩ := List.mem_map.1 hu; rfl) hbig (by omega) hws ?_); intro v3 w3 hown3 hgr3 _; obtain ⟨A3, c3, hv3, _, _, _, _⟩ := own_slice hown3; subst hv3; have B3 := Lib.hid (Below.grown (Below.refl wr.heap.size W1) hgr3 hws (fun k hk => (HO1.out.lt k hk).1)); have H3 := Lib.hid hown3; clear hown3 hgr3)
            have HD7 := Lib.hid (show Dr w3 A3 c3 (List.replicate i 0 ++ Nu.dig x) from by
              have h1 : OwnD wr.heap.size w3 (.slice A3 (i + n) c3) (List.replicate i 0 ++ Nu.dig x) := by
                unfold OwnD
                rw [HL7.out, ← intsV_app]
                exact H3.out
              exact h1.dr.2)
            have hb3 : Below wr.heap.size wr w3 := HBW.out.trans B3.out
            have HCC := Lib.hid (HCALL.out w3 _ _ (HJ.out.2.dr.below2 hb3) HD7.out)
            replace HB1 := Lib.hid (HJ.out.2.below.trans (hb3.mono HJ.out.2.below.size))
            clear hb3
            go_wp2_with fail
            refine HCC.out.mono ?_
            rintro e w4 ⟨A8, c8, rfl, hd8, hb8⟩
            have HD8 := Lib.hid hd8
            have HB8 := Lib.hid (HB1.out.trans (hb8.mono HB1.out.size))
            clear hd8 hb8
            go_wp2
            go_roundw
            case rel => exact ⟨k + 1, S2 + 10 ^ i * x, A8, c8, rfl, by go_num, by omega, Lib.hid ⟨HNXT.out, HB8.out, HD8.out⟩⟩
            case measure => simp [intOf]; omega
        · obtain rfl : k = d := by omega
          have hkd' : ¬ (k : Int) < (k : Int) := by omega
          have HEND := Lib.hid (show S2 = x * (y % 10 ^ (i + 1)) from by rw [HST.out]; exact HJ.out.1)
          have HT := Lib.hid HJ.out.2
          go_wp2
          go_roundw
          case rel => exact ⟨i + 1, S2, A6, c6, rfl, by go_num, hlt, Lib.hid ⟨HEND.out, HT.out⟩⟩
          case measure => simp [intOf]; omega
    · obtain rfl : i = m := by omega
      have hlt' : ¬ (i : Int) < (i : Int) := by omega
      have HSE := Lib.hid (show S = x * y by
        have h1 := HI.out.1
        rw [Nat.mod_eq_of_lt (Nu.dig_len_iff.1 (by rw [← HM.out]; exact Nat.le_refl _))] at h1
        exact h1)
      have HTR := Lib.hid (fun w1 (hb : Below wr.heap.size wr w1) => (trim_any w1 A5 c5 (Nu.dig S) (HI.out.2.dr.below2 hb) (fun d hd => Nu.dig_lt hd) (by
        have := small_len (S := S) HX10.out HY10.out (by rw [HSE.out]; exact Nat.le_refl _)
        omega)).mono (fun e w' (h : TrimP w1 (Nu.val (Nu.dig S)) e w') => show DigP w1 (x * y) e w' by
          obtain ⟨A9, c9, h1, h2, h3⟩ := h
          rw [Nu.val_dig, HSE.out] at h1 h2
          exact ⟨A9, c9, h1, h2, h3 ▸ Below.refl _ _⟩))
      have kb0 := HP.out.b0.below HI.out.2.below HP.out.b0.lt
      have kb1 := HP.out.b1.below HI.out.2.below HP.out.b1.lt
      have HK2 := Lib.hid (HP.out.b2.below HI.out.2.below HP.out.b2.lt)
      have hs := HP.out.size
      have hs2 := HI.out.2.below.size
      have HL := Lib.hid (show w.heap.size < wr.heap.size ∧ w.heap.size + 1 < wr.heap.size by omega)
      have HB0 := Lib.hid (HP.out.below.trans (HI.out.2.below.mono HP.out.below.size))
      have t0 := kb0.at_ 0
      have t1 := kb0.at_ 1
      have t3 := kb1.at_ 1
      simp only [List.getElem?_toArray, List.getElem?_cons_zero, List.getElem?_cons_succ] at t0 t1 t3
      clear kb0 kb1 hs hs2
      go_wp2
      go_region_held3 (fun w' => w'.cell? ⟨w.heap.size, 0, none⟩ = some (.slice A n c) ∧ w'.cell? ⟨w.heap.size, 1, none⟩ = some (.bool b) ∧ w'.cell? ⟨w.heap.size + 1, 0, none⟩ = some (.slice A2 i c2) ∧ w'.cell? ⟨w.heap.size + 1, 1, none⟩ = some (.bool b2))
        (first | exact ⟨t0, t1, t2, t3⟩ | exact ⟨(h3.cell (p := ⟨w.heap.size, 0, none⟩) HL.out.1).trans t0, (h3.cell (p := ⟨w.heap.size, 1, none⟩) HL.out.1).trans t1, (h3.cell (p := ⟨w.heap.size + 1, 0, none⟩) HL.out.2).trans t2, (h3.cell (p := ⟨w.heap.size + 1, 1, none⟩) HL.out.2).trans t3⟩ | exact s4 (h3.mono HL.out.2) t0 t1 t2 t3)
        (first | (go_at_call 241; refine (HTR.out _ ((Below.refl _ _).drew)).mono ?_; rintro e w3 ⟨A3, c3, rfl, hd3, h3⟩; have kb := HK2.out.below ((Below.refl wr.heap.size wr).drew.trans h3) HK2.out.lt; have k0 := kb.at_ 0; have k1 := kb.at_ 1; have f0 := kb.fz 0; have f1 := kb.fz 1; have KB := Lib.hid kb; have HD3 := Lib.hid hd3; clear kb hd3; simp only [List.getElem?_toArray, List.getElem?_cons_zero, List.getElem?_cons_succ] at k0 k1))
      go_wp2
      refine bodyPost_ret (v := .agg #[.slice A3 (Nu.dig (x * y)).length c3, .bool (!(b == b2))]) (by simp [results, Tryz.results223, go_sem, k0, k1]) rfl ?_
      exact ⟨A3, c3, (b != b2), x * y, rfl, HD3.out.far k0 _ _, rfl, below_two (HB0.out.trans (((Below.refl wr.heap.size wr).drew.trans h3).mono HB0.out.size)) _ _⟩
end Go.Proofs.YtdcjpinbflmikaaGreatDoor
namespace Go.Proofs.YtdcjpinbflmikaaGreatDoor
open Go.RowKit
theorem parts_step {x y i : Nat} (hy : 0 < y) : (x / 10 ^ i % 10 + 10 * (x / 10 ^ (i + 1) % y)) % y = x / 10 ^ i % y ∧ (x / 10 ^ i % 10 + 10 * (x / 10 ^ (i + 1) % y)) / y = x / y / 10 ^ i % 10 ∧ (x / 10 ^ i % 10 + 10 * (x / 10 ^ (i + 1) % y)) / y < 10 := by
  have h1 := Nu.top_step x i
  have h2 : x / y / 10 ^ i = x / 10 ^ i / y := by rw [Nat.div_div_eq_div_mul, Nat.div_div_eq_div_mul, Nat.mul_comm]
  rw [h2]
  generalize x / 10 ^ i = X at *
  generalize x / 10 ^ (i + 1) = Z at *
  have hd : X % 10 < 10 := Nat.mod_lt _ (by decide)
  generalize X % 10 = d at *
  subst h1
  have e : 10 * Z + d = (d + 10 * (Z % y)) + y * (10 * (Z / y)) := by
    have h3 := Nat.div_add_mod Z y
    have h4 : y * (10 * (Z / y)) = 10 * (y * (Z / y)) := by rw [Nat.mul_left_comm]
    omega
  have hlt : (d + 10 * (Z % y)) / y < 10 := by
    have := Nat.mod_lt Z hy
    rw [Nat.div_lt_iff_lt_mul hy]
    omega
  refine ⟨?_, ?_, hlt⟩
  · rw [e, Nat.add_mul_mod_self_left]
  · rw [e, Nat.add_mul_div_left _ _ hy]
    generalize (d + 10 * (Z % y)) / y = g at *
    generalize Z / y = hq at *
    omega
def qlist (x y n k : Nat) : List Nat := (List.range n).map fun j => if k ≤ j then x / y / 10 ^ j % 10 else 0
theorem qlist_len (x y n k : Nat) : (qlist x y n k).length = n := by unfold qlist; simp
theorem qlist_get (x y n k j : Nat) (h : j < (qlist x y n k).length) : (qlist x y n k)[j] = if k ≤ j then x / y / 10 ^ j % 10 else 0 := by simp [qlist]
theorem qlist_top (x y n : Nat) : qlist x y n n = List.replicate n 0 := by
  refine List.ext_getElem (by simp [qlist]) fun j h1 h2 => ?_
  rw [qlist_get, List.getElem_replicate, if_neg (by rw [qlist_len] at h1; omega)]
theorem qlist_zero (x y n i : Nat) : (qlist x y n (i + 1)).set i 0 = qlist x y n (i + 1) := by
  refine List.ext_getElem (by simp) fun j h1 h2 => ?_
  rw [List.getElem_set]
  split
  · rename_i h
    subst h
    rw [qlist_get, if_neg (by omega)]
  · rfl
theorem qlist_set (x y n i : Nat) : (qlist x y n (i + 1)).set i (x / y / 10 ^ i % 10) = qlist x y n i := by
  refine List.ext_getElem (by simp [qlist_len]) fun j h1 h2 => ?_
  rw [List.getElem_set, qlist_get, qlist_get]
  split
  · rename_i h
    subst h
    rw [if_pos (Nat.le_refl _)]
  · rename_i h
    by_cases hj : i + 1 ≤ j
    · rw [if_pos hj, if_pos (by omega)]
    · rw [if_neg hj, if_neg (by omega)]
theorem val_range (q n : Nat) : Nu.val ((List.range n).map fun j => q / 10 ^ j % 10) = q % 10 ^ n := by
  induction n with
  | zero => simp [Nu.val, Nat.mod_one]
  | succ n ih => rw [List.range_succ, List.map_append, List.map_singleton, Nu.val_snoc, ih, List.length_map, List.length_range, Nu.mod_pow_step]
theorem qlist_val {x y n : Nat} (h : x < 10 ^ n) : Nu.val (qlist x y n 0) = x / y ∧ ∀ d ∈ qlist x y n 0, d < 10 := by
  have e : qlist x y n 0 = (List.range n).map fun j => x / y / 10 ^ j % 10 := by unfold qlist; simp
  rw [e]
  refine ⟨by rw [val_range, Nat.mod_eq_of_lt (Nat.lt_of_le_of_lt (Nat.div_le_self _ _) h)], fun d hd => ?_⟩
  obtain ⟨j, _, rfl⟩ := List.mem_map.1 hd
  exact Nat.mod_lt _ (by decide)
theorem cons_len {d r y : Nat} (hd : d < 10) (hr : r < y) (hy : (Nu.dig y).length ≤ 100) (S : Nat) (hS : S ≤ d + 10 * r) : (Nu.dig S).length ≤ 101 := by
  refine Nu.dig_len_le ?_
  have := Nu.dig_len_iff.1 hy
  rw [Nat.pow_succ]
  omega
theorem own_one (w : World) (d : Nat) : (w.alloc (.cells #[.int .i64 (d : Int)] 3)).ownsRow w.heap.size 3 1 (.slice (some ⟨w.heap.size, 0, none⟩) 1 1) 1 (intsV [d]) :=
  ⟨rfl, Or.inr ⟨w.heap.size, 1, _, rfl, Nat.le_refl _, heap_alloc_new w _, Nat.le_refl _, by unfold maxLen; omega, rfl, rfl⟩⟩
def tOf (g i : Nat) (w : World) : Nat := (intOf ((w.cell? ⟨g, i, none⟩).getD (.int .i64 0))).toNat
theorem quo_end {R t y : Nat} (h1 : t * y ≤ R) (h2 : R - t * y < y) : t = R / y ∧ R - t * y = R % y := by
  have e : R = (R - t * y) + y * t := by rw [Nat.mul_comm y t]; omega
  have hy : 0 < y := by omega
  have h3 : R / y = t := by rw [e, Nat.add_mul_div_left _ _ hy, Nat.div_eq_of_lt h2, Nat.zero_add]
  have h4 : R % y = R - t * y := by
    conv => lhs; rw [e]
    rw [Nat.add_mul_mod_self_left, Nat.mod_eq_of_lt h2]
  exact ⟨h3.symm, h4.symm⟩
theorem quo_more {R t y : Nat} (h1 : t * y ≤ R) (h2 : ¬ R - t * y < y) : (t + 1) * y ≤ R ∧ R - t * y - y = R - (t + 1) * y := by
  rw [Nat.add_mul, Nat.one_mul]; omega
structure PtI (w : World) (n : Nat) (L : List Nat) (r : Nat) (A : Option Addr) (c : Nat) (wr : World) : Prop where
  below : Below w.heap.size w wr
  own : wr.ownsRow w.heap.size 3 1 (.slice (some ⟨w.heap.size, 0, none⟩) n n) n (intsV L)
  dr : Dr wr A c (Nu.dig r)
theorem PtI.next {w : World} {n r r' : Nat} {L : List Nat} {A A' : Option Addr} {c c' : Nat} {wr w' : World} (h : PtI w n L r A c wr) (hb : Below wr.heap.size wr w') (hd : Dr w' A' c' (Nu.dig r')) : PtI w n L r' A' c' w' :=
  ⟨h.below.trans (hb.mono h.below.size), own_below h.own hb, hd⟩
def PartsP (w : World) (x y : Nat) (e : Ending) (w' : World) : Prop := ∃ A c A2 c2, e = .returned (.tuple #[.slice A (Nu.dig (x / y)).length c, .slice A2 (Nu.dig (x % y)).length c2]) ∧ Dr w' A c (Nu.dig (x / y)) ∧ Dr w' A2 c2 (Nu.dig (x % y)) ∧ Below w.heap.size w w'
set_option maxHeartbeats 4000000 in
set_option maxRecDepth 100000 in
theorem parts_any (w : World) (A A2 : Option Addr) (c c2 x y : Nat) (h : Dr w A c (Nu.dig x)) (h2 : Dr w A2 c2 (Nu.dig y)) (hx : (Nu.dig x).length ≤ 100) (hy : (Nu.dig y).length ≤ 100) (hy0 : 0 < y) :
    Calls Tryz.prog 224 #[.slice A (Nu.dig x).length c, .slice A2 (Nu.dig y).length c2] w (PartsP w x y) := by
  have HX10 := Lib.hid (Nu.lt_pow_len x)
  have HDA := Lib.hid h
  have HDB := Lib.hid h2
  have HYL := Lib.hid hy
  have hcn := h.len
  obtain ⟨n, hn⟩ : ∃ n, n = (Nu.dig x).length := ⟨_, rfl⟩
  rw [← hn] at hx hcn HX10 ⊢
  have HN := Lib.hid hn
  have HY0 := Lib.hid hy0
  obtain ⟨m, hm⟩ : ∃ m, m = (Nu.dig y).length := ⟨_, rfl⟩
  rw [← hm] at hy ⊢
  have HM := Lib.hid hm
  obtain ⟨i0, hi0, hz0, hz1, hz2⟩ := info_parts infoInt
  obtain ⟨W1, hr1, how1, hg1⟩ := run_makeSlice_full (P := Tryz.prog) (w := w) w.heap.size 166 3 i0 _ 1 Tryz.underlying166 hi0 hz0 hz1 .i64 .i64 n (by omega) (by rw [hz2]; omega) (by unfold maxLen; omega) (Nat.le_refl _)
  rw [made_ints, ← qlist_top x y n] at how1
  have hb1 : Below w.heap.size w W1 := Below.grown (Below.refl _ _) hg1 (Nat.le_refl _) (fun k hk => by cases hk)
  have HI0 := Lib.hid (show PtI w n (qlist x y n n) (x / 10 ^ n % y) none 0 W1 from ⟨hb1, how1, by rw [Nat.div_eq_of_lt HX10.out, Nat.zero_mod, Nu.dig_zero]; exact ⟨⟨Nat.zero_le _, fun _ => rfl⟩, fun j hj => absurd hj (by simp)⟩⟩)
  have HL0 := Lib.hid (show (Nu.dig (x / 10 ^ n % y)).length = 0 by rw [Nat.div_eq_of_lt HX10.out, Nat.zero_mod, Nu.dig_zero]; rfl)
  clear h h2 hn hm hb1 how1 hg1 hy0
  go_enter Tryz.func224, Tryz.ntmps224
  go_wp2
  clear hr1
  go_loopw [7, 8] (fun v iv wr => ∃ (k : Nat) (A7 : Option Addr) (c7 : Nat), v = .slice A7 (Nu.dig (x / 10 ^ k % y)).length c7 ∧ iv = .int .i64 ((k : Int) - 1) ∧ k ≤ n ∧ Hid (PtI w n (qlist x y n k) (x / 10 ^ k % y) A7 c7 wr)) (fun _ iv _ => (intOf iv + 1).toNat)
  case atStart => exact ⟨n, none, 0, by rw [HL0.out], rfl, Nat.le_refl _, HI0⟩
  case round =>
    obtain ⟨k, A7, c7, rfl, rfl, hk, HI⟩ := hrel
    rcases k with _ | i
    · have hneg : ¬ ((0 : Nat) : Int) - 1 ≥ 0 := by omega
      have HQ := Lib.hid (qlist_val (x := x) (y := y) HX10.out)
      have HB := Lib.hid HI.out.below
      have h0 : x / 10 ^ 0 % y = x % y := by rw [Nat.pow_zero, Nat.div_one]
      rw [h0] at HI ⊢
      have HOWN : OwnD w.heap.size wr (.slice (some ⟨w.heap.size, 0, none⟩) n n) (qlist x y n 0) := by unfold OwnD; rw [qlist_len]; exact HI.out.own
      have HTR := Lib.hid (trim_any wr _ _ _ HOWN.dr.2 HQ.out.2 (by rw [qlist_len]; omega))
      rw [HQ.out.1, qlist_len] at HTR
      have HDR := Lib.hid HI.out.dr
      clear HOWN h0
      go_wp2_with fail
      refine HTR.out.mono ?_
      rintro e w4 ⟨A8, c8, rfl, hd8, rfl⟩
      have HD8 := Lib.hid hd8
      clear hd8
      go_wp2
      go_ret2
      exact ⟨A8, c8, A7, c7, rfl, HD8.out, HDR.out, HB.out⟩
    · obtain ⟨g, hA, hg, hc⟩ := (HDA.out.below2 HI.out.below).get (j := i) (by rw [← HN.out]; omega)
      subst hA
      have e0 : ((i + 1 : Nat) : Int) - 1 = (i : Int) := by omega
      rw [e0]
      have hd9 : x / 10 ^ i % 10 < 10 := Nat.mod_lt _ (by decide)
      have HST := Lib.hid (parts_step (x := x) (i := i) HY0.out)
      have hr9 : x / 10 ^ (i + 1) % y < y := Nat.mod_lt _ HY0.out
      obtain ⟨d, hd⟩ : ∃ d, d = x / 10 ^ i % 10 := ⟨_, rfl⟩
      obtain ⟨r, hr⟩ : ∃ r, r = x / 10 ^ (i + 1) % y := ⟨_, rfl⟩
      rw [← hd] at hc hd9 HST
      rw [← hr] at hr9 HST HI ⊢
      have hin : (i : Int) < (n : Int) := by omega
      have hrl : (Nu.dig r).length ≤ 101 := cons_len hd9 hr9 HYL.out r (by omega)
      have HD := Lib.hid hd
      have HR := Lib.hid hr
      clear hd hr e0
      obtain ⟨R, hR⟩ : ∃ R, R = d + 10 * r := ⟨_, rfl⟩
      rw [← hR] at HST
      have HRL := Lib.hid (fun S (hS : S ≤ R) => cons_len hd9 hr9 HYL.out S (by rw [← hR]; exact hS))
      have HD1 := Lib.hid (show Nu.val (d :: Nu.dig r) = R by rw [hR]; simp only [Nu.val]; rw [Nu.val_dig])
      have HD10 := Lib.hid (show ∀ e ∈ d :: Nu.dig r, e < 10 from fun e he => by
        rcases List.mem_cons.1 he with rfl | he
        · exact hd9
        · exact Nu.dig_lt he)
      have HO1 := Lib.hid (own_one wr d)
      have hb1 : Below wr.heap.size wr (wr.alloc (.cells #[.int .i64 (d : Int)] 3)) := (Below.refl _ _).alloc (Nat.le_refl _) _
      have HDR := Lib.hid (HI.out.dr.below2 hb1)
      obtain ⟨q, hq⟩ : ∃ q, q = (Nu.dig r).length := ⟨_, rfl⟩
      rw [← hq] at hrl ⊢
      have HQ := Lib.hid hq
      have HR9 := Lib.hid hr9
      obtain ⟨W1, hW1⟩ : ∃ W1, W1 = wr.alloc (.cells #[.int .i64 (d : Int)] 3) := ⟨_, rfl⟩
      rw [← hW1] at HO1 hb1 HDR
      have HW1 := Lib.hid hW1
      have HB1 := Lib.hid hb1
      have hbig : 1 + q ≤ maxLen := by unfold maxLen; omega
      have hws : wr.heap.size ≤ W1.heap.size := hb1.size
      clear hR hq hr9 hW1 hb1
      cases A7 with
      | none =>
        obtain rfl : c7 = 0 := HDR.out.1.2 rfl
        have hq0 : q = 0 := by have := HDR.out.len; have := HQ.out; omega
        subst hq0
        have HX0 := Lib.hid (show Nu.dig r = [] from List.length_eq_zero_iff.1 HQ.out.symm)
        have HOD := Lib.hid (show OwnD wr.heap.size W1 (.slice (some ⟨wr.heap.size, 0, none⟩) 1 1) (d :: Nu.dig r) by rw [HX0.out]; exact HO1.out)
        have HTR := Lib.hid (trim_any W1 _ _ _ HOD.out.dr.2 HD10.out (by rw [HX0.out]; simp))
        rw [HD1.out, show (d :: Nu.dig r).length = 1 by rw [HX0.out]; rfl] at HTR
        have HI2 := Lib.hid HB1.out
        go_wp2_with (at_builtin; (refine wpList_append_own_none rfl _ _ _ rfl wr.heap.size 3 i0 1 Tryz.underlying166 hi0 (.slice (some ⟨wr.heap.size, 0, none⟩) 1 1) 1 (intsV [d]) (by rfl) (by rw [← HW1.out]; exact HO1.out) (by rfl) ?_))
        go_wp2_with fail
        rw [← HW1.out]
        refine HTR.out.mono ?_
        rintro e w4 ⟨A8, c8, rfl, hd8, rfl⟩
        have HJ0 := Lib.hid (show 0 * y ≤ R ∧ PtI w n ((qlist x y n (i + 1)).set i 0) (R - 0 * y) A8 c8 W1 from ⟨by omega, by rw [qlist_zero, Nat.zero_mul, Nat.sub_zero]; exact HI.out.next HI2.out hd8⟩)
        have HR0 := Lib.hid (show R = R - 0 * y by omega)
        clear hd8
        go_wp2
        go_loopw [7] (fun v wr2 => ∃ (t S : Nat) (A9 : Option Addr) (c9 : Nat), v = .slice A9 (Nu.dig S).length c9 ∧ t ≤ 9 ∧ Hid (S = R - t * y ∧ t * y ≤ R ∧ PtI w n ((qlist x y n (i + 1)).set i t) S A9 c9 wr2)) (fun _ wr2 => 10 - tOf w.heap.size i wr2)
        case atStart => exact ⟨0, R, A8, c8, rfl, by omega, Lib.hid ⟨HR0.out, HJ0.out.1, by have h1 := HJ0.out.2; rwa [← HR0.out] at h1⟩⟩
        case round =>
          obtain ⟨t, S, A9, c9, rfl, ht9, HJ⟩ := hrel
          obtain ⟨hSe, htR, hPJ⟩ := HJ.out
          have HLS := Lib.hid (less_any wr A9 A2 c9 c2 S y hPJ.dr (HDB.out.below2 hPJ.below) (Nat.le_trans (HRL.out S (by omega)) (by decide)))
          have HTK := Lib.hid (fun w5 (hb : Below wr.heap.size wr w5) (hle : y ≤ S) => take_new w5 A9 A2 c9 c2 S y (hPJ.dr.below2 hb) ((HDB.out.below2 hPJ.below).below2 hb) (Nat.le_trans (HRL.out S (by omega)) (by decide)) hle)
          have HMU := Lib.hid (show tOf w.heap.size i wr = t by
            unfold tOf
            rw [own_cell hPJ.own (j := i) (u := .int .i64 (t : Int)) (by unfold intsV; rw [List.getElem?_map, List.getElem?_set_self (by rw [qlist_len]; omega)]; rfl)]
            simp [intOf])
          rw [← HM.out] at HLS HTK
          by_cases hend : S < y
          · rw [decide_eq_true hend] at HLS
            have HE := Lib.hid (quo_end htR (by rw [← hSe]; exact hend))
            clear hSe htR hPJ hend HTK
            go_wp2_with fail
            refine HLS.out.mono ?_
            rintro e w5 ⟨rfl, h5⟩
            have HEND := Lib.hid (show S = x / 10 ^ i % y ∧ PtI w n (qlist x y n i) S A9 c9 w5 by
              have h1 : S = x / 10 ^ i % y := by rw [HJ.out.1, HE.out.2, HST.out.1]
              refine ⟨h1, ?_⟩
              have h3 := HJ.out.2.2
              rw [HE.out.1, HST.out.2.1, qlist_set] at h3
              exact h3.next h5 (h3.dr.below2 h5))
            clear h5
            go_wp2
            go_roundw
            case rel => exact ⟨i, A9, c9, by rw [← HEND.out.1], rfl, by omega, Lib.hid (by rw [← HEND.out.1]; exact HEND.out.2)⟩
            case measure => simp [intOf]
          · rw [decide_eq_false hend] at HLS
            have HE := Lib.hid (quo_more htR (by rw [← hSe]; exact hend))
            have ht8 : t < 9 := by
              have h1 := HST.out.2.2
              have h2 : t + 1 ≤ R / y := (Nat.le_div_iff_mul_le HY0.out).2 HE.out.1
              omega
            have hle : y ≤ S := by omega
            have HTK2 := Lib.hid (fun w5 hb => HTK.out w5 hb hle)
            clear hSe htR hPJ hend hle HTK
            go_wp2_with fail
            refine HLS.out.mono ?_
            rintro e w5 ⟨rfl, h5⟩
            have HT5 := Lib.hid (HTK2.out w5 h5)
            have H5 := Lib.hid h5
            clear h5
            go_wp2_with fail
            refine HT5.out.mono ?_
            rintro e w6 ⟨A10, c10, rfl, hd10, h6, hn10⟩
            have HP6 := Lib.hid (HJ.out.2.2.next (H5.out.trans (h6.mono H5.out.size)) hd10)
            have c6 := own_cell HP6.out.own (j := i) (u := .int .i64 (t : Int)) (by unfold intsV; rw [List.getElem?_map, List.getElem?_set_self (by rw [qlist_len]; omega)]; rfl)
            have f6 := own_fz HP6.out.own i
            have HST6 := Lib.hid (show PtI w n ((qlist x y n (i + 1)).set i (t + 1)) (S - y) A10 c10 (w6.setCell ⟨w.heap.size, i, none⟩ (.int .i64 ((t : Int) + 1))) from by
              have hw : w.heap.size < w5.heap.size := by
                have h1 := (HJ.out.2.2.own.lt w.heap.size rfl).2
                have h2 := H5.out.size
                omega
              refine ⟨HP6.out.below.setCell (p := ⟨w.heap.size, i, none⟩) (Nat.le_refl _) _, ?_, ?_⟩
              · have h1 := (HP6.out.own.stored i (.int .i64 ((t : Int) + 1))).1
                rw [show (intsV ((qlist x y n (i + 1)).set i t)).set i (.int .i64 ((t : Int) + 1)) = intsV ((qlist x y n (i + 1)).set i (t + 1)) by
                  unfold intsV
                  rw [List.map_set, List.set_set, List.map_set]
                  rfl] at h1
                exact h1
              · refine ⟨HP6.out.dr.1, fun j hj => ?_⟩
                obtain ⟨g9, q1, q2, q3⟩ := HP6.out.dr.2 j hj
                have hne : g9 ≠ w.heap.size := by
                  have := hn10 g9 q1 (by omega)
                  omega
                refine ⟨g9, q1, by simp [World.setCell]; exact q2, ?_⟩
                rw [World.cell?_of_block (a := ⟨g9, j, none⟩) (Below.heap_setCell w6 ⟨w.heap.size, i, none⟩ _ g9 hne)]
                exact q3)
            have HNS := Lib.hid (show S - y = R - (t + 1) * y by rw [← HE.out.2, HJ.out.1])
            have HMU2 := Lib.hid (show tOf w.heap.size i (w6.setCell ⟨w.heap.size, i, none⟩ (.int .i64 ((t : Int) + 1))) = t + 1 by
              unfold tOf
              rw [own_cell HST6.out.own (j := i) (u := .int .i64 ((t + 1 : Nat) : Int)) (by unfold intsV; rw [List.getElem?_map, List.getElem?_set_self (by rw [qlist_len]; omega)]; rfl)]
              simp [intOf])
            clear hd10 h6 hn10
            go_wp2
            go_roundw
            case rel => exact ⟨t + 1, S - y, A10, c10, rfl, by omega, Lib.hid ⟨HNS.out, HE.out.1, HST6.out⟩⟩
            case measure => rw [HMU.out, HMU2.out]; omega
      | some a =>
        go_wp2_with (at_builtin; (refine wpList_append_own _ rfl _ _ _ rfl wr.heap.size 3 i0 _ 1 8 Tryz.underlying166 hi0 hz0 hz1 hz2 rfl (by omega) (.slice (some ⟨wr.heap.size, 0, none⟩) 1 1) 1 (intsV [d]) (by rfl) (by rw [← HW1.out]; exact HO1.out) a q c7 (intsV (Nu.dig r)) (by rfl) (by unfold intsV; rw [List.length_map, ← HQ.out]; omega) (by rw [← HW1.out]; intro j u hu; exact HDR.out.news j u hu) (by intro u hu; unfold intsV at hu; obtain ⟨q, _, rfl⟩ := List.mem_map.1 hu; rfl) hbig (by omega) (by rw [← HW1.out]; exact hws) ?_); intro v3 w3 hown3 hgr3 _; rw [← HW1.out] at hgr3; obtain ⟨A3, c3, hv3, _, _, _, _⟩ := own_slice hown3; subst hv3; have B3 := Lib.hid (Below.grown (Below.refl wr.heap.size W1) hgr3 hws (fun k hk => (HO1.out.lt k hk).1)); have H3 := Lib.hid hown3; clear hown3 hgr3)
        have hlen : (d :: Nu.dig r).length = 1 + q := by rw [List.length_cons, ← HQ.out]; omega
        have HOD := Lib.hid (show OwnD wr.heap.size w3 (.slice A3 (1 + q) c3) (d :: Nu.dig r) by unfold OwnD; rw [hlen]; exact H3.out)
        have HTR := Lib.hid (trim_any w3 _ _ _ HOD.out.dr.2 HD10.out (by rw [hlen]; omega))
        rw [HD1.out, hlen] at HTR
        have HI2 := Lib.hid (HB1.out.trans B3.out)
        clear hlen
        go_wp2_with fail
        refine HTR.out.mono ?_
        rintro e w4 ⟨A8, c8, rfl, hd8, rfl⟩
        have HJ0 := Lib.hid (show 0 * y ≤ R ∧ PtI w n ((qlist x y n (i + 1)).set i 0) (R - 0 * y) A8 c8 w3 from ⟨by omega, by rw [qlist_zero, Nat.zero_mul, Nat.sub_zero]; exact HI.out.next HI2.out hd8⟩)
        have HR0 := Lib.hid (show R = R - 0 * y by omega)
        clear hd8
        go_wp2
        go_loopw [7] (fun v wr2 => ∃ (t S : Nat) (A9 : Option Addr) (c9 : Nat), v = .slice A9 (Nu.dig S).length c9 ∧ t ≤ 9 ∧ Hid (S = R - t * y ∧ t * y ≤ R ∧ PtI w n ((qlist x y n (i + 1)).set i t) S A9 c9 wr2)) (fun _ wr2 => 10 - tOf w.heap.size i wr2)
        case atStart => exact ⟨0, R, A8, c8, rfl, by omega, Lib.hid ⟨HR0.out, HJ0.out.1, by have h1 := HJ0.out.2; rwa [← HR0.out] at h1⟩⟩
        case round =>
          obtain ⟨t, S, A9, c9, rfl, ht9, HJ⟩ := hrel
          obtain ⟨hSe, htR, hPJ⟩ := HJ.out
          have HLS := Lib.hid (less_any wr A9 A2 c9 c2 S y hPJ.dr (HDB.out.below2 hPJ.below) (Nat.le_trans (HRL.out S (by omega)) (by decide)))
          have HTK := Lib.hid (fun w5 (hb : Below wr.heap.size wr w5) (hle : y ≤ S) => take_new w5 A9 A2 c9 c2 S y (hPJ.dr.below2 hb) ((HDB.out.below2 hPJ.below).below2 hb) (Nat.le_trans (HRL.out S (by omega)) (by decide)) hle)
          have HMU := Lib.hid (show tOf w.heap.size i wr = t by
            unfold tOf
            rw [own_cell hPJ.own (j := i) (u := .int .i64 (t : Int)) (by unfold intsV; rw [List.getElem?_map, List.getElem?_set_self (by rw [qlist_len]; omega)]; rfl)]
            simp [intOf])
          rw [← HM.out] at HLS HTK
          by_cases hend : S < y
          · rw [decide_eq_true hend] at HLS
            have HE := Lib.hid (quo_end htR (by rw [← hSe]; exact hend))
            clear hSe htR hPJ hend HTK
            go_wp2_with fail
            refine HLS.out.mono ?_
            rintro e w5 ⟨rfl, h5⟩
            have HEND := Lib.hid (show S = x / 10 ^ i % y ∧ PtI w n (qlist x y n i) S A9 c9 w5 by
              have h1 : S = x / 10 ^ i % y := by rw [HJ.out.1, HE.out.2, HST.out.1]
              refine ⟨h1, ?_⟩
              have h3 := HJ.out.2.2
              rw [HE.out.1, HST.out.2.1, qlist_set] at h3
              exact h3.next h5 (h3.dr.below2 h5))
            clear h5
            go_wp2
            go_roundw
            case rel => exact ⟨i, A9, c9, by rw [← HEND.out.1], rfl, by omega, Lib.hid (by rw [← HEND.out.1]; exact HEND.out.2)⟩
            case measure => simp [intOf]
          · rw [decide_eq_false hend] at HLS
            have HE := Lib.hid (quo_more htR (by rw [← hSe]; exact hend))
            have ht8 : t < 9 := by
              have h1 := HST.out.2.2
              have h2 : t + 1 ≤ R / y := (Nat.le_div_iff_mul_le HY0.out).2 HE.out.1
              omega
            have hle : y ≤ S := by omega
            have HTK2 := Lib.hid (fun w5 hb => HTK.out w5 hb hle)
            clear hSe htR hPJ hend hle HTK
            go_wp2_with fail
            refine HLS.out.mono ?_
            rintro e w5 ⟨rfl, h5⟩
            have HT5 := Lib.hid (HTK2.out w5 h5)
            have H5 := Lib.hid h5
            clear h5
            go_wp2_with fail
            refine HT5.out.mono ?_
            rintro e w6 ⟨A10, c10, rfl, hd10, h6, hn10⟩
            have HP6 := Lib.hid (HJ.out.2.2.next (H5.out.trans (h6.mono H5.out.size)) hd10)
            have c6 := own_cell HP6.out.own (j := i) (u := .int .i64 (t : Int)) (by unfold intsV; rw [List.getElem?_map, List.getElem?_set_self (by rw [qlist_len]; omega)]; rfl)
            have f6 := own_fz HP6.out.own i
            have HST6 := Lib.hid (show PtI w n ((qlist x y n (i + 1)).set i (t + 1)) (S - y) A10 c10 (w6.setCell ⟨w.heap.size, i, none⟩ (.int .i64 ((t : Int) + 1))) from by
              have hw : w.heap.size < w5.heap.size := by
                have h1 := (HJ.out.2.2.own.lt w.heap.size rfl).2
                have h2 := H5.out.size
                omega
              refine ⟨HP6.out.below.setCell (p := ⟨w.heap.size, i, none⟩) (Nat.le_refl _) _, ?_, ?_⟩
              · have h1 := (HP6.out.own.stored i (.int .i64 ((t : Int) + 1))).1
                rw [show (intsV ((qlist x y n (i + 1)).set i t)).set i (.int .i64 ((t : Int) + 1)) = intsV ((qlist x y n (i + 1)).set i (t + 1)) by
                  unfold intsV
                  rw [List.map_set, List.set_set, List.map_set]
                  rfl] at h1
                exact h1
              · refine ⟨HP6.out.dr.1, fun j hj => ?_⟩
                obtain ⟨g9, q1, q2, q3⟩ := HP6.out.dr.2 j hj
                have hne : g9 ≠ w.heap.size := by
                  have := hn10 g9 q1 (by omega)
                  omega
                refine ⟨g9, q1, by simp [World.setCell]; exact q2, ?_⟩
                rw [World.cell?_of_block (a := ⟨g9, j, none⟩) (Below.heap_setCell w6 ⟨w.heap.size, i, none⟩ _ g9 hne)]
                exact q3)
            have HNS := Lib.hid (show S - y = R - (t + 1) * y by rw [← HE.out.2, HJ.out.1])
            have HMU2 := Lib.hid (show tOf w.heap.size i (w6.setCell ⟨w.heap.size, i, none⟩ (.int .i64 ((t : Int) + 1))) = t + 1 by
              unfold tOf
              rw [own_cell HST6.out.own (j := i) (u := .int .i64 ((t + 1 : Nat) : Int)) (by unfold intsV; rw [List.getElem?_map, List.getElem?_set_self (by rw [qlist_len]; omega)]; rfl)]
              simp [intOf])
            clear hd10 h6 hn10
            go_wp2
            go_roundw
            case rel => exact ⟨t + 1, S - y, A10, c10, rfl, by omega, Lib.hid ⟨HNS.out, HE.out.1, HST6.out⟩⟩
            case measure => rw [HMU.out, HMU2.out]; omega
end Go.Proofs.YtdcjpinbflmikaaGreatDoor
namespace Go.Proofs.YtdcjpinbflmikaaGreatDoor
open Go.RowKit
theorem lg_len {b : Bool} {n k : Nat} {z : Int} (h : sg b n = z) (hz : z.natAbs < 10 ^ k) : (Nu.dig n).length ≤ k := by
  refine Nu.dig_len_le ?_
  rw [← h, sg_abs] at hz
  exact hz
theorem fits_abs {z : Int} (h : Nu.fits z) : z.natAbs < 10 ^ 19 := by unfold Nu.fits at h; omega
theorem sum_abs {a b : Int} (ha : Nu.fits a) (hb : Nu.fits b) : (a + b).natAbs < 10 ^ 20 := by unfold Nu.fits at ha hb; omega
theorem dif_abs {a b : Int} (ha : Nu.fits a) (hb : Nu.fits b) : (a + -b).natAbs < 10 ^ 20 := by unfold Nu.fits at ha hb; omega
theorem mul_abs {a b : Int} (ha : Nu.fits a) (hb : Nu.fits b) : (a * b).natAbs < 10 ^ 38 := by
  rw [Int.natAbs_mul]
  have h1 := fits_abs ha
  have h2 := fits_abs hb
  rw [show 38 = 19 + 19 from rfl, Nat.pow_add]
  exact Nat.mul_lt_mul'' h1 h2
theorem of_z (w : World) (a : Int) (h : Nu.fits a) : Calls Tryz.prog 196 #[.int .i64 a] w (LgP w a) := by
  have e : a = sg (decide (a < 0)) a.natAbs := by
    unfold sg
    by_cases h0 : a < 0
    · rw [decide_eq_true h0]; simp; omega
    · rw [decide_eq_false h0]; simp; omega
  have := nuof_any w (decide (a < 0)) a.natAbs (by rw [← e]; exact h) (fun h0 => by have := of_decide_eq_true h0; omega)
  rw [← e] at this
  exact this
theorem told_z (w : World) (A : Option Addr) (c x : Nat) (b : Bool) (z : Int) (h : Dr w A c (Nu.dig x)) (hz : sg b x = z) (hx : (Nu.dig x).length ≤ 500) :
    Calls Tryz.prog 194 #[.agg #[.slice A (Nu.dig x).length c, .bool b]] w fun e w' => e = .returned (tv (Nu.tell z)) ∧ Below w.heap.size w w' := hz ▸ told_any w A c x b h hx
set_option maxHeartbeats 2000000 in
set_option maxRecDepth 100000 in
theorem radd_any (a b : Int) (w : World) (ha : Nu.fits a) (hb : Nu.fits b) :
    Calls Tryz.prog 200 #[.int .i64 a, .int .i64 b] w fun e w' => e = .returned (tv (Nu.tell (a + b))) ∧ Below w.heap.size w w' := by
  have HA := Lib.hid ha
  have HB := Lib.hid hb
  clear ha hb
  go_enter Tryz.func200, Tryz.ntmps200
  go_wp2_with fail
  refine (of_z _ a HA.out).mono ?_
  rintro e w1 ⟨A1, c1, b1, n1, rfl, hd1, hs1, hb1⟩
  have D1 := Lib.hid hd1
  have S1 := Lib.hid hs1
  have B1 := Lib.hid (hb1)
  have Q1 := Lib.hid hb1
  clear hd1 hs1 hb1
  go_wp2_with fail
  refine (of_z _ b HB.out).mono ?_
  rintro e w2 ⟨A2, c2, b2, n2, rfl, hd2, hs2, hb2⟩
  have D2 := Lib.hid hd2
  have S2 := Lib.hid hs2
  have B2 := Lib.hid (B1.out.trans (hb2.mono B1.out.size))
  have Q2 := Lib.hid hb2
  clear hd2 hs2 hb2
  go_wp2_with fail
  refine (plus_any _ _ _ _ _ _ _ _ _ (D1.out.below2 Q2.out) D2.out (Nat.le_trans (lg_len S1.out (fits_abs HA.out)) (by decide)) (Nat.le_trans (lg_len S2.out (fits_abs HB.out)) (by decide))).mono ?_
  rintro e w3 ⟨A3, c3, b3, n3, rfl, hd3, hs3, hb3⟩
  have D3 := Lib.hid hd3
  have S3 := Lib.hid hs3
  have B3 := Lib.hid (B2.out.trans (hb3.mono B2.out.size))
  have Q3 := Lib.hid hb3
  clear hd3 hs3 hb3
  have HZ := Lib.hid (show sg b3 n3 = a + b by rw [S3.out, S1.out, S2.out])
  go_wp2_with fail
  refine (told_z _ _ _ _ _ _ D3.out HZ.out (Nat.le_trans (lg_len (k := 20) HZ.out (sum_abs HA.out HB.out)) (by decide))).mono ?_
  rintro e w9 ⟨rfl, hb9⟩
  have B9 := Lib.hid (B3.out.trans (hb9.mono B3.out.size))
  clear hb9
  unfold tv
  go_wp2
  go_ret2
  exact ⟨rfl, B9.out⟩
set_option maxHeartbeats 2000000 in
set_option maxRecDepth 100000 in
theorem rsub_any (a b : Int) (w : World) (ha : Nu.fits a) (hb : Nu.fits b) :
    Calls Tryz.prog 201 #[.int .i64 a, .int .i64 b] w fun e w' => e = .returned (tv (Nu.tell (a - b))) ∧ Below w.heap.size w w' := by
  have HA := Lib.hid ha
  have HB := Lib.hid hb
  have HE := Lib.hid (show a - b = a + -b by omega)
  rw [HE.out]
  clear ha hb
  go_enter Tryz.func201, Tryz.ntmps201
  go_wp2_with fail
  refine (of_z _ a HA.out).mono ?_
  rintro e w1 ⟨A1, c1, b1, n1, rfl, hd1, hs1, hb1⟩
  have D1 := Lib.hid hd1
  have S1 := Lib.hid hs1
  have B1 := Lib.hid (hb1)
  have Q1 := Lib.hid hb1
  clear hd1 hs1 hb1
  go_wp2_with fail
  refine (of_z _ b HB.out).mono ?_
  rintro e w2 ⟨A2, c2, b2, n2, rfl, hd2, hs2, hb2⟩
  have D2 := Lib.hid hd2
  have S2 := Lib.hid hs2
  have B2 := Lib.hid (B1.out.trans (hb2.mono B1.out.size))
  have Q2 := Lib.hid hb2
  clear hd2 hs2 hb2
  go_wp2_with fail
  refine (minus_any _ _ _ _ _ D2.out).mono ?_
  rintro e w3 ⟨A3, c3, b3, n3, rfl, hd3, hs3, hb3⟩
  have D3 := Lib.hid hd3
  have S3 := Lib.hid hs3
  have B3 := Lib.hid (B2.out.trans (hb3.mono B2.out.size))
  have Q3 := Lib.hid hb3
  clear hd3 hs3 hb3
  have HZ3 := Lib.hid (show sg b3 n3 = -b by rw [S3.out, S2.out])
  go_wp2_with fail
  refine (plus_any _ _ _ _ _ _ _ _ _ ((D1.out.below2 Q2.out).below2 Q3.out) D3.out (Nat.le_trans (lg_len S1.out (fits_abs HA.out)) (by decide)) (Nat.le_trans (lg_len (k := 19) HZ3.out (by rw [Int.natAbs_neg]; exact fits_abs HB.out)) (by decide))).mono ?_
  rintro e w4 ⟨A4, c4, b4, n4, rfl, hd4, hs4, hb4⟩
  have D4 := Lib.hid hd4
  have S4 := Lib.hid hs4
  have B4 := Lib.hid (B3.out.trans (hb4.mono B3.out.size))
  have Q4 := Lib.hid hb4
  clear hd4 hs4 hb4
  have HZ := Lib.hid (show sg b4 n4 = a + -b by rw [S4.out, S1.out, HZ3.out])
  go_wp2_with fail
  refine (told_z _ _ _ _ _ _ D4.out HZ.out (Nat.le_trans (lg_len (k := 20) HZ.out (dif_abs HA.out HB.out)) (by decide))).mono ?_
  rintro e w9 ⟨rfl, hb9⟩
  have B9 := Lib.hid (B4.out.trans (hb9.mono B4.out.size))
  clear hb9
  unfold tv
  go_wp2
  go_ret2
  exact ⟨rfl, B9.out⟩
set_option maxHeartbeats 2000000 in
set_option maxRecDepth 100000 in
theorem rmul_any (a b : Int) (w : World) (ha : Nu.fits a) (hb : Nu.fits b) :
    Calls Tryz.prog 197 #[.int .i64 a, .int .i64 b] w fun e w' => e = .returned (tv (Nu.tell (a * b))) ∧ Below w.heap.size w w' := by
  have HA := Lib.hid ha
  have HB := Lib.hid hb
  clear ha hb
  go_enter Tryz.func197, Tryz.ntmps197
  go_wp2_with fail
  refine (of_z _ a HA.out).mono ?_
  rintro e w1 ⟨A1, c1, b1, n1, rfl, hd1, hs1, hb1⟩
  have D1 := Lib.hid hd1
  have S1 := Lib.hid hs1
  have B1 := Lib.hid (hb1)
  have Q1 := Lib.hid hb1
  clear hd1 hs1 hb1
  go_wp2_with fail
  refine (of_z _ b HB.out).mono ?_
  rintro e w2 ⟨A2, c2, b2, n2, rfl, hd2, hs2, hb2⟩
  have D2 := Lib.hid hd2
  have S2 := Lib.hid hs2
  have B2 := Lib.hid (B1.out.trans (hb2.mono B1.out.size))
  have Q2 := Lib.hid hb2
  clear hd2 hs2 hb2
  go_wp2_with fail
  refine (times_any _ _ _ _ _ _ _ _ _ (D1.out.below2 Q2.out) D2.out (Nat.le_trans (lg_len S1.out (fits_abs HA.out)) (by decide)) (Nat.le_trans (lg_len S2.out (fits_abs HB.out)) (by decide))).mono ?_
  rintro e w3 ⟨A3, c3, b3, n3, rfl, hd3, hs3, hb3⟩
  have D3 := Lib.hid hd3
  have S3 := Lib.hid hs3
  have B3 := Lib.hid (B2.out.trans (hb3.mono B2.out.size))
  have Q3 := Lib.hid hb3
  clear hd3 hs3 hb3
  have HZ := Lib.hid (show sg b3 n3 = a * b by rw [S3.out, S1.out, S2.out])
  go_wp2_with fail
  refine (told_z _ _ _ _ _ _ D3.out HZ.out (Nat.le_trans (lg_len (k := 38) HZ.out (mul_abs HA.out HB.out)) (by decide))).mono ?_
  rintro e w9 ⟨rfl, hb9⟩
  have B9 := Lib.hid (B3.out.trans (hb9.mono B3.out.size))
  clear hb9
  unfold tv
  go_wp2
  go_ret2
  exact ⟨rfl, B9.out⟩
set_option maxHeartbeats 2000000 in
set_option maxRecDepth 100000 in
theorem rneg_any (a : Int) (w : World) (ha : Nu.fits a) :
    Calls Tryz.prog 142 #[.int .i64 a] w fun e w' => e = .returned (tv (Nu.tell (-a))) ∧ Below w.heap.size w w' := by
  have HA := Lib.hid ha
  clear ha
  go_enter Tryz.func142, Tryz.ntmps142
  go_wp2_with fail
  refine (of_z _ a HA.out).mono ?_
  rintro e w1 ⟨A1, c1, b1, n1, rfl, hd1, hs1, hb1⟩
  have D1 := Lib.hid hd1
  have S1 := Lib.hid hs1
  have B1 := Lib.hid (hb1)
  have Q1 := Lib.hid hb1
  clear hd1 hs1 hb1
  go_wp2_with fail
  refine (minus_any _ _ _ _ _ D1.out).mono ?_
  rintro e w2 ⟨A2, c2, b2, n2, rfl, hd2, hs2, hb2⟩
  have D2 := Lib.hid hd2
  have S2 := Lib.hid hs2
  have B2 := Lib.hid (B1.out.trans (hb2.mono B1.out.size))
  have Q2 := Lib.hid hb2
  clear hd2 hs2 hb2
  have HZ := Lib.hid (show sg b2 n2 = -a by rw [S2.out, S1.out])
  go_wp2_with fail
  refine (told_z _ _ _ _ _ _ D2.out HZ.out (Nat.le_trans (lg_len (k := 19) HZ.out (by rw [Int.natAbs_neg]; exact fits_abs HA.out)) (by decide))).mono ?_
  rintro e w9 ⟨rfl, hb9⟩
  have B9 := Lib.hid (B2.out.trans (hb9.mono B2.out.size))
  clear hb9
  unfold tv
  go_wp2
  go_ret2
  exact ⟨rfl, B9.out⟩
theorem tdiv_sg {a b : Int} : sg (decide (a < 0) != decide (b < 0)) (a.natAbs / b.natAbs) = a.tdiv b := by
  have ea : a = sg (decide (a < 0)) a.natAbs := by
    unfold sg
    by_cases h0 : a < 0
    · rw [decide_eq_true h0]; simp; omega
    · rw [decide_eq_false h0]; simp; omega
  have eb : b = sg (decide (b < 0)) b.natAbs := by
    unfold sg
    by_cases h0 : b < 0
    · rw [decide_eq_true h0]; simp; omega
    · rw [decide_eq_false h0]; simp; omega
  conv => rhs; rw [ea, eb]
  generalize decide (a < 0) = p
  generalize decide (b < 0) = q
  cases p <;> cases q <;> simp [sg, Int.neg_tdiv, Int.tdiv_neg] <;> exact (Int.tdiv_eq_ediv_of_nonneg (Int.natCast_nonneg _)).symm
theorem tmod_sg {a b : Int} : sg (decide (a < 0)) (a.natAbs % b.natAbs) = a.tmod b := by
  have ea : a = sg (decide (a < 0)) a.natAbs := by
    unfold sg
    by_cases h0 : a < 0
    · rw [decide_eq_true h0]; simp; omega
    · rw [decide_eq_false h0]; simp; omega
  have eb : a.tmod b = a.tmod b.natAbs := by
    rcases Int.natAbs_eq b with h | h
    · rw [← h]
    · conv => lhs; rw [h, Int.tmod_neg]
  rw [eb]
  conv => rhs; rw [ea]
  generalize decide (a < 0) = p
  cases p <;> simp [sg, Int.neg_tmod] <;> exact (Int.tmod_eq_emod_of_nonneg (Int.natCast_nonneg _)).symm
theorem run_field0 (A : Option Addr) (n c : Nat) (b : Bool) (w : World) : (Instr.field 268 (.agg #[.slice A n c, .bool b]) 0).run Tryz.prog w = .ok (.slice A n c) w := by kernel_rfl
theorem quo_len {a b : Nat} (h : a < 10 ^ 19) : (Nu.dig (a / b)).length ≤ 500 := Nat.le_trans (Nu.dig_len_le (Nat.lt_of_le_of_lt (Nat.div_le_self a b) h)) (by decide)
theorem mod_len {a b : Nat} (h : a < 10 ^ 19) : (Nu.dig (a % b)).length ≤ 500 := Nat.le_trans (Nu.dig_len_le (Nat.lt_of_le_of_lt (Nat.mod_le a b) h)) (by decide)
set_option maxHeartbeats 2000000 in
set_option maxRecDepth 100000 in
theorem rdiv_any (a b : Int) (w : World) (ha : Nu.fits a) (hb : Nu.fits b) :
    Calls Tryz.prog 198 #[.int .i64 a, .int .i64 b] w fun e w' => e = .returned (tv (Nu.div a b)) ∧ Below w.heap.size w w' := by
  have HA := Lib.hid ha
  have HB := Lib.hid hb
  clear ha hb
  unfold Nu.div
  by_cases h0 : b = 0
  · subst h0
    rw [if_pos rfl]
    go_enter Tryz.func198, Tryz.ntmps198
    go_wp2
    go_ret2
    exact ⟨rfl, Below.refl _ _⟩
  · rw [if_neg h0]
    have H0 := Lib.hid h0
    have HTD := Lib.hid (tdiv_sg (a := a) (b := b))
    have h0' : (b == 0) = false := beq_eq_false_iff_ne.2 h0
    clear h0
    obtain ⟨p, hp⟩ : ∃ p, decide (a < 0) = p := ⟨_, rfl⟩
    obtain ⟨q, hq⟩ : ∃ q, decide (b < 0) = q := ⟨_, rfl⟩
    obtain ⟨u, hu⟩ : ∃ u, (p == q) = u := ⟨_, rfl⟩
    rw [hp, hq, show (p != q) = !u by rw [← hu]; rfl] at HTD
    go_enter Tryz.func198, Tryz.ntmps198
    have hfield := run_field0
    go_wp2_with fail
    refine (of_z _ a HA.out).mono ?_
    rintro e w1 ⟨A1, c1, b1, n1, rfl, hd1, hs1, hb1⟩
    have D1 := Lib.hid hd1
    have S1 := Lib.hid hs1
    have B1 := Lib.hid (hb1)
    have Q1 := Lib.hid hb1
    clear hd1 hs1 hb1
    go_wp2_with fail
    refine (of_z _ b HB.out).mono ?_
    rintro e w2 ⟨A2, c2, b2, n2, rfl, hd2, hs2, hb2⟩
    have D2 := Lib.hid hd2
    have S2 := Lib.hid hs2
    have B2 := Lib.hid (B1.out.trans (hb2.mono B1.out.size))
    have Q2 := Lib.hid hb2
    clear hd2 hs2 hb2
    have N1 := Lib.hid (show n1 = a.natAbs by rw [← S1.out, sg_abs])
    have N2 := Lib.hid (show n2 = b.natAbs by rw [← S2.out, sg_abs])
    go_wp2_with fail
    refine (parts_any _ _ _ _ _ _ _ (D1.out.below2 Q2.out) D2.out (Nat.le_trans (lg_len S1.out (fits_abs HA.out)) (by decide)) (Nat.le_trans (lg_len S2.out (fits_abs HB.out)) (by decide)) (by rw [N2.out]; have := H0.out; omega)).mono ?_
    rintro e w3 ⟨A3, c3, A4, c4, rfl, hd3, hd4, hb3⟩
    have D3 := Lib.hid hd3
    have D4 := Lib.hid hd4
    have B3 := Lib.hid (B2.out.trans (hb3.mono B2.out.size))
    clear hd3 hd4 hb3
    have HZ := Lib.hid (show sg (!u) (n1 / n2) = a.tdiv b by rw [N1.out, N2.out]; exact HTD.out)
    go_wp2_with fail
    refine (told_z _ _ _ _ _ _ D3.out HZ.out (quo_len (by rw [N1.out]; exact fits_abs HA.out))).mono ?_
    rintro e w9 ⟨rfl, hb9⟩
    have B9 := Lib.hid (B3.out.trans (hb9.mono B3.out.size))
    clear hb9
    unfold tv
    go_wp2
    go_ret2
    exact ⟨rfl, B9.out⟩
set_option maxHeartbeats 2000000 in
set_option maxRecDepth 100000 in
theorem rmod_any (a b : Int) (w : World) (ha : Nu.fits a) (hb : Nu.fits b) :
    Calls Tryz.prog 199 #[.int .i64 a, .int .i64 b] w fun e w' => e = .returned (tv (Nu.mod a b)) ∧ Below w.heap.size w w' := by
  have HA := Lib.hid ha
  have HB := Lib.hid hb
  clear ha hb
  unfold Nu.mod
  by_cases h0 : b = 0
  · subst h0
    rw [if_pos rfl]
    go_enter Tryz.func199, Tryz.ntmps199
    go_wp2
    go_ret2
    exact ⟨rfl, Below.refl _ _⟩
  · rw [if_neg h0]
    have H0 := Lib.hid h0
    have HTD := Lib.hid (tmod_sg (a := a) (b := b))
    have h0' : (b == 0) = false := beq_eq_false_iff_ne.2 h0
    clear h0
    obtain ⟨p, hp⟩ : ∃ p, decide (a < 0) = p := ⟨_, rfl⟩
    rw [hp] at HTD
    go_enter Tryz.func199, Tryz.ntmps199
    have hfield := run_field0
    go_wp2_with fail
    refine (of_z _ a HA.out).mono ?_
    rintro e w1 ⟨A1, c1, b1, n1, rfl, hd1, hs1, hb1⟩
    have D1 := Lib.hid hd1
    have S1 := Lib.hid hs1
    have B1 := Lib.hid (hb1)
    have Q1 := Lib.hid hb1
    clear hd1 hs1 hb1
    go_wp2_with fail
    refine (of_z _ b HB.out).mono ?_
    rintro e w2 ⟨A2, c2, b2, n2, rfl, hd2, hs2, hb2⟩
    have D2 := Lib.hid hd2
    have S2 := Lib.hid hs2
    have B2 := Lib.hid (B1.out.trans (hb2.mono B1.out.size))
    have Q2 := Lib.hid hb2
    clear hd2 hs2 hb2
    have N1 := Lib.hid (show n1 = a.natAbs by rw [← S1.out, sg_abs])
    have N2 := Lib.hid (show n2 = b.natAbs by rw [← S2.out, sg_abs])
    go_wp2_with fail
    refine (parts_any _ _ _ _ _ _ _ (D1.out.below2 Q2.out) D2.out (Nat.le_trans (lg_len S1.out (fits_abs HA.out)) (by decide)) (Nat.le_trans (lg_len S2.out (fits_abs HB.out)) (by decide)) (by rw [N2.out]; have := H0.out; omega)).mono ?_
    rintro e w3 ⟨A3, c3, A4, c4, rfl, hd3, hd4, hb3⟩
    have D3 := Lib.hid hd3
    have D4 := Lib.hid hd4
    have B3 := Lib.hid (B2.out.trans (hb3.mono B2.out.size))
    clear hd3 hd4 hb3
    have HZ := Lib.hid (show sg p (n1 % n2) = a.tmod b by rw [N1.out, N2.out]; exact HTD.out)
    go_wp2_with fail
    refine (told_z _ _ _ _ _ _ D4.out HZ.out (mod_len (by rw [N1.out]; exact fits_abs HA.out))).mono ?_
    rintro e w9 ⟨rfl, hb9⟩
    have B9 := Lib.hid (B3.out.trans (hb9.mono B3.out.size))
    clear hb9
    unfold tv
    go_wp2
    go_ret2
    exact ⟨rfl, B9.out⟩
end Go.Proofs.YtdcjpinbflmikaaGreatDoor
namespace Go.Proofs.YtdcjpinbflmikaaGreatDoor
open Go.RowKit
end Go.Proofs.YtdcjpinbflmikaaGreatDoor
