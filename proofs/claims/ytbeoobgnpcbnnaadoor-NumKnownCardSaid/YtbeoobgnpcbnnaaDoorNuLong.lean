/- Layer 6's reference: long numbers: Minus, Fits, told, walked. Conditions: the digits lie in memory, and are few. -/
import Derived.Test.YtbeoobgnpcbnnaaDoorNuAdd
namespace Go.Proofs.YtbeoobgnpcbnnaaDoor
open Go.RowKit

/-- Block g is just these cells. -/
def IsBlk (w : World) (g : Nat) (t : TypeId) (cs : Array Value) : Prop := w.heap[g]? = some (.cells cs t (0, 0))
theorem IsBlk.lt {w : World} {g : Nat} {t : TypeId} {cs : Array Value} (h : IsBlk w g t cs) : g < w.heap.size := by
  rcases Nat.lt_or_ge g w.heap.size with hlt | hge
  · exact hlt
  · unfold IsBlk at h; rw [Array.getElem?_eq_none hge] at h; cases h
theorem IsBlk.at_ {w : World} {g : Nat} {t : TypeId} {cs : Array Value} (h : IsBlk w g t cs) (i : Nat) : w.cell? ⟨g, i, none⟩ = cs[i]? := Lib.cell_of_heap h i
theorem IsBlk.fz {w : World} {g : Nat} {t : TypeId} {cs : Array Value} (h : IsBlk w g t cs) (i : Nat) : w.frozen? ⟨g, i, none⟩ = false := by
  unfold IsBlk at h; simp [World.frozen?, h]
theorem IsBlk.new (w : World) (t : TypeId) (cs : Array Value) : IsBlk (w.alloc (.cells cs t)) w.heap.size t cs := heap_alloc_new w _
theorem IsBlk.below {B : Nat} {w w' : World} {g : Nat} {t : TypeId} {cs : Array Value} (h : IsBlk w g t cs) (hb : Below B w w') (hg : g < B) : IsBlk w' g t cs := (hb.block g hg).trans h
theorem IsBlk.set {w : World} {g : Nat} {t : TypeId} {cs : Array Value} (h : IsBlk w g t cs) (i : Nat) (u : Value) : IsBlk (w.setCell ⟨g, i, none⟩ u) g t (cs.setIfInBounds i u) := by
  unfold IsBlk at h ⊢
  simp [World.setCell, Array.getElem?_modify, h]
theorem IsBlk.far {w : World} {g : Nat} {t : TypeId} {cs : Array Value} (h : IsBlk w g t cs) {p : Addr} (hp : g ≠ p.block) (u : Value) : IsBlk (w.setCell p u) g t cs := (Below.heap_setCell w p u g hp).trans h

def sg (b : Bool) (n : Nat) : Int := if b then -(n : Int) else n
theorem sg_abs (b : Bool) (n : Nat) : (sg b n).natAbs = n := by cases b <;> simp [sg]
/-- What a function that makes a long number answers. -/
def LgP (w : World) (z : Int) (e : Ending) (w' : World) : Prop := ∃ A c b n, e = .returned (.agg #[.slice A (Nu.dig n).length c, .bool b]) ∧ Dr w' A c (Nu.dig n) ∧ sg b n = z ∧ Below w.heap.size w w'
theorem LgP.from {z : Int} {w w1 w' : World} {e : Ending} (hb : Below w.heap.size w w1) (h : LgP w1 z e w') : LgP w z e w' := by
  obtain ⟨A, c, b, n, h1, h2, h3, h4⟩ := h
  exact ⟨A, c, b, n, h1, h2, h3, hb.trans (h4.mono hb.size)⟩
theorem Dr.below2 {w w' : World} {A : Option Addr} {c : Nat} {l : List Nat} (h : Dr w A c l) (hb : Below w.heap.size w w') : Dr w' A c l := h.below hb (Nat.le_refl _)

set_option maxHeartbeats 2000000 in
set_option maxRecDepth 100000 in
theorem minus_any (w : World) (A : Option Addr) (c n : Nat) (b : Bool) (h : Dr w A c (Nu.dig n)) :
    Calls Tryd.prog 30 #[.agg #[.slice A (Nu.dig n).length c, .bool b]] w (LgP w (- sg b n)) := by
  have H := Lib.hid (show - sg b n = sg (!b) n from by cases b <;> simp [sg])
  have HD := Lib.hid h
  rw [H.out]
  clear h
  obtain ⟨q, hq⟩ : ∃ q, q = (Nu.dig n).length := ⟨_, rfl⟩
  rw [← hq]
  have HQ := Lib.hid hq
  clear hq
  go_enter Tryd.func30, Tryd.ntmps30
  go_wp2
  refine bodyPost_ret (v := .agg #[.slice A q c, .bool (!b)]) (by simp [results, Tryd.results30, go_sem]) rfl ?_
  have hB : ∀ o1 o2, Below w.heap.size w ((w.alloc o1).alloc o2) := fun o1 o2 => ((Below.refl _ _).alloc (Nat.le_refl _) _).alloc (by simp) _
  exact ⟨A, c, !b, n, by rw [HQ.out], HD.out.below2 (hB _ _), rfl, hB _ _⟩

theorem Nu.fits_test {m d : Nat} (hd : d < 10) : ∃ t : Int, (-9223372036854775808 + (d : Int)).tdiv 10 = t ∧ -9223372036854775808 ≤ t ∧ t ≤ 0 ∧ (-(m : Int) < t ↔ 9223372036854775808 < 10 * m + d) := by
  refine ⟨-(((9223372036854775808 - d) / 10 : Nat) : Int), ?_, by omega, by omega, by omega⟩
  have : (-9223372036854775808 + (d : Int)) = -((9223372036854775808 - d : Nat) : Int) := by omega
  rw [this, Int.neg_tdiv, Int.tdiv_eq_ediv_of_nonneg (by omega)]
  rfl
theorem Nu.top_lim {x k : Nat} (h : 9223372036854775808 < x / 10 ^ k) : 9223372036854775808 < x := Nat.lt_of_lt_of_le h (Nat.div_le_self _ _)
def fitV (z : Int) : Value := .tuple #[.int .i64 (if Nu.fits z then z else 0), .bool (decide (Nu.fits z))]
set_option maxHeartbeats 2000000 in
set_option maxRecDepth 100000 in
theorem fits_any (w : World) (A : Option Addr) (c x : Nat) (b : Bool) (h : Dr w A c (Nu.dig x)) (hx : (Nu.dig x).length ≤ 500) :
    Calls Tryd.prog 38 #[.agg #[.slice A (Nu.dig x).length c, .bool b]] w fun e w' => e = .returned (fitV (sg b x)) ∧ Below w.heap.size w w' := by
  obtain ⟨W0, hW0⟩ : ∃ W0, W0 = w.alloc (.cells #[.slice A (Nu.dig x).length c, .bool b] 40) := ⟨_, rfl⟩
  have hb0 : Below w.heap.size w W0 := by rw [hW0]; exact (Below.refl _ _).alloc (Nat.le_refl _) _
  have hk0 : IsBlk W0 w.heap.size 40 #[.slice A (Nu.dig x).length c, .bool b] := by rw [hW0]; exact IsBlk.new _ _ _
  have t0 := hk0.at_ 0
  have t1 := hk0.at_ 1
  have HX := Lib.hid (fun j hj => (h.below2 hb0).get (j := j) hj)
  have H0 := Lib.hid (Nu.top_full x)
  have hqc := h.len
  obtain ⟨q, hq⟩ : ∃ q, q = (Nu.dig x).length := ⟨_, rfl⟩
  rw [← hq] at hx HX hqc t0 hW0 H0 ⊢
  obtain ⟨R, hR⟩ : ∃ R, R = fitV (sg b x) := ⟨_, rfl⟩
  rw [← hR]
  have HR := Lib.hid hR
  have HW0 := Lib.hid hW0
  have HB0 := Lib.hid hb0
  clear h hR hq hW0 hb0 hk0
  simp only [List.getElem?_toArray, List.getElem?_cons_zero, List.getElem?_cons_succ] at t0 t1
  go_enter Tryd.func38, Tryd.ntmps38
  go_wp2
  rw [← HW0.out]
  go_loop [4, 5] (fun nv iv => ∃ k m : Nat, nv = .int .i64 (-(m : Int)) ∧ iv = .int .i64 ((k : Int) - 1) ∧ k ≤ q ∧ m ≤ 9223372036854775808 ∧ Hid (m = x / 10 ^ k)) (fun _ iv => (intOf iv + 1).toNat)
  case atStart => exact ⟨q, 0, rfl, rfl, Nat.le_refl _, by omega, Lib.hid H0.out.symm⟩
  case round =>
    obtain ⟨k, m, rfl, rfl, hk, hm, HI⟩ := hrel
    rcases k with _ | k
    · have hneg : ¬ ((0 : Nat) : Int) - 1 ≥ 0 := by omega
      have HM := Lib.hid (HI.out.trans (Nu.top_zero x))
      have hF : ∀ z : Int, ∀ p : Bool, (Nu.fits z ↔ p = true) → fitV z = .tuple #[.int .i64 (if p then z else 0), .bool p] := fun z p hp => by
        unfold fitV
        cases p with
        | true => rw [if_pos (hp.2 rfl), decide_eq_true (hp.2 rfl)]; rfl
        | false => rw [if_neg (fun h => by have := hp.1 h; cases this), decide_eq_false (fun h => by have := hp.1 h; cases this)]; rfl
      have HF := Lib.hid hF
      clear hF HI
      cases b with
      | true =>
        have HE := Lib.hid (show R = .tuple #[.int .i64 (-(m : Int)), .bool true] by rw [HR.out, HF.out _ true (by unfold Nu.fits sg; have := HM.out; simp; omega), ← HM.out]; rfl)
        go_wp2
        go_ret2
        exact ⟨by rw [HE.out]; rfl, HB0.out⟩
      | false =>
        by_cases hz : m = 0
        · subst hz
          have HE := Lib.hid (show R = .tuple #[.int .i64 0, .bool true] by rw [HR.out, HF.out _ true (by unfold Nu.fits sg; have := HM.out; simp; omega), ← HM.out]; rfl)
          go_wp2
          go_ret2
          exact ⟨by rw [HE.out]; rfl, HB0.out⟩
        · have hz' : (-(m : Int) == 0) = false := beq_eq_false_iff_ne.2 (by omega)
          by_cases hl : m = 9223372036854775808
          · have HE := Lib.hid (show R = .tuple #[.int .i64 0, .bool false] by rw [HR.out, HF.out _ false (by unfold Nu.fits sg; have := HM.out; simp; omega), ← HM.out]; rfl)
            have hl' : (-(m : Int) == -9223372036854775808) = true := beq_iff_eq.2 (by omega)
            clear hl
            go_wp2
            go_ret2
            exact ⟨by rw [HE.out]; rfl, HB0.out⟩
          · have HE := Lib.hid (show R = .tuple #[.int .i64 (m : Int), .bool true] by rw [HR.out, HF.out _ true (by unfold Nu.fits sg; have := HM.out; simp; omega), ← HM.out]; rfl)
            have hl' : (-(m : Int) == -9223372036854775808) = false := beq_eq_false_iff_ne.2 (by omega)
            have hl2 : -(-(m : Int)) = (m : Int) := by omega
            have hm2 : m < 9223372036854775808 := by omega
            clear hl
            go_wp2
            go_ret2
            exact ⟨by rw [HE.out]; rfl, HB0.out⟩
    · obtain ⟨g, hA, hg, hc⟩ := HX.out k (by omega)
      subst hA
      have e0 : ((k + 1 : Nat) : Int) - 1 = (k : Int) := by omega
      rw [e0]
      have HST := Lib.hid (Nu.top_step x k)
      have HXD := Lib.hid (Nu.top_lim (x := x) (k := k))
      have hd9 : x / 10 ^ k % 10 < 10 := Nat.mod_lt _ (by decide)
      generalize x / 10 ^ k % 10 = d at *
      obtain ⟨t, ht, ht1, ht2, ht3⟩ := Nu.fits_test (m := m) hd9
      have HT3 := Lib.hid ht3
      have hkq : (k : Int) < (q : Int) := by omega
      clear e0 ht3
      by_cases hlim : 9223372036854775808 < 10 * m + d
      · have htt : -(m : Int) < t := HT3.out.2 hlim
        have HE := Lib.hid (show R = .tuple #[.int .i64 0, .bool false] by
          have h1 := HXD.out (by rw [HST.out, ← HI.out]; exact hlim)
          rw [HR.out]
          unfold fitV
          have h2 : ¬ Nu.fits (sg b x) := by cases b <;> (unfold Nu.fits sg; simp; omega)
          rw [if_neg h2, decide_eq_false h2])
        clear hlim
        go_wp2
        go_ret2
        exact ⟨by rw [HE.out]; rfl, HB0.out⟩
      · have htt : ¬ -(m : Int) < t := fun h => hlim (HT3.out.1 h)
        have hm2 : 10 * m + d ≤ 9223372036854775808 := by omega
        have hs1 : 10 * -(m : Int) - (d : Int) = -((10 * m + d : Nat) : Int) := by omega
        have HN := Lib.hid (show 10 * m + d = x / 10 ^ k by rw [HST.out, ← HI.out])
        clear hlim
        go_wp2
        go_round
        case rel => exact ⟨k, 10 * m + d, by first | rfl | (congr 1; omega), rfl, by omega, by omega, HN⟩
        case measure => simp [intOf]

set_option maxHeartbeats 2000000 in
theorem told_any (w : World) (A : Option Addr) (c x : Nat) (b : Bool) (h : Dr w A c (Nu.dig x)) (hx : (Nu.dig x).length ≤ 500) :
    Calls Tryd.prog 27 #[.agg #[.slice A (Nu.dig x).length c, .bool b]] w fun e w' => e = .returned (tv (Nu.tell (sg b x))) ∧ Below w.heap.size w w' := by
  obtain ⟨W0, hW0⟩ : ∃ W0, W0 = w.alloc (.cells #[.slice A (Nu.dig x).length c, .bool b] 40) := ⟨_, rfl⟩
  have hb0 : Below w.heap.size w W0 := by rw [hW0]; exact (Below.refl _ _).alloc (Nat.le_refl _) _
  have HF := Lib.hid (fits_any W0 A c x b (h.below2 hb0) hx)
  have HB0 := Lib.hid hb0
  have HW0 := Lib.hid hW0
  unfold fitV at HF
  clear h hb0 hW0
  generalize (Nu.dig x).length = q at *
  generalize sg b x = z at *
  by_cases hf : Nu.fits z
  · rw [Nu.tell_in hf]
    rw [if_pos hf, decide_eq_true hf] at HF
    clear hf
    go_enter Tryd.func27, Tryd.ntmps27
    go_wp2_with fail
    rw [← HW0.out]
    refine HF.out.mono ?_
    rintro e w1 ⟨rfl, h1⟩
    have HB := Lib.hid (HB0.out.trans (h1.mono HB0.out.size))
    clear h1
    go_wp2
    go_ret2
    exact ⟨rfl, HB.out⟩
  · rw [Nu.tell_out hf]
    rw [if_neg hf, decide_eq_false hf] at HF
    clear hf
    go_enter Tryd.func27, Tryd.ntmps27
    go_wp2_with fail
    rw [← HW0.out]
    refine HF.out.mono ?_
    rintro e w1 ⟨rfl, h1⟩
    have HB := Lib.hid (HB0.out.trans (h1.mono HB0.out.size))
    clear h1
    go_wp2
    go_ret2
    exact ⟨rfl, HB.out⟩
end Go.Proofs.YtbeoobgnpcbnnaaDoor
