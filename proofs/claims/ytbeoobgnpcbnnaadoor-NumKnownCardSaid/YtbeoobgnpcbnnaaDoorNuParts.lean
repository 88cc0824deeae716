/- Layer 6's reference: parts, walked: quotient and rest, digit by digit. Conditions: the digits lie in memory, and are few; what it is parted by is not 0. -/
import Derived.Test.YtbeoobgnpcbnnaaDoorNuTimes
namespace Go.Proofs.YtbeoobgnpcbnnaaDoor
open Go.RowKit

theorem parts_step {x y i : Nat} (hy : 0 < y) : (x / 10 ^ i % 10 + 10 * (x / 10 ^ (i + 1) % y)) % y = x / 10 ^ i % y ∧ (x / 10 ^ i % 10 + 10 * (x / 10 ^ (i + 1) % y)) / y = x / y / 10 ^ i % 10 ∧ (x / 10 ^ i % 10 + 10 * (x / 10 ^ (i + 1) % y)) / y < 10 := by
  have h1 := Nu.top_step x i
  have h2 : x / y / 10 ^ i = x / 10 ^ i / y := by rw [Nat.div_div_eq_div_mul, Nat.div_div_eq_div_mul, Nat.mul_comm]
  rw [h2]
  generalize x / 10 ^ i = X at *
  generalize x / 10 ^ (i + 1) = Z at *
  have hd : X % 10 < 10 := Nat.mod_lt _ (by decide)
  generalize X % 10 = d at *
  subst h1
  have e : 10 * Z + d = (d + 10 * (Z % y)) + y * (10 * (Z / y)) := by
    have h3 := Nat.div_add_mod Z y
    have h4 : y * (10 * (Z / y)) = 10 * (y * (Z / y)) := by rw [Nat.mul_left_comm]
    omega
  have hlt : (d + 10 * (Z % y)) / y < 10 := by
    have := Nat.mod_lt Z hy
    rw [Nat.div_lt_iff_lt_mul hy]
    omega
  refine ⟨?_, ?_, hlt⟩
  · rw [e, Nat.add_mul_mod_self_left]
  · rw [e, Nat.add_mul_div_left _ _ hy]
    generalize (d + 10 * (Z % y)) / y = g at *
    generalize Z / y = hq at *
    omega
def qlist (x y n k : Nat) : List Nat := (List.range n).map fun j => if k ≤ j then x / y / 10 ^ j % 10 else 0
theorem qlist_len (x y n k : Nat) : (qlist x y n k).length = n := by unfold qlist; simp
theorem qlist_get (x y n k j : Nat) (h : j < (qlist x y n k).length) : (qlist x y n k)[j] = if k ≤ j then x / y / 10 ^ j % 10 else 0 := by simp [qlist]
theorem qlist_top (x y n : Nat) : qlist x y n n = List.replicate n 0 := by
  refine List.ext_getElem (by simp [qlist]) fun j h1 h2 => ?_
  rw [qlist_get, List.getElem_replicate, if_neg (by rw [qlist_len] at h1; omega)]
theorem qlist_zero (x y n i : Nat) : (qlist x y n (i + 1)).set i 0 = qlist x y n (i + 1) := by
  refine List.ext_getElem (by simp) fun j h1 h2 => ?_
  rw [List.getElem_set]
  split
  · rename_i h
    subst h
    rw [qlist_get, if_neg (by omega)]
  · rfl
theorem qlist_set (x y n i : Nat) : (qlist x y n (i + 1)).set i (x / y / 10 ^ i % 10) = qlist x y n i := by
  refine List.ext_getElem (by simp [qlist_len]) fun j h1 h2 => ?_
  rw [List.getElem_set, qlist_get, qlist_get]
  split
  · rename_i h
    subst h
    rw [if_pos (Nat.le_refl _)]
  · rename_i h
    by_cases hj : i + 1 ≤ j
    · rw [if_pos hj, if_pos (by omega)]
    · rw [if_neg hj, if_neg (by omega)]
theorem val_range (q n : Nat) : Nu.val ((List.range n).map fun j => q / 10 ^ j % 10) = q % 10 ^ n := by
  induction n with
  | zero => simp [Nu.val, Nat.mod_one]
  | succ n ih => rw [List.range_succ, List.map_append, List.map_singleton, Nu.val_snoc, ih, List.length_map, List.length_range, Nu.mod_pow_step]
theorem qlist_val {x y n : Nat} (h : x < 10 ^ n) : Nu.val (qlist x y n 0) = x / y ∧ ∀ d ∈ qlist x y n 0, d < 10 := by
  have e : qlist x y n 0 = (List.range n).map fun j => x / y / 10 ^ j % 10 := by unfold qlist; simp
  rw [e]
  refine ⟨by rw [val_range, Nat.mod_eq_of_lt (Nat.lt_of_le_of_lt (Nat.div_le_self _ _) h)], fun d hd => ?_⟩
  obtain ⟨j, _, rfl⟩ := List.mem_map.1 hd
  exact Nat.mod_lt _ (by decide)
theorem cons_len {d r y : Nat} (hd : d < 10) (hr : r < y) (hy : (Nu.dig y).length ≤ 100) (S : Nat) (hS : S ≤ d + 10 * r) : (Nu.dig S).length ≤ 101 := by
  refine Nu.dig_len_le ?_
  have := Nu.dig_len_iff.1 hy
  rw [Nat.pow_succ]
  omega
theorem own_one (w : World) (d : Nat) : (w.alloc (.cells #[.int .i64 (d : Int)] 3)).ownsRow w.heap.size 3 1 (.slice (some ⟨w.heap.size, 0, none⟩) 1 1) 1 (intsV [d]) :=
  ⟨rfl, Or.inr ⟨w.heap.size, 1, _, rfl, Nat.le_refl _, heap_alloc_new w _, Nat.le_refl _, by unfold maxLen; omega, rfl, rfl⟩⟩
/-- A number that a cell holds. -/
def tOf (g i : Nat) (w : World) : Nat := (intOf ((w.cell? ⟨g, i, none⟩).getD (.int .i64 0))).toNat
theorem quo_end {R t y : Nat} (h1 : t * y ≤ R) (h2 : R - t * y < y) : t = R / y ∧ R - t * y = R % y := by
  have e : R = (R - t * y) + y * t := by rw [Nat.mul_comm y t]; omega
  have hy : 0 < y := by omega
  have h3 : R / y = t := by rw [e, Nat.add_mul_div_left _ _ hy, Nat.div_eq_of_lt h2, Nat.zero_add]
  have h4 : R % y = R - t * y := by
    conv => lhs; rw [e]
    rw [Nat.add_mul_mod_self_left, Nat.mod_eq_of_lt h2]
  exact ⟨h3.symm, h4.symm⟩
theorem quo_more {R t y : Nat} (h1 : t * y ≤ R) (h2 : ¬ R - t * y < y) : (t + 1) * y ≤ R ∧ R - t * y - y = R - (t + 1) * y := by
  rw [Nat.add_mul, Nat.one_mul]; omega
structure PtI (w : World) (n : Nat) (L : List Nat) (r : Nat) (A : Option Addr) (c : Nat) (wr : World) : Prop where
  below : Below w.heap.size w wr
  own : wr.ownsRow w.heap.size 3 1 (.slice (some ⟨w.heap.size, 0, none⟩) n n) n (intsV L)
  dr : Dr wr A c (Nu.dig r)
theorem PtI.next {w : World} {n r r' : Nat} {L : List Nat} {A A' : Option Addr} {c c' : Nat} {wr w' : World} (h : PtI w n L r A c wr) (hb : Below wr.heap.size wr w') (hd : Dr w' A' c' (Nu.dig r')) : PtI w n L r' A' c' w' :=
  ⟨h.below.trans (hb.mono h.below.size), own_below h.own hb, hd⟩
def PartsP (w : World) (x y : Nat) (e : Ending) (w' : World) : Prop := ∃ A c A2 c2, e = .returned (.tuple #[.slice A (Nu.dig (x / y)).length c, .slice A2 (Nu.dig (x % y)).length c2]) ∧ Dr w' A c (Nu.dig (x / y)) ∧ Dr w' A2 c2 (Nu.dig (x % y)) ∧ Below w.heap.size w w'
set_option maxHeartbeats 4000000 in
set_option maxRecDepth 100000 in
theorem parts_any (w : World) (A A2 : Option Addr) (c c2 x y : Nat) (h : Dr w A c (Nu.dig x)) (h2 : Dr w A2 c2 (Nu.dig y)) (hx : (Nu.dig x).length ≤ 100) (hy : (Nu.dig y).length ≤ 100) (hy0 : 0 < y) :
    Calls Tryd.prog 32 #[.slice A (Nu.dig x).length c, .slice A2 (Nu.dig y).length c2] w (PartsP w x y) := by
  have HX10 := Lib.hid (Nu.lt_pow_len x)
  have HDA := Lib.hid h
  have HDB := Lib.hid h2
  have HYL := Lib.hid hy
  have hcn := h.len
  obtain ⟨n, hn⟩ : ∃ n, n = (Nu.dig x).length := ⟨_, rfl⟩
  rw [← hn] at hx hcn HX10 ⊢
  have HN := Lib.hid hn
  have HY0 := Lib.hid hy0
  obtain ⟨m, hm⟩ : ∃ m, m = (Nu.dig y).length := ⟨_, rfl⟩
  rw [← hm] at hy ⊢
  have HM := Lib.hid hm
  obtain ⟨i0, hi0, hz0, hz1, hz2⟩ := info_parts infoInt
  obtain ⟨W1, hr1, how1, hg1⟩ := run_makeSlice_full (P := Tryd.prog) (w := w) w.heap.size 38 3 i0 _ 1 Tryd.underlying38 hi0 hz0 hz1 .i64 .i64 n (by omega) (by rw [hz2]; omega) (by unfold maxLen; omega) (Nat.le_refl _)
  rw [made_ints, ← qlist_top x y n] at how1
  have hb1 : Below w.heap.size w W1 := Below.grown (Below.refl _ _) hg1 (Nat.le_refl _) (fun k hk => by cases hk)
  have HI0 := Lib.hid (show PtI w n (qlist x y n n) (x / 10 ^ n % y) none 0 W1 from ⟨hb1, how1, by rw [Nat.div_eq_of_lt HX10.out, Nat.zero_mod, Nu.dig_zero]; exact ⟨⟨Nat.zero_le _, fun _ => rfl⟩, fun j hj => absurd hj (by simp)⟩⟩)
  have HL0 := Lib.hid (show (Nu.dig (x / 10 ^ n % y)).length = 0 by rw [Nat.div_eq_of_lt HX10.out, Nat.zero_mod, Nu.dig_zero]; rfl)
  clear h h2 hn hm hb1 how1 hg1 hy0
  go_enter Tryd.func32, Tryd.ntmps32
  go_wp2
  clear hr1
  go_loopw [7, 8] (fun v iv wr => ∃ (k : Nat) (A7 : Option Addr) (c7 : Nat), v = .slice A7 (Nu.dig (x / 10 ^ k % y)).length c7 ∧ iv = .int .i64 ((k : Int) - 1) ∧ k ≤ n ∧ Hid (PtI w n (qlist x y n k) (x / 10 ^ k % y) A7 c7 wr)) (fun _ iv _ => (intOf iv + 1).toNat)
  case atStart => exact ⟨n, none, 0, by rw [HL0.out], rfl, Nat.le_refl _, HI0⟩
  case round =>
    obtain ⟨k, A7, c7, rfl, rfl, hk, HI⟩ := hrel
    rcases k with _ | i
    · have hneg : ¬ ((0 : Nat) : Int) - 1 ≥ 0 := by omega
      have HQ := Lib.hid (qlist_val (x := x) (y := y) HX10.out)
      have HB := Lib.hid HI.out.below
      have h0 : x / 10 ^ 0 % y = x % y := by rw [Nat.pow_zero, Nat.div_one]
      rw [h0] at HI ⊢
      have HOWN : OwnD w.heap.size wr (.slice (some ⟨w.heap.size, 0, none⟩) n n) (qlist x y n 0) := by unfold OwnD; rw [qlist_len]; exact HI.out.own
      have HTR := Lib.hid (trim_any wr _ _ _ HOWN.dr.2 HQ.out.2 (by rw [qlist_len]; omega))
      rw [HQ.out.1, qlist_len] at HTR
      have HDR := Lib.hid HI.out.dr
      clear HOWN h0
      go_wp2_with fail
      refine HTR.out.mono ?_
      rintro e w4 ⟨A8, c8, rfl, hd8, rfl⟩
      have HD8 := Lib.hid hd8
      clear hd8
      go_wp2
      go_ret2
      exact ⟨A8, c8, A7, c7, rfl, HD8.out, HDR.out, HB.out⟩
    · obtain ⟨g, hA, hg, hc⟩ := (HDA.out.below2 HI.out.below).get (j := i) (by rw [← HN.out]; omega)
      subst hA
      have e0 : ((i + 1 : Nat) : Int) - 1 = (i : Int) := by omega
      rw [e0]
      have hd9 : x / 10 ^ i % 10 < 10 := Nat.mod_lt _ (by decide)
      have HST := Lib.hid (parts_step (x := x) (i := i) HY0.out)
      have hr9 : x / 10 ^ (i + 1) % y < y := Nat.mod_lt _ HY0.out
      obtain ⟨d, hd⟩ : ∃ d, d = x / 10 ^ i % 10 := ⟨_, rfl⟩
      obtain ⟨r, hr⟩ : ∃ r, r = x / 10 ^ (i + 1) % y := ⟨_, rfl⟩
      rw [← hd] at hc hd9 HST
      rw [← hr] at hr9 HST HI ⊢
      have hin : (i : Int) < (n : Int) := by omega
      have hrl : (Nu.dig r).length ≤ 101 := cons_len hd9 hr9 HYL.out r (by omega)
      have HD := Lib.hid hd
      have HR := Lib.hid hr
      clear hd hr e0
      obtain ⟨R, hR⟩ : ∃ R, R = d + 10 * r := ⟨_, rfl⟩
      rw [← hR] at HST
      have HRL := Lib.hid (fun S (hS : S ≤ R) => cons_len hd9 hr9 HYL.out S (by rw [← hR]; exact hS))
      have HD1 := Lib.hid (show Nu.val (d :: Nu.dig r) = R by rw [hR]; simp only [Nu.val]; rw [Nu.val_dig])
      have HD10 := Lib.hid (show ∀ e ∈ d :: Nu.dig r, e < 10 from fun e he => by
        rcases List.mem_cons.1 he with rfl | he
        · exact hd9
        · exact Nu.dig_lt he)
      have HO1 := Lib.hid (own_one wr d)
      have hb1 : Below wr.heap.size wr (wr.alloc (.cells #[.int .i64 (d : Int)] 3)) := (Below.refl _ _).alloc (Nat.le_refl _) _
      have HDR := Lib.hid (HI.out.dr.below2 hb1)
      obtain ⟨q, hq⟩ : ∃ q, q = (Nu.dig r).length := ⟨_, rfl⟩
      rw [← hq] at hrl ⊢
      have HQ := Lib.hid hq
      have HR9 := Lib.hid hr9
      obtain ⟨W1, hW1⟩ : ∃ W1, W1 = wr.alloc (.cells #[.int .i64 (d : Int)] 3) := ⟨_, rfl⟩
      rw [← hW1] at HO1 hb1 HDR
      have HW1 := Lib.hid hW1
      have HB1 := Lib.hid hb1
      have hbig : 1 + q ≤ maxLen := by unfold maxLen; omega
      have hws : wr.heap.size ≤ W1.heap.size := hb1.size
      clear hR hq hr9 hW1 hb1
      cases A7 with
      | none =>
        obtain rfl : c7 = 0 := HDR.out.1.2 rfl
        have hq0 : q = 0 := by have := HDR.out.len; have := HQ.out; omega
        subst hq0
        have HX0 := Lib.hid (show Nu.dig r = [] from List.length_eq_zero_iff.1 HQ.out.symm)
        have HOD := Lib.hid (show OwnD wr.heap.size W1 (.slice (some ⟨wr.heap.size, 0, none⟩) 1 1) (d :: Nu.dig r) by rw [HX0.out]; exact HO1.out)
        have HTR := Lib.hid (trim_any W1 _ _ _ HOD.out.dr.2 HD10.out (by rw [HX0.out]; simp))
        rw [HD1.out, show (d :: Nu.dig r).length = 1 by rw [HX0.out]; rfl] at HTR
        have HI2 := Lib.hid HB1.out
        go_wp2_with (at_builtin; (refine wpList_append_own_none rfl _ _ _ rfl wr.heap.size 3 i0 1 Tryd.underlying38 hi0 (.slice (some ⟨wr.heap.size, 0, none⟩) 1 1) 1 (intsV [d]) (by rfl) (by rw [← HW1.out]; exact HO1.out) (by rfl) ?_))
        go_wp2_with fail
        rw [← HW1.out]
        refine HTR.out.mono ?_
        rintro e w4 ⟨A8, c8, rfl, hd8, rfl⟩
        have HJ0 := Lib.hid (show 0 * y ≤ R ∧ PtI w n ((qlist x y n (i + 1)).set i 0) (R - 0 * y) A8 c8 W1 from ⟨by omega, by rw [qlist_zero, Nat.zero_mul, Nat.sub_zero]; exact HI.out.next HI2.out hd8⟩)
        have HR0 := Lib.hid (show R = R - 0 * y by omega)
        clear hd8
        go_wp2
        go_loopw [7] (fun v wr2 => ∃ (t S : Nat) (A9 : Option Addr) (c9 : Nat), v = .slice A9 (Nu.dig S).length c9 ∧ t ≤ 9 ∧ Hid (S = R - t * y ∧ t * y ≤ R ∧ PtI w n ((qlist x y n (i + 1)).set i t) S A9 c9 wr2)) (fun _ wr2 => 10 - tOf w.heap.size i wr2)
        case atStart => exact ⟨0, R, A8, c8, rfl, by omega, Lib.hid ⟨HR0.out, HJ0.out.1, by have h1 := HJ0.out.2; rwa [← HR0.out] at h1⟩⟩
        case round =>
          obtain ⟨t, S, A9, c9, rfl, ht9, HJ⟩ := hrel
          obtain ⟨hSe, htR, hPJ⟩ := HJ.out
          have HLS := Lib.hid (less_any wr A9 A2 c9 c2 S y hPJ.dr (HDB.out.below2 hPJ.below) (Nat.le_trans (HRL.out S (by omega)) (by decide)))
          have HTK := Lib.hid (fun w5 (hb : Below wr.heap.size wr w5) (hle : y ≤ S) => take_new w5 A9 A2 c9 c2 S y (hPJ.dr.below2 hb) ((HDB.out.below2 hPJ.below).below2 hb) (Nat.le_trans (HRL.out S (by omega)) (by decide)) hle)
          have HMU := Lib.hid (show tOf w.heap.size i wr = t by
            unfold tOf
            rw [own_cell hPJ.own (j := i) (u := .int .i64 (t : Int)) (by unfold intsV; rw [List.getElem?_map, List.getElem?_set_self (by rw [qlist_len]; omega)]; rfl)]
            simp [intOf])
          rw [← HM.out] at HLS HTK
          by_cases hend : S < y
          · rw [decide_eq_true hend] at HLS
            have HE := Lib.hid (quo_end htR (by rw [← hSe]; exact hend))
            clear hSe htR hPJ hend HTK
            go_wp2_with fail
            refine HLS.out.mono ?_
            rintro e w5 ⟨rfl, h5⟩
            have HEND := Lib.hid (show S = x / 10 ^ i % y ∧ PtI w n (qlist x y n i) S A9 c9 w5 by
              have h1 : S = x / 10 ^ i % y := by rw [HJ.out.1, HE.out.2, HST.out.1]
              refine ⟨h1, ?_⟩
              have h3 := HJ.out.2.2
              rw [HE.out.1, HST.out.2.1, qlist_set] at h3
              exact h3.next h5 (h3.dr.below2 h5))
            clear h5
            go_wp2
            go_roundw
            case rel => exact ⟨i, A9, c9, by rw [← HEND.out.1], rfl, by omega, Lib.hid (by rw [← HEND.out.1]; exact HEND.out.2)⟩
            case measure => simp [intOf]
          · rw [decide_eq_false hend] at HLS
            have HE := Lib.hid (quo_more htR (by rw [← hSe]; exact hend))
            have ht8 : t < 9 := by
              have h1 := HST.out.2.2
              have h2 : t + 1 ≤ R / y := (Nat.le_div_iff_mul_le HY0.out).2 HE.out.1
              omega
            have hle : y ≤ S := by omega
            have HTK2 := Lib.hid (fun w5 hb => HTK.out w5 hb hle)
            clear hSe htR hPJ hend hle HTK
            go_wp2_with fail
            refine HLS.out.mono ?_
            rintro e w5 ⟨rfl, h5⟩
            have HT5 := Lib.hid (HTK2.out w5 h5)
            have H5 := Lib.hid h5
            clear h5
            go_wp2_with fail
            refine HT5.out.mono ?_
            rintro e w6 ⟨A10, c10, rfl, hd10, h6, hn10⟩
            have HP6 := Lib.hid (HJ.out.2.2.next (H5.out.trans (h6.mono H5.out.size)) hd10)
            have c6 := own_cell HP6.out.own (j := i) (u := .int .i64 (t : Int)) (by unfold intsV; rw [List.getElem?_map, List.getElem?_set_self (by rw [qlist_len]; omega)]; rfl)
            have f6 := own_fz HP6.out.own i
            have HST6 := Lib.hid (show PtI w n ((qlist x y n (i + 1)).set i (t + 1)) (S - y) A10 c10 (w6.setCell ⟨w.heap.size, i, none⟩ (.int .i64 ((t : Int) + 1))) from by
              have hw : w.heap.size < w5.heap.size := by
                have h1 := (HJ.out.2.2.own.lt w.heap.size rfl).2
                have h2 := H5.out.size
                omega
              refine ⟨HP6.out.below.setCell (p := ⟨w.heap.size, i, none⟩) (Nat.le_refl _) _, ?_, ?_⟩
              · have h1 := (HP6.out.own.stored i (.int .i64 ((t : Int) + 1))).1
                rw [show (intsV ((qlist x y n (i + 1)).set i t)).set i (.int .i64 ((t : Int) + 1)) = intsV ((qlist x y n (i + 1)).set i (t + 1)) by
                  unfold intsV
                  rw [List.map_set, List.set_set, List.map_set]
                  rfl] at h1
                exact h1
              · refine ⟨HP6.out.dr.1, fun j hj => ?_⟩
                obtain ⟨g9, q1, q2, q3⟩ := HP6.out.dr.2 j hj
                have hne : g9 ≠ w.heap.size := by
                  have := hn10 g9 q1 (by omega)
                  omega
                refine ⟨g9, q1, by simp [World.setCell]; exact q2, ?_⟩
                rw [World.cell?_of_block (a := ⟨g9, j, none⟩) (Below.heap_setCell w6 ⟨w.heap.size, i, none⟩ _ g9 hne)]
                exact q3)
            have HNS := Lib.hid (show S - y = R - (t + 1) * y by rw [← HE.out.2, HJ.out.1])
            have HMU2 := Lib.hid (show tOf w.heap.size i (w6.setCell ⟨w.heap.size, i, none⟩ (.int .i64 ((t : Int) + 1))) = t + 1 by
              unfold tOf
              rw [own_cell HST6.out.own (j := i) (u := .int .i64 ((t + 1 : Nat) : Int)) (by unfold intsV; rw [List.getElem?_map, List.getElem?_set_self (by rw [qlist_len]; omega)]; rfl)]
              simp [intOf])
            clear hd10 h6 hn10
            go_wp2
            go_roundw
            case rel => exact ⟨t + 1, S - y, A10, c10, rfl, by omega, Lib.hid ⟨HNS.out, HE.out.1, HST6.out⟩⟩
            case measure => rw [HMU.out, HMU2.out]; omega
      | some a =>
        go_wp2_with (at_builtin; (refine wpList_append_own _ rfl _ _ _ rfl wr.heap.size 3 i0 _ 1 8 Tryd.underlying38 hi0 hz0 hz1 hz2 rfl (by omega) (.slice (some ⟨wr.heap.size, 0, none⟩) 1 1) 1 (intsV [d]) (by rfl) (by rw [← HW1.out]; exact HO1.out) a q c7 (intsV (Nu.dig r)) (by rfl) (by unfold intsV; rw [List.length_map, ← HQ.out]; omega) (by rw [← HW1.out]; intro j u hu; exact HDR.out.news j u hu) (by intro u hu; unfold intsV at hu; obtain ⟨q, _, rfl⟩ := List.mem_map.1 hu; rfl) hbig (by omega) (by rw [← HW1.out]; exact hws) ?_); intro v3 w3 hown3 hgr3 _; rw [← HW1.out] at hgr3; obtain ⟨A3, c3, hv3, _, _, _, _⟩ := own_slice hown3; subst hv3; have B3 := Lib.hid (Below.grown (Below.refl wr.heap.size W1) hgr3 hws (fun k hk => (HO1.out.lt k hk).1)); have H3 := Lib.hid hown3; clear hown3 hgr3)
        have hlen : (d :: Nu.dig r).length = 1 + q := by rw [List.length_cons, ← HQ.out]; omega
        have HOD := Lib.hid (show OwnD wr.heap.size w3 (.slice A3 (1 + q) c3) (d :: Nu.dig r) by unfold OwnD; rw [hlen]; exact H3.out)
        have HTR := Lib.hid (trim_any w3 _ _ _ HOD.out.dr.2 HD10.out (by rw [hlen]; omega))
        rw [HD1.out, hlen] at HTR
        have HI2 := Lib.hid (HB1.out.trans B3.out)
        clear hlen
        go_wp2_with fail
        refine HTR.out.mono ?_
        rintro e w4 ⟨A8, c8, rfl, hd8, rfl⟩
        have HJ0 := Lib.hid (show 0 * y ≤ R ∧ PtI w n ((qlist x y n (i + 1)).set i 0) (R - 0 * y) A8 c8 w3 from ⟨by omega, by rw [qlist_zero, Nat.zero_mul, Nat.sub_zero]; exact HI.out.next HI2.out hd8⟩)
        have HR0 := Lib.hid (show R = R - 0 * y by omega)
        clear hd8
        go_wp2
        go_loopw [7] (fun v wr2 => ∃ (t S : Nat) (A9 : Option Addr) (c9 : Nat), v = .slice A9 (Nu.dig S).length c9 ∧ t ≤ 9 ∧ Hid (S = R - t * y ∧ t * y ≤ R ∧ PtI w n ((qlist x y n (i + 1)).set i t) S A9 c9 wr2)) (fun _ wr2 => 10 - tOf w.heap.size i wr2)
        case atStart => exact ⟨0, R, A8, c8, rfl, by omega, Lib.hid ⟨HR0.out, HJ0.out.1, by have h1 := HJ0.out.2; rwa [← HR0.out] at h1⟩⟩
        case round =>
          obtain ⟨t, S, A9, c9, rfl, ht9, HJ⟩ := hrel
          obtain ⟨hSe, htR, hPJ⟩ := HJ.out
          have HLS := Lib.hid (less_any wr A9 A2 c9 c2 S y hPJ.dr (HDB.out.below2 hPJ.below) (Nat.le_trans (HRL.out S (by omega)) (by decide)))
          have HTK := Lib.hid (fun w5 (hb : Below wr.heap.size wr w5) (hle : y ≤ S) => take_new w5 A9 A2 c9 c2 S y (hPJ.dr.below2 hb) ((HDB.out.below2 hPJ.below).below2 hb) (Nat.le_trans (HRL.out S (by omega)) (by decide)) hle)
          have HMU := Lib.hid (show tOf w.heap.size i wr = t by
            unfold tOf
            rw [own_cell hPJ.own (j := i) (u := .int .i64 (t : Int)) (by unfold intsV; rw [List.getElem?_map, List.getElem?_set_self (by rw [qlist_len]; omega)]; rfl)]
            simp [intOf])
          rw [← HM.out] at HLS HTK
          by_cases hend : S < y
          · rw [decide_eq_true hend] at HLS
            have HE := Lib.hid (quo_end htR (by rw [← hSe]; exact hend))
            clear hSe htR hPJ hend HTK
            go_wp2_with fail
            refine HLS.out.mono ?_
            rintro e w5 ⟨rfl, h5⟩
            have HEND := Lib.hid (show S = x / 10 ^ i % y ∧ PtI w n (qlist x y n i) S A9 c9 w5 by
              have h1 : S = x / 10 ^ i % y := by rw [HJ.out.1, HE.out.2, HST.out.1]
              refine ⟨h1, ?_⟩
              have h3 := HJ.out.2.2
              rw [HE.out.1, HST.out.2.1, qlist_set] at h3
              exact h3.next h5 (h3.dr.below2 h5))
            clear h5
            go_wp2
            go_roundw
            case rel => exact ⟨i, A9, c9, by rw [← HEND.out.1], rfl, by omega, Lib.hid (by rw [← HEND.out.1]; exact HEND.out.2)⟩
            case measure => simp [intOf]
          · rw [decide_eq_false hend] at HLS
            have HE := Lib.hid (quo_more htR (by rw [← hSe]; exact hend))
            have ht8 : t < 9 := by
              have h1 := HST.out.2.2
              have h2 : t + 1 ≤ R / y := (Nat.le_div_iff_mul_le HY0.out).2 HE.out.1
              omega
            have hle : y ≤ S := by omega
            have HTK2 := Lib.hid (fun w5 hb => HTK.out w5 hb hle)
            clear hSe htR hPJ hend hle HTK
            go_wp2_with fail
            refine HLS.out.mono ?_
            rintro e w5 ⟨rfl, h5⟩
            have HT5 := Lib.hid (HTK2.out w5 h5)
            have H5 := Lib.hid h5
            clear h5
            go_wp2_with fail
            refine HT5.out.mono ?_
            rintro e w6 ⟨A10, c10, rfl, hd10, h6, hn10⟩
            have HP6 := Lib.hid (HJ.out.2.2.next (H5.out.trans (h6.mono H5.out.size)) hd10)
            have c6 := own_cell HP6.out.own (j := i) (u := .int .i64 (t : Int)) (by unfold intsV; rw [List.getElem?_map, List.getElem?_set_self (by rw [qlist_len]; omega)]; rfl)
            have f6 := own_fz HP6.out.own i
            have HST6 := Lib.hid (show PtI w n ((qlist x y n (i + 1)).set i (t + 1)) (S - y) A10 c10 (w6.setCell ⟨w.heap.size, i, none⟩ (.int .i64 ((t : Int) + 1))) from by
              have hw : w.heap.size < w5.heap.size := by
                have h1 := (HJ.out.2.2.own.lt w.heap.size rfl).2
                have h2 := H5.out.size
                omega
              refine ⟨HP6.out.below.setCell (p := ⟨w.heap.size, i, none⟩) (Nat.le_refl _) _, ?_, ?_⟩
              · have h1 := (HP6.out.own.stored i (.int .i64 ((t : Int) + 1))).1
                rw [show (intsV ((qlist x y n (i + 1)).set i t)).set i (.int .i64 ((t : Int) + 1)) = intsV ((qlist x y n (i + 1)).set i (t + 1)) by
                  unfold intsV
                  rw [List.map_set, List.set_set, List.map_set]
                  rfl] at h1
                exact h1
              · refine ⟨HP6.out.dr.1, fun j hj => ?_⟩
                obtain ⟨g9, q1, q2, q3⟩ := HP6.out.dr.2 j hj
                have hne : g9 ≠ w.heap.size := by
                  have := hn10 g9 q1 (by omega)
                  omega
                refine ⟨g9, q1, by simp [World.setCell]; exact q2, ?_⟩
                rw [World.cell?_of_block (a := ⟨g9, j, none⟩) (Below.heap_setCell w6 ⟨w.heap.size, i, none⟩ _ g9 hne)]
                exact q3)
            have HNS := Lib.hid (show S - y = R - (t + 1) * y by rw [← HE.out.2, HJ.out.1])
            have HMU2 := Lib.hid (show tOf w.heap.size i (w6.setCell ⟨w.heap.size, i, none⟩ (.int .i64 ((t : Int) + 1))) = t + 1 by
              unfold tOf
              rw [own_cell HST6.out.own (j := i) (u := .int .i64 ((t + 1 : Nat) : Int)) (by unfold intsV; rw [List.getElem?_map, List.getElem?_set_self (by rw [qlist_len]; omega)]; rfl)]
              simp [intOf])
            clear hd10 h6 hn10
            go_wp2
            go_roundw
            case rel => exact ⟨t + 1, S - y, A10, c10, rfl, by omega, Lib.hid ⟨HNS.out, HE.out.1, HST6.out⟩⟩
            case measure => rw [HMU.out, HMU2.out]; omega
end Go.Proofs.YtbeoobgnpcbnnaaDoor
