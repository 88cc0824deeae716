/- Layer 6's reference: Times, walked. Conditions: the digits lie in memory, and are few. -/
import Derived.Test.YtbeoobgnpcbnnaaDoorNuOf
import Derived.Laws.AppendOwnNone
namespace Go.Proofs.YtbeoobgnpcbnnaaDoor
open Go.RowKit

theorem times_step (x y i : Nat) : x * (y % 10 ^ (i + 1)) = x * (y % 10 ^ i) + (y / 10 ^ i % 10) * (10 ^ i * x) := by
  rw [Nu.mod_pow_step, Nat.mul_add, ← Nat.mul_assoc, Nat.mul_comm x (10 ^ i), Nat.mul_comm (10 ^ i * x)]
theorem times_sg (b b2 : Bool) (x y : Nat) : sg b x * sg b2 y = sg (b != b2) (x * y) := by
  cases b <;> cases b2 <;> simp [sg, Int.neg_mul, Int.mul_neg]
theorem made_ints (i : Nat) : (madeCells (Value.int .i64 0).cells (i * 1)).toList = intsV (List.replicate i 0) := by
  unfold madeCells intsV
  simp [Value.cells, Nat.mod_one, List.map_replicate, List.map_const']
theorem intsV_app (l m : List Nat) : intsV l ++ intsV m = intsV (l ++ m) := by unfold intsV; rw [List.map_append]
theorem Dr.news {w : World} {a : Addr} {c : Nat} {l : List Nat} (h : Dr w (some a) c l) : ∀ (j : Nat) (u : Value), (intsV l)[j]? = some u → w.cell? (a.add j) = some u := fun j u hu => by
  unfold intsV at hu
  rw [List.getElem?_map] at hu
  have hj : j < l.length := by
    rcases Nat.lt_or_ge j l.length with h1 | h1
    · exact h1
    · rw [List.getElem?_eq_none h1] at hu; cases hu
  rw [List.getElem?_eq_getElem hj] at hu
  obtain ⟨g, h1, _, h3⟩ := h.2 j hj
  injection h1 with h1
  subst h1
  have hadd : (⟨g, 0, none⟩ : Addr).add j = ⟨g, j, none⟩ := by unfold Addr.add; split <;> simp_all
  rw [hadd, h3]
  exact hu
structure TmI (W0 : World) (S : Nat) (A : Option Addr) (c : Nat) (wr : World) : Prop where
  below : Below W0.heap.size W0 wr
  dr : Dr wr A c (Nu.dig S)
theorem small_len {S x y : Nat} (hx : x < 10 ^ 100) (hy : y < 10 ^ 100) (h : S ≤ x * y) : (Nu.dig S).length ≤ 200 := by
  refine Nu.dig_len_le (Nat.lt_of_le_of_lt h ?_)
  rw [show 200 = 100 + 100 from rfl, Nat.pow_add]
  exact Nat.mul_lt_mul'' hx hy
/-- Two long numbers in their boxes, and the answer's. -/
def W3 (w : World) (a b a2 b2 : Value) : World := ((w.alloc (.cells #[a, b] 40)).alloc (.cells #[a2, b2] 40)).alloc (.cells #[.slice none 0 0, .bool false] 40)
structure W3P (w : World) (a b a2 b2 : Value) (W0 : World) : Prop where
  below : Below w.heap.size w W0
  b0 : IsBlk W0 w.heap.size 40 #[a, b]
  b1 : IsBlk W0 (w.heap.size + 1) 40 #[a2, b2]
  b2 : IsBlk W0 (w.heap.size + 2) 40 #[.slice none 0 0, .bool false]
  size : W0.heap.size = w.heap.size + 3
theorem W3P.mk_ (w : World) (a b a2 b2 : Value) : W3P w a b a2 b2 (W3 w a b a2 b2) := by
  unfold W3
  refine ⟨(((Below.refl _ _).alloc (Nat.le_refl _) _).alloc (by simp) _).alloc (by simp only [sz]; omega) _, ?_, ?_, ?_, by simp⟩
  · refine IsBlk.below (B := w.heap.size + 1) (IsBlk.new w _ _) ?_ (by omega)
    exact ((Below.refl _ _).alloc (by simp) _).alloc (by simp) _
  · have := IsBlk.new (w.alloc (.cells #[a, b] 40)) 40 #[a2, b2]
    rw [sz] at this
    refine IsBlk.below (B := w.heap.size + 2) this ?_ (by omega)
    exact (Below.refl _ _).alloc (by simp) _
  · have := IsBlk.new ((w.alloc (.cells #[a, b] 40)).alloc (.cells #[a2, b2] 40)) 40 #[.slice none 0 0, .bool false]
    rw [sz, sz] at this
    exact this
set_option maxHeartbeats 4000000 in
set_option maxRecDepth 100000 in
theorem times_any (w : World) (A A2 : Option Addr) (c c2 x y : Nat) (b b2 : Bool) (h : Dr w A c (Nu.dig x)) (h2 : Dr w A2 c2 (Nu.dig y)) (hx : (Nu.dig x).length ≤ 100) (hy : (Nu.dig y).length ≤ 100) :
    Calls Tryd.prog 31 #[.agg #[.slice A (Nu.dig x).length c, .bool b], .agg #[.slice A2 (Nu.dig y).length c2, .bool b2]] w (LgP w (sg b x * sg b2 y)) := by
  rw [times_sg]
  obtain ⟨W0, hW0⟩ : ∃ W0, W0 = W3 w (.slice A (Nu.dig x).length c) (.bool b) (.slice A2 (Nu.dig y).length c2) (.bool b2) := ⟨_, rfl⟩
  have hp := W3P.mk_ w (.slice A (Nu.dig x).length c) (.bool b) (.slice A2 (Nu.dig y).length c2) (.bool b2)
  rw [← hW0] at hp
  unfold W3 at hW0
  have HX10 := Lib.hid (show x < 10 ^ 100 from Nu.dig_len_iff.1 hx)
  have HY10 := Lib.hid (show y < 10 ^ 100 from Nu.dig_len_iff.1 hy)
  have HDA := Lib.hid (h.below2 hp.below)
  have HDB := Lib.hid (h2.below2 hp.below)
  have hcn := HDA.out.len
  have hcm := HDB.out.len
  obtain ⟨n, hn⟩ : ∃ n, n = (Nu.dig x).length := ⟨_, rfl⟩
  obtain ⟨m, hm⟩ : ∃ m, m = (Nu.dig y).length := ⟨_, rfl⟩
  rw [← hn] at hx hp hW0 hcn ⊢
  rw [← hm] at hy hp hW0 hcm ⊢
  have HN := Lib.hid hn
  have HM := Lib.hid hm
  have HP := Lib.hid hp
  have HW0 := Lib.hid hW0
  clear h h2 hn hm hp hW0
  go_enter Tryd.func31, Tryd.ntmps31
  go_wp2
  rw [← HW0.out]
  go_loopw [5, 6] (fun v iv wr => ∃ (i S : Nat) (A5 : Option Addr) (c5 : Nat), v = .slice A5 (Nu.dig S).length c5 ∧ iv = .int .i64 i ∧ i ≤ m ∧ Hid (S = x * (y % 10 ^ i) ∧ TmI W0 S A5 c5 wr)) (fun _ iv _ => m - (intOf iv).toNat)
  case atStart => exact ⟨0, 0, none, 0, by rw [Nu.dig_zero]; rfl, rfl, Nat.zero_le _, Lib.hid ⟨by simp [Nat.mod_one], ⟨Below.refl _ _, by rw [Nu.dig_zero]; exact ⟨⟨Nat.zero_le _, fun _ => rfl⟩, fun j hj => absurd hj (by simp)⟩⟩⟩⟩
  case round =>
    obtain ⟨i, S, A5, c5, rfl, rfl, hi, HI⟩ := hrel
    have kb1 := HP.out.b1.below HI.out.2.below HP.out.b1.lt
    have t2 := kb1.at_ 0
    simp only [List.getElem?_toArray, List.getElem?_cons_zero] at t2
    clear kb1
    by_cases hlt : i < m
    · have hlt' : (i : Int) < (m : Int) := by omega
      have HC := Lib.hid (fun wr2 (hb : Below W0.heap.size W0 wr2) => (HDB.out.below2 hb).get (j := i) (by rw [← HM.out]; exact hlt))
      obtain ⟨g2, hA2, hg2, hc2⟩ := HC.out wr HI.out.2.below
      subst hA2
      have hd9 : y / 10 ^ i % 10 < 10 := Nat.mod_lt _ (by decide)
      have HST := Lib.hid (times_step x y i)
      have HSL := Lib.hid (fun k (hk : k ≤ y / 10 ^ i % 10) => small_len (S := x * (y % 10 ^ i) + k * (10 ^ i * x)) HX10.out HY10.out (by
        have h1 := times_step x y i
        have h3 : k * (10 ^ i * x) ≤ (y / 10 ^ i % 10) * (10 ^ i * x) := Nat.mul_le_mul_right _ hk
        have h4 : x * (y % 10 ^ (i + 1)) ≤ x * y := Nat.mul_le_mul_left _ (Nat.mod_le _ _)
        omega))
      obtain ⟨d, hd⟩ : ∃ d, d = y / 10 ^ i % 10 := ⟨_, rfl⟩
      rw [← hd] at hd9 HST HSL
      have HD := Lib.hid hd
      rw [← hd] at hc2
      clear hd
      have HI0 := Lib.hid (show S = x * (y % 10 ^ i) + 0 * (10 ^ i * x) ∧ TmI W0 S A5 c5 wr by rw [Nat.zero_mul, Nat.add_zero]; exact HI.out)
      go_wp2
      go_loopw [5, 7] (fun v kv wr2 => ∃ (k S2 : Nat) (A6 : Option Addr) (c6 : Nat), v = .slice A6 (Nu.dig S2).length c6 ∧ kv = .int .i64 k ∧ k ≤ d ∧ Hid (S2 = x * (y % 10 ^ i) + k * (10 ^ i * x) ∧ TmI W0 S2 A6 c6 wr2)) (fun _ kv _ => d - (intOf kv).toNat)
      case atStart => exact ⟨0, S, A5, c5, rfl, rfl, Nat.zero_le _, HI0⟩
      case round =>
        obtain ⟨k, S2, A6, c6, rfl, rfl, hk, HJ⟩ := hrel
        have kb1 := HP.out.b1.below HJ.out.2.below HP.out.b1.lt
        have t2 := kb1.at_ 0
        simp only [List.getElem?_toArray, List.getElem?_cons_zero] at t2
        obtain ⟨g3, hA3, hg3, hc3⟩ := HC.out wr HJ.out.2.below
        injection hA3 with hA3
        injection hA3 with hA3
        subst hA3
        rw [← HD.out] at hc3
        clear kb1
        by_cases hkd : k < d
        · have hkd' : (k : Int) < (d : Int) := by omega
          obtain ⟨i0, hi0, hz0, hz1, hz2⟩ := info_parts infoInt
          obtain ⟨W1, hr1, how1, hg1⟩ := run_makeSlice_full (P := Tryd.prog) (w := wr) wr.heap.size 38 3 i0 _ 1 Tryd.underlying38 hi0 hz0 hz1 .i64 .i64 i (by omega) (by rw [hz2]; omega) (by unfold maxLen; omega) (Nat.le_refl _)
          rw [made_ints] at how1
          have hb1 : Below wr.heap.size wr W1 := Below.grown (Below.refl _ _) hg1 (Nat.le_refl _) (fun k hk => by cases hk)
          have hB1 := HJ.out.2.below.trans (hb1.mono HJ.out.2.below.size)
          have kb0 := HP.out.b0.below hB1 HP.out.b0.lt
          have t0 := kb0.at_ 0
          simp only [List.getElem?_toArray, List.getElem?_cons_zero] at t0
          have HS6 := Lib.hid (HJ.out.2.dr.below2 hb1)
          have HO1 := Lib.hid how1
          have HB1 := Lib.hid hB1
          have hws : wr.heap.size ≤ W1.heap.size := hb1.size
          have HBW := Lib.hid hb1
          have HDA1 := Lib.hid (HDA.out.below2 hB1)
          have HNXT := Lib.hid (show S2 + 10 ^ i * x = x * (y % 10 ^ i) + (k + 1) * (10 ^ i * x) by rw [HJ.out.1, Nat.add_mul, Nat.one_mul, Nat.add_assoc])
          have HS2L := Lib.hid (show (Nu.dig S2).length ≤ 200 by rw [HJ.out.1]; exact HSL.out k (by omega))
          have HCALL := Lib.hid (fun (w3 : World) (A7 : Option Addr) (c7 : Nat) (hd6 : Dr w3 A6 c6 (Nu.dig S2)) (hd7 : Dr w3 A7 c7 (List.replicate i 0 ++ Nu.dig x)) =>
            add_gen w3 A6 A7 c6 c7 S2 (10 ^ i * x) _ _ hd6 hd7 (Nu.dig_at S2) (fun j => by rw [Nu.val_at (Nu.shift_lt i x), Nu.replicate_dig]) (Nu.lt_pow_len S2) (by
              have h1 := Nu.val_lt (Nu.shift_lt i x)
              rwa [Nu.replicate_dig] at h1) (by have := HS2L.out; omega) (by rw [List.length_append, List.length_replicate, ← HN.out]; omega))
          have hlen7 : (List.replicate i 0 ++ Nu.dig x).length = i + n := by rw [List.length_append, List.length_replicate, ← HN.out]
          rw [hlen7] at HCALL
          have HL7 := Lib.hid hlen7
          have hbig : i + n ≤ maxLen := by unfold maxLen; omega
          clear hb1 hB1 kb0 how1 hg1 hc2 hg2 hlen7
          cases A with
          | none =>
            obtain rfl : c = 0 := HDA1.out.1.2 rfl
            obtain rfl : n = 0 := by omega
            have HX0 := Lib.hid (show Nu.dig x = [] from List.length_eq_zero_iff.1 HN.out.symm)
            go_wp2_with (at_builtin; (refine wpList_append_own_none rfl _ _ _ rfl wr.heap.size 3 i0 1 Tryd.underlying38 hi0 (.slice (some ⟨wr.heap.size, 0, none⟩) i i) i (intsV (List.replicate i 0)) (by rfl) (by exact HO1.out) (by rfl) ?_))
            have HD7 := Lib.hid (show Dr W1 (some ⟨wr.heap.size, 0, none⟩) i (List.replicate i 0 ++ Nu.dig x) from by
              rw [HX0.out, List.append_nil]
              have h1 : OwnD wr.heap.size W1 (.slice (some ⟨wr.heap.size, 0, none⟩) i i) (List.replicate i 0) := by unfold OwnD; rw [List.length_replicate]; exact HO1.out
              exact h1.dr.2)
            have HCC := Lib.hid (HCALL.out W1 _ _ HS6.out HD7.out)
            go_wp2_with fail
            refine HCC.out.mono ?_
            rintro e w4 ⟨A8, c8, rfl, hd8, hb8⟩
            have HD8 := Lib.hid hd8
            have HB8 := Lib.hid (HB1.out.trans (hb8.mono HB1.out.size))
            clear hd8 hb8
            go_wp2
            go_roundw
            case rel => exact ⟨k + 1, S2 + 10 ^ i * x, A8, c8, rfl, by go_num, by omega, Lib.hid ⟨HNXT.out, HB8.out, HD8.out⟩⟩
            case measure => simp [intOf]; omega
          | some a =>
            go_wp2_with (at_builtin; (refine wpList_append_own _ rfl _ _ _ rfl wr.heap.size 3 i0 _ 1 8 Tryd.underlying38 hi0 hz0 hz1 hz2 rfl (by omega) (.slice (some ⟨wr.heap.size, 0, none⟩) i i) i (intsV (List.replicate i 0)) (by rfl) (by exact HO1.out) a n c (intsV (Nu.dig x)) (by rfl) (by unfold intsV; rw [List.length_map, ← HN.out]; omega) (by intro j u hu; exact HDA1.out.news j u hu) (by intro u hu; unfold intsV at hu; obtain ⟨q, _, rfl⟩ := List.mem_map.1 hu; rfl) hbig (by omega) hws ?_); intro v3 w3 hown3 hgr3 _; obtain ⟨A3, c3, hv3, _, _, _, _⟩ := own_slice hown3; subst hv3; have B3 := Lib.hid (Below.grown (Below.refl wr.heap.size W1) hgr3 hws (fun k hk => (HO1.out.lt k hk).1)); have H3 := Lib.hid hown3; clear hown3 hgr3)
            have HD7 := Lib.hid (show Dr w3 A3 c3 (List.replicate i 0 ++ Nu.dig x) from by
              have h1 : OwnD wr.heap.size w3 (.slice A3 (i + n) c3) (List.replicate i 0 ++ Nu.dig x) := by
                unfold OwnD
                rw [HL7.out, ← intsV_app]
                exact H3.out
              exact h1.dr.2)
            have hb3 : Below wr.heap.size wr w3 := HBW.out.trans B3.out
            have HCC := Lib.hid (HCALL.out w3 _ _ (HJ.out.2.dr.below2 hb3) HD7.out)
            replace HB1 := Lib.hid (HJ.out.2.below.trans (hb3.mono HJ.out.2.below.size))
            clear hb3
            go_wp2_with fail
            refine HCC.out.mono ?_
            rintro e w4 ⟨A8, c8, rfl, hd8, hb8⟩
            have HD8 := Lib.hid hd8
            have HB8 := Lib.hid (HB1.out.trans (hb8.mono HB1.out.size))
            clear hd8 hb8
            go_wp2
            go_roundw
            case rel => exact ⟨k + 1, S2 + 10 ^ i * x, A8, c8, rfl, by go_num, by omega, Lib.hid ⟨HNXT.out, HB8.out, HD8.out⟩⟩
            case measure => simp [intOf]; omega
        · obtain rfl : k = d := by omega
          have hkd' : ¬ (k : Int) < (k : Int) := by omega
          have HEND := Lib.hid (show S2 = x * (y % 10 ^ (i + 1)) from by rw [HST.out]; exact HJ.out.1)
          have HT := Lib.hid HJ.out.2
          go_wp2
          go_roundw
          case rel => exact ⟨i + 1, S2, A6, c6, rfl, by go_num, hlt, Lib.hid ⟨HEND.out, HT.out⟩⟩
          case measure => simp [intOf]; omega
    · obtain rfl : i = m := by omega
      have hlt' : ¬ (i : Int) < (i : Int) := by omega
      have HSE := Lib.hid (show S = x * y by
        have h1 := HI.out.1
        rw [Nat.mod_eq_of_lt (Nu.dig_len_iff.1 (by rw [← HM.out]; exact Nat.le_refl _))] at h1
        exact h1)
      have HTR := Lib.hid (fun w1 (hb : Below wr.heap.size wr w1) => (trim_any w1 A5 c5 (Nu.dig S) (HI.out.2.dr.below2 hb) (fun d hd => Nu.dig_lt hd) (by
        have := small_len (S := S) HX10.out HY10.out (by rw [HSE.out]; exact Nat.le_refl _)
        omega)).mono (fun e w' (h : TrimP w1 (Nu.val (Nu.dig S)) e w') => show DigP w1 (x * y) e w' by
          obtain ⟨A9, c9, h1, h2, h3⟩ := h
          rw [Nu.val_dig, HSE.out] at h1 h2
          exact ⟨A9, c9, h1, h2, h3 ▸ Below.refl _ _⟩))
      have kb0 := HP.out.b0.below HI.out.2.below HP.out.b0.lt
      have kb1 := HP.out.b1.below HI.out.2.below HP.out.b1.lt
      have HK2 := Lib.hid (HP.out.b2.below HI.out.2.below HP.out.b2.lt)
      have hs := HP.out.size
      have hs2 := HI.out.2.below.size
      have HL := Lib.hid (show w.heap.size < wr.heap.size ∧ w.heap.size + 1 < wr.heap.size by omega)
      have HB0 := Lib.hid (HP.out.below.trans (HI.out.2.below.mono HP.out.below.size))
      have t0 := kb0.at_ 0
      have t1 := kb0.at_ 1
      have t3 := kb1.at_ 1
      simp only [List.getElem?_toArray, List.getElem?_cons_zero, List.getElem?_cons_succ] at t0 t1 t3
      clear kb0 kb1 hs hs2
      go_wp2
      go_region_held3 (fun w' => w'.cell? ⟨w.heap.size, 0, none⟩ = some (.slice A n c) ∧ w'.cell? ⟨w.heap.size, 1, none⟩ = some (.bool b) ∧ w'.cell? ⟨w.heap.size + 1, 0, none⟩ = some (.slice A2 i c2) ∧ w'.cell? ⟨w.heap.size + 1, 1, none⟩ = some (.bool b2))
        (first | exact ⟨t0, t1, t2, t3⟩ | exact ⟨(h3.cell (p := ⟨w.heap.size, 0, none⟩) HL.out.1).trans t0, (h3.cell (p := ⟨w.heap.size, 1, none⟩) HL.out.1).trans t1, (h3.cell (p := ⟨w.heap.size + 1, 0, none⟩) HL.out.2).trans t2, (h3.cell (p := ⟨w.heap.size + 1, 1, none⟩) HL.out.2).trans t3⟩ | exact s4 (h3.mono HL.out.2) t0 t1 t2 t3)
        (first | (go_at_call 36; refine (HTR.out _ ((Below.refl _ _).drew)).mono ?_; rintro e w3 ⟨A3, c3, rfl, hd3, h3⟩; have kb := HK2.out.below ((Below.refl wr.heap.size wr).drew.trans h3) HK2.out.lt; have k0 := kb.at_ 0; have k1 := kb.at_ 1; have f0 := kb.fz 0; have f1 := kb.fz 1; have KB := Lib.hid kb; have HD3 := Lib.hid hd3; clear kb hd3; simp only [List.getElem?_toArray, List.getElem?_cons_zero, List.getElem?_cons_succ] at k0 k1))
      go_wp2
      refine bodyPost_ret (v := .agg #[.slice A3 (Nu.dig (x * y)).length c3, .bool (!(b == b2))]) (by simp [results, Tryd.results31, go_sem, k0, k1]) rfl ?_
      exact ⟨A3, c3, (b != b2), x * y, rfl, HD3.out.far k0 _ _, rfl, below_two (HB0.out.trans (((Below.refl wr.heap.size wr).drew.trans h3).mono HB0.out.size)) _ _⟩
end Go.Proofs.YtbeoobgnpcbnnaaDoor
