/- Layer 6's reference: Add, Sub, Mul, Neg, Div, Mod, walked: each tells, of every two numbers of 64 bits, what the plain facts tell. -/
import Derived.Test.YtbeoobgnpcbnnaaDoorNuParts
namespace Go.Proofs.YtbeoobgnpcbnnaaDoor
open Go.RowKit

theorem lg_len {b : Bool} {n k : Nat} {z : Int} (h : sg b n = z) (hz : z.natAbs < 10 ^ k) : (Nu.dig n).length ≤ k := by
  refine Nu.dig_len_le ?_
  rw [← h, sg_abs] at hz
  exact hz
theorem fits_abs {z : Int} (h : Nu.fits z) : z.natAbs < 10 ^ 19 := by unfold Nu.fits at h; omega
theorem sum_abs {a b : Int} (ha : Nu.fits a) (hb : Nu.fits b) : (a + b).natAbs < 10 ^ 20 := by unfold Nu.fits at ha hb; omega
theorem dif_abs {a b : Int} (ha : Nu.fits a) (hb : Nu.fits b) : (a + -b).natAbs < 10 ^ 20 := by unfold Nu.fits at ha hb; omega
theorem mul_abs {a b : Int} (ha : Nu.fits a) (hb : Nu.fits b) : (a * b).natAbs < 10 ^ 38 := by
  rw [Int.natAbs_mul]
  have h1 := fits_abs ha
  have h2 := fits_abs hb
  rw [show 38 = 19 + 19 from rfl, Nat.pow_add]
  exact Nat.mul_lt_mul'' h1 h2
theorem of_z (w : World) (a : Int) (h : Nu.fits a) : Calls Tryd.prog 29 #[.int .i64 a] w (LgP w a) := by
  have e : a = sg (decide (a < 0)) a.natAbs := by
    unfold sg
    by_cases h0 : a < 0
    · rw [decide_eq_true h0]; simp; omega
    · rw [decide_eq_false h0]; simp; omega
  have := of_any w (decide (a < 0)) a.natAbs (by rw [← e]; exact h) (fun h0 => by have := of_decide_eq_true h0; omega)
  rw [← e] at this
  exact this
theorem told_z (w : World) (A : Option Addr) (c x : Nat) (b : Bool) (z : Int) (h : Dr w A c (Nu.dig x)) (hz : sg b x = z) (hx : (Nu.dig x).length ≤ 500) :
    Calls Tryd.prog 27 #[.agg #[.slice A (Nu.dig x).length c, .bool b]] w fun e w' => e = .returned (tv (Nu.tell z)) ∧ Below w.heap.size w w' := hz ▸ told_any w A c x b h hx
set_option maxHeartbeats 2000000 in
set_option maxRecDepth 100000 in
theorem radd_any (a b : Int) (w : World) (ha : Nu.fits a) (hb : Nu.fits b) :
    Calls Tryd.prog 9 #[.int .i64 a, .int .i64 b] w fun e w' => e = .returned (tv (Nu.tell (a + b))) ∧ Below w.heap.size w w' := by
  have HA := Lib.hid ha
  have HB := Lib.hid hb
  clear ha hb
  go_enter Tryd.func9, Tryd.ntmps9
  go_wp2_with fail
  refine (of_z _ a HA.out).mono ?_
  rintro e w1 ⟨A1, c1, b1, n1, rfl, hd1, hs1, hb1⟩
  have D1 := Lib.hid hd1
  have S1 := Lib.hid hs1
  have B1 := Lib.hid (hb1)
  have Q1 := Lib.hid hb1
  clear hd1 hs1 hb1
  go_wp2_with fail
  refine (of_z _ b HB.out).mono ?_
  rintro e w2 ⟨A2, c2, b2, n2, rfl, hd2, hs2, hb2⟩
  have D2 := Lib.hid hd2
  have S2 := Lib.hid hs2
  have B2 := Lib.hid (B1.out.trans (hb2.mono B1.out.size))
  have Q2 := Lib.hid hb2
  clear hd2 hs2 hb2
  go_wp2_with fail
  refine (plus_any _ _ _ _ _ _ _ _ _ (D1.out.below2 Q2.out) D2.out (Nat.le_trans (lg_len S1.out (fits_abs HA.out)) (by decide)) (Nat.le_trans (lg_len S2.out (fits_abs HB.out)) (by decide))).mono ?_
  rintro e w3 ⟨A3, c3, b3, n3, rfl, hd3, hs3, hb3⟩
  have D3 := Lib.hid hd3
  have S3 := Lib.hid hs3
  have B3 := Lib.hid (B2.out.trans (hb3.mono B2.out.size))
  have Q3 := Lib.hid hb3
  clear hd3 hs3 hb3
  have HZ := Lib.hid (show sg b3 n3 = a + b by rw [S3.out, S1.out, S2.out])
  go_wp2_with fail
  refine (told_z _ _ _ _ _ _ D3.out HZ.out (Nat.le_trans (lg_len (k := 20) HZ.out (sum_abs HA.out HB.out)) (by decide))).mono ?_
  rintro e w9 ⟨rfl, hb9⟩
  have B9 := Lib.hid (B3.out.trans (hb9.mono B3.out.size))
  clear hb9
  unfold tv
  go_wp2
  go_ret2
  exact ⟨rfl, B9.out⟩

set_option maxHeartbeats 2000000 in
set_option maxRecDepth 100000 in
theorem rsub_any (a b : Int) (w : World) (ha : Nu.fits a) (hb : Nu.fits b) :
    Calls Tryd.prog 11 #[.int .i64 a, .int .i64 b] w fun e w' => e = .returned (tv (Nu.tell (a - b))) ∧ Below w.heap.size w w' := by
  have HA := Lib.hid ha
  have HB := Lib.hid hb
  have HE := Lib.hid (show a - b = a + -b by omega)
  rw [HE.out]
  clear ha hb
  go_enter Tryd.func11, Tryd.ntmps11
  go_wp2_with fail
  refine (of_z _ a HA.out).mono ?_
  rintro e w1 ⟨A1, c1, b1, n1, rfl, hd1, hs1, hb1⟩
  have D1 := Lib.hid hd1
  have S1 := Lib.hid hs1
  have B1 := Lib.hid (hb1)
  have Q1 := Lib.hid hb1
  clear hd1 hs1 hb1
  go_wp2_with fail
  refine (of_z _ b HB.out).mono ?_
  rintro e w2 ⟨A2, c2, b2, n2, rfl, hd2, hs2, hb2⟩
  have D2 := Lib.hid hd2
  have S2 := Lib.hid hs2
  have B2 := Lib.hid (B1.out.trans (hb2.mono B1.out.size))
  have Q2 := Lib.hid hb2
  clear hd2 hs2 hb2
  go_wp2_with fail
  refine (minus_any _ _ _ _ _ D2.out).mono ?_
  rintro e w3 ⟨A3, c3, b3, n3, rfl, hd3, hs3, hb3⟩
  have D3 := Lib.hid hd3
  have S3 := Lib.hid hs3
  have B3 := Lib.hid (B2.out.trans (hb3.mono B2.out.size))
  have Q3 := Lib.hid hb3
  clear hd3 hs3 hb3
  have HZ3 := Lib.hid (show sg b3 n3 = -b by rw [S3.out, S2.out])
  go_wp2_with fail
  refine (plus_any _ _ _ _ _ _ _ _ _ ((D1.out.below2 Q2.out).below2 Q3.out) D3.out (Nat.le_trans (lg_len S1.out (fits_abs HA.out)) (by decide)) (Nat.le_trans (lg_len (k := 19) HZ3.out (by rw [Int.natAbs_neg]; exact fits_abs HB.out)) (by decide))).mono ?_
  rintro e w4 ⟨A4, c4, b4, n4, rfl, hd4, hs4, hb4⟩
  have D4 := Lib.hid hd4
  have S4 := Lib.hid hs4
  have B4 := Lib.hid (B3.out.trans (hb4.mono B3.out.size))
  have Q4 := Lib.hid hb4
  clear hd4 hs4 hb4
  have HZ := Lib.hid (show sg b4 n4 = a + -b by rw [S4.out, S1.out, HZ3.out])
  go_wp2_with fail
  refine (told_z _ _ _ _ _ _ D4.out HZ.out (Nat.le_trans (lg_len (k := 20) HZ.out (dif_abs HA.out HB.out)) (by decide))).mono ?_
  rintro e w9 ⟨rfl, hb9⟩
  have B9 := Lib.hid (B4.out.trans (hb9.mono B4.out.size))
  clear hb9
  unfold tv
  go_wp2
  go_ret2
  exact ⟨rfl, B9.out⟩

set_option maxHeartbeats 2000000 in
set_option maxRecDepth 100000 in
theorem rmul_any (a b : Int) (w : World) (ha : Nu.fits a) (hb : Nu.fits b) :
    Calls Tryd.prog 13 #[.int .i64 a, .int .i64 b] w fun e w' => e = .returned (tv (Nu.tell (a * b))) ∧ Below w.heap.size w w' := by
  have HA := Lib.hid ha
  have HB := Lib.hid hb
  clear ha hb
  go_enter Tryd.func13, Tryd.ntmps13
  go_wp2_with fail
  refine (of_z _ a HA.out).mono ?_
  rintro e w1 ⟨A1, c1, b1, n1, rfl, hd1, hs1, hb1⟩
  have D1 := Lib.hid hd1
  have S1 := Lib.hid hs1
  have B1 := Lib.hid (hb1)
  have Q1 := Lib.hid hb1
  clear hd1 hs1 hb1
  go_wp2_with fail
  refine (of_z _ b HB.out).mono ?_
  rintro e w2 ⟨A2, c2, b2, n2, rfl, hd2, hs2, hb2⟩
  have D2 := Lib.hid hd2
  have S2 := Lib.hid hs2
  have B2 := Lib.hid (B1.out.trans (hb2.mono B1.out.size))
  have Q2 := Lib.hid hb2
  clear hd2 hs2 hb2
  go_wp2_with fail
  refine (times_any _ _ _ _ _ _ _ _ _ (D1.out.below2 Q2.out) D2.out (Nat.le_trans (lg_len S1.out (fits_abs HA.out)) (by decide)) (Nat.le_trans (lg_len S2.out (fits_abs HB.out)) (by decide))).mono ?_
  rintro e w3 ⟨A3, c3, b3, n3, rfl, hd3, hs3, hb3⟩
  have D3 := Lib.hid hd3
  have S3 := Lib.hid hs3
  have B3 := Lib.hid (B2.out.trans (hb3.mono B2.out.size))
  have Q3 := Lib.hid hb3
  clear hd3 hs3 hb3
  have HZ := Lib.hid (show sg b3 n3 = a * b by rw [S3.out, S1.out, S2.out])
  go_wp2_with fail
  refine (told_z _ _ _ _ _ _ D3.out HZ.out (Nat.le_trans (lg_len (k := 38) HZ.out (mul_abs HA.out HB.out)) (by decide))).mono ?_
  rintro e w9 ⟨rfl, hb9⟩
  have B9 := Lib.hid (B3.out.trans (hb9.mono B3.out.size))
  clear hb9
  unfold tv
  go_wp2
  go_ret2
  exact ⟨rfl, B9.out⟩

set_option maxHeartbeats 2000000 in
set_option maxRecDepth 100000 in
theorem rneg_any (a : Int) (w : World) (ha : Nu.fits a) :
    Calls Tryd.prog 19 #[.int .i64 a] w fun e w' => e = .returned (tv (Nu.tell (-a))) ∧ Below w.heap.size w w' := by
  have HA := Lib.hid ha
  clear ha
  go_enter Tryd.func19, Tryd.ntmps19
  go_wp2_with fail
  refine (of_z _ a HA.out).mono ?_
  rintro e w1 ⟨A1, c1, b1, n1, rfl, hd1, hs1, hb1⟩
  have D1 := Lib.hid hd1
  have S1 := Lib.hid hs1
  have B1 := Lib.hid (hb1)
  have Q1 := Lib.hid hb1
  clear hd1 hs1 hb1
  go_wp2_with fail
  refine (minus_any _ _ _ _ _ D1.out).mono ?_
  rintro e w2 ⟨A2, c2, b2, n2, rfl, hd2, hs2, hb2⟩
  have D2 := Lib.hid hd2
  have S2 := Lib.hid hs2
  have B2 := Lib.hid (B1.out.trans (hb2.mono B1.out.size))
  have Q2 := Lib.hid hb2
  clear hd2 hs2 hb2
  have HZ := Lib.hid (show sg b2 n2 = -a by rw [S2.out, S1.out])
  go_wp2_with fail
  refine (told_z _ _ _ _ _ _ D2.out HZ.out (Nat.le_trans (lg_len (k := 19) HZ.out (by rw [Int.natAbs_neg]; exact fits_abs HA.out)) (by decide))).mono ?_
  rintro e w9 ⟨rfl, hb9⟩
  have B9 := Lib.hid (B2.out.trans (hb9.mono B2.out.size))
  clear hb9
  unfold tv
  go_wp2
  go_ret2
  exact ⟨rfl, B9.out⟩

theorem tdiv_sg {a b : Int} : sg (decide (a < 0) != decide (b < 0)) (a.natAbs / b.natAbs) = a.tdiv b := by
  have ea : a = sg (decide (a < 0)) a.natAbs := by
    unfold sg
    by_cases h0 : a < 0
    · rw [decide_eq_true h0]; simp; omega
    · rw [decide_eq_false h0]; simp; omega
  have eb : b = sg (decide (b < 0)) b.natAbs := by
    unfold sg
    by_cases h0 : b < 0
    · rw [decide_eq_true h0]; simp; omega
    · rw [decide_eq_false h0]; simp; omega
  conv => rhs; rw [ea, eb]
  generalize decide (a < 0) = p
  generalize decide (b < 0) = q
  cases p <;> cases q <;> simp [sg, Int.neg_tdiv, Int.tdiv_neg] <;> exact (Int.tdiv_eq_ediv_of_nonneg (Int.natCast_nonneg _)).symm
theorem tmod_sg {a b : Int} : sg (decide (a < 0)) (a.natAbs % b.natAbs) = a.tmod b := by
  have ea : a = sg (decide (a < 0)) a.natAbs := by
    unfold sg
    by_cases h0 : a < 0
    · rw [decide_eq_true h0]; simp; omega
    · rw [decide_eq_false h0]; simp; omega
  have eb : a.tmod b = a.tmod b.natAbs := by
    rcases Int.natAbs_eq b with h | h
    · rw [← h]
    · conv => lhs; rw [h, Int.tmod_neg]
  rw [eb]
  conv => rhs; rw [ea]
  generalize decide (a < 0) = p
  cases p <;> simp [sg, Int.neg_tmod] <;> exact (Int.tmod_eq_emod_of_nonneg (Int.natCast_nonneg _)).symm
theorem run_field0 (A : Option Addr) (n c : Nat) (b : Bool) (w : World) : (Instr.field 40 (.agg #[.slice A n c, .bool b]) 0).run Tryd.prog w = .ok (.slice A n c) w := by kernel_rfl
theorem quo_len {a b : Nat} (h : a < 10 ^ 19) : (Nu.dig (a / b)).length ≤ 500 := Nat.le_trans (Nu.dig_len_le (Nat.lt_of_le_of_lt (Nat.div_le_self a b) h)) (by decide)
theorem mod_len {a b : Nat} (h : a < 10 ^ 19) : (Nu.dig (a % b)).length ≤ 500 := Nat.le_trans (Nu.dig_len_le (Nat.lt_of_le_of_lt (Nat.mod_le a b) h)) (by decide)
set_option maxHeartbeats 2000000 in
set_option maxRecDepth 100000 in
theorem rdiv_any (a b : Int) (w : World) (ha : Nu.fits a) (hb : Nu.fits b) :
    Calls Tryd.prog 15 #[.int .i64 a, .int .i64 b] w fun e w' => e = .returned (tv (Nu.div a b)) ∧ Below w.heap.size w w' := by
  have HA := Lib.hid ha
  have HB := Lib.hid hb
  clear ha hb
  unfold Nu.div
  by_cases h0 : b = 0
  · subst h0
    rw [if_pos rfl]
    go_enter Tryd.func15, Tryd.ntmps15
    go_wp2
    go_ret2
    exact ⟨rfl, Below.refl _ _⟩
  · rw [if_neg h0]
    have H0 := Lib.hid h0
    have HTD := Lib.hid (tdiv_sg (a := a) (b := b))
    have h0' : (b == 0) = false := beq_eq_false_iff_ne.2 h0
    clear h0
    obtain ⟨p, hp⟩ : ∃ p, decide (a < 0) = p := ⟨_, rfl⟩
    obtain ⟨q, hq⟩ : ∃ q, decide (b < 0) = q := ⟨_, rfl⟩
    obtain ⟨u, hu⟩ : ∃ u, (p == q) = u := ⟨_, rfl⟩
    rw [hp, hq, show (p != q) = !u by rw [← hu]; rfl] at HTD
    go_enter Tryd.func15, Tryd.ntmps15
    have hfield := run_field0
    go_wp2_with fail
    refine (of_z _ a HA.out).mono ?_
    rintro e w1 ⟨A1, c1, b1, n1, rfl, hd1, hs1, hb1⟩
    have D1 := Lib.hid hd1
    have S1 := Lib.hid hs1
    have B1 := Lib.hid (hb1)
    have Q1 := Lib.hid hb1
    clear hd1 hs1 hb1
    go_wp2_with fail
    refine (of_z _ b HB.out).mono ?_
    rintro e w2 ⟨A2, c2, b2, n2, rfl, hd2, hs2, hb2⟩
    have D2 := Lib.hid hd2
    have S2 := Lib.hid hs2
    have B2 := Lib.hid (B1.out.trans (hb2.mono B1.out.size))
    have Q2 := Lib.hid hb2
    clear hd2 hs2 hb2
    have N1 := Lib.hid (show n1 = a.natAbs by rw [← S1.out, sg_abs])
    have N2 := Lib.hid (show n2 = b.natAbs by rw [← S2.out, sg_abs])
    go_wp2_with fail
    refine (parts_any _ _ _ _ _ _ _ (D1.out.below2 Q2.out) D2.out (Nat.le_trans (lg_len S1.out (fits_abs HA.out)) (by decide)) (Nat.le_trans (lg_len S2.out (fits_abs HB.out)) (by decide)) (by rw [N2.out]; have := H0.out; omega)).mono ?_
    rintro e w3 ⟨A3, c3, A4, c4, rfl, hd3, hd4, hb3⟩
    have D3 := Lib.hid hd3
    have D4 := Lib.hid hd4
    have B3 := Lib.hid (B2.out.trans (hb3.mono B2.out.size))
    clear hd3 hd4 hb3
    have HZ := Lib.hid (show sg (!u) (n1 / n2) = a.tdiv b by rw [N1.out, N2.out]; exact HTD.out)
    go_wp2_with fail
    refine (told_z _ _ _ _ _ _ D3.out HZ.out (quo_len (by rw [N1.out]; exact fits_abs HA.out))).mono ?_
    rintro e w9 ⟨rfl, hb9⟩
    have B9 := Lib.hid (B3.out.trans (hb9.mono B3.out.size))
    clear hb9
    unfold tv
    go_wp2
    go_ret2
    exact ⟨rfl, B9.out⟩

set_option maxHeartbeats 2000000 in
set_option maxRecDepth 100000 in
theorem rmod_any (a b : Int) (w : World) (ha : Nu.fits a) (hb : Nu.fits b) :
    Calls Tryd.prog 17 #[.int .i64 a, .int .i64 b] w fun e w' => e = .returned (tv (Nu.mod a b)) ∧ Below w.heap.size w w' := by
  have HA := Lib.hid ha
  have HB := Lib.hid hb
  clear ha hb
  unfold Nu.mod
  by_cases h0 : b = 0
  · subst h0
    rw [if_pos rfl]
    go_enter Tryd.func17, Tryd.ntmps17
    go_wp2
    go_ret2
    exact ⟨rfl, Below.refl _ _⟩
  · rw [if_neg h0]
    have H0 := Lib.hid h0
    have HTD := Lib.hid (tmod_sg (a := a) (b := b))
    have h0' : (b == 0) = false := beq_eq_false_iff_ne.2 h0
    clear h0
    obtain ⟨p, hp⟩ : ∃ p, decide (a < 0) = p := ⟨_, rfl⟩
    rw [hp] at HTD
    go_enter Tryd.func17, Tryd.ntmps17
    have hfield := run_field0
    go_wp2_with fail
    refine (of_z _ a HA.out).mono ?_
    rintro e w1 ⟨A1, c1, b1, n1, rfl, hd1, hs1, hb1⟩
    have D1 := Lib.hid hd1
    have S1 := Lib.hid hs1
    have B1 := Lib.hid (hb1)
    have Q1 := Lib.hid hb1
    clear hd1 hs1 hb1
    go_wp2_with fail
    refine (of_z _ b HB.out).mono ?_
    rintro e w2 ⟨A2, c2, b2, n2, rfl, hd2, hs2, hb2⟩
    have D2 := Lib.hid hd2
    have S2 := Lib.hid hs2
    have B2 := Lib.hid (B1.out.trans (hb2.mono B1.out.size))
    have Q2 := Lib.hid hb2
    clear hd2 hs2 hb2
    have N1 := Lib.hid (show n1 = a.natAbs by rw [← S1.out, sg_abs])
    have N2 := Lib.hid (show n2 = b.natAbs by rw [← S2.out, sg_abs])
    go_wp2_with fail
    refine (parts_any _ _ _ _ _ _ _ (D1.out.below2 Q2.out) D2.out (Nat.le_trans (lg_len S1.out (fits_abs HA.out)) (by decide)) (Nat.le_trans (lg_len S2.out (fits_abs HB.out)) (by decide)) (by rw [N2.out]; have := H0.out; omega)).mono ?_
    rintro e w3 ⟨A3, c3, A4, c4, rfl, hd3, hd4, hb3⟩
    have D3 := Lib.hid hd3
    have D4 := Lib.hid hd4
    have B3 := Lib.hid (B2.out.trans (hb3.mono B2.out.size))
    clear hd3 hd4 hb3
    have HZ := Lib.hid (show sg p (n1 % n2) = a.tmod b by rw [N1.out, N2.out]; exact HTD.out)
    go_wp2_with fail
    refine (told_z _ _ _ _ _ _ D4.out HZ.out (mod_len (by rw [N1.out]; exact fits_abs HA.out))).mono ?_
    rintro e w9 ⟨rfl, hb9⟩
    have B9 := Lib.hid (B3.out.trans (hb9.mono B3.out.size))
    clear hb9
    unfold tv
    go_wp2
    go_ret2
    exact ⟨rfl, B9.out⟩
end Go.Proofs.YtbeoobgnpcbnnaaDoor
