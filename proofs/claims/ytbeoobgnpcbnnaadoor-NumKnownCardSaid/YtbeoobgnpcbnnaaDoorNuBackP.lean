/- The law NumBack, walked, where what is left is above 0: it answers true. Conditions: the listed table and the sentinel hold what their texts lay; numbers are of 64 bits. -/
import Derived.Test.YtbeoobgnpcbnnaaDoorNuBack0
namespace Go.Proofs.YtbeoobgnpcbnnaaDoor
open Go.RowKit

set_option maxHeartbeats 8000000 in
set_option maxRecDepth 100000 in
theorem lawBackP (a b : Int) (s : ByteArray) (w : World) (T : Tb w) (ha : Nu.fits a) (hb : Nu.fits b) (hr : a.tmod b > 0) :
    Calls Tryd.prog 6 #[.int .i64 a, .int .i64 b, .string s] w fun e w' => e = .returned (.bool true) ∧ Below w.heap.size w w' := by
  have HWK := Lib.hid (fun w0 (T0 : Tb w0) => works_nu w0 T0)
  have T0 := Lib.hid T
  have B0 := Lib.hid (Below.refl w.heap.size w)
  clear T
  have HRS := Lib.hid hr
  clear hr
  by_cases h60 : s.size > 60
  · have h60' : (s.size : Int) > 60 := by omega
    clear h60
    go_enter Tryd.func6, Tryd.ntmps6
    go_wp2_with fail
    refine (HWK.out _ T0.out).mono ?_
    rintro e w1 ⟨rfl, h1⟩
    have B1 := Lib.hid (B0.out.trans (h1.mono B0.out.size))
    have T1 := Lib.hid (T0.out.below h1 (Nat.le_refl _))
    clear h1
    go_wp2
    go_ret
    exact ⟨rfl, B1.out⟩
  · have h60' : ¬ (s.size : Int) > 60 := by omega
    have HPA := Lib.hid (fun w0 (T0 : Tb w0) => put_any a w0 T0 ha)
    have HQA := Lib.hid (fun w0 (T0 : Tb w0) => parse_any ⟨(Lib.itoa a).toArray⟩ w0 T0 (by rw [size_mk]; have := itoa_len ha; omega))
    rw [data_mk, Nu.prs_itoa ha] at HQA
    generalize (⟨(Lib.itoa a).toArray⟩ : ByteArray) = SA at *
    have HPS := Lib.hid (fun w0 (T0 : Tb w0) => parse_any s w0 T0 (by omega))
    have HPM := Lib.hid (fun w0 (T0 : Tb w0) => put_any (Nu.prs s.data.toList).1 w0 T0 (prs_fits _))
    have HM0 := Lib.hid (prs_m (l := s.data.toList))
    have HMI := Lib.hid (show (Nu.prs s.data.toList).2 = 0 → (⟨(Lib.itoa (Nu.prs s.data.toList).1).toArray⟩ : ByteArray) = s from fun h => by
      rw [Nu.itoa_prs (l := s.data.toList) (m := (Nu.prs s.data.toList).1) (by rw [← h]), mk_data])
    generalize Nu.prs s.data.toList = p at *
    obtain ⟨m, f⟩ := p
    simp only at HPM HM0 HMI
    have HA := Lib.hid ha
    have HB := Lib.hid hb
    have HADD := Lib.hid (fun w0 => add_any a b w0 ha hb)
    have HSUB := Lib.hid (fun (h : Nu.fits (a + b)) w0 => sub_any (a + b) b w0 h hb)
    have HDIV := Lib.hid (fun w0 => div_any a b w0 ha hb)
    have HMOD := Lib.hid (fun w0 => mod_any a b w0 hb)
    unfold tv at *
    unfold Nu.fits at ha hb
    clear h60
    go_enter Tryd.func6, Tryd.ntmps6
    go_wp2_with fail
    refine (HPA.out _ T0.out).mono ?_
    rintro e w1 ⟨rfl, h1⟩
    have B1 := Lib.hid (B0.out.trans (h1.mono B0.out.size))
    have T1 := Lib.hid (T0.out.below h1 (Nat.le_refl _))
    clear h1
    go_wp2_with fail
    refine (HQA.out _ T1.out).mono ?_
    rintro e w2 ⟨rfl, h2⟩
    have B2 := Lib.hid (B1.out.trans (h2.mono B1.out.size))
    have T2 := Lib.hid (T1.out.below h2 (Nat.le_refl _))
    clear h2
    go_wp2_with fail
    refine (HPS.out _ T2.out).mono ?_
    rintro e w3 ⟨rfl, h3⟩
    have B3 := Lib.hid (B2.out.trans (h3.mono B2.out.size))
    have T3 := Lib.hid (T2.out.below h3 (Nat.le_refl _))
    clear h3
    go_upto_region 7 with fail
    go_cut [60] from 45 to 59 (fun s60 wx => s60 = .bool false ∧ Hid (Below w.heap.size w wx ∧ Tb wx))
    case first =>
      by_cases hf : f = 0
      · subst hf
        have HPM2 := Lib.hid (fun w0 (T0 : Tb w0) => HPM.out w0 T0)
        rw [HMI.out rfl] at HPM2
        go_wp2_with fail
        refine (HPM2.out _ T3.out).mono ?_
        rintro e w4 ⟨rfl, h4⟩
        have B4 := Lib.hid (B3.out.trans (h4.mono B3.out.size))
        have T4 := Lib.hid (T3.out.below h4 (Nat.le_refl _))
        clear h4
        go_wp2
        go_meet
        exact ⟨rfl, Lib.hid ⟨B4.out, T4.out⟩⟩
      · have hm := HM0.out hf
        subst hm
        have hf' : (f == 0) = false := beq_eq_false_iff_ne.2 hf
        have hf2 : (f != 0) = true := by simp [bne, hf']
        go_wp2
        go_meet
        exact ⟨rfl, Lib.hid ⟨B3.out, T3.out⟩⟩
    case rest =>
      obtain ⟨rfl, HC⟩ := hcut
      clear HPA HQA HPS HPM HM0 HMI B0 B1 B2 B3 T0 T1 T2 T3
      obtain ⟨p, hp⟩ : ∃ p, p = Nu.tell (a + b) := ⟨_, rfl⟩
      rw [← hp] at HADD
      have HP := Lib.hid hp
      obtain ⟨sum, g⟩ := p
      clear hp
      simp only at HADD
      go_wp2_with fail
      refine (HADD.out _).mono ?_
      rintro e w5 ⟨rfl, rfl⟩
      go_upto_if 68 with fail
      go_cut [] from 13 to 81 (fun wx => Hid (Below w.heap.size w wx ∧ Tb wx))
      case first =>
        by_cases hfs : Nu.fits (a + b)
        · have HSB := Lib.hid (fun w0 => HSUB.out hfs w0)
          rw [show a + b - b = a by omega, Nu.tell_in HA.out] at HSB
          have h1 := HP.out
          rw [Nu.tell_in hfs] at h1
          injection h1 with h1 h2
          subst h1 h2
          clear hfs HSUB
          go_wp2_with fail
          refine (HSB.out _).mono ?_
          rintro e w6 ⟨rfl, rfl⟩
          go_wp2
          go_meet
          exact Lib.hid HC.out
        · have h1 := HP.out
          rw [Nu.tell_out hfs] at h1
          injection h1 with h1 h2
          subst h1 h2
          clear hfs HSUB
          go_wp2
          go_meet
          exact Lib.hid HC.out
      case rest =>
        have HC2 := hcut
        clear HSUB HADD HP HC
        by_cases hb0 : b = 0
        · subst hb0
          rw [show Nu.div a 0 = (0, 61) from rfl] at HDIV
          rw [show Nu.mod a 0 = (0, 61) from rfl] at HMOD
          go_wp2_with fail
          refine (HDIV.out _).mono ?_
          rintro e w6 ⟨rfl, rfl⟩
          go_wp2_with fail
          refine (HMOD.out _).mono ?_
          rintro e w6 ⟨rfl, rfl⟩
          go_wp2_with fail
          refine (HWK.out _ HC2.out.2).mono ?_
          rintro e w7 ⟨rfl, h7⟩
          have B7 := Lib.hid (HC2.out.1.trans (h7.mono HC2.out.1.size))
          clear h7
          go_wp2
          go_ret
          exact ⟨rfl, B7.out⟩
        · have hb0' : (b == 0) = false := beq_eq_false_iff_ne.2 hb0
          obtain ⟨hm1, hm2, hm3, hm4⟩ := mod_facts (a := a) hb0
          have HQF := Lib.hid (fun (h1 : b ≠ -1) => Nu.tdiv_fits (b := b) HA.out hb0 h1)
          have HNEG := Lib.hid (fun (h1 : b = -1) => show a.tdiv b = -a from by rw [h1]; exact Nu.neg_one)
          rw [show Nu.div a b = Nu.tell (a.tdiv b) from if_neg hb0] at HDIV
          rw [show Nu.mod a b = (a.tmod b, 0) from by unfold Nu.mod; rw [if_neg hb0, Nu.tell_in (Nu.tmod_fits HB.out hb0)]] at HMOD
          have HMUL := Lib.hid (fun (h : Nu.fits (a.tdiv b)) w0 => mul_any (a.tdiv b) b w0 h HB.out)
          generalize a.tdiv b = q at *
          generalize a.tmod b = r at *
          obtain ⟨pq, hpq⟩ : ∃ p, p = Nu.tell q := ⟨_, rfl⟩
          rw [← hpq] at HDIV
          obtain ⟨qq, h⟩ := pq
          have HPQ := Lib.hid hpq
          have HM1 := Lib.hid hm1
          simp only at HDIV HMOD
          have hrb : -9223372036854775807 ≤ r ∧ r ≤ 9223372036854775807 := by omega
          clear hpq hm1
          go_wp2_with fail
          refine (HDIV.out _).mono ?_
          rintro e w6 ⟨rfl, rfl⟩
          go_wp2_with fail
          refine (HMOD.out _).mono ?_
          rintro e w6 ⟨rfl, rfl⟩
          go_upto_region 18 with fail
          go_cut [176] from 105 to 175 (fun s wx => s = .bool false ∧ Hid (Below w.heap.size w wx ∧ Tb wx))
          case first =>
            have hr := HRS.out
            · have hr2 : ¬ r < 0 := by omega
              have ha2 : ¬ a ≤ 0 := by omega
              by_cases hbp : b > 0
              · have hbn : ¬ b < 0 := by omega
                have hle : ¬ r ≥ b := by omega
                clear HRS hm2 hm3 hm4 ha hrb HPQ HM1 HQF HNEG HMUL HWK HDIV HMOD HB HA hb0 hb0'
                go_wp2
                go_meet
                exact ⟨rfl, Lib.hid HC2.out⟩
              · have hbn : b < 0 := by omega
                have hle : ¬ -r ≤ b := by omega
                clear HRS hm2 hm3 hm4 ha hrb HPQ HM1 HQF HNEG HMUL HWK HDIV HMOD HB HA hb0 hb0'
                go_wp2
                go_meet
                exact ⟨rfl, Lib.hid HC2.out⟩
          case rest =>
            obtain ⟨rfl, HC3⟩ := hcut
            clear HDIV HMOD HC2
            by_cases hq : Nu.fits q
            · have h1 := HPQ.out
              rw [Nu.tell_in hq] at h1
              injection h1 with h1 h2
              subst h1 h2
              have HMU := Lib.hid (fun w0 => HMUL.out hq w0)
              have hpf : Nu.fits (qq * b) := by have h1 := HM1.out; unfold Nu.fits; omega
              rw [Nu.tell_in hpf] at HMU
              obtain ⟨p, hp⟩ : ∃ p, p = qq * b := ⟨_, rfl⟩
              rw [← hp] at HMU hpf HM1
              have HAD := Lib.hid (fun w0 => add_any p r w0 hpf (by unfold Nu.fits; omega))
              rw [HM1.out, Nu.tell_in HA.out] at HAD
              unfold tv at HAD HMU
              clear hp hq HMUL
              go_wp2_with fail
              refine (HMU.out _).mono ?_
              rintro e w7 ⟨rfl, rfl⟩
              go_wp2_with fail
              refine (HAD.out _).mono ?_
              rintro e w7 ⟨rfl, rfl⟩
              go_wp2_with fail
              refine (HWK.out _ HC3.out.2).mono ?_
              rintro e w7 ⟨rfl, h7⟩
              have B7 := Lib.hid (HC3.out.1.trans (h7.mono HC3.out.1.size))
              clear h7
              go_wp2
              go_ret
              exact ⟨rfl, B7.out⟩
            · have h1 := HPQ.out
              rw [Nu.tell_out hq] at h1
              injection h1 with h1 h2
              subst h1 h2
              have hbm : b = -1 := by
                by_cases h1 : b = -1
                · exact h1
                · exact absurd (HQF.out h1) hq
              have hqa := HNEG.out hbm
              have hal : a = -9223372036854775808 := by
                rw [hqa] at hq
                unfold Nu.fits at hq
                omega
              have hr0 : r = 0 := by rw [hbm] at hm4; omega
              subst hbm hal hr0
              clear hq hqa HMUL HQF HNEG
              go_wp2_with fail
              refine (HWK.out _ HC3.out.2).mono ?_
              rintro e w7 ⟨rfl, h7⟩
              have B7 := Lib.hid (HC3.out.1.trans (h7.mono HC3.out.1.size))
              clear h7
              go_wp2
              go_ret
              exact ⟨rfl, B7.out⟩
end Go.Proofs.YtbeoobgnpcbnnaaDoor
