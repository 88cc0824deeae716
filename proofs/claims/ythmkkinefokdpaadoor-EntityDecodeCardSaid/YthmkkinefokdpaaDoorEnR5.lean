/- hopscotchref03.Decode and Encode, walked: they answer what the plain facts tell. Condition: a text's length fits. -/
import Derived.Test.YthmkkinefokdpaaDoorEnR4
namespace Go.Proofs.YthmkkinefokdpaaDoor
open Go.RowKit

theorem ba_append (a b : ByteArray) : (a ++ b).data.toList = a.data.toList ++ b.data.toList := by
  rw [ByteArray.data_append, Array.toList_append]
theorem size_append (a b : ByteArray) : (a ++ b).size = a.size + b.size := by
  rw [Lib.size_eq, ba_append, List.length_append, ← Lib.size_eq, ← Lib.size_eq]
theorem rf_zero_of {l : List UInt8} (h : l.head? ≠ some 38) : (En.rf l).2 = 0 := by rw [En.rf_no h]
theorem dF_of_rf {l : List UInt8} (h : (En.rf l).2 ≠ 0) : En.dF l = ((En.rf l).1, (En.rf l).2, 0) := by
  by_cases ha : l.head? = some 38
  · rw [En.dF_amp ha, if_neg h]
  · exact absurd (rf_zero_of ha) h

set_option maxHeartbeats 4000000 in
set_option maxRecDepth 100000 in
theorem rdecode_any (s : ByteArray) (hs : s.size ≤ 1000000000) (w : World) :
    Calls Tryd.prog 10 #[.string s] w fun e w' => e = .returned (tup3 (En.rep En.dF s.data.toList)) ∧ Below w.heap.size w w' := by
  have HL := Lib.hid (Lib.size_eq s)
  obtain ⟨R, hR⟩ : ∃ R, R = En.rep En.dF s.data.toList := ⟨_, rfl⟩
  rw [← hR]
  have HR : Hid (R = En.goes En.dF s.size s.data.toList [] 0) := Lib.hid (by rw [hR, HL.out]; rfl)
  clear hR
  have HRF := Lib.hid rreference_any
  have HNX := Lib.hid rnext_any
  unfold tup3
  go_enter Tryd.func10, Tryd.ntmps10
  go_wp2
  go_loopw [5, 6] (fun vo v wr => ∃ (p : Nat) (o : ByteArray), v = .int .i64 p ∧ vo = .string o ∧ p ≤ s.size ∧ o.size ≤ 6 * p ∧ Below w.heap.size w wr ∧ Hid (R = En.goes En.dF s.size (s.data.toList.drop p) o.data.toList p)) (fun _ v _ => s.size - (intOf v).toNat)
  case atStart => exact ⟨0, ⟨#[]⟩, rfl, rfl, Nat.zero_le _, Nat.zero_le _, Below.refl _ _, HR⟩
  case round =>
    obtain ⟨p, o, rfl, rfl, hp, hos, hbw, HH⟩ := hrel
    by_cases hlt : p < s.size
    · have hlt' : (p : Int) < (s.size : Int) := by omega
      have hpn : (p : Int) ≤ (s.size : Int) := by omega
      have hne : s.data.toList.drop p ≠ [] := by intro e; have := congrArg List.length e; have := HL.out; simp at *; omega
      have hts : (s.extract p s.size).size ≤ maxLen := by have := extract_size s p s.size; unfold maxLen; omega
      have HX := Lib.hid (fun w0 => HRF.out (s.extract p s.size) hts w0)
      have HY := Lib.hid (fun w0 => HNX.out (s.extract p s.size) w0 hts)
      rw [Lib.extract_to_end] at HX HY
      have hfl : (s.data.toList.drop p).length ≤ s.size := by rw [List.length_drop, ← HL.out]; omega
      have hhd : (s.data.toList.drop p).head? = some s[p] := by
        rw [List.head?_eq_getElem?, List.getElem?_drop, Nat.add_zero, Lib.data_getElem? s p hlt]
      by_cases h0 : (En.rf (s.data.toList.drop p)).2 = 0
      · by_cases ha : s[p] = 38
        · have hz : (En.dF (s.data.toList.drop p)) = ([], 0, 30) := by rw [En.dF_amp (by rw [hhd, ha]), if_pos h0]
          have hg := En.goes_bad (F := En.dF) (out := o.data.toList) (at_ := p) hfl hne (by rw [hz]; decide)
          rw [hz] at hg
          have HG := Lib.hid (HH.out.trans hg)
          have ht : ((s[p].toNat : Int) == 38) = true := by rw [ha]; rfl
          generalize En.rf (s.data.toList.drop p) = d at *
          obtain ⟨c, n⟩ := d
          simp only at HX h0
          subst h0
          clear hg hz hhd hne hts HY HH ha hfl
          go_wp2_with fail
          refine (HX.out _).mono ?_
          rintro e w1 ⟨rfl, h1⟩
          have b1 := hbw.trans (h1.mono hbw.size)
          clear hbw h1
          go_wp2
          go_ret3
          exact ⟨by rw [HG.out]; rfl, b1⟩
        · have hn38 : ¬ (s[p].toNat : Int) = 38 := by
            intro e; apply ha; apply UInt8.toNat_inj.1
            show s[p].toNat = 38
            omega
          have ht : ((s[p].toNat : Int) == 38) = false := by simpa using hn38
          have hh : (s.data.toList.drop p).head? ≠ some 38 := by rw [hhd]; simpa using ha
          have hz := En.dF_no hh
          by_cases hok : (U8.nx (s.data.toList.drop p)).2.2 = 0
          · have h2 := U8.nx_ok hne hok
            have hg := En.goes_good En.moves_dF (out := o.data.toList) (at_ := p) hfl hne (by rw [hz]; exact hok)
            rw [hz] at hg
            simp only at hg
            rw [List.drop_drop] at hg
            have hk : p + (U8.nx (s.data.toList.drop p)).2.1 ≤ s.size := by have h3 := h2.2.2.2.1; rw [List.length_drop, ← HL.out] at h3; omega
            have hk1 := h2.2.2.1
            have HO : Hid ((o ++ s.extract p (p + (U8.nx (s.data.toList.drop p)).2.1)).data.toList = o.data.toList ++ (s.data.toList.drop p).take (U8.nx (s.data.toList.drop p)).2.1) := Lib.hid (by
              rw [ba_append]; congr 1
              rw [← Lib.toList_data, Lib.extract_toList]
              congr 1; omega)
            have HG := Lib.hid (HH.out.trans hg)
            rw [← HO.out] at HG
            clear HO
            generalize En.rf (s.data.toList.drop p) = d at *
            obtain ⟨c, n⟩ := d
            simp only at HX h0
            subst h0
            generalize U8.nx (s.data.toList.drop p) = q at *
            obtain ⟨ch, m, z⟩ := q
            simp only at HY hok hk hk1 HG
            subst hok
            have hm1 : (p : Int) + (m : Int) ≤ (s.size : Int) := by omega
            have hm2 : (p : Int) ≤ (p : Int) + (m : Int) := by omega
            have HO2 := Lib.hid (show (o ++ s.extract p (p + m)).size ≤ 6 * (p + m) by rw [size_append, ByteArray.size_extract]; omega)
            clear hg hz hh hhd hne hts HH ha hfl hn38 h2
            go_wp2_with fail
            refine (HX.out _).mono ?_
            rintro e w1 ⟨rfl, h1⟩
            have b1 := hbw.trans (h1.mono hbw.size)
            clear hbw h1
            go_wp2_with fail
            refine (HY.out _).mono ?_
            rintro e w2 ⟨rfl, h2⟩
            have b2 := b1.trans (h2.mono b1.size)
            clear b1 h2
            go_wp2
            refine ⟨⟨p + m, _, by go_num, rfl, hk, HO2.out, b2, HG⟩, by simp [intOf]; omega⟩
          · have hg := En.goes_bad (F := En.dF) (out := o.data.toList) (at_ := p) hfl hne (by rw [hz]; exact hok)
            rw [hz] at hg
            simp only at hg
            have HG := Lib.hid (HH.out.trans hg)
            generalize En.rf (s.data.toList.drop p) = d at *
            obtain ⟨c, n⟩ := d
            simp only at HX h0
            subst h0
            generalize U8.nx (s.data.toList.drop p) = q at *
            obtain ⟨ch, m, z⟩ := q
            simp only at HY hok HG
            have hz1 : (z == 0) = false := by simpa using hok
            have hz2 : (z != 0) = true := by simpa using hok
            clear hg hz hh hhd hne hts HH ha hfl hn38 hok
            go_wp2_with fail
            refine (HX.out _).mono ?_
            rintro e w1 ⟨rfl, h1⟩
            have b1 := hbw.trans (h1.mono hbw.size)
            clear hbw h1
            go_wp2_with fail
            refine (HY.out _).mono ?_
            rintro e w2 ⟨rfl, h2⟩
            have b2 := b1.trans (h2.mono b1.size)
            clear b1 h2
            go_wp2
            go_ret3
            exact ⟨by rw [HG.out]; rfl, b2⟩
      · have hz := dF_of_rf h0
        have h2 := (En.rf_bd (s.data.toList.drop p)).2 h0
        have hlg := En.long_dF hne (by rw [hz])
        rw [hz] at hlg
        have hg := En.goes_good En.moves_dF (out := o.data.toList) (at_ := p) hfl hne (by rw [hz])
        rw [hz] at hg
        simp only at hg
        rw [List.drop_drop] at hg
        have hk : p + (En.rf (s.data.toList.drop p)).2 ≤ s.size := by have h3 := h2.2; rw [List.length_drop, ← HL.out] at h3; omega
        have HG := Lib.hid (HH.out.trans hg)
        generalize En.rf (s.data.toList.drop p) = d at *
        obtain ⟨c, n⟩ := d
        simp only at HX h0 hk HG hlg
        obtain ⟨P, hP⟩ : ∃ P : ByteArray, P = ⟨c.toArray⟩ := ⟨_, rfl⟩
        have hPc : o.data.toList ++ c = (o ++ P).data.toList := by rw [ba_append, hP, data_mk]
        rw [hPc] at HG
        rw [← hP] at HX
        have hPs : P.size ≤ 6 * n := by rw [hP, size_mk]; exact hlg
        have HO2 := Lib.hid (show (o ++ P).size ≤ 6 * (p + n) by rw [size_append]; omega)
        have hn0 : (0 : Int) < (n : Int) := by omega
        clear hg hz hhd hne hts HY HH hfl h2 hP hPc h0
        go_wp2_with fail
        refine (HX.out _).mono ?_
        rintro e w1 ⟨rfl, h1⟩
        have b1 := hbw.trans (h1.mono hbw.size)
        clear hbw h1
        go_wp2
        refine ⟨⟨p + n, o ++ P, by go_num, rfl, hk, HO2.out, b1, HG⟩, by simp [intOf]; omega⟩
    · have hlt' : ¬ (p : Int) < (s.size : Int) := by omega
      have hnil : s.data.toList.drop p = [] := List.drop_of_length_le (by have := HL.out; omega)
      have hg := HH.out
      rw [hnil, En.goes_nil] at hg
      have HG := Lib.hid hg
      clear hg hnil HH hlt
      go_wp2
      go_ret3
      exact ⟨by rw [HG.out]; simp only; rw [mk_data]; rfl, hbw⟩

/-! ### Encode -/
theorem vld_ok {l : List UInt8} (h : En.validL l) : vld l = (0, 0) := by
  unfold En.validL at h; unfold vld; rw [if_neg (by omega)]
theorem vld_no {l : List UInt8} (h : ¬ En.validL l) : vld l = (((U8.lead l).2 : Int), 10) := by
  have := (U8.lead_le _ l (Nat.le_refl _)).2
  unfold En.validL at h; unfold vld; rw [if_pos (by omega)]
theorem wrB_at {s : ByteArray} {k : Nat} (h : k < s.size) (attr : Bool) : En.encB attr (s.data.toList.take (k + 1)) = En.encB attr (s.data.toList.take k) ++ En.wrB attr s[k] := by
  have hk : k < s.data.toList.length := by rw [← Lib.size_eq]; exact h
  have hg : s.data.toList[k] = s[k] := by
    have := Lib.data_getElem? s k h
    rw [List.getElem?_eq_getElem hk] at this
    exact Option.some.inj this
  rw [En.take_snoc hk, En.encB_append, hg, En.encB_cons]
  show _ ++ (En.wrB attr s[k] ++ []) = _
  rw [List.append_nil]
theorem ext_one {s : ByteArray} {k : Nat} (h : k < s.size) : (s.extract k (k + 1)).data.toList = [s[k]] := by
  have hk : k < s.data.toList.length := by rw [← Lib.size_eq]; exact h
  have hg : s.data.toList[k] = s[k] := by
    have := Lib.data_getElem? s k h
    rw [List.getElem?_eq_getElem hk] at this
    exact Option.some.inj this
  rw [← Lib.toList_data, Lib.extract_toList, show k + 1 - k = 1 by omega, List.drop_eq_getElem_cons hk, hg]
  rfl

set_option maxHeartbeats 8000000 in
set_option maxRecDepth 100000 in
theorem rencode_any (s : ByteArray) (attr : Bool) (hs : s.size ≤ 1000000000) (w : World) :
    Calls Tryd.prog 14 #[.string s, .bool attr] w fun e w' => e = .returned (.tuple #[.string ⟨(En.rep (En.eF attr) s.data.toList).1.toArray⟩, .int .i64 (En.rep (En.eF attr) s.data.toList).2.2]) ∧ Below w.heap.size w w' := by
  have HL := Lib.hid (Lib.size_eq s)
  have HV := Lib.hid (rvalid_any s w (by unfold maxLen; omega))
  rcases En.rep_eF attr s.data.toList.length s.data.toList (Nat.le_refl _) with ⟨h1, h2⟩ | ⟨h1, h2, h3⟩
  · rw [vld_ok h1] at HV
    rw [h2]
    obtain ⟨R, hR⟩ : ∃ R, R = En.encB attr s.data.toList := ⟨_, rfl⟩
    rw [← hR]
    have HR := Lib.hid hR
    clear hR h1 h2
    simp only at HV ⊢
    go_enter Tryd.func14, Tryd.ntmps14
    go_wp2_with fail
    refine HV.out.mono ?_
    rintro e w1 ⟨rfl, b1⟩
    go_wp2
    go_loop [8, 9] (fun vo vi => ∃ (k : Nat) (o : ByteArray), vi = .int .i64 k ∧ vo = .string o ∧ k ≤ s.size ∧ o.size ≤ 6 * k ∧ Hid (o.data.toList = En.encB attr (s.data.toList.take k))) (fun _ vi => s.size - (intOf vi).toNat)
    case atStart => exact ⟨0, ⟨#[]⟩, rfl, rfl, Nat.zero_le _, Nat.zero_le _, Lib.hid rfl⟩
    case round =>
      obtain ⟨k, o, rfl, rfl, hk, hos, HH⟩ := hrel
      by_cases hlt : k < s.size
      · have hlt' : (k : Int) < (s.size : Int) := by omega
        have HS := Lib.hid ((wrB_at hlt attr).trans (by rw [← HH.out]))
        have HO := Lib.hid (ext_one hlt)
        have hc256 := s[k].toNat_lt
        have HN : Hid (∀ n : Nat, n < 256 → (s[k] = n.toUInt8 ↔ (s[k].toNat : Int) = n)) := Lib.hid (fun n hn => by
          have hn' : n.toUInt8.toNat = n := by simp only [Nat.toUInt8, UInt8.toNat_ofNat']; omega
          constructor
          · intro e; rw [e, hn']
          · intro e; apply UInt8.toNat_inj.1; rw [hn']; omega)
        have HE : Hid (∀ P : ByteArray, En.wrB attr s[k] = P.data.toList → P.size ≤ 6 → (o ++ P).size ≤ 6 * (k + 1) ∧ (o ++ P).data.toList = En.encB attr (s.data.toList.take (k + 1))) := Lib.hid (fun P hP h6 => ⟨by rw [size_append]; omega, by rw [ba_append, HS.out, hP]⟩)
        have q38 : s[k] = 38 ↔ (s[k].toNat : Int) = 38 := HN.out 38 (by omega)
        have q60 : s[k] = 60 ↔ (s[k].toNat : Int) = 60 := HN.out 60 (by omega)
        have q62 : s[k] = 62 ↔ (s[k].toNat : Int) = 62 := HN.out 62 (by omega)
        have q13 : s[k] = 13 ↔ (s[k].toNat : Int) = 13 := HN.out 13 (by omega)
        have q34 : s[k] = 34 ↔ (s[k].toNat : Int) = 34 := HN.out 34 (by omega)
        have q9 : s[k] = 9 ↔ (s[k].toNat : Int) = 9 := HN.out 9 (by omega)
        have q10 : s[k] = 10 ↔ (s[k].toNat : Int) = 10 := HN.out 10 (by omega)
        have HW : Hid (En.wrB attr s[k] = if (s[k].toNat : Int) = 38 then [38, 97, 109, 112, 59] else if (s[k].toNat : Int) = 60 then [38, 108, 116, 59] else if (s[k].toNat : Int) = 62 then [38, 103, 116, 59] else if (s[k].toNat : Int) = 13 then [38, 35, 49, 51, 59]
          else if attr = true ∧ (s[k].toNat : Int) = 34 then [38, 113, 117, 111, 116, 59] else if attr = true ∧ (s[k].toNat : Int) = 9 then [38, 35, 57, 59] else if attr = true ∧ (s[k].toNat : Int) = 10 then [38, 35, 49, 48, 59] else (s.extract k (k + 1)).data.toList) := Lib.hid (by
          rw [HO.out]; unfold En.wrB; simp only [q38, q60, q62, q13, q34, q9, q10])
        clear HN HS HO HH q38 q60 q62 q13 q34 q9 q10
        by_cases d1 : (s[k].toNat : Int) = 38
        · have HF := Lib.hid (HE.out ⟨#[38, 97, 109, 112, 59]⟩ (by rw [HW.out, if_pos d1]) (by decide))
          have t1 : ((s[k].toNat : Int) == 38) = true := by rw [d1]; rfl
          clear HE HW d1
          go_wp2
          go_round
          case rel => exact ⟨k + 1, _, by go_num, rfl, by omega, HF.out.1, Lib.hid HF.out.2⟩
          case measure => simp [intOf]; omega
        have t1 : ((s[k].toNat : Int) == 38) = false := by simpa using d1
        by_cases d2 : (s[k].toNat : Int) = 60
        · have HF := Lib.hid (HE.out ⟨#[38, 108, 116, 59]⟩ (by rw [HW.out, if_neg d1, if_pos d2]) (by decide))
          have t2 : ((s[k].toNat : Int) == 60) = true := by rw [d2]; rfl
          clear HE HW d1 d2
          go_wp2
          go_round
          case rel => exact ⟨k + 1, _, by go_num, rfl, by omega, HF.out.1, Lib.hid HF.out.2⟩
          case measure => simp [intOf]; omega
        have t2 : ((s[k].toNat : Int) == 60) = false := by simpa using d2
        by_cases d3 : (s[k].toNat : Int) = 62
        · have HF := Lib.hid (HE.out ⟨#[38, 103, 116, 59]⟩ (by rw [HW.out, if_neg d1, if_neg d2, if_pos d3]) (by decide))
          have t3 : ((s[k].toNat : Int) == 62) = true := by rw [d3]; rfl
          clear HE HW d1 d2 d3
          go_wp2
          go_round
          case rel => exact ⟨k + 1, _, by go_num, rfl, by omega, HF.out.1, Lib.hid HF.out.2⟩
          case measure => simp [intOf]; omega
        have t3 : ((s[k].toNat : Int) == 62) = false := by simpa using d3
        by_cases d4 : (s[k].toNat : Int) = 13
        · have HF := Lib.hid (HE.out ⟨#[38, 35, 49, 51, 59]⟩ (by rw [HW.out, if_neg d1, if_neg d2, if_neg d3, if_pos d4]) (by decide))
          have t4 : ((s[k].toNat : Int) == 13) = true := by rw [d4]; rfl
          clear HE HW d1 d2 d3 d4
          go_wp2
          go_round
          case rel => exact ⟨k + 1, _, by go_num, rfl, by omega, HF.out.1, Lib.hid HF.out.2⟩
          case measure => simp [intOf]; omega
        have t4 : ((s[k].toNat : Int) == 13) = false := by simpa using d4
        have hk1 : (k : Int) ≤ (k : Int) + 1 := by omega
        have hk2 : (k : Int) + 1 ≤ (s.size : Int) := by omega
        cases attr with
        | false =>
          have HF := Lib.hid (HE.out (s.extract k (k + 1)) (by rw [HW.out, if_neg d1, if_neg d2, if_neg d3, if_neg d4, if_neg (fun e => by cases e.1), if_neg (fun e => by cases e.1), if_neg (fun e => by cases e.1)]) (by rw [ByteArray.size_extract]; omega))
          have hx1 : (s.extract k (k + 1)).size ≤ 6 := by rw [ByteArray.size_extract]; omega
          clear HE HW d1 d2 d3 d4
          go_wp2
          all_goals
            go_round
            case rel => exact ⟨k + 1, _, by go_num, rfl, by omega, HF.out.1, Lib.hid HF.out.2⟩
            case measure => simp [intOf]; omega
        | true =>
          by_cases d5 : (s[k].toNat : Int) = 34
          · have HF := Lib.hid (HE.out ⟨#[38, 113, 117, 111, 116, 59]⟩ (by rw [HW.out, if_neg d1, if_neg d2, if_neg d3, if_neg d4, if_pos ⟨rfl, d5⟩]) (by decide))
            have t5 : ((s[k].toNat : Int) == 34) = true := by rw [d5]; rfl
            clear HE HW d1 d2 d3 d4 d5
            go_wp2
            go_round
            case rel => exact ⟨k + 1, _, by go_num, rfl, by omega, HF.out.1, Lib.hid HF.out.2⟩
            case measure => simp [intOf]; omega
          have t5 : ((s[k].toNat : Int) == 34) = false := by simpa using d5
          by_cases d6 : (s[k].toNat : Int) = 9
          · have HF := Lib.hid (HE.out ⟨#[38, 35, 57, 59]⟩ (by rw [HW.out, if_neg d1, if_neg d2, if_neg d3, if_neg d4, if_neg (fun e => d5 e.2), if_pos ⟨rfl, d6⟩]) (by decide))
            have t6 : ((s[k].toNat : Int) == 9) = true := by rw [d6]; rfl
            clear HE HW d1 d2 d3 d4 d5 d6
            go_wp2
            go_round
            case rel => exact ⟨k + 1, _, by go_num, rfl, by omega, HF.out.1, Lib.hid HF.out.2⟩
            case measure => simp [intOf]; omega
          have t6 : ((s[k].toNat : Int) == 9) = false := by simpa using d6
          by_cases d7 : (s[k].toNat : Int) = 10
          · have HF := Lib.hid (HE.out ⟨#[38, 35, 49, 48, 59]⟩ (by rw [HW.out, if_neg d1, if_neg d2, if_neg d3, if_neg d4, if_neg (fun e => d5 e.2), if_neg (fun e => d6 e.2), if_pos ⟨rfl, d7⟩]) (by decide))
            have t7 : ((s[k].toNat : Int) == 10) = true := by rw [d7]; rfl
            clear HE HW d1 d2 d3 d4 d5 d6 d7
            go_wp2
            go_round
            case rel => exact ⟨k + 1, _, by go_num, rfl, by omega, HF.out.1, Lib.hid HF.out.2⟩
            case measure => simp [intOf]; omega
          have t7 : ((s[k].toNat : Int) == 10) = false := by simpa using d7
          have HF := Lib.hid (HE.out (s.extract k (k + 1)) (by rw [HW.out, if_neg d1, if_neg d2, if_neg d3, if_neg d4, if_neg (fun e => d5 e.2), if_neg (fun e => d6 e.2), if_neg (fun e => d7 e.2)]) (by rw [ByteArray.size_extract]; omega))
          have hx1 : (s.extract k (k + 1)).size ≤ 6 := by rw [ByteArray.size_extract]; omega
          clear HE HW d1 d2 d3 d4 d5 d6 d7
          go_wp2
          go_round
          case rel => exact ⟨k + 1, _, by go_num, rfl, by omega, HF.out.1, Lib.hid HF.out.2⟩
          case measure => simp [intOf]; omega
      · have hlt' : ¬ (k : Int) < (s.size : Int) := by omega
        have hf := HH.out
        rw [List.take_of_length_le (by rw [← HL.out]; omega), ← HR.out] at hf
        have HF := Lib.hid hf
        clear hf HH hlt
        go_wp2
        go_ret2
        exact ⟨by rw [← HF.out, mk_data]; rfl, b1⟩
  · rw [vld_no h1] at HV
    rw [h2, h3]
    clear h1 h2 h3
    simp only at HV ⊢
    go_enter Tryd.func14, Tryd.ntmps14
    go_wp2_with fail
    refine HV.out.mono ?_
    rintro e w1 ⟨rfl, b1⟩
    go_wp2
    go_ret2
    exact ⟨rfl, b1⟩
end Go.Proofs.YthmkkinefokdpaaDoor
