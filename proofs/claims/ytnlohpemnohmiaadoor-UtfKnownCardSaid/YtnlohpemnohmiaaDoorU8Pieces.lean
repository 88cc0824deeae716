/- The statement UtfPieces, walked: it answers true. Condition: the tables hold what their texts lay; texts' lengths fit. -/
import Derived.Test.YtnlohpemnohmiaaDoorU8Laws
import Derived.Deep.RegionHeld3
namespace Go.Proofs.YtnlohpemnohmiaaDoor
open Go.RowKit

/-- One step of the way through a text. -/
theorem step_ok {l : List UInt8} {p z n : Nat} (hz : z ≤ l.length) (hp : p < z) (hs : (U8.lead l).2 = z) (hl : U8.lead l = (n + (U8.lead (l.drop p)).1, p + (U8.lead (l.drop p)).2)) :
    ∃ c k, U8.nx (l.drop p) = (c, k, 0) ∧ 1 ≤ k ∧ p + k ≤ z ∧ U8.put c = (l.drop p).take k ∧ 9 ≤ c ∧ c ≤ 1114111 ∧ U8.lead l = (n + 1 + (U8.lead (l.drop (p + k))).1, p + k + (U8.lead (l.drop (p + k))).2) := by
  have hne : l.drop p ≠ [] := by intro e; have := congrArg List.length e; simp at this; omega
  have h2 : z = p + (U8.lead (l.drop p)).2 := by rw [← hs, hl]
  by_cases hok : (U8.nx (l.drop p)).2.2 = 0
  · obtain ⟨hc, _, h1, h4, h5⟩ := U8.nx_ok hne hok
    have hg := U8.lead_good hne hok
    have hb := U8.isCh_lo hc
    refine ⟨(U8.nx (l.drop p)).1, (U8.nx (l.drop p)).2.1, by rw [← hok], h1, by rw [hg] at h2; simp only at h2; omega, ?_, hb.1, hb.2, ?_⟩
    · have hlen : (U8.put (U8.nx (l.drop p)).1).length = (U8.nx (l.drop p)).2.1 := by
        rw [U8.put_length hc]; exact (U8.nx_ok hne hok).2.1.symm
      have := congrArg (List.take (U8.nx (l.drop p)).2.1) h5
      rw [← this, List.take_append_of_le_length (by omega), List.take_of_length_le (by omega)]
    · rw [hl, hg, List.drop_drop]
      simp only [Prod.mk.injEq]
      omega
  · exfalso
    rw [U8.lead_bad hok] at h2
    simp only at h2
    omega
theorem end_count {l : List UInt8} {p n : Nat} (hs : (U8.lead l).2 = p) (hl : U8.lead l = (n + (U8.lead (l.drop p)).1, p + (U8.lead (l.drop p)).2)) : (U8.lead l).1 = n := by
  have h := (U8.lead_le _ (l.drop p) (Nat.le_refl _)).1
  rw [hl] at hs ⊢
  simp only at hs ⊢
  omega
theorem end_bad {l : List UInt8} {z : Nat} (hz : (U8.lead l).2 = z) (hlt : z < l.length) {n : Nat} (hl : U8.lead l = (n + (U8.lead (l.drop z)).1, z + (U8.lead (l.drop z)).2)) : (U8.nx (l.drop z)).2.2 = 10 := by
  have hne : l.drop z ≠ [] := by intro e; have := congrArg List.length e; simp at this; omega
  rcases U8.nx_err (l := l.drop z) with h | h
  · have hg := U8.lead_good hne h
    obtain ⟨_, _, h1, _, _⟩ := U8.nx_ok hne h
    have h2 : z = z + (U8.lead (l.drop z)).2 := by
      have := congrArg Prod.snd hl
      rw [hz] at this
      exact this
    rw [hg] at h2
    simp only at h2
    omega
  · exact h

set_option maxHeartbeats 1000000 in
set_option maxRecDepth 100000 in
theorem pieces_bad (a b : ByteArray) (w : World) (T : Tabs w) (ha : a.size ≤ 300) (hb : b.size ≤ 300) (hcase : (U8.lead a.data.toList).2 < a.size) :
    Calls Tryd.prog 6 #[.string a, .string b] w fun e w' => e = .returned (.bool true) ∧ Below w.heap.size w w' := by
  have ha' : ¬ (300 : Int) < (a.size : Int) := by omega
  have hb' : ¬ (300 : Int) < (b.size : Int) := by omega
  have W := Lib.hid works_any
  have hla : a.data.toList.length = a.size := (Lib.size_eq a).symm
  have hzle := (U8.lead_le _ a.data.toList (Nat.le_refl _)).2
  rw [hla] at hzle
  have HV := Lib.hid (fun w0 T0 => valid_any a w0 T0 (by unfold maxLen; omega))
  have HC := Lib.hid (fun w0 T0 => count_any a w0 T0 (by unfold maxLen; omega))
  have hv : vld a.data.toList = (((U8.lead a.data.toList).2 : Int), 10) := by unfold vld; rw [hla, if_pos hcase]
  rw [hv] at HV
  simp only at HV
  obtain ⟨l, hl⟩ : ∃ l, l = a.data.toList := ⟨_, rfl⟩
  obtain ⟨z, hz⟩ : ∃ z, z = (U8.lead a.data.toList).2 := ⟨_, rfl⟩
  obtain ⟨N, hN⟩ : ∃ N, N = (U8.lead a.data.toList).1 := ⟨_, rfl⟩
  rw [← hz] at hzle
  rw [← hN] at HC
  have HL := Lib.hid hl
  have HZ := Lib.hid hz
  have HN0 := Lib.hid hN
  have HLA := Lib.hid hla
  rw [← hz] at HV hcase
  clear hv hl hz hN hla
  go_enter Tryd.func6, Tryd.ntmps6
  go_wp2_with fail
  refine (HV.out _ T).mono ?_
  rintro e w1 ⟨rfl, h1⟩
  have T1 := T.below h1 (Nat.le_refl _)
  clear T
  go_wp2_with fail
  go_loopw [8, 9] (fun u v wr => ∃ p n : Nat, u = .int .i64 p ∧ v = .int .i64 n ∧ p ≤ z ∧ n ≤ p ∧ Below w.heap.size w wr ∧ Tabs wr ∧ Hid (U8.lead l = (n + (U8.lead (l.drop p)).1, p + (U8.lead (l.drop p)).2))) (fun u _ _ => z - (intOf u).toNat)
  case atStart => exact ⟨0, 0, rfl, rfl, Nat.zero_le _, Nat.le_refl _, h1, T1, Lib.hid (by simp)⟩
  case round =>
    obtain ⟨p, n, rfl, rfl, hp, hnp, hbw, TW, HS⟩ := hrel
    clear T1 h1
    by_cases hlt : p < z
    · have hlt' : (p : Int) < (z : Int) := by omega
      have hpa : (p : Int) ≤ (a.size : Int) := by omega
      obtain ⟨c, k, hnx, hk1, hkz, hput, hc9, hc1, hld⟩ := step_ok (l := l) (p := p) (z := z) (n := n) (by rw [HL.out, HLA.out]; omega) hlt (by rw [HZ.out, HL.out]) HS.out
      have HN := Lib.hid (fun w0 T0 => next_any (a.extract p a.size) w0 T0)
      rw [Lib.extract_to_end, ← HL.out, hnx] at HN
      have HP := Lib.hid (fun w0 T0 => put_any c w0 T0 (by omega) (by omega))
      have hex : (a.extract p (p + k)).toList = U8.put c := by rw [Lib.extract_toList, ← HL.out, hput, Nat.add_sub_cancel_left]
      generalize U8.put c = pc at *
      have HX := Lib.hid hex
      have HD := Lib.hid hld
      have hq : (pc == (a.extract p (p + k)).toList) = true := by rw [hex]; exact beq_self_eq_true _
      clear hnx hput hex hld
      simp only at HN
      go_wp2_with fail
      refine (HN.out _ TW).mono ?_
      rintro e w2 ⟨rfl, h2⟩
      have T2 := TW.below h2 (Nat.le_refl _)
      have b2 := hbw.trans (h2.mono hbw.size)
      clear TW h2 hbw
      have e1 : IntKind.i64.wrap ((p : Int) + (k : Int)) = (p : Int) + (k : Int) := IntWalk.i64_in _ (by omega)
      have e2 : IntKind.i64.wrap ((z : Int) - (p : Int)) = (z : Int) - (p : Int) := IntWalk.i64_in _ (by omega)
      have e3 : ((p : Int) + (k : Int)).toNat = p + k := by omega
      have g1 : (0 : Int) ≤ (p : Int) + (k : Int) := by omega
      have g2 : (p : Int) + (k : Int) ≤ (a.size : Int) := by omega
      have g3 : ¬ (k : Int) < 1 := by omega
      have g4 : ¬ (z : Int) - (p : Int) < (k : Int) := by omega
      have g5 : (p : Int) ≤ (p : Int) + (k : Int) := by omega
      have d1 : decide ((k : Int) < 1) = false := decide_eq_false g3
      have d2 : decide ((z : Int) - (p : Int) < (k : Int)) = false := decide_eq_false g4
      go_wp2_with fail
      go_region_held3 (fun _ => True) (exact True.intro) (first | (go_at_call 11; refine (HP.out _ (T2.below ((Below.refl _ _).drew) (Nat.le_refl _))).mono ?_; rintro e w3 ⟨rfl, h3⟩))
      have b3 := b2.trans ((below_ofDrew h3).mono b2.size)
      have T3 := T2.below (below_ofDrew h3) (Nat.le_refl _)
      clear b2 T2 h3 e1 e2 e3
      go_wp2
      go_roundw
      case rel => exact ⟨p + k, n + 1, by go_num, by go_num, hkz, by omega, b3, T3, HD⟩
      case measure => simp [intOf]; omega
    · obtain rfl : p = z := by omega
      have hn := end_count (l := l) (p := p) (n := n) (by rw [HZ.out, HL.out]) HS.out
      obtain rfl : n = N := by rw [← hn, HL.out, HN0.out]
      have hx := end_bad (l := l) (z := p) (n := n) (by rw [HZ.out, HL.out]) (by rw [HL.out, HLA.out]; exact hcase) HS.out
      have HN := Lib.hid (fun w0 T0 => next_any (a.extract p a.size) w0 T0)
      rw [Lib.extract_to_end, ← HL.out, hx] at HN
      generalize U8.nx (l.drop p) = d at *
      obtain ⟨c, k, e⟩ := d
      simp only at HN
      have hpa : (p : Int) ≤ (a.size : Int) := by omega
      clear hn hx hlt
      go_wp2_with fail
      refine (HC.out _ TW).mono ?_
      rintro e w2 ⟨rfl, h2⟩
      have T2 := TW.below h2 (Nat.le_refl _)
      have b2 := hbw.trans (h2.mono hbw.size)
      clear TW h2 hbw
      go_wp2_with fail
      refine (HN.out _ T2).mono ?_
      rintro e w3 ⟨rfl, h3⟩
      have T3 := T2.below h3 (Nat.le_refl _)
      have b3 := b2.trans (h3.mono b2.size)
      clear T2 h3 b2
      go_wp2_with fail
      refine (W.out _ T3).mono ?_
      rintro e w4 ⟨rfl, h4⟩
      go_wp2
      go_ret
      exact ⟨rfl, b3.trans (h4.mono b3.size)⟩

theorem vld_good {l : List UInt8} (h : (U8.lead l).2 = l.length) : vld l = (0, 0) := by unfold vld; rw [if_neg (by omega)]

set_option maxHeartbeats 2000000 in
set_option maxRecDepth 100000 in
theorem pieces_good (a b : ByteArray) (w : World) (T : Tabs w) (ha : a.size ≤ 300) (hb : b.size ≤ 300) (hcase : (U8.lead a.data.toList).2 = a.size) :
    Calls Tryd.prog 6 #[.string a, .string b] w fun e w' => e = .returned (.bool true) ∧ Below w.heap.size w w' := by
  have ha' : ¬ (300 : Int) < (a.size : Int) := by omega
  have hb' : ¬ (300 : Int) < (b.size : Int) := by omega
  have W := Lib.hid works_any
  have hla : a.data.toList.length = a.size := (Lib.size_eq a).symm
  have hlb : b.data.toList.length = b.size := (Lib.size_eq b).symm
  have HV := Lib.hid (fun w0 T0 => valid_any a w0 T0 (by unfold maxLen; omega))
  have HC := Lib.hid (fun w0 T0 => count_any a w0 T0 (by unfold maxLen; omega))
  have HVb := Lib.hid (fun w0 T0 => valid_any b w0 T0 (by unfold maxLen; omega))
  have HCb := Lib.hid (fun w0 T0 => count_any b w0 T0 (by unfold maxLen; omega))
  have hab : (a ++ b).size ≤ maxLen := by
    have := Lib.size_eq (a ++ b)
    rw [data_append, List.length_append] at this
    unfold maxLen; omega
  have HVab := Lib.hid (fun w0 T0 => valid_any (a ++ b) w0 T0 hab)
  have HCab := Lib.hid (fun w0 T0 => count_any (a ++ b) w0 T0 hab)
  have happ := U8.lead_append _ a.data.toList b.data.toList (Nat.le_refl _) (by rw [hcase, hla])
  have hvab : vld (a ++ b).data.toList = if (U8.lead b.data.toList).2 < b.size then (((U8.lead b.data.toList).2 : Int) + (a.size : Int), 10) else (0, 0) := by
    unfold vld
    rw [data_append, happ, List.length_append, hla, hlb]
    simp only
    by_cases h : (U8.lead b.data.toList).2 < b.size
    · rw [if_pos h, if_pos (by omega), Int.natCast_add, Int.add_comm]
    · rw [if_neg h, if_neg (by omega)]
  have hvb : vld b.data.toList = if (U8.lead b.data.toList).2 < b.size then (((U8.lead b.data.toList).2 : Int), 10) else (0, 0) := by
    unfold vld; rw [hlb]
  have hcab : ((U8.lead (a ++ b).data.toList).1 : Int) = ((U8.lead a.data.toList).1 : Int) + ((U8.lead b.data.toList).1 : Int) := by
    rw [data_append, happ]; simp only; omega
  have hzb := (U8.lead_le _ b.data.toList (Nat.le_refl _))
  have hza := (U8.lead_le _ a.data.toList (Nat.le_refl _))
  rw [vld_good (by rw [hcase, hla])] at HV
  rw [hvab] at HVab
  rw [hvb] at HVb
  rw [hcab] at HCab
  obtain ⟨l, hl⟩ : ∃ l, l = a.data.toList := ⟨_, rfl⟩
  obtain ⟨N, hN⟩ : ∃ N, N = (U8.lead a.data.toList).1 := ⟨_, rfl⟩
  obtain ⟨zb, hzbe⟩ : ∃ zb, zb = (U8.lead b.data.toList).2 := ⟨_, rfl⟩
  obtain ⟨Nb, hNb⟩ : ∃ Nb, Nb = (U8.lead b.data.toList).1 := ⟨_, rfl⟩
  rw [← hN] at HC HCab hza
  rw [← hNb] at HCb HCab hzb
  rw [← hzbe] at HVab HVb hzb
  rw [hlb] at hzb
  rw [hcase, hla] at hza
  have hNa : N ≤ a.size := hza.1
  have hNb1 : Nb ≤ zb := hzb.1
  have hNb2 : zb ≤ b.size := hzb.2
  have HL := Lib.hid hl
  have HZ := Lib.hid hcase
  have HN0 := Lib.hid hN
  have HLA := Lib.hid hla
  simp only at HV
  clear hvab hvb hcab happ hl hN hzbe hNb hla hlb hcase hab hza hzb
  go_enter Tryd.func6, Tryd.ntmps6
  go_wp2_with fail
  refine (HV.out _ T).mono ?_
  rintro e w1 ⟨rfl, h1⟩
  have T1 := T.below h1 (Nat.le_refl _)
  clear T
  go_wp2_with fail
  go_loopw [8, 9] (fun u v wr => ∃ p n : Nat, u = .int .i64 p ∧ v = .int .i64 n ∧ p ≤ a.size ∧ n ≤ p ∧ Below w.heap.size w wr ∧ Tabs wr ∧ Hid (U8.lead l = (n + (U8.lead (l.drop p)).1, p + (U8.lead (l.drop p)).2))) (fun u _ _ => a.size - (intOf u).toNat)
  case atStart => exact ⟨0, 0, rfl, rfl, Nat.zero_le _, Nat.le_refl _, h1, T1, Lib.hid (by simp)⟩
  case round =>
    obtain ⟨p, n, rfl, rfl, hp, hnp, hbw, TW, HS⟩ := hrel
    clear T1 h1
    by_cases hlt : p < a.size
    · have hlt' : (p : Int) < (a.size : Int) := by omega
      have hpa : (p : Int) ≤ (a.size : Int) := by omega
      obtain ⟨c, k, hnx, hk1, hkz, hput, hc9, hc1, hld⟩ := step_ok (l := l) (p := p) (z := a.size) (n := n) (by rw [HL.out, HLA.out]; omega) hlt (by rw [HL.out, HZ.out]) HS.out
      have HN := Lib.hid (fun w0 T0 => next_any (a.extract p a.size) w0 T0)
      rw [Lib.extract_to_end, ← HL.out, hnx] at HN
      have HP := Lib.hid (fun w0 T0 => put_any c w0 T0 (by omega) (by omega))
      have hex : (a.extract p (p + k)).toList = U8.put c := by rw [Lib.extract_toList, ← HL.out, hput, Nat.add_sub_cancel_left]
      generalize U8.put c = pc at *
      have HX := Lib.hid hex
      have HD := Lib.hid hld
      have hq : (pc == (a.extract p (p + k)).toList) = true := by rw [hex]; exact beq_self_eq_true _
      clear hnx hput hex hld
      simp only at HN
      go_wp2_with fail
      refine (HN.out _ TW).mono ?_
      rintro e w2 ⟨rfl, h2⟩
      have T2 := TW.below h2 (Nat.le_refl _)
      have b2 := hbw.trans (h2.mono hbw.size)
      clear TW h2 hbw
      have e1 : IntKind.i64.wrap ((p : Int) + (k : Int)) = (p : Int) + (k : Int) := IntWalk.i64_in _ (by omega)
      have e2 : IntKind.i64.wrap ((a.size : Int) - (p : Int)) = (a.size : Int) - (p : Int) := IntWalk.i64_in _ (by omega)
      have e3 : ((p : Int) + (k : Int)).toNat = p + k := by omega
      have g1 : (0 : Int) ≤ (p : Int) + (k : Int) := by omega
      have g2 : (p : Int) + (k : Int) ≤ (a.size : Int) := by omega
      have g3 : ¬ (k : Int) < 1 := by omega
      have g4 : ¬ (a.size : Int) - (p : Int) < (k : Int) := by omega
      have g5 : (p : Int) ≤ (p : Int) + (k : Int) := by omega
      have d1 : decide ((k : Int) < 1) = false := decide_eq_false g3
      have d2 : decide ((a.size : Int) - (p : Int) < (k : Int)) = false := decide_eq_false g4
      go_wp2_with fail
      go_region_held3 (fun _ => True) (exact True.intro) (first | (go_at_call 11; refine (HP.out _ (T2.below ((Below.refl _ _).drew) (Nat.le_refl _))).mono ?_; rintro e w3 ⟨rfl, h3⟩))
      have b3 := b2.trans ((below_ofDrew h3).mono b2.size)
      have T3 := T2.below (below_ofDrew h3) (Nat.le_refl _)
      clear b2 T2 h3 e1 e2 e3
      go_wp2
      go_roundw
      case rel => exact ⟨p + k, n + 1, by go_num, by go_num, hkz, by omega, b3, T3, HD⟩
      case measure => simp [intOf]; omega
    · have hpe : p = a.size := by omega
      have hn := end_count (l := l) (p := p) (n := n) (by rw [HL.out, HZ.out, hpe]) HS.out
      obtain rfl : n = N := by rw [← hn, HL.out, HN0.out]
      subst hpe
      clear hn hlt hp
      go_wp2_with fail
      refine (HC.out _ TW).mono ?_
      rintro e w2 ⟨rfl, h2⟩
      have T2 := TW.below h2 (Nat.le_refl _)
      have b2 := hbw.trans (h2.mono hbw.size)
      clear TW h2 hbw
      have hsum : a.size + b.size ≤ 9223372036854775807 := by omega
      by_cases hzc : zb < b.size
      · rw [if_pos hzc] at HVab HVb
        simp only at HVab HVb
        go_wp2_with fail
        refine (HVab.out _ T2).mono ?_
        rintro e w3 ⟨rfl, h3⟩
        have T3 := T2.below h3 (Nat.le_refl _)
        have b3 := b2.trans (h3.mono b2.size)
        clear T2 h3 b2
        go_wp2_with fail
        refine (HVb.out _ T3).mono ?_
        rintro e w4 ⟨rfl, h4⟩
        have T4 := T3.below h4 (Nat.le_refl _)
        have b4 := b3.trans (h4.mono b3.size)
        clear T3 h4 b3
        go_wp2_with fail
        refine (HCab.out _ T4).mono ?_
        rintro e w5 ⟨rfl, h5⟩
        have T5 := T4.below h5 (Nat.le_refl _)
        have b5 := b4.trans (h5.mono b4.size)
        clear T4 h5 b4
        go_wp2_with fail
        refine (HCb.out _ T5).mono ?_
        rintro e w6 ⟨rfl, h6⟩
        have T6 := T5.below h6 (Nat.le_refl _)
        have b6 := b5.trans (h6.mono b5.size)
        clear T5 h6 b5
        go_wp2_with fail
        refine (W.out _ T6).mono ?_
        rintro e w7 ⟨rfl, h7⟩
        go_wp2
        go_ret
        exact ⟨rfl, b6.trans (h7.mono b6.size)⟩
      · rw [if_neg hzc] at HVab HVb
        simp only at HVab HVb
        go_wp2_with fail
        refine (HVab.out _ T2).mono ?_
        rintro e w3 ⟨rfl, h3⟩
        have T3 := T2.below h3 (Nat.le_refl _)
        have b3 := b2.trans (h3.mono b2.size)
        clear T2 h3 b2
        go_wp2_with fail
        refine (HVb.out _ T3).mono ?_
        rintro e w4 ⟨rfl, h4⟩
        have T4 := T3.below h4 (Nat.le_refl _)
        have b4 := b3.trans (h4.mono b3.size)
        clear T3 h4 b3
        go_wp2_with fail
        refine (HCab.out _ T4).mono ?_
        rintro e w5 ⟨rfl, h5⟩
        have T5 := T4.below h5 (Nat.le_refl _)
        have b5 := b4.trans (h5.mono b4.size)
        clear T4 h5 b4
        go_wp2_with fail
        refine (HCb.out _ T5).mono ?_
        rintro e w6 ⟨rfl, h6⟩
        have T6 := T5.below h6 (Nat.le_refl _)
        have b6 := b5.trans (h6.mono b5.size)
        clear T5 h6 b5
        go_wp2_with fail
        refine (W.out _ T6).mono ?_
        rintro e w7 ⟨rfl, h7⟩
        go_wp2
        go_ret
        exact ⟨rfl, b6.trans (h7.mono b6.size)⟩

set_option maxHeartbeats 1000000 in
theorem pieces_long (a b : ByteArray) (w : World) (T : Tabs w) (ha0 : a.size ≤ maxLen) (hb0 : b.size ≤ maxLen) (h : ¬ (a.size ≤ 300 ∧ b.size ≤ 300)) :
    Calls Tryd.prog 6 #[.string a, .string b] w fun e w' => e = .returned (.bool true) ∧ Below w.heap.size w w' := by
  unfold maxLen at ha0 hb0
  have W := Lib.hid works_any
  by_cases ha : a.size ≤ 300
  · have ha' : ¬ (300 : Int) < (a.size : Int) := by omega
    have hb' : (300 : Int) < (b.size : Int) := by omega
    clear h
    go_enter Tryd.func6, Tryd.ntmps6
    go_wp2_with fail
    refine (W.out _ T).mono ?_
    rintro e w1 ⟨rfl, h1⟩
    go_wp2
    go_ret
    exact ⟨rfl, h1⟩
  · have ha' : (300 : Int) < (a.size : Int) := by omega
    clear h
    go_enter Tryd.func6, Tryd.ntmps6
    go_wp2_with fail
    refine (W.out _ T).mono ?_
    rintro e w1 ⟨rfl, h1⟩
    go_wp2
    go_ret
    exact ⟨rfl, h1⟩

theorem lawPieces (a b : ByteArray) (w : World) (T : Tabs w) (ha0 : a.size ≤ maxLen) (hb0 : b.size ≤ maxLen) :
    Calls Tryd.prog 6 #[.string a, .string b] w fun e w' => e = .returned (.bool true) ∧ Below w.heap.size w w' := by
  by_cases h : a.size ≤ 300 ∧ b.size ≤ 300
  · by_cases hz : (U8.lead a.data.toList).2 < a.size
    · exact pieces_bad a b w T h.1 h.2 hz
    · have := (U8.lead_le _ a.data.toList (Nat.le_refl _)).2
      rw [← Lib.size_eq] at this
      exact pieces_good a b w T h.1 h.2 (by omega)
  · exact pieces_long a b w T ha0 hb0 h
end Go.Proofs.YtnlohpemnohmiaaDoor
