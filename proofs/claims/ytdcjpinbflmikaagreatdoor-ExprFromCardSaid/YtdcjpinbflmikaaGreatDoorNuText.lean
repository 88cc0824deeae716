/- The functions of package num on writings, walked: allDigits, isWriting, Parse, Put. Conditions: the listed table and the sentinel hold what their texts lay; a text's length fits. -/
import Derived.Test.YtdcjpinbflmikaaGreatDoorNuProg
import Derived.Test.YtdcjpinbflmikaaGreatDoorNuTextP
import Derived.Test.YtdcjpinbflmikaaGreatDoorStrCut
import Derived.Test.YtdcjpinbflmikaaGreatDoorErrIs
import Derived.Lib.SmallJoins
import Derived.Lib.LaidTab
namespace Go.Proofs.YtdcjpinbflmikaaGreatDoor
open Go.RowKit

set_option maxHeartbeats 1000000 in
theorem allDigits_any (s : ByteArray) (w : World) (hs : s.size ≤ 1000000000) :
    Calls Tryz.prog 254 #[.string s] w fun e w' => e = .returned (.bool (Nu.allDg s.data.toList)) ∧ w = w' := by
  obtain ⟨R, hR⟩ : ∃ R, R = Nu.allDg s.data.toList := ⟨_, rfl⟩
  rw [← hR]
  have HR := Lib.hid hR
  have hlen := Lib.hid (Lib.size_eq s)
  clear hR
  go_enter Tryz.func254, Tryz.ntmps254
  go_wp2
  go_loop [6] (fun i => ∃ k : Nat, i = .int .i64 k ∧ k ≤ s.size ∧ Hid (R = Nu.allDg (s.data.toList.drop k))) (fun i => s.size - (intOf i).toNat)
  case atStart => exact ⟨0, rfl, Nat.zero_le _, HR⟩
  case round =>
    obtain ⟨k, rfl, hk, HI⟩ := hrel
    by_cases hlt : k < s.size
    · have hk' : k < s.data.toList.length := by rw [← hlen.out]; exact hlt
      have hd : s.data.toList.drop k = s[k] :: s.data.toList.drop (k + 1) := by rw [List.drop_eq_getElem_cons hk']; rfl
      have HS := Lib.hid (show Nu.allDg (s.data.toList.drop k) = (Nu.isDg s[k] && Nu.allDg (s.data.toList.drop (k + 1))) by rw [hd]; rfl)
      have HD := Lib.hid (show Nu.isDg s[k] = true ↔ (48 ≤ (s[k].toNat : Int) ∧ (s[k].toNat : Int) ≤ 57) by unfold Nu.isDg; rw [decide_eq_true_iff]; omega)
      clear hd
      by_cases h1 : (s[k].toNat : Int) < 48
      · have HE := Lib.hid (show R = false by
          have h2 := HD.out
          rw [HI.out, HS.out]
          cases h3 : Nu.isDg s[k] with
          | false => rfl
          | true => have := h2.1 h3; omega)
        go_wp2
        go_ret
        exact ⟨by rw [HE.out]; rfl, rfl⟩
      · by_cases h2 : (s[k].toNat : Int) > 57
        · have HE := Lib.hid (show R = false by
            have h2 := HD.out
            rw [HI.out, HS.out]
            cases h3 : Nu.isDg s[k] with
            | false => rfl
            | true => have := h2.1 h3; omega)
          go_wp2
          go_ret
          exact ⟨by rw [HE.out]; rfl, rfl⟩
        · have HN := Lib.hid (show R = Nu.allDg (s.data.toList.drop (k + 1)) by
            rw [HI.out, HS.out, HD.out.2 (by omega)]; rfl)
          go_wp2
          go_round
          case rel => exact ⟨k + 1, by go_num, hlt, HN⟩
          case measure => simp [intOf]; omega
    · have HE := Lib.hid (show R = true by rw [HI.out, List.drop_of_length_le (by have := hlen.out; omega)]; rfl)
      have hlt' : ¬ (k : Int) < (s.size : Int) := by omega
      go_wp2
      go_ret
      exact ⟨by rw [HE.out]; rfl, rfl⟩

theorem hp_minus {l : List UInt8} : Lib.hasPrefix l [45] = Nu.below l := by
  unfold Lib.hasPrefix Nu.below
  cases l with
  | nil => rfl
  | cons a r =>
    simp [List.isPrefixOf]
    exact Bool.beq_comm
/-- strings.CutPrefix at a minus. -/
theorem cut_minus (s : ByteArray) (w : World) : ∃ D : ByteArray, ∃ b, D.data.toList = Nu.strip s.data.toList ∧ D.size ≤ s.size ∧ Calls Tryz.prog 253 #[.string s, .string ⟨#[45]⟩] w fun e w' => e = .returned (.tuple #[.string D, .bool b]) ∧ w = w' := by
  cases h : Nu.below s.data.toList with
  | true =>
    have e := Nu.strip_minus h
    refine ⟨⟨(s.data.toList.drop 1).toArray⟩, true, ?_, ?_, cutp_yes s ⟨#[45]⟩ (by rw [show (⟨#[45]⟩ : ByteArray).data.toList = [45] from rfl, hp_minus]; exact h) w⟩
    · rw [data_mk]; conv => lhs; rw [e]
      rfl
    · rw [size_mk, List.length_drop, Lib.size_eq]; omega
  | false => exact ⟨s, false, (Nu.strip_other h).symm, Nat.le_refl _, cutp_no s ⟨#[45]⟩ (by rw [show (⟨#[45]⟩ : ByteArray).data.toList = [45] from rfl, hp_minus]; exact h) w⟩
set_option maxHeartbeats 1000000 in
theorem isWriting_any (s : ByteArray) (w : World) (hs : s.size ≤ 1000000000) :
    Calls Tryz.prog 235 #[.string s] w fun e w' => e = .returned (.bool (Nu.isW s.data.toList)) ∧ w = w' := by
  by_cases h48 : s = ⟨#[48]⟩
  · subst h48
    go_enter Tryz.func235, Tryz.ntmps235
    go_wp2
    go_ret
    exact ⟨rfl, rfl⟩
  · obtain ⟨D, b, hD, hDs, hC⟩ := cut_minus s w
    have HC := Lib.hid hC
    have HALL := Lib.hid (allDigits_any D w (by omega))
    have hl48 : (s.data.toList == [48]) = false := by
      rw [beq_eq_false_iff_ne]
      intro e
      exact h48 (ba_eq (by rw [e]))
    have HW := Lib.hid (show Nu.isW s.data.toList = (!D.data.toList.isEmpty && D.data.toList.head? != some 48 && Nu.allDg D.data.toList) by unfold Nu.isW; rw [hl48, ← hD]; rfl)
    obtain ⟨R, hR⟩ : ∃ R, R = Nu.isW s.data.toList := ⟨_, rfl⟩
    rw [← hR] at HW ⊢
    clear hR hD hC hl48
    have hs48 : (s.toList == [48]) = false := by
      rw [Lib.toList_data, beq_eq_false_iff_ne]
      intro e
      exact h48 (ba_eq (by rw [e]))
    have HDL := Lib.hid (Lib.size_eq D)
    clear h48
    by_cases h0 : D.size = 0
    · have hDn : D.toList = [] := by rw [Lib.toList_data]; exact List.length_eq_zero_iff.1 (by rw [← HDL.out]; exact h0)
      have HE := Lib.hid (show R = false by rw [HW.out, ← Lib.toList_data, hDn]; rfl)
      go_enter Tryz.func235, Tryz.ntmps235
      go_wp2_with fail
      refine HC.out.mono ?_
      rintro e w1 ⟨rfl, rfl⟩
      go_wp2
      go_ret
      exact ⟨by rw [HE.out]; rfl, rfl⟩
    · have hDn : D.toList.isEmpty = false := by
        rw [Lib.toList_data]
        cases hh : D.data.toList with
        | nil => exfalso; have h1 := HDL.out; rw [hh] at h1; exact h0 h1
        | cons _ _ => rfl
      have hpos : 0 < D.size := by omega
      have HH := Lib.hid (show D.data.toList.head? = some D[0] by
        have : 0 < D.data.toList.length := by rw [← HDL.out]; exact hpos
        rw [List.head?_eq_getElem?, List.getElem?_eq_getElem this]
        rfl)
      have HWB := Lib.hid (show R = (!(D[0] == 48) && Nu.allDg D.data.toList) by rw [HW.out, ← Lib.toList_data, hDn, Lib.toList_data, HH.out]; rfl)
      by_cases hz : (D[0].toNat : Int) = 48
      · have HE := Lib.hid (show R = false by
          rw [HWB.out, show (D[0] == 48) = true from beq_iff_eq.2 (UInt8.toNat_inj.1 (by show D[0].toNat = 48; omega))]; rfl)
        have hz' : ((D[0].toNat : Int) == 48) = true := beq_iff_eq.2 hz
        clear h0
        go_enter Tryz.func235, Tryz.ntmps235
        go_wp2_with fail
        refine HC.out.mono ?_
        rintro e w1 ⟨rfl, rfl⟩
        go_wp2
        go_ret
        exact ⟨by rw [HE.out]; rfl, rfl⟩
      · have HE := Lib.hid (show R = Nu.allDg D.data.toList by
          rw [HWB.out, show (D[0] == 48) = false from beq_eq_false_iff_ne.2 (fun e => hz (by rw [e]; rfl))]; rfl)
        have hz' : ((D[0].toNat : Int) == 48) = false := beq_eq_false_iff_ne.2 hz
        have hz2 : ((D[0].toNat : Int) != 48) = true := by simp [bne, hz']
        clear h0
        go_enter Tryz.func235, Tryz.ntmps235
        go_wp2_with fail
        refine HC.out.mono ?_
        rintro e w1 ⟨rfl, rfl⟩
        go_wp2_with fail
        refine HALL.out.mono ?_
        rintro e w1 ⟨rfl, rfl⟩
        go_wp2
        go_ret
        exact ⟨by rw [HE.out]; rfl, rfl⟩

/-- The table and the sentinel that the rows list. -/
structure Tb (w : World) : Prop where
  e : ∃ a, w.cell? ⟨3, 0, none⟩ = some (.iface 361 (.pointer (some a)))
  t : Lib.TabIs Tryz.prog w "internal/strconv.uint64pow10" .u64 Lib.pow10Tab
theorem gPow : Tryz.prog.globalNamed "internal/strconv.uint64pow10" = some 5 := by kernel_rfl
theorem cell_ltN {w : World} {a : Addr} {v : Value} (h : w.cell? a = some v) : a.block < w.heap.size := by
  rcases Nat.lt_or_ge a.block w.heap.size with h' | h'
  · exact h'
  · simp [World.cell?, Array.getElem?_eq_none h'] at h
theorem Tb.below {B : Nat} {w w' : World} (h : Tb w) (hb : Below B w w') (hB : w.heap.size ≤ B) : Tb w' := by
  obtain ⟨⟨a, ha⟩, ht⟩ := h
  exact ⟨⟨a, (hb.cell (Nat.lt_of_lt_of_le (cell_ltN ha) hB)).trans ha⟩, Joins.tab_stays gPow ht hb hB⟩
theorem below_bytesW (w : World) (t : TypeId) (s : ByteArray) : Below w.heap.size w (Lib.bytesWorld w t s) := Lib.bytesWorld_below _ _ _
set_option maxHeartbeats 2000000 in
set_option maxRecDepth 100000 in
theorem parse_any (s : ByteArray) (w : World) (T : Tb w) (hs : s.size ≤ 1000000000) :
    Calls Tryz.prog 217 #[.string s] w fun e w' => e = .returned (tv (Nu.prs s.data.toList)) ∧ Below w.heap.size w w' := by
  have HIW := Lib.hid (isWriting_any s w hs)
  have HT := Lib.hid T
  clear T
  unfold Nu.prs
  cases hw : Nu.isW s.data.toList with
  | false =>
    rw [hw] at HIW
    simp only [Bool.false_eq_true, if_false]
    clear hw
    go_enter Tryz.func217, Tryz.ntmps217
    go_wp2_with fail
    refine HIW.out.mono ?_
    rintro e w1 ⟨rfl, rfl⟩
    go_wp2
    go_ret2
    exact ⟨rfl, Below.refl _ _⟩
  | true =>
    rw [hw] at HIW
    simp only [if_true]
    have hp := Nu.parseB hw
    clear hw
    by_cases hf : Nu.fits (Nu.worth s.data.toList)
    · rw [if_pos hf] at hp
      rw [Nu.tell_in hf]
      have HC := Lib.hid (Tryz.strconv_ParseInt_10_at64_ok s (by omega) _ hp w)
      clear hp hf
      generalize Nu.worth s.data.toList = v at *
      unfold tv
      go_enter Tryz.func217, Tryz.ntmps217
      go_wp2_with fail
      refine HIW.out.mono ?_
      rintro e w1 ⟨rfl, rfl⟩
      go_wp2_with fail
      refine HC.out.mono ?_
      rintro e w1 ⟨rfl, hw1⟩
      have hb1 : Below w.heap.size w w1 := by
        rcases hw1 with rfl | ⟨t, rfl⟩
        · exact Below.refl _ _
        · exact Lib.bytesWorld_below _ _ _
      obtain ⟨⟨a, ha⟩, _⟩ := HT.out.below hb1 (Nat.le_refl _)
      have HB := Lib.hid hb1
      have HIS := Lib.hid (is_nil a w1)
      clear hw1 hb1
      go_wp2_with fail
      refine HIS.out.mono ?_
      rintro e w2 ⟨rfl, rfl⟩
      go_wp2
      go_ret2
      exact ⟨rfl, HB.out⟩
    · rw [if_neg hf] at hp
      rw [Nu.tell_out hf]
      obtain ⟨a, ha⟩ := HT.out.e
      have HC := Lib.hid (Tryz.strconv_ParseInt_10_at64_range s (by omega) hp _ w ha (Or.inr ⟨_, _, rfl⟩))
      clear hp hf
      generalize Lib.intSat 64 s.data.toList = v at *
      unfold tv
      have HA := Lib.hid ha
      clear ha
      go_enter Tryz.func217, Tryz.ntmps217
      go_wp2_with fail
      refine HIW.out.mono ?_
      rintro e w1 ⟨rfl, rfl⟩
      go_wp2_with fail
      refine HC.out.mono ?_
      rintro e w1 ⟨N, rfl, hN, hblk, hb1⟩
      have ha1 : w1.cell? ⟨3, 0, none⟩ = some (.iface 361 (.pointer (some a))) := (hb1.cell (cell_ltN HA.out)).trans HA.out
      have HB := Lib.hid hb1
      have HIS := Lib.hid (is_wrap_same N a w1 (by rw [Lib.cell_of_heap hblk 2]; rfl))
      clear hN hblk hb1
      go_wp2_with fail
      refine HIS.out.mono ?_
      rintro e w2 ⟨rfl, rfl⟩
      go_wp2
      go_ret2
      exact ⟨rfl, HB.out⟩

theorem below_growN (w : World) (q : Nat) (os : Array Obj) : Below w.heap.size w (Sort.grow (w.drewN q) os) :=
  ⟨rfl, rfl, rfl, by simp [Sort.grow], fun i hi => by
    show ((w.drewN q).heap ++ os)[i]? = _
    rw [Array.getElem?_append_left (by show i < w.heap.size; omega)]
    rfl⟩
set_option maxHeartbeats 1000000 in
theorem put_any (n : Int) (w : World) (T : Tb w) (hn : Nu.fits n) :
    Calls Tryz.prog 161 #[.int .i64 n] w fun e w' => e = .returned (.string ⟨(Lib.itoa n).toArray⟩) ∧ Below w.heap.size w w' := by
  have HC := Lib.hid (Tryz.strconv_FormatInt_10 n hn.1 hn.2 w T.t)
  generalize (⟨(Lib.itoa n).toArray⟩ : ByteArray) = S at *
  clear T
  go_enter Tryz.func161, Tryz.ntmps161
  go_wp2_with fail
  refine HC.out.mono ?_
  rintro e w1 ⟨rfl, k, os, rfl⟩
  go_wp2
  go_ret
  exact ⟨rfl, below_growN _ _ _⟩
end Go.Proofs.YtdcjpinbflmikaaGreatDoor
