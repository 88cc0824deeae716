/- The closed statement EntityKnown, walked: it answers true. Conditions: the tables hold what their texts lay; strconv.ErrSyntax holds an error. -/
import Derived.Test.YthmkkinefokdpaaDoorEnPieces
namespace Go.Proofs.YthmkkinefokdpaaDoor
open Go.RowKit

/-- The texts that are asked. -/
def askedS : List (List UInt8) := [[38, 35, 48, 48, 48, 48, 48, 54, 53, 59], [38, 35, 48, 48, 48, 48, 48, 48, 54, 53, 59], [38, 35, 120, 48, 48, 48, 52, 49, 59], [38, 35, 120, 48, 48, 48, 48, 52, 49, 59], [38, 35, 120, 48, 48, 48, 48, 48, 52, 49, 59], [38, 35, 49, 49, 49, 52, 49, 49, 49, 59], [38, 35, 49, 49, 49, 52, 49, 49, 50, 59], [38, 35, 120, 49, 48, 70, 70, 70, 70, 59], [38, 35, 120, 49, 49, 48, 48, 48, 48, 59], [38, 35, 120, 100, 56, 48, 48, 59], [38, 35, 59], [38, 35, 120, 59], [38, 59], [38, 35, 43, 53, 59], [38, 35, 43, 54, 53, 59], [38, 35, 120, 43, 52, 49, 59], [38, 35, 120, 95, 49, 59], [38, 35, 49, 95, 48, 59], [38, 65, 77, 80, 59], [38, 97, 109, 112], [38, 35, 54, 53], [38, 97, 112, 111, 115, 59, 38, 113, 117, 111, 116, 59, 38, 103, 116, 59], [38, 38, 108, 116, 59], [], [97, 59, 98, 38, 99], [38, 35, 88, 52, 49, 59], [38, 32, 108, 116, 59]]
theorem askedS_le (k : Nat) : (askedS.getD k []).length ≤ 100 := by
  by_cases h : k < 27
  · have hall : (askedS.all fun c => decide (c.length ≤ 100)) = true := by decide
    have hm : askedS.getD k [] ∈ askedS := by
      rw [List.getD_eq_getElem?_getD, List.getElem?_eq_getElem (show k < askedS.length from h)]
      exact List.getElem_mem _
    exact of_decide_eq_true (List.all_eq_true.1 hall _ hm)
  · rw [List.getD_eq_getElem?_getD, List.getElem?_eq_none (show askedS.length ≤ k from by simp [askedS]; omega)]
    exact Nat.zero_le _
theorem askedS_cell (w : World) (j : Nat) (hj : j < 27) : (w.alloc (.cells (askedS.map fun l => Value.string ⟨l.toArray⟩).toArray 9)).cell? ⟨w.heap.size, j, none⟩ = some (.string ⟨(askedS.getD j []).toArray⟩) := by
  have h := World.cell?_alloc_mark w (askedS.map fun l => Value.string ⟨l.toArray⟩).toArray 9 (0, 0) j
  refine h.trans ?_
  rw [List.getElem?_toArray, List.getElem?_map, List.getD_eq_getElem?_getD, List.getElem?_eq_getElem (show j < askedS.length from hj)]
  rfl
theorem sz_any (s : ByteArray) (h : s.size ≤ 1000) : s.size ≤ maxLen := by unfold maxLen; omega

set_option maxHeartbeats 4000000 in
set_option maxRecDepth 100000 in
theorem lawKnown (w : World) (T : Tb w) :
    Calls Tryd.prog 7 #[] w fun e w' => e = .returned (.bool true) ∧ Below w.heap.size w w' := by
  have k1 := conv1
  have HE := Lib.hid lawEncode
  have HD := Lib.hid lawDecode
  have HB := Lib.hid lawBack
  go_enter Tryd.func7, Tryd.ntmps7
  go_wp2
  go_loopw [1] (fun v wr => ∃ a : Nat, v = .int .i64 a ∧ a ≤ 256 ∧ Below w.heap.size w wr ∧ Tb wr) (fun v _ => 256 - (intOf v).toNat)
  case atStart => exact ⟨0, rfl, by omega, Below.refl _ _, T⟩
  case round =>
    obtain ⟨a, rfl, ha, hbw, TW⟩ := hrel
    clear T
    by_cases hlt : a < 256
    · have hlt' : (a : Int) < 256 := by omega
      have g1 := (Below.refl wr.heap.size wr).alloc (Nat.le_refl _) (.cells #[.int .u8 a] 5)
      have T0 := TW.below g1 (Nat.le_refl _)
      have hb0 := hbw.trans (g1.mono hbw.size)
      clear g1 TW hbw
      go_wp2_with fail
      refine (HE.out _ _ _ T0 (sz_any _ (by simp only [size_append]; exact Nat.le_of_ble_eq_true rfl))).mono ?_
      rintro e w1 ⟨rfl, h1⟩
      have T1 := T0.below h1 (Nat.le_refl _)
      have b1 := hb0.trans (h1.mono hb0.size)
      clear h1
      go_wp2_with fail
      refine (HE.out _ _ _ T1 (sz_any _ (by exact Nat.le_of_ble_eq_true rfl))).mono ?_
      rintro e w2 ⟨rfl, h2⟩
      have T2 := T1.below h2 (Nat.le_refl _)
      have b2 := b1.trans (h2.mono b1.size)
      clear T1 h2 b1
      go_wp2_with fail
      refine (HD.out _ _ T2 (sz_any _ (by simp only [size_append]; exact Nat.le_of_ble_eq_true rfl))).mono ?_
      rintro e w3 ⟨rfl, h3⟩
      have T3 := T2.below h3 (Nat.le_refl _)
      have b3 := b2.trans (h3.mono b2.size)
      clear T2 h3 b2
      go_wp2_with fail
      refine (HD.out _ _ T3 (sz_any _ (by simp only [size_append]; exact Nat.le_of_ble_eq_true rfl))).mono ?_
      rintro e w4 ⟨rfl, h4⟩
      have T4 := T3.below h4 (Nat.le_refl _)
      have b4 := b3.trans (h4.mono b3.size)
      clear T3 h4 b3
      go_wp2_with fail
      refine (HD.out _ _ T4 (sz_any _ (by simp only [size_append]; exact Nat.le_of_ble_eq_true rfl))).mono ?_
      rintro e w5 ⟨rfl, h5⟩
      have T5 := T4.below h5 (Nat.le_refl _)
      have b5 := b4.trans (h5.mono b4.size)
      clear T4 h5 b4
      go_wp2_with fail
      refine (HD.out _ _ T5 (sz_any _ (by simp only [size_append]; exact Nat.le_of_ble_eq_true rfl))).mono ?_
      rintro e w6 ⟨rfl, h6⟩
      have T6 := T5.below h6 (Nat.le_refl _)
      have b6 := b5.trans (h6.mono b5.size)
      clear T5 h6 b5
      go_wp2_with fail
      refine (HD.out _ _ T6 (sz_any _ (by simp only [size_append]; exact Nat.le_of_ble_eq_true rfl))).mono ?_
      rintro e w7 ⟨rfl, h7⟩
      have T7 := T6.below h7 (Nat.le_refl _)
      have b7 := b6.trans (h7.mono b6.size)
      clear T6 h7 b6
      go_wp2_with fail
      refine (HB.out _ _ _ T7 (sz_any _ (by simp only [size_append]; exact Nat.le_of_ble_eq_true rfl))).mono ?_
      rintro e w8 ⟨rfl, h8⟩
      have T8 := T7.below h8 (Nat.le_refl _)
      have b8 := b7.trans (h8.mono b7.size)
      clear T7 h8 b7
      go_wp2
      go_roundw
      case rel => exact ⟨a + 1, by go_num, by omega, b8, T8⟩
      case measure => simp [intOf]; omega
    · have hlt' : ¬ (a : Int) < 256 := by omega
      go_wp2
      have HP := Lib.hid lawPieces
      have W := Lib.hid works_any
      obtain ⟨wo, rfl⟩ : ∃ wo : World, wo = wr := ⟨_, rfl⟩
      have hb0 := hbw.trans (((Below.refl wo.heap.size wo).alloc (Nat.le_refl _) (.cells (askedS.map fun l => Value.string ⟨l.toArray⟩).toArray 9)).mono hbw.size)
      have T0 := TW.below ((Below.refl wo.heap.size wo).alloc (Nat.le_refl _) (.cells (askedS.map fun l => Value.string ⟨l.toArray⟩).toArray 9)) (Nat.le_refl _)
      have hc0 := Lib.hid (askedS_cell wo)
      go_loopw [72] (fun v wr => ∃ k : Nat, v = .int .i64 k ∧ k ≤ 27 ∧ Below w.heap.size w wr ∧ Tb wr ∧ Hid (∀ j, j < 27 → wr.cell? ⟨wo.heap.size, j, none⟩ = some (.string ⟨(askedS.getD j []).toArray⟩))) (fun v _ => 27 - (intOf v).toNat)
      case atStart => exact ⟨0, rfl, by omega, hb0, T0, hc0⟩
      case round =>
        obtain ⟨k, rfl, hk, hbw1, TW1, HC⟩ := hrel
        clear T0 hb0 hc0 TW hbw hlt' hlt ha
        by_cases hlk : k < 27
        · have hlk' : (k : Int) < 27 := by omega
          have hcell := HC.out k hlk
          have hcl := askedS_le k
          generalize askedS.getD k [] = p at *
          obtain ⟨S, hS⟩ : ∃ S, S = ByteArray.mk p.toArray := ⟨_, rfl⟩
          rw [← hS] at hcell
          have hsz : S.size ≤ 100 := by rw [hS, size_mk]; exact hcl
          have HZ := Lib.hid hsz
          clear hS hcl
          go_wp2_with fail
          refine (HD.out _ _ TW1 (sz_any _ (by have := HZ.out; omega))).mono ?_
          rintro e w1 ⟨rfl, h1⟩
          have T1 := TW1.below h1 (Nat.le_refl _)
          have b1 := h1
          clear h1
          go_wp2_with fail
          refine (HD.out _ _ T1 (sz_any _ (by rw [size_append]; have := HZ.out; have h2 : (ByteArray.mk #[120, 59]).size = 2 := rfl; omega))).mono ?_
          rintro e w2 ⟨rfl, h2⟩
          have T2 := T1.below h2 (Nat.le_refl _)
          have b2 := b1.trans (h2.mono b1.size)
          clear T1 h2 b1
          go_wp2_with fail
          refine (HB.out _ _ _ T2 (sz_any _ (by have := HZ.out; omega))).mono ?_
          rintro e w3 ⟨rfl, h3⟩
          have T3 := T2.below h3 (Nat.le_refl _)
          have b3 := b2.trans (h3.mono b2.size)
          clear T2 h3 b2
          go_wp2_with fail
          refine (HB.out _ _ _ T3 (sz_any _ (by have := HZ.out; omega))).mono ?_
          rintro e w4 ⟨rfl, h4⟩
          have T4 := T3.below h4 (Nat.le_refl _)
          have b4 := b3.trans (h4.mono b3.size)
          clear T3 h4 b3
          go_wp2_with fail
          refine (HP.out _ _ _ _ T4 (sz_any _ (by have := HZ.out; omega)) (sz_any _ (by have := HZ.out; omega))).mono ?_
          rintro e w5 ⟨rfl, h5⟩
          have T5 := T4.below h5 (Nat.le_refl _)
          have b5 := b4.trans (h5.mono b4.size)
          clear T4 h5 b4
          go_wp2_with fail
          refine (HP.out _ _ _ _ T5 (sz_any _ (by exact Nat.le_of_ble_eq_true rfl)) (sz_any _ (by have := HZ.out; omega))).mono ?_
          rintro e w6 ⟨rfl, h6⟩
          have T6 := T5.below h6 (Nat.le_refl _)
          have b6 := b5.trans (h6.mono b5.size)
          clear T5 h6 b5
          have hb := hbw1.trans (b6.mono hbw1.size)
          have HC2 := Lib.hid (fun j hj => cell_below b6 (Nat.le_refl _) (HC.out j hj))
          clear b6 hbw1 HC
          go_wp2
          go_roundw
          case rel => exact ⟨k + 1, by go_num, by omega, hb, T6, HC2⟩
          case measure => simp [intOf]; omega
        · have hlk' : ¬ (k : Int) < 27 := by omega
          clear HC
          go_wp2_with fail
          refine (W.out _ TW1).mono ?_
          rintro e w1 ⟨rfl, h1⟩
          have T1 := TW1.below h1 (Nat.le_refl _)
          have b1 := hbw1.trans (h1.mono hbw1.size)
          clear h1
          go_wp2
          go_ret
          exact ⟨rfl, b1⟩
end Go.Proofs.YthmkkinefokdpaaDoor
