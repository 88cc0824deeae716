/- The closed statement UtfKnown, walked: it answers true. Condition: the tables hold what their texts lay. -/
import Derived.Test.YtnlohpemnohmiaaDoorU8Pieces
namespace Go.Proofs.YtnlohpemnohmiaaDoor
open Go.RowKit

/-- The numbers that are asked. -/
def asked : List Int := [-2147483648, -1, 0, 8, 9, 10, 11, 13, 14, 31, 32, 127, 128, 2047, 2048, 55295, 55296, 57343, 57344, 65533, 65534, 65535, 65536, 1114111, 1114112, 2147483647]
theorem asked_bd (k : Nat) : -2147483648 ≤ asked.getD k 0 ∧ asked.getD k 0 ≤ 2147483647 := by
  by_cases h : k < 26
  · have hall : (asked.all fun c => decide (-2147483648 ≤ c ∧ c ≤ 2147483647)) = true := by decide
    have hm : asked.getD k 0 ∈ asked := by
      rw [List.getD_eq_getElem?_getD, List.getElem?_eq_getElem (show k < asked.length from h)]
      exact List.getElem_mem _
    exact of_decide_eq_true (List.all_eq_true.1 hall _ hm)
  · rw [List.getD_eq_getElem?_getD, List.getElem?_eq_none (show asked.length ≤ k from by simp [asked]; omega)]
    decide
theorem asked_cell (w : World) (j : Nat) (hj : j < 26) : (w.alloc (.cells (asked.map (Value.int .i32)).toArray 21)).cell? ⟨w.heap.size, j, none⟩ = some (.int .i32 (asked.getD j 0)) := by
  have h := World.cell?_alloc_mark w (asked.map (Value.int .i32)).toArray 21 (0, 0) j
  refine h.trans ?_
  rw [List.getElem?_toArray, List.getElem?_map, List.getD_eq_getElem?_getD, List.getElem?_eq_getElem (show j < asked.length from hj)]
  rfl
theorem size_app (p : List UInt8) (a : Array UInt8) : ((ByteArray.mk p.toArray) ++ ⟨a⟩).size = p.length + a.size := by
  rw [Lib.size_eq, data_append, List.length_append]; simp only [Array.length_toList]
theorem put_le (c : Int) : (U8.put c).length ≤ 4 := by
  cases h : U8.isCh c with
  | true => rw [U8.put_length h]; exact (U8.width_bd c).2
  | false => rw [U8.put_no h]; exact Nat.zero_le _

set_option maxHeartbeats 2000000 in
set_option maxRecDepth 100000 in
theorem lawKnown (w : World) (T : Tabs w) :
    Calls Tryd.prog 7 #[] w fun e w' => e = .returned (.bool true) ∧ Below w.heap.size w w' := by
  have k4 := conv4
  have HN := Lib.hid lawNext
  go_enter Tryd.func7, Tryd.ntmps7
  go_wp2
  go_loopw [1] (fun v wr => ∃ a : Nat, v = .int .i64 a ∧ a ≤ 256 ∧ Below w.heap.size w wr ∧ Tabs wr) (fun v _ => 256 - (intOf v).toNat)
  case atStart => exact ⟨0, rfl, by omega, Below.refl _ _, T⟩
  case round =>
    obtain ⟨a, rfl, ha, hbw, TW⟩ := hrel
    clear T
    by_cases hlt : a < 256
    · have hlt' : (a : Int) < 256 := by omega
      go_wp2
      obtain ⟨wo, rfl⟩ : ∃ wo : World, wo = wr := ⟨_, rfl⟩
      go_loopw [2] (fun v wr => ∃ b : Nat, v = .int .i64 b ∧ b ≤ 258 ∧ Below w.heap.size w wr ∧ Tabs wr) (fun v _ => 300 - (intOf v).toNat)
      case atStart => exact ⟨0, rfl, by omega, hbw, TW⟩
      case round =>
        obtain ⟨b, rfl, hb, hbw1, TW1⟩ := hrel
        clear TW hbw
        by_cases hlb : b < 256
        · have hlb' : (b : Int) < 256 := by omega
          go_wp2_with fail
          refine (HN.out _ _ (TW1.below ((Below.refl wr.heap.size wr).alloc (Nat.le_refl _) _) (Nat.le_refl _)) (size_lit _ (by simp))).mono ?_
          rintro e w2 ⟨rfl, h2⟩
          have g1 := (Below.refl wr.heap.size wr).alloc (Nat.le_refl _) (.cells #[.int .u8 a, .int .u8 b, .int .u8 128, .int .u8 191] 5)
          have b2 := g1.trans (h2.mono (by simp))
          have T2 := TW1.below b2 (Nat.le_refl _)
          have b3 := hbw1.trans (b2.mono hbw1.size)
          clear g1 h2 b2 TW1 hbw1
          go_wp2
          go_roundw
          case rel => exact ⟨b + 1 + a % 3, by go_num, by omega, b3, T2⟩
          case measure => simp [intOf]; omega
        · have hlb' : ¬ (b : Int) < 256 := by omega
          go_wp2
          exact ⟨⟨a + 1, by go_num, by omega, hbw1, TW1⟩, by simp [intOf]; omega⟩
    · have hlt' : ¬ (a : Int) < 256 := by omega
      go_wp2
      have HP := Lib.hid lawPut
      have HQ := Lib.hid put_any
      have HI := Lib.hid lawPieces
      have HV := Lib.hid lawValid
      have W := Lib.hid works_any
      obtain ⟨wo, rfl⟩ : ∃ wo : World, wo = wr := ⟨_, rfl⟩
      have hb0 := hbw.trans (((Below.refl wo.heap.size wo).alloc (Nat.le_refl _) (.cells (asked.map (Value.int .i32)).toArray 21)).mono hbw.size)
      have T0 := TW.below ((Below.refl wo.heap.size wo).alloc (Nat.le_refl _) (.cells (asked.map (Value.int .i32)).toArray 21)) (Nat.le_refl _)
      have hc0 := Lib.hid (asked_cell wo)
      go_loopw [26] (fun v wr => ∃ k : Nat, v = .int .i64 k ∧ k ≤ 26 ∧ Below w.heap.size w wr ∧ Tabs wr ∧ Hid (∀ j, j < 26 → wr.cell? ⟨wo.heap.size, j, none⟩ = some (.int .i32 (asked.getD j 0)))) (fun v _ => 26 - (intOf v).toNat)
      case atStart => exact ⟨0, rfl, by omega, hb0, T0, hc0⟩
      case round =>
        obtain ⟨k, rfl, hk, hbw1, TW1, HC⟩ := hrel
        clear T0 hb0 hc0 TW hbw hlt' hlt ha
        by_cases hlk : k < 26
        · have hlk' : (k : Int) < 26 := by omega
          have hcell := HC.out k hlk
          have hcb := asked_bd k
          generalize asked.getD k 0 = c at *
          have hpl := put_le c
          have HQc := Lib.hid (fun w0 T0 => put_any c w0 T0 hcb.1 hcb.2)
          generalize U8.put c = p at *
          have hp1 : (ByteArray.mk p.toArray).size ≤ maxLen := by unfold maxLen; show p.toArray.size ≤ _; simp; omega
          have hp2 : ((ByteArray.mk p.toArray) ++ ⟨#[97]⟩).size ≤ maxLen := by unfold maxLen; rw [size_app]; show p.length + 1 ≤ _; omega
          have hp3 : ((ByteArray.mk p.toArray) ++ ⟨#[237, 160, 128]⟩).size ≤ maxLen := by unfold maxLen; rw [size_app]; show p.length + 3 ≤ _; omega
          have HP1 := Lib.hid (And.intro hp1 (And.intro hp2 hp3))
          clear hp1 hp2 hp3
          go_wp2_with fail
          refine (HP.out c _ _ TW1 (size_lit _ (by decide)) hcb.1 hcb.2).mono ?_
          rintro e w1 ⟨rfl, h1⟩
          have T1 := TW1.below h1 (Nat.le_refl _)
          have b1 := h1
          clear h1
          go_wp2_with fail
          refine (HP.out c _ _ T1 (size_lit _ (by decide)) hcb.1 hcb.2).mono ?_
          rintro e w2 ⟨rfl, h2⟩
          have T2 := T1.below h2 (Nat.le_refl _)
          have b2 := b1.trans (h2.mono b1.size)
          clear h2 T1 b1
          go_wp2_with fail
          refine (HQc.out _ T2).mono ?_
          rintro e w3 ⟨rfl, h3⟩
          have T3 := T2.below h3 (Nat.le_refl _)
          have b3 := b2.trans (h3.mono b2.size)
          clear h3 T2 b2
          go_wp2_with fail
          refine (HQc.out _ T3).mono ?_
          rintro e w4 ⟨rfl, h4⟩
          have T4 := T3.below h4 (Nat.le_refl _)
          have b4 := b3.trans (h4.mono b3.size)
          clear h4 T3 b3
          go_wp2_with fail
          refine (HI.out _ _ _ T4 HP1.out.2.1 HP1.out.1).mono ?_
          rintro e w5 ⟨rfl, h5⟩
          have T5 := T4.below h5 (Nat.le_refl _)
          have b5 := b4.trans (h5.mono b4.size)
          clear h5 T4 b4
          go_wp2_with fail
          refine (HQc.out _ T5).mono ?_
          rintro e w6 ⟨rfl, h6⟩
          have T6 := T5.below h6 (Nat.le_refl _)
          have b6 := b5.trans (h6.mono b5.size)
          clear h6 T5 b5
          go_wp2_with fail
          refine (HV.out _ _ T6 HP1.out.2.2).mono ?_
          rintro e w7 ⟨rfl, h7⟩
          have T7 := T6.below h7 (Nat.le_refl _)
          have b7 := b6.trans (h7.mono b6.size)
          clear h7 T6 b6
          have hb := hbw1.trans (b7.mono hbw1.size)
          have HC2 := Lib.hid (fun j hj => cell_below b7 (Nat.le_refl _) (HC.out j hj))
          go_wp2
          go_roundw
          case rel => exact ⟨k + 1, by go_num, by omega, hb, T7, HC2⟩
          case measure => simp [intOf]; omega
        · have hlk' : ¬ (k : Int) < 26 := by omega
          clear HC
          go_wp2_with fail
          refine (HV.out _ _ TW1 (size_lit _ (by decide))).mono ?_
          rintro e w1 ⟨rfl, h1⟩
          have T1 := TW1.below h1 (Nat.le_refl _)
          have b1 := hbw1.trans (h1.mono hbw1.size)
          clear TW1 hbw1 h1
          go_wp2_with fail
          refine (HN.out _ _ T1 (size_lit _ (by decide))).mono ?_
          rintro e w2 ⟨rfl, h2⟩
          have T2 := T1.below h2 (Nat.le_refl _)
          have b2 := b1.trans (h2.mono b1.size)
          clear T1 b1 h2
          go_wp2_with fail
          refine (HI.out _ _ _ T2 (size_lit _ (by decide)) (size_lit _ (by decide))).mono ?_
          rintro e w3 ⟨rfl, h3⟩
          have T3 := T2.below h3 (Nat.le_refl _)
          have b3 := b2.trans (h3.mono b2.size)
          clear T2 b2 h3
          go_wp2_with fail
          refine (W.out _ T3).mono ?_
          rintro e w4 ⟨rfl, h4⟩
          go_wp2
          go_ret
          exact ⟨rfl, b3.trans (h4.mono b3.size)⟩
end Go.Proofs.YtnlohpemnohmiaaDoor
