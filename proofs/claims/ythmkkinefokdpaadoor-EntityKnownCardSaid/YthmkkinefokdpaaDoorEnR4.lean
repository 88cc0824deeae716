/- hopscotchref03.Reference, Decode and Encode, walked: they answer what the plain facts tell. Condition: a text's length fits. -/
import Derived.Test.YthmkkinefokdpaaDoorEnR3
import Derived.RegionTactic
namespace Go.Proofs.YthmkkinefokdpaaDoor
open Go.RowKit

theorem hp_split {l p : List UInt8} (h : Lib.hasPrefix l p = true) : ∃ r, l = p ++ r := by
  unfold Lib.hasPrefix at h
  rw [List.isPrefixOf_iff_prefix] at h
  obtain ⟨r, e⟩ := h
  exact ⟨r, e.symm⟩
theorem num_bd2 (base : Int) (most : Nat) (l : List UInt8) : (En.num base most l).2 ≤ most := by
  rcases En.idx_cases l 59 with hj | ⟨j, hj⟩
  · unfold En.num; rw [hj]; exact Nat.zero_le _
  · rw [En.num_hit hj]
    split
    · rename_i hk
      have := (En.okD_iff.1 hk).2.1
      have hl := En.idx_lt hj
      rw [List.length_take] at this
      simp only; omega
    · exact Nat.zero_le _
def rnm : List (List UInt8) := [[38, 97, 109, 112, 59], [38, 108, 116, 59], [38, 103, 116, 59], [38, 113, 117, 111, 116, 59], [38, 97, 112, 111, 115, 59]]
theorem rf_name {l : List UInt8} (nm : List UInt8) (c : List UInt8) (h : Lib.hasPrefix l (38 :: (nm ++ [59])) = true) (h59 : ∀ k, k < nm.length → nm[k]? ≠ some 59) (h35 : nm.head? ≠ some 35) (hp : U8.put (En.named nm) = c) (hc : c ≠ []) : En.rf l = (c, nm.length + 2) := by
  obtain ⟨r, rfl⟩ := hp_split h
  show En.rf (38 :: ((nm ++ [59]) ++ r)) = _
  rw [En.rf_amp, List.append_assoc]
  show En.rfb (nm ++ 59 :: r) = _
  rw [En.rfb_name h59 h35 (by rw [hp]; exact hc), hp]
theorem rf_nothing {l : List UInt8} (h : ∀ j, j < 5 → Lib.hasPrefix l (rnm.getD j []) = false) (h2 : Lib.hasPrefix l [38, 35] = false) : En.rf l = ([], 0) := by
  cases l with
  | nil => rfl
  | cons a b =>
    by_cases ha : a = 38
    · subst ha
      have k := fun j hj => h j hj
      have e : ∀ p, Lib.hasPrefix (38 :: b) (38 :: p) = Lib.hasPrefix b p := fun p => by simp [En.hp_cons]
      have k0 := k 0 (by omega); have k1 := k 1 (by omega); have k2 := k 2 (by omega); have k3 := k 3 (by omega); have k4 := k 4 (by omega)
      simp only [rnm, List.getD_cons_zero, List.getD_cons_succ, e] at k0 k1 k2 k3 k4
      rw [e] at h2
      rw [En.rf_amp]
      refine En.rfb_none ?_ k0 k1 k2 k3 k4
      intro hh
      cases b with
      | nil => cases hh
      | cons x y => simp at hh; subst hh; simp [En.hp_cons, En.hp_nil] at h2
    · exact En.rf_no (by simpa using ha)

theorem names_cell (w : World) (j : Nat) (hj : j < 5) : (w.alloc (.cells #[.string ⟨#[38, 97, 109, 112, 59]⟩, .string ⟨#[38, 108, 116, 59]⟩, .string ⟨#[38, 103, 116, 59]⟩, .string ⟨#[38, 113, 117, 111, 116, 59]⟩, .string ⟨#[38, 97, 112, 111, 115, 59]⟩] 9)).cell? ⟨w.heap.size, j, none⟩ = some (.string ⟨(rnm.getD j []).toArray⟩) := by
  have h := Lib.cell_of_heap (heap_alloc_new w (.cells #[.string ⟨#[38, 97, 109, 112, 59]⟩, .string ⟨#[38, 108, 116, 59]⟩, .string ⟨#[38, 103, 116, 59]⟩, .string ⟨#[38, 113, 117, 111, 116, 59]⟩, .string ⟨#[38, 97, 112, 111, 115, 59]⟩] 9)) j
  rw [h]
  match j, hj with
  | 0, _ => rfl
  | 1, _ => rfl
  | 2, _ => rfl
  | 3, _ => rfl
  | 4, _ => rfl

set_option maxHeartbeats 4000000 in
set_option maxRecDepth 100000 in
theorem rreference_any (s : ByteArray) (hs : s.size ≤ maxLen) (w : World) :
    Calls Tryd.prog 12 #[.string s] w fun e w' => e = .returned (.tuple #[.string ⟨(En.rf s.data.toList).1.toArray⟩, .int .i64 (En.rf s.data.toList).2]) ∧ Below w.heap.size w w' := by
  obtain ⟨R, hR⟩ : ∃ R, R = En.rf s.data.toList := ⟨_, rfl⟩
  rw [← hR]
  have HR := Lib.hid hR
  clear hR
  have HL := Lib.hid (Lib.size_eq s)
  have HB := Lib.hid (begins3 s)
  have HN16 := Lib.hid rnumber16
  have HN10 := Lib.hid rnumber10
  have c0 := names_cell w 0 (by omega)
  have c1 := names_cell w 1 (by omega)
  have c2 := names_cell w 2 (by omega)
  have c3 := names_cell w 3 (by omega)
  have c4 := names_cell w 4 (by omega)
  simp only [rnm, List.getD_cons_zero, List.getD_cons_succ] at c0 c1 c2 c3 c4
  have HW := Lib.hid ((Below.refl w.heap.size w).alloc (Nat.le_refl _) (.cells #[.string ⟨#[38, 97, 109, 112, 59]⟩, .string ⟨#[38, 108, 116, 59]⟩, .string ⟨#[38, 103, 116, 59]⟩, .string ⟨#[38, 113, 117, 111, 116, 59]⟩, .string ⟨#[38, 97, 112, 111, 115, 59]⟩] 9))
  have HS := Lib.hid hs
  unfold maxLen at hs
  go_enter Tryd.func12, Tryd.ntmps12
  go_wp2
  go_loop [5] (fun vi => ∃ k : Nat, vi = .int .i64 k ∧ k ≤ 5 ∧ Hid (∀ j, j < k → Lib.hasPrefix s.data.toList (rnm.getD j []) = false)) (fun vi => 5 - (intOf vi).toNat)
  case atStart => exact ⟨0, rfl, Nat.zero_le _, Lib.hid (fun j hj => by omega)⟩
  case round =>
    obtain ⟨k, rfl, hk, HH⟩ := hrel
    rcases (by omega : k = 0 ∨ k = 1 ∨ k = 2 ∨ k = 3 ∨ k = 4 ∨ k = 5) with rfl | rfl | rfl | rfl | rfl | rfl
    · have HB1 := Lib.hid (HB.out ⟨#[38,97,109,112,59]⟩)
      cases hp : Lib.hasPrefix s.data.toList (ByteArray.mk #[38,97,109,112,59]).data.toList with
      | true =>
        rw [hp] at HB1
        have hfin := HR.out.trans (rf_name [97,109,112] [38] hp (by decide) (by decide) (by decide) (by decide))
        have HF := Lib.hid hfin
        clear hfin hp HH
        go_wp2_with (go_at_call 21; refine (HB1.out _).mono ?_; rintro e w' ⟨rfl, rfl⟩)
        go_quiet (fail)
        go_wp2
        go_ret2
        exact ⟨by rw [HF.out]; rfl, below_drewN HW.out _⟩
      | false =>
        rw [hp] at HB1
        have HN : Hid (∀ j, j < 1 → Lib.hasPrefix s.data.toList (rnm.getD j []) = false) := Lib.hid (fun j hj => by
          by_cases hjk : j < 0
          · exact HH.out j hjk
          · obtain rfl : j = 0 := by omega
            exact hp)
        clear hp HH
        go_wp2_with (go_at_call 21; refine (HB1.out _).mono ?_; rintro e w' ⟨rfl, rfl⟩)
        go_round
        case rel => exact ⟨1, by go_num, by omega, HN⟩
        case measure => simp [intOf]
    · have HB1 := Lib.hid (HB.out ⟨#[38,108,116,59]⟩)
      cases hp : Lib.hasPrefix s.data.toList (ByteArray.mk #[38,108,116,59]).data.toList with
      | true =>
        rw [hp] at HB1
        have hfin := HR.out.trans (rf_name [108,116] [60] hp (by decide) (by decide) (by decide) (by decide))
        have HF := Lib.hid hfin
        clear hfin hp HH
        go_wp2_with (go_at_call 21; refine (HB1.out _).mono ?_; rintro e w' ⟨rfl, rfl⟩)
        go_quiet (fail)
        go_wp2
        go_ret2
        exact ⟨by rw [HF.out]; rfl, below_drewN HW.out _⟩
      | false =>
        rw [hp] at HB1
        have HN : Hid (∀ j, j < 2 → Lib.hasPrefix s.data.toList (rnm.getD j []) = false) := Lib.hid (fun j hj => by
          by_cases hjk : j < 1
          · exact HH.out j hjk
          · obtain rfl : j = 1 := by omega
            exact hp)
        clear hp HH
        go_wp2_with (go_at_call 21; refine (HB1.out _).mono ?_; rintro e w' ⟨rfl, rfl⟩)
        go_round
        case rel => exact ⟨2, by go_num, by omega, HN⟩
        case measure => simp [intOf]
    · have HB1 := Lib.hid (HB.out ⟨#[38,103,116,59]⟩)
      cases hp : Lib.hasPrefix s.data.toList (ByteArray.mk #[38,103,116,59]).data.toList with
      | true =>
        rw [hp] at HB1
        have hfin := HR.out.trans (rf_name [103,116] [62] hp (by decide) (by decide) (by decide) (by decide))
        have HF := Lib.hid hfin
        clear hfin hp HH
        go_wp2_with (go_at_call 21; refine (HB1.out _).mono ?_; rintro e w' ⟨rfl, rfl⟩)
        go_quiet (fail)
        go_wp2
        go_ret2
        exact ⟨by rw [HF.out]; rfl, below_drewN HW.out _⟩
      | false =>
        rw [hp] at HB1
        have HN : Hid (∀ j, j < 3 → Lib.hasPrefix s.data.toList (rnm.getD j []) = false) := Lib.hid (fun j hj => by
          by_cases hjk : j < 2
          · exact HH.out j hjk
          · obtain rfl : j = 2 := by omega
            exact hp)
        clear hp HH
        go_wp2_with (go_at_call 21; refine (HB1.out _).mono ?_; rintro e w' ⟨rfl, rfl⟩)
        go_round
        case rel => exact ⟨3, by go_num, by omega, HN⟩
        case measure => simp [intOf]
    · have HB1 := Lib.hid (HB.out ⟨#[38,113,117,111,116,59]⟩)
      cases hp : Lib.hasPrefix s.data.toList (ByteArray.mk #[38,113,117,111,116,59]).data.toList with
      | true =>
        rw [hp] at HB1
        have hfin := HR.out.trans (rf_name [113,117,111,116] [34] hp (by decide) (by decide) (by decide) (by decide))
        have HF := Lib.hid hfin
        clear hfin hp HH
        go_wp2_with (go_at_call 21; refine (HB1.out _).mono ?_; rintro e w' ⟨rfl, rfl⟩)
        go_quiet (fail)
        go_wp2
        go_ret2
        exact ⟨by rw [HF.out]; rfl, below_drewN HW.out _⟩
      | false =>
        rw [hp] at HB1
        have HN : Hid (∀ j, j < 4 → Lib.hasPrefix s.data.toList (rnm.getD j []) = false) := Lib.hid (fun j hj => by
          by_cases hjk : j < 3
          · exact HH.out j hjk
          · obtain rfl : j = 3 := by omega
            exact hp)
        clear hp HH
        go_wp2_with (go_at_call 21; refine (HB1.out _).mono ?_; rintro e w' ⟨rfl, rfl⟩)
        go_round
        case rel => exact ⟨4, by go_num, by omega, HN⟩
        case measure => simp [intOf]
    · have HB1 := Lib.hid (HB.out ⟨#[38,97,112,111,115,59]⟩)
      cases hp : Lib.hasPrefix s.data.toList (ByteArray.mk #[38,97,112,111,115,59]).data.toList with
      | true =>
        rw [hp] at HB1
        have hfin := HR.out.trans (rf_name [97,112,111,115] [39] hp (by decide) (by decide) (by decide) (by decide))
        have HF := Lib.hid hfin
        clear hfin hp HH
        go_wp2_with (go_at_call 21; refine (HB1.out _).mono ?_; rintro e w' ⟨rfl, rfl⟩)
        go_quiet (fail)
        go_wp2
        go_ret2
        exact ⟨by rw [HF.out]; rfl, below_drewN HW.out _⟩
      | false =>
        rw [hp] at HB1
        have HN : Hid (∀ j, j < 5 → Lib.hasPrefix s.data.toList (rnm.getD j []) = false) := Lib.hid (fun j hj => by
          by_cases hjk : j < 4
          · exact HH.out j hjk
          · obtain rfl : j = 4 := by omega
            exact hp)
        clear hp HH
        go_wp2_with (go_at_call 21; refine (HB1.out _).mono ?_; rintro e w' ⟨rfl, rfl⟩)
        go_round
        case rel => exact ⟨5, by go_num, by omega, HN⟩
        case measure => simp [intOf]
    · have HBx := Lib.hid (HB.out ⟨#[38, 35, 120]⟩)
      cases hp : Lib.hasPrefix s.data.toList (ByteArray.mk #[38, 35, 120]).data.toList with
      | true =>
        rw [hp] at HBx
        obtain ⟨r, hr⟩ := hp_split hp
        have hlen : 3 ≤ s.size := by rw [Lib.size_eq, hr]; simp
        have hlen' : (3 : Int) ≤ (s.size : Int) := by omega
        have HX := Lib.hid (HN16.out (s.extract 3 s.size) (by have := extract_size s 3 s.size; have := HS.out; omega))
        have hd : s.data.toList.drop 3 = r := by rw [hr]; rfl
        rw [Lib.extract_to_end, hd] at HX
        have hfin := HR.out
        rw [hr] at hfin
        rw [show (ByteArray.mk #[38, 35, 120]).data.toList ++ r = 38 :: 35 :: 120 :: r from rfl, En.rf_amp, En.rfb_hex] at hfin
        have hkb := num_bd2 16 6 r
        generalize En.num 16 6 r = d at *
        obtain ⟨c, k⟩ := d
        simp only at HX hfin hkb
        by_cases hc : c = []
        · rw [if_pos hc] at hfin
          subst hc
          have HF := Lib.hid hfin
          clear hfin hp HH hr hd
          go_wp2_with fail
          refine (HBx.out _).mono ?_
          rintro e w1 ⟨rfl, rfl⟩
          go_wp2_with fail
          refine (HX.out _).mono ?_
          rintro e w1 ⟨rfl, b1⟩
          go_wp2
          go_ret2
          exact ⟨by rw [HF.out]; rfl, HW.out.trans (b1.mono HW.out.size)⟩
        · rw [if_neg hc] at hfin
          obtain ⟨P, hP⟩ : ∃ P : ByteArray, P = ⟨c.toArray⟩ := ⟨_, rfl⟩
          rw [← hP] at HX
          have hne : P.toList.isEmpty = false := by
            rw [Lib.toList_data, hP, data_mk]
            cases e : c with
            | nil => exact absurd e hc
            | cons _ _ => rfl
          have HP := Lib.hid hP
          have HF := Lib.hid hfin
          clear hfin hp HH hr hd hP hc
          go_wp2_with fail
          refine (HBx.out _).mono ?_
          rintro e w1 ⟨rfl, rfl⟩
          go_wp2_with fail
          refine (HX.out _).mono ?_
          rintro e w1 ⟨rfl, b1⟩
          go_wp2
          go_ret2
          have e : (3 + (k : Int) + 1) = ((k + 4 : Nat) : Int) := by omega
          exact ⟨by rw [HF.out]; simp only; rw [← HP.out, ← e]; rfl, HW.out.trans (b1.mono HW.out.size)⟩
      | false =>
        rw [hp] at HBx
        have HBd := Lib.hid (HB.out ⟨#[38, 35]⟩)
        cases hp2 : Lib.hasPrefix s.data.toList (ByteArray.mk #[38, 35]).data.toList with
        | true =>
          rw [hp2] at HBd
          obtain ⟨r, hr⟩ := hp_split hp2
          have hlen : 2 ≤ s.size := by rw [Lib.size_eq, hr]; simp
          have hlen' : (2 : Int) ≤ (s.size : Int) := by omega
          have HX := Lib.hid (HN10.out (s.extract 2 s.size) (by have := extract_size s 2 s.size; have := HS.out; omega))
          have hd : s.data.toList.drop 2 = r := by rw [hr]; rfl
          rw [Lib.extract_to_end, hd] at HX
          have h120 : r.head? ≠ some 120 := by
            intro e
            cases r with
            | nil => cases e
            | cons x y =>
              simp at e; subst e
              rw [hr] at hp
              exact absurd hp (by simp [En.hp_cons, En.hp_nil])
          have hfin := HR.out
          rw [hr] at hfin
          rw [show (ByteArray.mk #[38, 35]).data.toList ++ r = 38 :: 35 :: r from rfl, En.rf_amp, En.rfb_dec r h120] at hfin
          have hkb := num_bd2 10 7 r
          generalize En.num 10 7 r = d at *
          obtain ⟨c, k⟩ := d
          simp only at HX hfin hkb
          by_cases hc : c = []
          · rw [if_pos hc] at hfin
            subst hc
            have HF := Lib.hid hfin
            clear hfin hp hp2 HH hr hd h120
            go_wp2_with fail
            refine (HBx.out _).mono ?_
            rintro e w1 ⟨rfl, rfl⟩
            go_wp2_with fail
            refine (HBd.out _).mono ?_
            rintro e w1 ⟨rfl, rfl⟩
            go_wp2_with fail
            refine (HX.out _).mono ?_
            rintro e w1 ⟨rfl, b1⟩
            go_wp2
            go_ret2
            exact ⟨by rw [HF.out]; rfl, HW.out.trans (b1.mono HW.out.size)⟩
          · rw [if_neg hc] at hfin
            obtain ⟨P, hP⟩ : ∃ P : ByteArray, P = ⟨c.toArray⟩ := ⟨_, rfl⟩
            rw [← hP] at HX
            have hne : P.toList.isEmpty = false := by
              rw [Lib.toList_data, hP, data_mk]
              cases e : c with
              | nil => exact absurd e hc
              | cons _ _ => rfl
            have HP := Lib.hid hP
            have HF := Lib.hid hfin
            clear hfin hp hp2 HH hr hd hP hc h120
            go_wp2_with fail
            refine (HBx.out _).mono ?_
            rintro e w1 ⟨rfl, rfl⟩
            go_wp2_with fail
            refine (HBd.out _).mono ?_
            rintro e w1 ⟨rfl, rfl⟩
            go_wp2_with fail
            refine (HX.out _).mono ?_
            rintro e w1 ⟨rfl, b1⟩
            go_wp2
            go_ret2
            have e : (2 + (k : Int) + 1) = ((k + 3 : Nat) : Int) := by omega
            exact ⟨by rw [HF.out]; simp only; rw [← HP.out, ← e]; rfl, HW.out.trans (b1.mono HW.out.size)⟩
        | false =>
          rw [hp2] at HBd
          have HF := Lib.hid (HR.out.trans (rf_nothing HH.out hp2))
          clear hp hp2 HH
          go_wp2_with fail
          refine (HBx.out _).mono ?_
          rintro e w1 ⟨rfl, rfl⟩
          go_wp2_with fail
          refine (HBd.out _).mono ?_
          rintro e w1 ⟨rfl, rfl⟩
          go_wp2
          go_ret2
          exact ⟨by rw [HF.out]; rfl, HW.out⟩
end Go.Proofs.YthmkkinefokdpaaDoor
