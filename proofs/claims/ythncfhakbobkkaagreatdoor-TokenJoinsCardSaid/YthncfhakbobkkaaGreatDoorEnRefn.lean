/- entity.said, entity.reference and entity.Reference, walked. Conditions: the tables hold what their texts lay; strconv.ErrSyntax holds an error; a text's length fits. -/
import Derived.Test.YthncfhakbobkkaaGreatDoorEnSaid
import Derived.Test.YthncfhakbobkkaaGreatDoorStrCut
namespace Go.Proofs.YthncfhakbobkkaaGreatDoor
open Go.RowKit

theorem below_drewN0 {w : World} (n : Nat) : Below w.heap.size w (w.drewN n) := below_drewN (Below.refl _ _) _

set_option maxHeartbeats 1000000 in
theorem said_any (t : ByteArray) (ht : t.size ≤ maxLen) (r : Nat) (w : World) (T : Tb w) (hr : IsNames r w) :
    Calls Tryz.prog 90 #[.string t, .map (some r)] w fun e w' => e = .returned (.int .i32 (En.said t.data.toList)) ∧ Below w.heap.size w w' := by
  have hdrop : ∀ k, (ByteArray.mk (t.data.toList.drop k).toArray).size ≤ maxLen := fun k => by
    rw [size_mk, List.length_drop, ← Lib.size_eq]; unfold maxLen at *; omega
  cases h1 : Lib.hasPrefix t.data.toList [35, 120] with
  | true =>
    have H1 := Lib.hid (cutp_yes t ⟨#[35, 120]⟩ h1 w)
    obtain ⟨D, hD⟩ : ∃ D : ByteArray, D = ⟨(t.data.toList.drop 2).toArray⟩ := ⟨_, rfl⟩
    have hDl : D.data.toList = t.data.toList.drop 2 := by rw [hD, data_mk]
    have HN := Lib.hid (number16 D (by rw [hD]; exact hdrop 2) w T)
    rw [hDl] at HN
    rw [show (ByteArray.mk #[35, 120]).data.toList.length = 2 from rfl, ← hD] at H1
    have hsaid : En.said t.data.toList = En.pnum 16 6 (t.data.toList.drop 2) := by unfold En.said; rw [h1, if_pos rfl]
    rw [hsaid]
    clear hsaid h1 hdrop hD hDl
    generalize En.pnum 16 6 (t.data.toList.drop 2) = v at *
    go_enter Tryz.func90, Tryz.ntmps90
    go_wp2_with fail
    refine H1.out.mono ?_
    rintro e w1 ⟨rfl, rfl⟩
    go_wp2_with fail
    refine HN.out.mono ?_
    rintro e w1 ⟨rfl, b1⟩
    go_wp2
    go_ret
    exact ⟨rfl, b1⟩
  | false =>
    have H1 := Lib.hid (cutp_no t ⟨#[35, 120]⟩ h1 w)
    cases h2 : Lib.hasPrefix t.data.toList [35] with
    | true =>
      have H2 := Lib.hid (cutp_yes t ⟨#[35]⟩ h2 w)
      obtain ⟨D, hD⟩ : ∃ D : ByteArray, D = ⟨(t.data.toList.drop 1).toArray⟩ := ⟨_, rfl⟩
      have hDl : D.data.toList = t.data.toList.drop 1 := by rw [hD, data_mk]
      have HN := Lib.hid (number10 D (by rw [hD]; exact hdrop 1) w T)
      rw [hDl] at HN
      rw [show (ByteArray.mk #[35]).data.toList.length = 1 from rfl, ← hD] at H2
      have hsaid : En.said t.data.toList = En.pnum 10 7 (t.data.toList.drop 1) := by unfold En.said; rw [h1, if_neg (by simp), h2, if_pos rfl]
      rw [hsaid]
      clear hsaid h1 h2 hdrop hD hDl
      generalize En.pnum 10 7 (t.data.toList.drop 1) = v at *
      go_enter Tryz.func90, Tryz.ntmps90
      go_wp2_with fail
      refine H1.out.mono ?_
      rintro e w1 ⟨rfl, rfl⟩
      go_wp2_with fail
      refine H2.out.mono ?_
      rintro e w1 ⟨rfl, rfl⟩
      go_wp2_with fail
      refine HN.out.mono ?_
      rintro e w1 ⟨rfl, b1⟩
      go_wp2
      go_ret
      exact ⟨rfl, b1⟩
    | false =>
      have H2 := Lib.hid (cutp_no t ⟨#[35]⟩ h2 w)
      have hl := lookup_names r t w hr
      have hsaid : En.said t.data.toList = En.named t.data.toList := by unfold En.said; rw [h1, if_neg (by simp), h2, if_neg (by simp)]
      rw [hsaid]
      clear hsaid h1 h2 hdrop
      generalize En.named t.data.toList = v at *
      go_enter Tryz.func90, Tryz.ntmps90
      go_wp2_with fail
      refine H1.out.mono ?_
      rintro e w1 ⟨rfl, rfl⟩
      go_wp2_with fail
      refine H2.out.mono ?_
      rintro e w1 ⟨rfl, rfl⟩
      go_wp2
      go_ret
      exact ⟨rfl, Below.refl _ _⟩

set_option maxHeartbeats 1000000 in
theorem reference_any (s : ByteArray) (hs : s.size ≤ maxLen) (r : Nat) (w : World) (T : Tb w) (hr : IsNames r w) :
    Calls Tryz.prog 77 #[.string s, .map (some r)] w fun e w' => e = .returned (.tuple #[.string ⟨(En.rf s.data.toList).1.toArray⟩, .int .i64 (En.rf s.data.toList).2]) ∧ Below w.heap.size w w' := by
  have hsz := Lib.size_eq s
  cases hp : Lib.hasPrefix s.data.toList [38] with
  | false =>
    have H1 := Lib.hid (cutp_no s ⟨#[38]⟩ hp w)
    have hn : En.rf s.data.toList = ([], 0) := En.rf_no (by
      intro h
      cases e : s.data.toList with
      | nil => rw [e] at h; cases h
      | cons a b => rw [e] at h hp; simp at h; subst h; simp [En.hp_cons, En.hp_nil] at hp)
    rw [hn]
    clear hn hp hsz
    go_enter Tryz.func77, Tryz.ntmps77
    go_wp2_with fail
    refine H1.out.mono ?_
    rintro e w1 ⟨rfl, rfl⟩
    go_wp2
    go_ret2
    exact ⟨rfl, Below.refl _ _⟩
  | true =>
    have H1 := Lib.hid (cutp_yes s ⟨#[38]⟩ hp w)
    obtain ⟨b, hb⟩ : ∃ b, s.data.toList = 38 :: b := by
      cases e : s.data.toList with
      | nil => rw [e] at hp; simp [Lib.hasPrefix] at hp
      | cons a b => rw [e, En.hp_cons] at hp; simp [En.hp_nil] at hp; subst hp; exact ⟨b, rfl⟩
    rw [hb] at H1 hsz ⊢
    rw [En.rf_amp]
    have hd : (38 :: b).drop (ByteArray.mk #[38]).data.toList.length = b := rfl
    rw [hd] at H1
    obtain ⟨B, hB⟩ : ∃ B : ByteArray, B = ⟨b.toArray⟩ := ⟨_, rfl⟩
    have hBl : B.data.toList = b := by rw [hB, data_mk]
    have hBs : B.size + 1 = s.size := by rw [hB, size_mk, hsz]; rfl
    rw [← hB] at H1
    clear hp hd hB hsz
    rcases En.idx_cases b 59 with hj | ⟨j, hj⟩
    · have H2 := Lib.hid (cut1_miss B 59 w (by rw [hBl]; exact hj))
      rw [En.rfb_miss hj]
      clear hj hBl hBs hb
      go_enter Tryz.func77, Tryz.ntmps77
      go_wp2_with fail
      refine H1.out.mono ?_
      rintro e w1 ⟨rfl, rfl⟩
      go_wp2_with fail
      refine H2.out.mono ?_
      rintro e w1 ⟨rfl, rfl⟩
      go_wp2
      go_ret2
      exact ⟨rfl, Below.refl _ _⟩
    · have hjl := En.idx_lt hj
      have hBn : B.size = b.length := by rw [Lib.size_eq, hBl]
      unfold maxLen at hs
      have H2 := Lib.hid (cut1_hit B 59 w j (by rw [hBl]; exact hj) (by omega) (by unfold maxLen; omega))
      obtain ⟨M, hM⟩ : ∃ M : ByteArray, M = B.extract 0 j := ⟨_, rfl⟩
      obtain ⟨Z, hZ⟩ : ∃ Z : ByteArray, Z = B.extract (j + 1) B.size := ⟨_, rfl⟩
      have hMl : M.data.toList = b.take j := by rw [hM, take_data, hBl]
      have hMs : M.size = j := by rw [Lib.size_eq, hMl, List.length_take]; omega
      rw [← hM, ← hZ] at H2
      have HS := Lib.hid (fun w0 T0 h0 => said_any M (by unfold maxLen; omega) r w0 T0 h0)
      have hsb := En.said_bd (b.take j)
      rw [hMl] at HS
      rw [En.rfb_hit hj]
      generalize En.said (b.take j) = v at *
      have HP := Lib.hid (fun w0 T0 => put_any v w0 T0 (by omega) (by omega))
      have hsm : j + 2 ≤ 9223372036854775807 := by omega
      have HM := Lib.hid hMs
      clear hM hZ hBn hBl hBs hb hj hMl hMs hjl hsb
      by_cases hc : U8.put v = []
      · rw [if_pos hc]
        rw [hc] at HP
        clear hc
        go_enter Tryz.func77, Tryz.ntmps77
        go_wp2_with fail
        refine H1.out.mono ?_
        rintro e w1 ⟨rfl, rfl⟩
        go_wp2_with fail
        refine (H2.out).mono ?_
        rintro e w1 ⟨rfl, h1⟩
        have T1 := T.below h1 (Nat.le_refl _)
        have b1 := h1
        clear h1
        have hr1 := hr.below b1 (Nat.le_refl _)
        go_wp2_with fail
        refine (HS.out _ T1 hr1).mono ?_
        rintro e w2 ⟨rfl, h2⟩
        have T2 := T1.below h2 (Nat.le_refl _)
        have b2 := b1.trans (h2.mono b1.size)
        clear T1 h2 b1
        go_wp2_with fail
        refine (HP.out _ T2.t).mono ?_
        rintro e w3 ⟨rfl, h3⟩
        have T3 := T2.below h3 (Nat.le_refl _)
        have b3 := b2.trans (h3.mono b2.size)
        clear T2 h3 b2
        go_wp2
        go_ret2
        exact ⟨rfl, b3⟩
      · rw [if_neg hc]
        obtain ⟨P, hP⟩ : ∃ P : ByteArray, P = ⟨(U8.put v).toArray⟩ := ⟨_, rfl⟩
        have hPl : P.data.toList = U8.put v := by rw [hP, data_mk]
        rw [← hP] at HP ⊢
        have hne : P.toList.isEmpty = false := by
          rw [Lib.toList_data, hPl]
          cases e : U8.put v with
          | nil => exact absurd e hc
          | cons _ _ => rfl
        clear hc hP hPl
        have hMs := HM.out
        have hw1 : IntKind.i64.wrap (1 + (M.size : Int)) = 1 + (M.size : Int) := IntWalk.i64_in _ (by omega)
        clear hMs
        go_enter Tryz.func77, Tryz.ntmps77
        go_wp2_with fail
        refine H1.out.mono ?_
        rintro e w1 ⟨rfl, rfl⟩
        go_wp2_with fail
        refine (H2.out).mono ?_
        rintro e w1 ⟨rfl, h1⟩
        have T1 := T.below h1 (Nat.le_refl _)
        have b1 := h1
        clear h1
        have hr1 := hr.below b1 (Nat.le_refl _)
        go_wp2_with fail
        refine (HS.out _ T1 hr1).mono ?_
        rintro e w2 ⟨rfl, h2⟩
        have T2 := T1.below h2 (Nat.le_refl _)
        have b2 := b1.trans (h2.mono b1.size)
        clear T1 h2 b1
        go_wp2_with fail
        refine (HP.out _ T2.t).mono ?_
        rintro e w3 ⟨rfl, h3⟩
        have T3 := T2.below h3 (Nat.le_refl _)
        have b3 := b2.trans (h3.mono b2.size)
        clear T2 h3 b2
        have hMs : M.size + 2 ≤ 9223372036854775807 := by rw [HM.out]; exact hsm
        go_wp2
        go_ret2
        have e : (1 + (M.size : Int) + 1) = ((j + 2 : Nat) : Int) := by have := HM.out; omega
        exact ⟨by rw [← e]; rfl, b3⟩
end Go.Proofs.YthncfhakbobkkaaGreatDoor
