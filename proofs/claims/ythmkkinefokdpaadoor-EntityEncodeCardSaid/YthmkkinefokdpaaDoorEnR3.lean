/- hopscotchref03, walked: begins, digit, number, Reference, Decode and Encode answer what the plain facts tell. Condition: a text's length fits. -/
import Derived.Test.YthmkkinefokdpaaDoorEnPiece
import Derived.Test.YthmkkinefokdpaaDoorU8Next
import Derived.Deep.QuietTactic
import Derived.BigQuiet
namespace Go.Proofs.YthmkkinefokdpaaDoor
open Go.RowKit

set_option maxHeartbeats 1000000 in
theorem begins3 (s t : ByteArray) (w : World) :
    Calls Tryd.prog 21 #[.string s, .string t] w fun e w' => e = .returned (.bool (Lib.hasPrefix s.data.toList t.data.toList)) ∧ w = w' := by
  have hr := Lib.hasPrefix_raw s t
  by_cases h : t.size ≤ s.size
  · have h' : (t.size : Int) ≤ (s.size : Int) := by omega
    rw [decide_eq_true h, Bool.true_and] at hr
    rw [← hr]
    clear hr
    go_enter Tryd.func21, Tryd.ntmps21
    go_wp2
    go_ret
    exact ⟨rfl, rfl⟩
  · have h' : ¬ (t.size : Int) ≤ (s.size : Int) := by omega
    rw [decide_eq_false h, Bool.false_and] at hr
    rw [← hr]
    clear hr
    go_enter Tryd.func21, Tryd.ntmps21
    go_wp2
    go_ret
    exact ⟨rfl, rfl⟩

set_option maxHeartbeats 1000000 in
theorem digit3 (c : Nat) (hc : c < 256) (w : World) :
    Calls Tryd.prog 37 #[.int .u8 c] w fun e w' => e = .returned (.int .i64 (En.dgN c)) ∧ w = w' := by
  go_enter Tryd.func37, Tryd.ntmps37
  go_wp2
  all_goals go_ret
  all_goals refine ⟨ret_int ?_, rfl⟩
  all_goals
    unfold En.dgN
    first
      | (rw [if_pos (by omega)])
      | (rw [if_neg (by omega), if_pos (by omega)]; omega)
      | (rw [if_neg (by omega), if_neg (by omega), if_pos (by omega)]; omega)
      | (rw [if_neg (by omega), if_neg (by omega), if_neg (by omega)])

set_option maxHeartbeats 4000000 in
set_option maxRecDepth 100000 in
theorem rnumber10 (s : ByteArray) (hs : s.size ≤ maxLen) (w : World) :
    Calls Tryd.prog 22 #[.string s, .int .i64 10, .int .i64 7] w fun e w' => e = .returned (.tuple #[.string ⟨(En.num 10 7 s.data.toList).1.toArray⟩, .int .i64 (En.num 10 7 s.data.toList).2]) ∧ Below w.heap.size w w' := by
  unfold maxLen at hs
  have HL := Lib.hid (Lib.size_eq s)
  obtain ⟨R, hR⟩ : ∃ R, R = En.num 10 7 s.data.toList := ⟨_, rfl⟩
  rw [← hR]
  have HR := Lib.hid hR
  clear hR
  have HDG := Lib.hid digit3
  go_enter Tryd.func22, Tryd.ntmps22
  go_wp2
  go_loop [8, 9] (fun vn vk => ∃ (k : Nat) (a : Int), vn = .int .i64 a ∧ vk = .int .i64 k ∧ k ≤ s.size ∧ k ≤ 7 ∧ Hid (a = En.val 10 (s.data.toList.take k) ∧ (s.data.toList.take k).all (En.isD 10) = true)) (fun _ vk => s.size - (intOf vk).toNat)
  case atStart => exact ⟨0, 0, rfl, rfl, Nat.zero_le _, Nat.zero_le _, Lib.hid ⟨rfl, rfl⟩⟩
  case round =>
    obtain ⟨k, a, rfl, rfl, hk, hkm, HH⟩ := hrel
    have hab : 0 ≤ a ∧ a < 16777216 := by
      have h := HH.out
      rw [h.1]
      have := En.val10 h.2 (by rw [List.length_take]; omega)
      omega
    obtain ⟨a0, a1⟩ := hab
    -- what is told where the digits end
    have HE := Lib.hid (fun hx => HR.out.trans (En.num_at (base := 10) (most := 7) (l := s.data.toList) hkm (by rw [← HL.out]; exact hk) HH.out.2 hx))
    have HP := Lib.hid (fun w0 => rput_any a w0 (by omega) (by omega))
    have HAV := Lib.hid HH.out.1
    by_cases hlt : k < s.size
    · have hlt' : (k : Int) < (s.size : Int) := by omega
      have hc256 := s[k].toNat_lt
      have hkl : k < s.data.toList.length := by rw [← HL.out]; exact hlt
      have hgk : s.data.toList[k]? = some s[k] := Lib.data_getElem? s k hlt
      have HG := Lib.hid hgk
      have hgk2 : s.data.toList[k] = s[k] := by rw [List.getElem?_eq_getElem hkl] at hgk; exact Option.some.inj hgk
      have HS := Lib.hid (En.take_snoc hkl)
      have HG2 := Lib.hid hgk2
      have HD := Lib.hid (HDG.out s[k].toNat hc256)
      have hdb := En.dg_bd s[k]
      have HDD := Lib.hid (show En.dg s[k] = En.dgN s[k].toNat from rfl)
      by_cases hm : k < 7
      · have hm' : (k : Int) < 7 := by omega
        by_cases hd : En.isD 10 s[k] = true
        · have hd2 := En.isD_iff.1 hd
          have HN : Hid (a * 10 + En.dgN s[k].toNat = En.val 10 (s.data.toList.take (k + 1)) ∧ (s.data.toList.take (k + 1)).all (En.isD 10) = true) := Lib.hid (by
            rw [HS.out, En.val_snoc, ← HH.out.1, HG2.out, List.all_append, HH.out.2]
            refine ⟨rfl, ?_⟩
            simp only [List.all_cons, List.all_nil, Bool.and_true, Bool.true_and]
            exact hd)
          have d0 : 0 ≤ En.dgN s[k].toNat := hd2.1
          have d1 : En.dgN s[k].toNat < 10 := hd2.2
          generalize En.dgN s[k].toNat = d at *
          clear hd hd2 hgk hgk2 HH HE HP HAV HG HS HG2 hdb HDD
          go_wp2_with (go_at_call 37; refine (HD.out _).mono ?_; rintro e w' ⟨rfl, rfl⟩)
          refine ⟨⟨k + 1, a * 10 + d, (by first | rfl | (congr 1; omega)), by go_num, by omega, by omega, HN⟩, by simp [intOf]; omega⟩
        · have hd' : En.isD 10 s[k] = false := by rw [← Bool.not_eq_true]; exact hd
          have hfin := HE.out (Or.inr (Or.inr ⟨s[k], hgk, hd'⟩))
          have hds : En.dgN s[k].toNat < 0 ∨ (0 ≤ En.dgN s[k].toNat ∧ 10 ≤ En.dgN s[k].toNat) := by
            have h : ¬ (0 ≤ En.dg s[k] ∧ En.dg s[k] < 10) := fun h => hd (En.isD_iff.2 h)
            have := HDD.out
            omega
          by_cases hk0 : k = 0
          · subst hk0
            rw [if_pos (Or.inl rfl)] at hfin
            have HF := Lib.hid hfin
            generalize En.dgN s[0].toNat = d at *
            clear hfin hd hd' hgk hgk2 HH HE HP HAV HG HS HG2 hdb HDD hc256
            rcases hds with g | ⟨g, g'⟩
            all_goals
              go_wp2_with (go_at_call 37; refine (HD.out _).mono ?_; rintro e w' ⟨rfl, rfl⟩)
              go_ret2
              exact ⟨by rw [HF.out]; rfl, Below.refl _ _⟩
          · have hk0' : ((k : Int) == 0) = false := by
              have : ¬ (k : Int) = 0 := by omega
              simpa using this
            by_cases h59 : s[k] = 59
            · have ht : ((s[k].toNat : Int) == 59) = true := by rw [h59]; rfl
              have ht2 : ((s[k].toNat : Int) != 59) = false := by rw [h59]; rfl
              rw [if_neg (by rw [hgk, h59]; simp [hk0])] at hfin
              rw [← HAV.out] at hfin
              have HF := Lib.hid hfin
              generalize En.dgN s[k].toNat = d at *
              clear hfin hd hd' hgk hgk2 HH HE HAV HG HS HG2 hdb HDD hc256 hk0 h59
              rcases hds with g | ⟨g, g'⟩
              all_goals
                go_wp2_with (first | (go_at_call 37; refine (HD.out _).mono ?_; rintro e w' ⟨rfl, rfl⟩) | (go_at_call 36; refine (HP.out _).mono ?_; rintro e w' ⟨rfl, b1⟩))
                go_ret2
                exact ⟨by rw [HF.out]; rfl, b1⟩
            · have hn59 : ¬ (s[k].toNat : Int) = 59 := by
                intro e; apply h59; apply UInt8.toNat_inj.1
                show s[k].toNat = 59
                omega
              have ht : ((s[k].toNat : Int) == 59) = false := by simpa using hn59
              have ht2 : ((s[k].toNat : Int) != 59) = true := by simpa using hn59
              rw [if_pos (Or.inr (by rw [hgk]; simpa using h59))] at hfin
              have HF := Lib.hid hfin
              generalize En.dgN s[k].toNat = d at *
              clear hfin hd hd' hgk hgk2 HH HE HP HAV HG HS HG2 hdb HDD hc256 hk0 h59 hn59
              rcases hds with g | ⟨g, g'⟩
              all_goals
                go_wp2_with (go_at_call 37; refine (HD.out _).mono ?_; rintro e w' ⟨rfl, rfl⟩)
                go_ret2
                exact ⟨by rw [HF.out]; rfl, Below.refl _ _⟩
      · have hkM : k = 7 := by omega
        have hfin := HE.out (Or.inl hkM)
        have hm' : ¬ (k : Int) < 7 := by omega
        have hk0' : ((k : Int) == 0) = false := by
          have : ¬ (k : Int) = 0 := by omega
          simpa using this
        by_cases h59 : s[k] = 59
        · have ht : ((s[k].toNat : Int) == 59) = true := by rw [h59]; rfl
          have ht2 : ((s[k].toNat : Int) != 59) = false := by rw [h59]; rfl
          rw [if_neg (by rw [hgk, h59]; simp; omega)] at hfin
          rw [← HAV.out] at hfin
          have HF := Lib.hid hfin
          clear hfin hgk hgk2 HH HE HAV HG HS HG2 hdb HDD hc256 h59 hkM HD
          go_wp2_with (go_at_call 36; refine (HP.out _).mono ?_; rintro e w' ⟨rfl, b1⟩)
          go_ret2
          exact ⟨by rw [HF.out]; rfl, b1⟩
        · have hn59 : ¬ (s[k].toNat : Int) = 59 := by
            intro e; apply h59; apply UInt8.toNat_inj.1
            show s[k].toNat = 59
            omega
          have ht : ((s[k].toNat : Int) == 59) = false := by simpa using hn59
          have ht2 : ((s[k].toNat : Int) != 59) = true := by simpa using hn59
          rw [if_pos (Or.inr (by rw [hgk]; simpa using h59))] at hfin
          have HF := Lib.hid hfin
          clear hfin hgk hgk2 HH HE HP HAV HG HS HG2 hdb HDD hc256 h59 hn59 hkM HD
          go_wp2
          go_ret2
          exact ⟨by rw [HF.out]; rfl, Below.refl _ _⟩
    · have hlt' : ¬ (k : Int) < (s.size : Int) := by omega
      have hfin := HE.out (Or.inr (Or.inl (by rw [← HL.out]; omega)))
      rw [if_pos (Or.inr (by rw [List.getElem?_eq_none (by rw [← HL.out]; omega)]; simp))] at hfin
      have HF := Lib.hid hfin
      clear hfin HH HE HP HAV hlt
      by_cases hk0 : k = 0
      · subst hk0
        go_wp2
        go_ret2
        exact ⟨by rw [HF.out]; rfl, Below.refl _ _⟩
      · have hk0' : ((k : Int) == 0) = false := by
          have : ¬ (k : Int) = 0 := by omega
          simpa using this
        clear hk0
        go_wp2
        go_ret2
        exact ⟨by rw [HF.out]; rfl, Below.refl _ _⟩
set_option maxHeartbeats 4000000 in
set_option maxRecDepth 100000 in
theorem rnumber16 (s : ByteArray) (hs : s.size ≤ maxLen) (w : World) :
    Calls Tryd.prog 22 #[.string s, .int .i64 16, .int .i64 6] w fun e w' => e = .returned (.tuple #[.string ⟨(En.num 16 6 s.data.toList).1.toArray⟩, .int .i64 (En.num 16 6 s.data.toList).2]) ∧ Below w.heap.size w w' := by
  unfold maxLen at hs
  have HL := Lib.hid (Lib.size_eq s)
  obtain ⟨R, hR⟩ : ∃ R, R = En.num 16 6 s.data.toList := ⟨_, rfl⟩
  rw [← hR]
  have HR := Lib.hid hR
  clear hR
  have HDG := Lib.hid digit3
  go_enter Tryd.func22, Tryd.ntmps22
  go_wp2
  go_loop [8, 9] (fun vn vk => ∃ (k : Nat) (a : Int), vn = .int .i64 a ∧ vk = .int .i64 k ∧ k ≤ s.size ∧ k ≤ 6 ∧ Hid (a = En.val 16 (s.data.toList.take k) ∧ (s.data.toList.take k).all (En.isD 16) = true)) (fun _ vk => s.size - (intOf vk).toNat)
  case atStart => exact ⟨0, 0, rfl, rfl, Nat.zero_le _, Nat.zero_le _, Lib.hid ⟨rfl, rfl⟩⟩
  case round =>
    obtain ⟨k, a, rfl, rfl, hk, hkm, HH⟩ := hrel
    have hab : 0 ≤ a ∧ a < 16777216 := by
      have h := HH.out
      rw [h.1]
      have := En.val16 h.2 (by rw [List.length_take]; omega)
      omega
    obtain ⟨a0, a1⟩ := hab
    -- what is told where the digits end
    have HE := Lib.hid (fun hx => HR.out.trans (En.num_at (base := 16) (most := 6) (l := s.data.toList) hkm (by rw [← HL.out]; exact hk) HH.out.2 hx))
    have HP := Lib.hid (fun w0 => rput_any a w0 (by omega) (by omega))
    have HAV := Lib.hid HH.out.1
    by_cases hlt : k < s.size
    · have hlt' : (k : Int) < (s.size : Int) := by omega
      have hc256 := s[k].toNat_lt
      have hkl : k < s.data.toList.length := by rw [← HL.out]; exact hlt
      have hgk : s.data.toList[k]? = some s[k] := Lib.data_getElem? s k hlt
      have HG := Lib.hid hgk
      have hgk2 : s.data.toList[k] = s[k] := by rw [List.getElem?_eq_getElem hkl] at hgk; exact Option.some.inj hgk
      have HS := Lib.hid (En.take_snoc hkl)
      have HG2 := Lib.hid hgk2
      have HD := Lib.hid (HDG.out s[k].toNat hc256)
      have hdb := En.dg_bd s[k]
      have HDD := Lib.hid (show En.dg s[k] = En.dgN s[k].toNat from rfl)
      by_cases hm : k < 6
      · have hm' : (k : Int) < 6 := by omega
        by_cases hd : En.isD 16 s[k] = true
        · have hd2 := En.isD_iff.1 hd
          have HN : Hid (a * 16 + En.dgN s[k].toNat = En.val 16 (s.data.toList.take (k + 1)) ∧ (s.data.toList.take (k + 1)).all (En.isD 16) = true) := Lib.hid (by
            rw [HS.out, En.val_snoc, ← HH.out.1, HG2.out, List.all_append, HH.out.2]
            refine ⟨rfl, ?_⟩
            simp only [List.all_cons, List.all_nil, Bool.and_true, Bool.true_and]
            exact hd)
          have d0 : 0 ≤ En.dgN s[k].toNat := hd2.1
          have d1 : En.dgN s[k].toNat < 16 := hd2.2
          generalize En.dgN s[k].toNat = d at *
          clear hd hd2 hgk hgk2 HH HE HP HAV HG HS HG2 hdb HDD
          go_wp2_with (go_at_call 37; refine (HD.out _).mono ?_; rintro e w' ⟨rfl, rfl⟩)
          refine ⟨⟨k + 1, a * 16 + d, (by first | rfl | (congr 1; omega)), by go_num, by omega, by omega, HN⟩, by simp [intOf]; omega⟩
        · have hd' : En.isD 16 s[k] = false := by rw [← Bool.not_eq_true]; exact hd
          have hfin := HE.out (Or.inr (Or.inr ⟨s[k], hgk, hd'⟩))
          have hds : En.dgN s[k].toNat < 0 ∨ (0 ≤ En.dgN s[k].toNat ∧ 16 ≤ En.dgN s[k].toNat) := by
            have h : ¬ (0 ≤ En.dg s[k] ∧ En.dg s[k] < 16) := fun h => hd (En.isD_iff.2 h)
            have := HDD.out
            omega
          by_cases hk0 : k = 0
          · subst hk0
            rw [if_pos (Or.inl rfl)] at hfin
            have HF := Lib.hid hfin
            generalize En.dgN s[0].toNat = d at *
            clear hfin hd hd' hgk hgk2 HH HE HP HAV HG HS HG2 hdb HDD hc256
            rcases hds with g | ⟨g, g'⟩
            all_goals
              go_wp2_with (go_at_call 37; refine (HD.out _).mono ?_; rintro e w' ⟨rfl, rfl⟩)
              go_ret2
              exact ⟨by rw [HF.out]; rfl, Below.refl _ _⟩
          · have hk0' : ((k : Int) == 0) = false := by
              have : ¬ (k : Int) = 0 := by omega
              simpa using this
            by_cases h59 : s[k] = 59
            · have ht : ((s[k].toNat : Int) == 59) = true := by rw [h59]; rfl
              have ht2 : ((s[k].toNat : Int) != 59) = false := by rw [h59]; rfl
              rw [if_neg (by rw [hgk, h59]; simp [hk0])] at hfin
              rw [← HAV.out] at hfin
              have HF := Lib.hid hfin
              generalize En.dgN s[k].toNat = d at *
              clear hfin hd hd' hgk hgk2 HH HE HAV HG HS HG2 hdb HDD hc256 hk0 h59
              rcases hds with g | ⟨g, g'⟩
              all_goals
                go_wp2_with (first | (go_at_call 37; refine (HD.out _).mono ?_; rintro e w' ⟨rfl, rfl⟩) | (go_at_call 36; refine (HP.out _).mono ?_; rintro e w' ⟨rfl, b1⟩))
                go_ret2
                exact ⟨by rw [HF.out]; rfl, b1⟩
            · have hn59 : ¬ (s[k].toNat : Int) = 59 := by
                intro e; apply h59; apply UInt8.toNat_inj.1
                show s[k].toNat = 59
                omega
              have ht : ((s[k].toNat : Int) == 59) = false := by simpa using hn59
              have ht2 : ((s[k].toNat : Int) != 59) = true := by simpa using hn59
              rw [if_pos (Or.inr (by rw [hgk]; simpa using h59))] at hfin
              have HF := Lib.hid hfin
              generalize En.dgN s[k].toNat = d at *
              clear hfin hd hd' hgk hgk2 HH HE HP HAV HG HS HG2 hdb HDD hc256 hk0 h59 hn59
              rcases hds with g | ⟨g, g'⟩
              all_goals
                go_wp2_with (go_at_call 37; refine (HD.out _).mono ?_; rintro e w' ⟨rfl, rfl⟩)
                go_ret2
                exact ⟨by rw [HF.out]; rfl, Below.refl _ _⟩
      · have hkM : k = 6 := by omega
        have hfin := HE.out (Or.inl hkM)
        have hm' : ¬ (k : Int) < 6 := by omega
        have hk0' : ((k : Int) == 0) = false := by
          have : ¬ (k : Int) = 0 := by omega
          simpa using this
        by_cases h59 : s[k] = 59
        · have ht : ((s[k].toNat : Int) == 59) = true := by rw [h59]; rfl
          have ht2 : ((s[k].toNat : Int) != 59) = false := by rw [h59]; rfl
          rw [if_neg (by rw [hgk, h59]; simp; omega)] at hfin
          rw [← HAV.out] at hfin
          have HF := Lib.hid hfin
          clear hfin hgk hgk2 HH HE HAV HG HS HG2 hdb HDD hc256 h59 hkM HD
          go_wp2_with (go_at_call 36; refine (HP.out _).mono ?_; rintro e w' ⟨rfl, b1⟩)
          go_ret2
          exact ⟨by rw [HF.out]; rfl, b1⟩
        · have hn59 : ¬ (s[k].toNat : Int) = 59 := by
            intro e; apply h59; apply UInt8.toNat_inj.1
            show s[k].toNat = 59
            omega
          have ht : ((s[k].toNat : Int) == 59) = false := by simpa using hn59
          have ht2 : ((s[k].toNat : Int) != 59) = true := by simpa using hn59
          rw [if_pos (Or.inr (by rw [hgk]; simpa using h59))] at hfin
          have HF := Lib.hid hfin
          clear hfin hgk hgk2 HH HE HP HAV HG HS HG2 hdb HDD hc256 h59 hn59 hkM HD
          go_wp2
          go_ret2
          exact ⟨by rw [HF.out]; rfl, Below.refl _ _⟩
    · have hlt' : ¬ (k : Int) < (s.size : Int) := by omega
      have hfin := HE.out (Or.inr (Or.inl (by rw [← HL.out]; omega)))
      rw [if_pos (Or.inr (by rw [List.getElem?_eq_none (by rw [← HL.out]; omega)]; simp))] at hfin
      have HF := Lib.hid hfin
      clear hfin HH HE HP HAV hlt
      by_cases hk0 : k = 0
      · subst hk0
        go_wp2
        go_ret2
        exact ⟨by rw [HF.out]; rfl, Below.refl _ _⟩
      · have hk0' : ((k : Int) == 0) = false := by
          have : ¬ (k : Int) = 0 := by omega
          simpa using this
        clear hk0
        go_wp2
        go_ret2
        exact ⟨by rw [HF.out]; rfl, Below.refl _ _⟩
end Go.Proofs.YthmkkinefokdpaaDoor
