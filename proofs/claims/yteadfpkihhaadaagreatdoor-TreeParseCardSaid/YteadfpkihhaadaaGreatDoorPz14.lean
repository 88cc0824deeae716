/- Facts and walks for the statement. -/
import Derived.Test.YteadfpkihhaadaaGreatDoorPz08
import Derived.Test.YteadfpkihhaadaaGreatDoorPz06
import Derived.Deep.QuietTactic
import Derived.BigQuiet
import Derived.RegionTactic
namespace Go.Proofs.YteadfpkihhaadaaGreatDoor
open Go.RowKit
set_option maxHeartbeats 1000000 in
theorem begins3 (s t : ByteArray) (w : World) :
  Calls Tryz.prog 121 #[.string s, .string t] w fun e w' => e = .returned (.bool (Lib.hasPrefix s.data.toList t.data.toList)) ∧ w = w' := by
 have hr := Lib.hasPrefix_raw s t
 by_cases h : t.size ≤ s.size
 ·have h' : (t.size : Int) ≤ (s.size : Int) := by omega
  rw [decide_eq_true h, Bool.true_and] at hr
  rw [← hr]
  clear hr
  go_enter Tryz.func121, Tryz.ntmps121
  go_wp2
  go_ret
  exact ⟨rfl, rfl⟩
 ·have h' : ¬ (t.size : Int) ≤ (s.size : Int) := by omega
  rw [decide_eq_false h, Bool.false_and] at hr
  rw [← hr]
  clear hr
  go_enter Tryz.func121, Tryz.ntmps121
  go_wp2
  go_ret
  exact ⟨rfl, rfl⟩
set_option maxHeartbeats 1000000 in
theorem digit3 (c : Nat) (hc : c < 256) (w : World) :
  Calls Tryz.prog 153 #[.int .u8 c] w fun e w' => e = .returned (.int .i64 (En.dgN c)) ∧ w = w' := by
 go_enter Tryz.func153, Tryz.ntmps153
 go_wp2
 all_goals go_ret
 all_goals refine ⟨ret_int ?_, rfl⟩
 all_goals
  unfold En.dgN
  first
   | (rw [if_pos (by omega)])
   | (rw [if_neg (by omega), if_pos (by omega)]; omega)
   | (rw [if_neg (by omega), if_neg (by omega), if_pos (by omega)]; omega)
   | (rw [if_neg (by omega), if_neg (by omega), if_neg (by omega)])
set_option maxHeartbeats 4000000 in
set_option maxRecDepth 100000 in
theorem rnumber10 (s : ByteArray) (hs : s.size ≤ maxLen) (w : World) :
  Calls Tryz.prog 122 #[.string s, .int .i64 10, .int .i64 7] w fun e w' => e = .returned (.tuple #[.string ⟨(En.num 10 7 s.data.toList).1.toArray⟩, .int .i64 (En.num 10 7 s.data.toList).2]) ∧ Below w.heap.size w w' := by
 unfold maxLen at hs
 have HL := Lib.hid (Lib.size_eq s)
 obtain ⟨R, hR⟩ : ∃ R, R = En.num 10 7 s.data.toList := ⟨_, rfl⟩
 rw [← hR]
 have HR := Lib.hid hR
 clear hR
 have HDG := Lib.hid digit3
 go_enter Tryz.func122, Tryz.ntmps122
 go_wp2
 go_loop [8, 9] (fun vn vk => ∃ (k : Nat) (a : Int), vn = .int .i64 a ∧ vk = .int .i64 k ∧ k ≤ s.size ∧ k ≤ 7 ∧ Hid (a = En.val 10 (s.data.toList.take k) ∧ (s.data.toList.take k).all (En.isD 10) = true)) (fun _ vk => s.size - (intOf vk).toNat)
 case atStart => exact ⟨0, 0, rfl, rfl, Nat.zero_le _, Nat.zero_le _, Lib.hid ⟨rfl, rfl⟩⟩
 case round =>
  obtain ⟨k, a, rfl, rfl, hk, hkm, HH⟩ := hrel
  have hab : 0 ≤ a ∧ a < 16777216 := by
   have h := HH.out
   rw [h.1]
   have := En.val10 h.2 (by rw [List.length_take]; omega)
   omega
  obtain ⟨a0, a1⟩ := hab
  -- what is told where the digits end
  have HE := Lib.hid (fun hx => HR.out.trans (En.num_at (base := 10) (most := 7) (l := s.data.toList) hkm (by rw [← HL.out]; exact hk) HH.out.2 hx))
  have HP := Lib.hid (fun w0 => rput_any a w0 (by omega) (by omega))
  have HAV := Lib.hid HH.out.1
  by_cases hlt : k < s.size
  ·have hlt' : (k : Int) < (s.size : Int) := by omega
   have hc256 := s[k].toNat_lt
   have hkl : k < s.data.toList.length := by rw [← HL.out]; exact hlt
   have hgk : s.data.toList[k]? = some s[k] := Lib.data_getElem? s k hlt
   have HG := Lib.hid hgk
   have hgk2 : s.data.toList[k] = s[k] := by rw [List.getElem?_eq_getElem hkl] at hgk; exact Option.some.inj hgk
   have HS := Lib.hid (En.take_snoc hkl)
   have HG2 := Lib.hid hgk2
   have HD := Lib.hid (HDG.out s[k].toNat hc256)
   have hdb := En.dg_bd s[k]
   have HDD := Lib.hid (show En.dg s[k] = En.dgN s[k].toNat from rfl)
   by_cases hm : k < 7
   ·have hm' : (k : Int) < 7 := by omega
    by_cases hd : En.isD 10 s[k] = true
    ·have hd2 := En.isD_iff.1 hd
     have HN : Hid (a * 10 + En.dgN s[k].toNat = En.val 10 (s.data.toList.take (k + 1)) ∧ (s.data.toList.take (k + 1)).all (En.isD 10) = true) := Lib.hid (by
      rw [HS.out, En.val_snoc, ← HH.out.1, HG2.out, List.all_append, HH.out.2]
      refine ⟨rfl, ?_⟩
      simp only [List.all_cons, List.all_nil, Bool.and_true, Bool.true_and]
      exact hd)
     have d0 : 0 ≤ En.dgN s[k].toNat := hd2.1
     have d1 : En.dgN s[k].toNat < 10 := hd2.2
     generalize En.dgN s[k].toNat = d at *
     clear hd hd2 hgk hgk2 HH HE HP HAV HG HS HG2 hdb HDD
     go_wp2_with (go_at_call 153; refine (HD.out _).mono ?_; rintro e w' ⟨rfl, rfl⟩)
     refine ⟨⟨k + 1, a * 10 + d, (by first | rfl | (congr 1; omega)), by go_num, by omega, by omega, HN⟩, by simp [intOf]; omega⟩
    ·have hd' : En.isD 10 s[k] = false := by rw [← Bool.not_eq_true]; exact hd
     have hfin := HE.out (Or.inr (Or.inr ⟨s[k], hgk, hd'⟩))
     have hds : En.dgN s[k].toNat < 0 ∨ (0 ≤ En.dgN s[k].toNat ∧ 10 ≤ En.dgN s[k].toNat) := by
      have h : ¬ (0 ≤ En.dg s[k] ∧ En.dg s[k] < 10) := fun h => hd (En.isD_iff.2 h)
      have := HDD.out
      omega
     by_cases hk0 : k = 0
     ·subst hk0
      rw [if_pos (Or.inl rfl)] at hfin
      have HF := Lib.hid hfin
      generalize En.dgN s[0].toNat = d at *
      clear hfin hd hd' hgk hgk2 HH HE HP HAV HG HS HG2 hdb HDD hc256
      rcases hds with g | ⟨g, g'⟩
      all_goals
       go_wp2_with (go_at_call 153; refine (HD.out _).mono ?_; rintro e w' ⟨rfl, rfl⟩)
       go_ret2
       exact ⟨by rw [HF.out]; rfl, Below.refl _ _⟩
     ·have hk0' : ((k : Int) == 0) = false := by
       have : ¬ (k : Int) = 0 := by omega
       simpa using this
      by_cases h59 : s[k] = 59
      ·have ht : ((s[k].toNat : Int) == 59) = true := by rw [h59]; rfl
       have ht2 : ((s[k].toNat : Int) != 59) = false := by rw [h59]; rfl
       rw [if_neg (by rw [hgk, h59]; simp [hk0])] at hfin
       rw [← HAV.out] at hfin
       have HF := Lib.hid hfin
       generalize En.dgN s[k].toNat = d at *
       clear hfin hd hd' hgk hgk2 HH HE HAV HG HS HG2 hdb HDD hc256 hk0 h59
       rcases hds with g | ⟨g, g'⟩
       all_goals
        go_wp2_with (first | (go_at_call 153; refine (HD.out _).mono ?_; rintro e w' ⟨rfl, rfl⟩) | (go_at_call 120; refine (HP.out _).mono ?_; rintro e w' ⟨rfl, b1⟩))
        go_ret2
        exact ⟨by rw [HF.out]; rfl, b1⟩
      ·have hn59 : ¬ (s[k].toNat : Int) = 59 := by
        intro e; apply h59; apply UInt8.toNat_inj.1
        show s[k].toNat = 59
        omega
       have ht : ((s[k].toNat : Int) == 59) = false := by simpa using hn59
       have ht2 : ((s[k].toNat : Int) != 59) = true := by simpa using hn59
       rw [if_pos (Or.inr (by rw [hgk]; simpa using h59))] at hfin
       have HF := Lib.hid hfin
       generalize En.dgN s[k].toNat = d at *
       clear hfin hd hd' hgk hgk2 HH HE HP HAV HG HS HG2 hdb HDD hc256 hk0 h59 hn59
       rcases hds with g | ⟨g, g'⟩
       all_goals
        go_wp2_with (go_at_call 153; refine (HD.out _).mono ?_; rintro e w' ⟨rfl, rfl⟩)
        go_ret2
        exact ⟨by rw [HF.out]; rfl, Below.refl _ _⟩
   ·have hkM : k = 7 := by omega
    have hfin := HE.out (Or.inl hkM)
    have hm' : ¬ (k : Int) < 7 := by omega
    have hk0' : ((k : Int) == 0) = false := by
     have : ¬ (k : Int) = 0 := by omega
     simpa using this
    by_cases h59 : s[k] = 59
    ·have ht : ((s[k].toNat : Int) == 59) = true := by rw [h59]; rfl
     have ht2 : ((s[k].toNat : Int) != 59) = false := by rw [h59]; rfl
     rw [if_neg (by rw [hgk, h59]; simp; omega)] at hfin
     rw [← HAV.out] at hfin
     have HF := Lib.hid hfin
     clear hfin hgk hgk2 HH HE HAV HG HS HG2 hdb HDD hc256 h59 hkM HD
     go_wp2_with (go_at_call 120; refine (HP.out _).mono ?_; rintro e w' ⟨rfl, b1⟩)
     go_ret2
     exact ⟨by rw [HF.out]; rfl, b1⟩
    ·have hn59 : ¬ (s[k].toNat : Int) = 59 := by
      intro e; apply h59; apply UInt8.toNat_inj.1
      show s[k].toNat = 59
      omega
     have ht : ((s[k].toNat : Int) == 59) = false := by simpa using hn59
     have ht2 : ((s[k].toNat : Int) != 59) = true := by simpa using hn59
     rw [if_pos (Or.inr (by rw [hgk]; simpa using h59))] at hfin
     have HF := Lib.hid hfin
     clear hfin hgk hgk2 HH HE HP HAV HG HS HG2 hdb HDD hc256 h59 hn59 hkM HD
     go_wp2
     go_ret2
     exact ⟨by rw [HF.out]; rfl, Below.refl _ _⟩
  ·have hlt' : ¬ (k : Int) < (s.size : Int) := by omega
   have hfin := HE.out (Or.inr (Or.inl (by rw [← HL.out]; omega)))
   rw [if_pos (Or.inr (by rw [List.getElem?_eq_none (by rw [← HL.out]; omega)]; simp))] at hfin
   have HF := Lib.hid hfin
   clear hfin HH HE HP HAV hlt
   by_cases hk0 : k = 0
   ·subst hk0
    go_wp2
    go_ret2
    exact ⟨by rw [HF.out]; rfl, Below.refl _ _⟩
   ·have hk0' : ((k : Int) == 0) = false := by
     have : ¬ (k : Int) = 0 := by omega
     simpa using this
    clear hk0
    go_wp2
    go_ret2
    exact ⟨by rw [HF.out]; rfl, Below.refl _ _⟩
set_option maxHeartbeats 4000000 in
set_option maxRecDepth 100000 in
theorem rnumber16 (s : ByteArray) (hs : s.size ≤ maxLen) (w : World) :
  Calls Tryz.prog 122 #[.string s, .int .i64 16, .int .i64 6] w fun e w' => e = .returned (.tuple #[.string ⟨(En.num 16 6 s.data.toList).1.toArray⟩, .int .i64 (En.num 16 6 s.data.toList).2]) ∧ Below w.heap.size w w' := by
 unfold maxLen at hs
 have HL := Lib.hid (Lib.size_eq s)
 obtain ⟨R, hR⟩ : ∃ R, R = En.num 16 6 s.data.toList := ⟨_, rfl⟩
 rw [← hR]
 have HR := Lib.hid hR
 clear hR
 have HDG := Lib.hid digit3
 go_enter Tryz.func122, Tryz.ntmps122
 go_wp2
 go_loop [8, 9] (fun vn vk => ∃ (k : Nat) (a : Int), vn = .int .i64 a ∧ vk = .int .i64 k ∧ k ≤ s.size ∧ k ≤ 6 ∧ Hid (a = En.val 16 (s.data.toList.take k) ∧ (s.data.toList.take k).all (En.isD 16) = true)) (fun _ vk => s.size - (intOf vk).toNat)
 case atStart => exact ⟨0, 0, rfl, rfl, Nat.zero_le _, Nat.zero_le _, Lib.hid ⟨rfl, rfl⟩⟩
 case round =>
  obtain ⟨k, a, rfl, rfl, hk, hkm, HH⟩ := hrel
  have hab : 0 ≤ a ∧ a < 16777216 := by
   have h := HH.out
   rw [h.1]
   have := En.val16 h.2 (by rw [List.length_take]; omega)
   omega
  obtain ⟨a0, a1⟩ := hab
  -- what is told where the digits end
  have HE := Lib.hid (fun hx => HR.out.trans (En.num_at (base := 16) (most := 6) (l := s.data.toList) hkm (by rw [← HL.out]; exact hk) HH.out.2 hx))
  have HP := Lib.hid (fun w0 => rput_any a w0 (by omega) (by omega))
  have HAV := Lib.hid HH.out.1
  by_cases hlt : k < s.size
  ·have hlt' : (k : Int) < (s.size : Int) := by omega
   have hc256 := s[k].toNat_lt
   have hkl : k < s.data.toList.length := by rw [← HL.out]; exact hlt
   have hgk : s.data.toList[k]? = some s[k] := Lib.data_getElem? s k hlt
   have HG := Lib.hid hgk
   have hgk2 : s.data.toList[k] = s[k] := by rw [List.getElem?_eq_getElem hkl] at hgk; exact Option.some.inj hgk
   have HS := Lib.hid (En.take_snoc hkl)
   have HG2 := Lib.hid hgk2
   have HD := Lib.hid (HDG.out s[k].toNat hc256)
   have hdb := En.dg_bd s[k]
   have HDD := Lib.hid (show En.dg s[k] = En.dgN s[k].toNat from rfl)
   by_cases hm : k < 6
   ·have hm' : (k : Int) < 6 := by omega
    by_cases hd : En.isD 16 s[k] = true
    ·have hd2 := En.isD_iff.1 hd
     have HN : Hid (a * 16 + En.dgN s[k].toNat = En.val 16 (s.data.toList.take (k + 1)) ∧ (s.data.toList.take (k + 1)).all (En.isD 16) = true) := Lib.hid (by
      rw [HS.out, En.val_snoc, ← HH.out.1, HG2.out, List.all_append, HH.out.2]
      refine ⟨rfl, ?_⟩
      simp only [List.all_cons, List.all_nil, Bool.and_true, Bool.true_and]
      exact hd)
     have d0 : 0 ≤ En.dgN s[k].toNat := hd2.1
     have d1 : En.dgN s[k].toNat < 16 := hd2.2
     generalize En.dgN s[k].toNat = d at *
     clear hd hd2 hgk hgk2 HH HE HP HAV HG HS HG2 hdb HDD
     go_wp2_with (go_at_call 153; refine (HD.out _).mono ?_; rintro e w' ⟨rfl, rfl⟩)
     refine ⟨⟨k + 1, a * 16 + d, (by first | rfl | (congr 1; omega)), by go_num, by omega, by omega, HN⟩, by simp [intOf]; omega⟩
    ·have hd' : En.isD 16 s[k] = false := by rw [← Bool.not_eq_true]; exact hd
     have hfin := HE.out (Or.inr (Or.inr ⟨s[k], hgk, hd'⟩))
     have hds : En.dgN s[k].toNat < 0 ∨ (0 ≤ En.dgN s[k].toNat ∧ 16 ≤ En.dgN s[k].toNat) := by
      have h : ¬ (0 ≤ En.dg s[k] ∧ En.dg s[k] < 16) := fun h => hd (En.isD_iff.2 h)
      have := HDD.out
      omega
     by_cases hk0 : k = 0
     ·subst hk0
      rw [if_pos (Or.inl rfl)] at hfin
      have HF := Lib.hid hfin
      generalize En.dgN s[0].toNat = d at *
      clear hfin hd hd' hgk hgk2 HH HE HP HAV HG HS HG2 hdb HDD hc256
      rcases hds with g | ⟨g, g'⟩
      all_goals
       go_wp2_with (go_at_call 153; refine (HD.out _).mono ?_; rintro e w' ⟨rfl, rfl⟩)
       go_ret2
       exact ⟨by rw [HF.out]; rfl, Below.refl _ _⟩
     ·have hk0' : ((k : Int) == 0) = false := by
       have : ¬ (k : Int) = 0 := by omega
       simpa using this
      by_cases h59 : s[k] = 59
      ·have ht : ((s[k].toNat : Int) == 59) = true := by rw [h59]; rfl
       have ht2 : ((s[k].toNat : Int) != 59) = false := by rw [h59]; rfl
       rw [if_neg (by rw [hgk, h59]; simp [hk0])] at hfin
       rw [← HAV.out] at hfin
       have HF := Lib.hid hfin
       generalize En.dgN s[k].toNat = d at *
       clear hfin hd hd' hgk hgk2 HH HE HAV HG HS HG2 hdb HDD hc256 hk0 h59
       rcases hds with g | ⟨g, g'⟩
       all_goals
        go_wp2_with (first | (go_at_call 153; refine (HD.out _).mono ?_; rintro e w' ⟨rfl, rfl⟩) | (go_at_call 120; refine (HP.out _).mono ?_; rintro e w' ⟨rfl, b1⟩))
        go_ret2
        exact ⟨by rw [HF.out]; rfl, b1⟩
      ·have hn59 : ¬ (s[k].toNat : Int) = 59 := by
        intro e; apply h59; apply UInt8.toNat_inj.1
        show s[k].toNat = 59
        omega
       have ht : ((s[k].toNat : Int) == 59) = false := by simpa using hn59
       have ht2 : ((s[k].toNat : Int) != 59) = true := by simpa using hn59
       rw [if_pos (Or.inr (by rw [hgk]; simpa using h59))] at hfin
       have HF := Lib.hid hfin
       generalize En.dgN s[k].toNat = d at *
       clear hfin hd hd' hgk hgk2 HH HE HP HAV HG HS HG2 hdb HDD hc256 hk0 h59 hn59
       rcases hds with g | ⟨g, g'⟩
       all_goals
        go_wp2_with (go_at_call 153; refine (HD.out _).mono ?_; rintro e w' ⟨rfl, rfl⟩)
        go_ret2
        exact ⟨by rw [HF.out]; rfl, Below.refl _ _⟩
   ·have hkM : k = 6 := by omega
    have hfin := HE.out (Or.inl hkM)
    have hm' : ¬ (k : Int) < 6 := by omega
    have hk0' : ((k : Int) == 0) = false := by
     have : ¬ (k : Int) = 0 := by omega
     simpa using this
    by_cases h59 : s[k] = 59
    ·have ht : ((s[k].toNat : Int) == 59) = true := by rw [h59]; rfl
     have ht2 : ((s[k].toNat : Int) != 59) = false := by rw [h59]; rfl
     rw [if_neg (by rw [hgk, h59]; simp; omega)] at hfin
     rw [← HAV.out] at hfin
     have HF := Lib.hid hfin
     clear hfin hgk hgk2 HH HE HAV HG HS HG2 hdb HDD hc256 h59 hkM HD
     go_wp2_with (go_at_call 120; refine (HP.out _).mono ?_; rintro e w' ⟨rfl, b1⟩)
     go_ret2
     exact ⟨by rw [HF.out]; rfl, b1⟩
    ·have hn59 : ¬ (s[k].toNat : Int) = 59 := by
      intro e; apply h59; apply UInt8.toNat_inj.1
      show s[k].toNat = 59
      omega
     have ht : ((s[k].toNat : Int) == 59) = false := by simpa using hn59
     have ht2 : ((s[k].toNat : Int) != 59) = true := by simpa using hn59
     rw [if_pos (Or.inr (by rw [hgk]; simpa using h59))] at hfin
     have HF := Lib.hid hfin
     clear hfin hgk hgk2 HH HE HP HAV HG HS HG2 hdb HDD hc256 h59 hn59 hkM HD
     go_wp2
     go_ret2
     exact ⟨by rw [HF.out]; rfl, Below.refl _ _⟩
  ·have hlt' : ¬ (k : Int) < (s.size : Int) := by omega
   have hfin := HE.out (Or.inr (Or.inl (by rw [← HL.out]; omega)))
   rw [if_pos (Or.inr (by rw [List.getElem?_eq_none (by rw [← HL.out]; omega)]; simp))] at hfin
   have HF := Lib.hid hfin
   clear hfin HH HE HP HAV hlt
   by_cases hk0 : k = 0
   ·subst hk0
    go_wp2
    go_ret2
    exact ⟨by rw [HF.out]; rfl, Below.refl _ _⟩
   ·have hk0' : ((k : Int) == 0) = false := by
     have : ¬ (k : Int) = 0 := by omega
     simpa using this
    clear hk0
    go_wp2
    go_ret2
    exact ⟨by rw [HF.out]; rfl, Below.refl _ _⟩
end Go.Proofs.YteadfpkihhaadaaGreatDoor
namespace Go.Proofs.YteadfpkihhaadaaGreatDoor
open Go.RowKit
theorem hp_split {l p : List UInt8} (h : Lib.hasPrefix l p = true) : ∃ r, l = p ++ r := by
 unfold Lib.hasPrefix at h
 rw [List.isPrefixOf_iff_prefix] at h
 obtain ⟨r, e⟩ := h
 exact ⟨r, e.symm⟩
theorem num_bd2 (base : Int) (most : Nat) (l : List UInt8) : (En.num base most l).2 ≤ most := by
 rcases En.idx_cases l 59 with hj | ⟨j, hj⟩
 ·unfold En.num; rw [hj]; exact Nat.zero_le _
 ·rw [En.num_hit hj]
  split
  ·rename_i hk
   have := (En.okD_iff.1 hk).2.1
   have hl := En.idx_lt hj
   rw [List.length_take] at this
   simp only; omega
  ·exact Nat.zero_le _
def rnm : List (List UInt8) := [[38, 97, 109, 112, 59], [38, 108, 116, 59], [38, 103, 116, 59], [38, 113, 117, 111, 116, 59], [38, 97, 112, 111, 115, 59]]
theorem rf_name {l : List UInt8} (nm : List UInt8) (c : List UInt8) (h : Lib.hasPrefix l (38 :: (nm ++ [59])) = true) (h59 : ∀ k, k < nm.length → nm[k]? ≠ some 59) (h35 : nm.head? ≠ some 35) (hp : U8.put (En.named nm) = c) (hc : c ≠ []) : En.rf l = (c, nm.length + 2) := by
 obtain ⟨r, rfl⟩ := hp_split h
 show En.rf (38 :: ((nm ++ [59]) ++ r)) = _
 rw [En.rf_amp, List.append_assoc]
 show En.rfb (nm ++ 59 :: r) = _
 rw [En.rfb_name h59 h35 (by rw [hp]; exact hc), hp]
theorem rf_nothing {l : List UInt8} (h : ∀ j, j < 5 → Lib.hasPrefix l (rnm.getD j []) = false) (h2 : Lib.hasPrefix l [38, 35] = false) : En.rf l = ([], 0) := by
 cases l with
 | nil => rfl
 | cons a b =>
  by_cases ha : a = 38
  ·subst ha
   have k := fun j hj => h j hj
   have e : ∀ p, Lib.hasPrefix (38 :: b) (38 :: p) = Lib.hasPrefix b p := fun p => by simp [En.hp_cons]
   have k0 := k 0 (by omega); have k1 := k 1 (by omega); have k2 := k 2 (by omega); have k3 := k 3 (by omega); have k4 := k 4 (by omega)
   simp only [rnm, List.getD_cons_zero, List.getD_cons_succ, e] at k0 k1 k2 k3 k4
   rw [e] at h2
   rw [En.rf_amp]
   refine En.rfb_none ?_ k0 k1 k2 k3 k4
   intro hh
   cases b with
   | nil => cases hh
   | cons x y => simp at hh; subst hh; simp [En.hp_cons, En.hp_nil] at h2
  ·exact En.rf_no (by simpa using ha)
theorem names_cell (w : World) (j : Nat) (hj : j < 5) : (w.alloc (.cells #[.string ⟨#[38, 97, 109, 112, 59]⟩, .string ⟨#[38, 108, 116, 59]⟩, .string ⟨#[38, 103, 116, 59]⟩, .string ⟨#[38, 113, 117, 111, 116, 59]⟩, .string ⟨#[38, 97, 112, 111, 115, 59]⟩] 9)).cell? ⟨w.heap.size, j, none⟩ = some (.string ⟨(rnm.getD j []).toArray⟩) := by
 have h := Lib.cell_of_heap (heap_alloc_new w (.cells #[.string ⟨#[38, 97, 109, 112, 59]⟩, .string ⟨#[38, 108, 116, 59]⟩, .string ⟨#[38, 103, 116, 59]⟩, .string ⟨#[38, 113, 117, 111, 116, 59]⟩, .string ⟨#[38, 97, 112, 111, 115, 59]⟩] 9)) j
 rw [h]
 match j, hj with
 | 0, _ => rfl
 | 1, _ => rfl
 | 2, _ => rfl
 | 3, _ => rfl
 | 4, _ => rfl
set_option maxHeartbeats 4000000 in
set_option maxRecDepth 100000 in
theorem rreference_any (s : ByteArray) (hs : s.size ≤ maxLen) (w : World) :
  Calls Tryz.prog 83 #[.string s] w fun e w' => e = .returned (.tuple #[.string ⟨(En.rf s.data.toList).1.toArray⟩, .int .i64 (En.rf s.data.toList).2]) ∧ Below w.heap.size w w' := by
 obtain ⟨R, hR⟩ : ∃ R, R = En.rf s.data.toList := ⟨_, rfl⟩
 rw [← hR]
 have HR := Lib.hid hR
 clear hR
 have HL := Lib.hid (Lib.size_eq s)
 have HB := Lib.hid (begins3 s)
 have HN16 := Lib.hid rnumber16
 have HN10 := Lib.hid rnumber10
 have c0 := names_cell w 0 (by omega)
 have c1 := names_cell w 1 (by omega)
 have c2 := names_cell w 2 (by omega)
 have c3 := names_cell w 3 (by omega)
 have c4 := names_cell w 4 (by omega)
 simp only [rnm, List.getD_cons_zero, List.getD_cons_succ] at c0 c1 c2 c3 c4
 have HW := Lib.hid ((Below.refl w.heap.size w).alloc (Nat.le_refl _) (.cells #[.string ⟨#[38, 97, 109, 112, 59]⟩, .string ⟨#[38, 108, 116, 59]⟩, .string ⟨#[38, 103, 116, 59]⟩, .string ⟨#[38, 113, 117, 111, 116, 59]⟩, .string ⟨#[38, 97, 112, 111, 115, 59]⟩] 9))
 have HS := Lib.hid hs
 unfold maxLen at hs
 go_enter Tryz.func83, Tryz.ntmps83
 go_wp2
 go_loop [5] (fun vi => ∃ k : Nat, vi = .int .i64 k ∧ k ≤ 5 ∧ Hid (∀ j, j < k → Lib.hasPrefix s.data.toList (rnm.getD j []) = false)) (fun vi => 5 - (intOf vi).toNat)
 case atStart => exact ⟨0, rfl, Nat.zero_le _, Lib.hid (fun j hj => by omega)⟩
 case round =>
  obtain ⟨k, rfl, hk, HH⟩ := hrel
  rcases (by omega : k = 0 ∨ k = 1 ∨ k = 2 ∨ k = 3 ∨ k = 4 ∨ k = 5) with rfl | rfl | rfl | rfl | rfl | rfl
  ·have HB1 := Lib.hid (HB.out ⟨#[38,97,109,112,59]⟩)
   cases hp : Lib.hasPrefix s.data.toList (ByteArray.mk #[38,97,109,112,59]).data.toList with
   | true =>
    rw [hp] at HB1
    have hfin := HR.out.trans (rf_name [97,109,112] [38] hp (by decide) (by decide) (by decide) (by decide))
    have HF := Lib.hid hfin
    clear hfin hp HH
    go_wp2_with (go_at_call 121; refine (HB1.out _).mono ?_; rintro e w' ⟨rfl, rfl⟩)
    go_quiet (fail)
    go_wp2
    go_ret2
    exact ⟨by rw [HF.out]; rfl, below_drewN HW.out _⟩
   | false =>
    rw [hp] at HB1
    have HN : Hid (∀ j, j < 1 → Lib.hasPrefix s.data.toList (rnm.getD j []) = false) := Lib.hid (fun j hj => by
     by_cases hjk : j < 0
     ·exact HH.out j hjk
     ·obtain rfl : j = 0 := by omega
      exact hp)
    clear hp HH
    go_wp2_with (go_at_call 121; refine (HB1.out _).mono ?_; rintro e w' ⟨rfl, rfl⟩)
    go_round
    case rel => exact ⟨1, by go_num, by omega, HN⟩
    case measure => simp [intOf]
  ·have HB1 := Lib.hid (HB.out ⟨#[38,108,116,59]⟩)
   cases hp : Lib.hasPrefix s.data.toList (ByteArray.mk #[38,108,116,59]).data.toList with
   | true =>
    rw [hp] at HB1
    have hfin := HR.out.trans (rf_name [108,116] [60] hp (by decide) (by decide) (by decide) (by decide))
    have HF := Lib.hid hfin
    clear hfin hp HH
    go_wp2_with (go_at_call 121; refine (HB1.out _).mono ?_; rintro e w' ⟨rfl, rfl⟩)
    go_quiet (fail)
    go_wp2
    go_ret2
    exact ⟨by rw [HF.out]; rfl, below_drewN HW.out _⟩
   | false =>
    rw [hp] at HB1
    have HN : Hid (∀ j, j < 2 → Lib.hasPrefix s.data.toList (rnm.getD j []) = false) := Lib.hid (fun j hj => by
     by_cases hjk : j < 1
     ·exact HH.out j hjk
     ·obtain rfl : j = 1 := by omega
      exact hp)
    clear hp HH
    go_wp2_with (go_at_call 121; refine (HB1.out _).mono ?_; rintro e w' ⟨rfl, rfl⟩)
    go_round
    case rel => exact ⟨2, by go_num, by omega, HN⟩
    case measure => simp [intOf]
  ·have HB1 := Lib.hid (HB.out ⟨#[38,103,116,59]⟩)
   cases hp : Lib.hasPrefix s.data.toList (ByteArray.mk #[38,103,116,59]).data.toList with
   | true =>
    rw [hp] at HB1
    have hfin := HR.out.trans (rf_name [103,116] [62] hp (by decide) (by decide) (by decide) (by decide))
    have HF := Lib.hid hfin
    clear hfin hp HH
    go_wp2_with (go_at_call 121; refine (HB1.out _).mono ?_; rintro e w' ⟨rfl, rfl⟩)
    go_quiet (fail)
    go_wp2
    go_ret2
    exact ⟨by rw [HF.out]; rfl, below_drewN HW.out _⟩
   | false =>
    rw [hp] at HB1
    have HN : Hid (∀ j, j < 3 → Lib.hasPrefix s.data.toList (rnm.getD j []) = false) := Lib.hid (fun j hj => by
     by_cases hjk : j < 2
     ·exact HH.out j hjk
     ·obtain rfl : j = 2 := by omega
      exact hp)
    clear hp HH
    go_wp2_with (go_at_call 121; refine (HB1.out _).mono ?_; rintro e w' ⟨rfl, rfl⟩)
    go_round
    case rel => exact ⟨3, by go_num, by omega, HN⟩
    case measure => simp [intOf]
  ·have HB1 := Lib.hid (HB.out ⟨#[38,113,117,111,116,59]⟩)
   cases hp : Lib.hasPrefix s.data.toList (ByteArray.mk #[38,113,117,111,116,59]).data.toList with
   | true =>
    rw [hp] at HB1
    have hfin := HR.out.trans (rf_name [113,117,111,116] [34] hp (by decide) (by decide) (by decide) (by decide))
    have HF := Lib.hid hfin
    clear hfin hp HH
    go_wp2_with (go_at_call 121; refine (HB1.out _).mono ?_; rintro e w' ⟨rfl, rfl⟩)
    go_quiet (fail)
    go_wp2
    go_ret2
    exact ⟨by rw [HF.out]; rfl, below_drewN HW.out _⟩
   | false =>
    rw [hp] at HB1
    have HN : Hid (∀ j, j < 4 → Lib.hasPrefix s.data.toList (rnm.getD j []) = false) := Lib.hid (fun j hj => by
     by_cases hjk : j < 3
     ·exact HH.out j hjk
     ·obtain rfl : j = 3 := by omega
      exact hp)
    clear hp HH
    go_wp2_with (go_at_call 121; refine (HB1.out _).mono ?_; rintro e w' ⟨rfl, rfl⟩)
    go_round
    case rel => exact ⟨4, by go_num, by omega, HN⟩
    case measure => simp [intOf]
  ·have HB1 := Lib.hid (HB.out ⟨#[38,97,112,111,115,59]⟩)
   cases hp : Lib.hasPrefix s.data.toList (ByteArray.mk #[38,97,112,111,115,59]).data.toList with
   | true =>
    rw [hp] at HB1
    have hfin := HR.out.trans (rf_name [97,112,111,115] [39] hp (by decide) (by decide) (by decide) (by decide))
    have HF := Lib.hid hfin
    clear hfin hp HH
    go_wp2_with (go_at_call 121; refine (HB1.out _).mono ?_; rintro e w' ⟨rfl, rfl⟩)
    go_quiet (fail)
    go_wp2
    go_ret2
    exact ⟨by rw [HF.out]; rfl, below_drewN HW.out _⟩
   | false =>
    rw [hp] at HB1
    have HN : Hid (∀ j, j < 5 → Lib.hasPrefix s.data.toList (rnm.getD j []) = false) := Lib.hid (fun j hj => by
     by_cases hjk : j < 4
     ·exact HH.out j hjk
     ·obtain rfl : j = 4 := by omega
      exact hp)
    clear hp HH
    go_wp2_with (go_at_call 121; refine (HB1.out _).mono ?_; rintro e w' ⟨rfl, rfl⟩)
    go_round
    case rel => exact ⟨5, by go_num, by omega, HN⟩
    case measure => simp [intOf]
  ·have HBx := Lib.hid (HB.out ⟨#[38, 35, 120]⟩)
   cases hp : Lib.hasPrefix s.data.toList (ByteArray.mk #[38, 35, 120]).data.toList with
   | true =>
    rw [hp] at HBx
    obtain ⟨r, hr⟩ := hp_split hp
    have hlen : 3 ≤ s.size := by rw [Lib.size_eq, hr]; simp
    have hlen' : (3 : Int) ≤ (s.size : Int) := by omega
    have HX := Lib.hid (HN16.out (s.extract 3 s.size) (by have := extract_size s 3 s.size; have := HS.out; omega))
    have hd : s.data.toList.drop 3 = r := by rw [hr]; rfl
    rw [Lib.extract_to_end, hd] at HX
    have hfin := HR.out
    rw [hr] at hfin
    rw [show (ByteArray.mk #[38, 35, 120]).data.toList ++ r = 38 :: 35 :: 120 :: r from rfl, En.rf_amp, En.rfb_hex] at hfin
    have hkb := num_bd2 16 6 r
    generalize En.num 16 6 r = d at *
    obtain ⟨c, k⟩ := d
    simp only at HX hfin hkb
    by_cases hc : c = []
    ·rw [if_pos hc] at hfin
     subst hc
     have HF := Lib.hid hfin
     clear hfin hp HH hr hd
     go_wp2_with fail
     refine (HBx.out _).mono ?_
     rintro e w1 ⟨rfl, rfl⟩
     go_wp2_with fail
     refine (HX.out _).mono ?_
     rintro e w1 ⟨rfl, b1⟩
     go_wp2
     go_ret2
     exact ⟨by rw [HF.out]; rfl, HW.out.trans (b1.mono HW.out.size)⟩
    ·rw [if_neg hc] at hfin
     obtain ⟨P, hP⟩ : ∃ P : ByteArray, P = ⟨c.toArray⟩ := ⟨_, rfl⟩
     rw [← hP] at HX
     have hne : P.toList.isEmpty = false := by
      rw [Lib.toList_data, hP, data_mk]
      cases e : c with
      | nil => exact absurd e hc
      | cons _ _ => rfl
     have HP := Lib.hid hP
     have HF := Lib.hid hfin
     clear hfin hp HH hr hd hP hc
     go_wp2_with fail
     refine (HBx.out _).mono ?_
     rintro e w1 ⟨rfl, rfl⟩
     go_wp2_with fail
     refine (HX.out _).mono ?_
     rintro e w1 ⟨rfl, b1⟩
     go_wp2
     go_ret2
     have e : (3 + (k : Int) + 1) = ((k + 4 : Nat) : Int) := by omega
     exact ⟨by rw [HF.out]; simp only; rw [← HP.out, ← e]; rfl, HW.out.trans (b1.mono HW.out.size)⟩
   | false =>
    rw [hp] at HBx
    have HBd := Lib.hid (HB.out ⟨#[38, 35]⟩)
    cases hp2 : Lib.hasPrefix s.data.toList (ByteArray.mk #[38, 35]).data.toList with
    | true =>
     rw [hp2] at HBd
     obtain ⟨r, hr⟩ := hp_split hp2
     have hlen : 2 ≤ s.size := by rw [Lib.size_eq, hr]; simp
     have hlen' : (2 : Int) ≤ (s.size : Int) := by omega
     have HX := Lib.hid (HN10.out (s.extract 2 s.size) (by have := extract_size s 2 s.size; have := HS.out; omega))
     have hd : s.data.toList.drop 2 = r := by rw [hr]; rfl
     rw [Lib.extract_to_end, hd] at HX
     have h120 : r.head? ≠ some 120 := by
      intro e
      cases r with
      | nil => cases e
      | cons x y =>
       simp at e; subst e
       rw [hr] at hp
       exact absurd hp (by simp [En.hp_cons, En.hp_nil])
     have hfin := HR.out
     rw [hr] at hfin
     rw [show (ByteArray.mk #[38, 35]).data.toList ++ r = 38 :: 35 :: r from rfl, En.rf_amp, En.rfb_dec r h120] at hfin
     have hkb := num_bd2 10 7 r
     generalize En.num 10 7 r = d at *
     obtain ⟨c, k⟩ := d
     simp only at HX hfin hkb
     by_cases hc : c = []
     ·rw [if_pos hc] at hfin
      subst hc
      have HF := Lib.hid hfin
      clear hfin hp hp2 HH hr hd h120
      go_wp2_with fail
      refine (HBx.out _).mono ?_
      rintro e w1 ⟨rfl, rfl⟩
      go_wp2_with fail
      refine (HBd.out _).mono ?_
      rintro e w1 ⟨rfl, rfl⟩
      go_wp2_with fail
      refine (HX.out _).mono ?_
      rintro e w1 ⟨rfl, b1⟩
      go_wp2
      go_ret2
      exact ⟨by rw [HF.out]; rfl, HW.out.trans (b1.mono HW.out.size)⟩
     ·rw [if_neg hc] at hfin
      obtain ⟨P, hP⟩ : ∃ P : ByteArray, P = ⟨c.toArray⟩ := ⟨_, rfl⟩
      rw [← hP] at HX
      have hne : P.toList.isEmpty = false := by
       rw [Lib.toList_data, hP, data_mk]
       cases e : c with
       | nil => exact absurd e hc
       | cons _ _ => rfl
      have HP := Lib.hid hP
      have HF := Lib.hid hfin
      clear hfin hp hp2 HH hr hd hP hc h120
      go_wp2_with fail
      refine (HBx.out _).mono ?_
      rintro e w1 ⟨rfl, rfl⟩
      go_wp2_with fail
      refine (HBd.out _).mono ?_
      rintro e w1 ⟨rfl, rfl⟩
      go_wp2_with fail
      refine (HX.out _).mono ?_
      rintro e w1 ⟨rfl, b1⟩
      go_wp2
      go_ret2
      have e : (2 + (k : Int) + 1) = ((k + 3 : Nat) : Int) := by omega
      exact ⟨by rw [HF.out]; simp only; rw [← HP.out, ← e]; rfl, HW.out.trans (b1.mono HW.out.size)⟩
    | false =>
     rw [hp2] at HBd
     have HF := Lib.hid (HR.out.trans (rf_nothing HH.out hp2))
     clear hp hp2 HH
     go_wp2_with fail
     refine (HBx.out _).mono ?_
     rintro e w1 ⟨rfl, rfl⟩
     go_wp2_with fail
     refine (HBd.out _).mono ?_
     rintro e w1 ⟨rfl, rfl⟩
     go_wp2
     go_ret2
     exact ⟨by rw [HF.out]; rfl, HW.out⟩
end Go.Proofs.YteadfpkihhaadaaGreatDoor
namespace Go.Proofs.YteadfpkihhaadaaGreatDoor
open Go.RowKit
theorem ba_append (a b : ByteArray) : (a ++ b).data.toList = a.data.toList ++ b.data.toList := by
 rw [ByteArray.data_append, Array.toList_append]
theorem size_append (a b : ByteArray) : (a ++ b).size = a.size + b.size := by
 rw [Lib.size_eq, ba_append, List.length_append, ← Lib.size_eq, ← Lib.size_eq]
theorem rf_zero_of {l : List UInt8} (h : l.head? ≠ some 38) : (En.rf l).2 = 0 := by rw [En.rf_no h]
theorem dF_of_rf {l : List UInt8} (h : (En.rf l).2 ≠ 0) : En.dF l = ((En.rf l).1, (En.rf l).2, 0) := by
 by_cases ha : l.head? = some 38
 ·rw [En.dF_amp ha, if_neg h]
 ·exact absurd (rf_zero_of ha) h
set_option maxHeartbeats 4000000 in
set_option maxRecDepth 100000 in
theorem rdecode_any (s : ByteArray) (hs : s.size ≤ 1000000000) (w : World) :
  Calls Tryz.prog 47 #[.string s] w fun e w' => e = .returned (tup3 (En.rep En.dF s.data.toList)) ∧ Below w.heap.size w w' := by
 have HL := Lib.hid (Lib.size_eq s)
 obtain ⟨R, hR⟩ : ∃ R, R = En.rep En.dF s.data.toList := ⟨_, rfl⟩
 rw [← hR]
 have HR : Hid (R = En.goes En.dF s.size s.data.toList [] 0) := Lib.hid (by rw [hR, HL.out]; rfl)
 clear hR
 have HRF := Lib.hid rreference_any
 have HNX := Lib.hid rnext_any
 unfold tup3
 go_enter Tryz.func47, Tryz.ntmps47
 go_wp2
 go_loopw [5, 6] (fun vo v wr => ∃ (p : Nat) (o : ByteArray), v = .int .i64 p ∧ vo = .string o ∧ p ≤ s.size ∧ o.size ≤ 6 * p ∧ Below w.heap.size w wr ∧ Hid (R = En.goes En.dF s.size (s.data.toList.drop p) o.data.toList p)) (fun _ v _ => s.size - (intOf v).toNat)
 case atStart => exact ⟨0, ⟨#[]⟩, rfl, rfl, Nat.zero_le _, Nat.zero_le _, Below.refl _ _, HR⟩
 case round =>
  obtain ⟨p, o, rfl, rfl, hp, hos, hbw, HH⟩ := hrel
  by_cases hlt : p < s.size
  ·have hlt' : (p : Int) < (s.size : Int) := by omega
   have hpn : (p : Int) ≤ (s.size : Int) := by omega
   have hne : s.data.toList.drop p ≠ [] := by intro e; have := congrArg List.length e; have := HL.out; simp at *; omega
   have hts : (s.extract p s.size).size ≤ maxLen := by have := extract_size s p s.size; unfold maxLen; omega
   have HX := Lib.hid (fun w0 => HRF.out (s.extract p s.size) hts w0)
   have HY := Lib.hid (fun w0 => HNX.out (s.extract p s.size) w0 hts)
   rw [Lib.extract_to_end] at HX HY
   have hfl : (s.data.toList.drop p).length ≤ s.size := by rw [List.length_drop, ← HL.out]; omega
   have hhd : (s.data.toList.drop p).head? = some s[p] := by
    rw [List.head?_eq_getElem?, List.getElem?_drop, Nat.add_zero, Lib.data_getElem? s p hlt]
   by_cases h0 : (En.rf (s.data.toList.drop p)).2 = 0
   ·by_cases ha : s[p] = 38
    ·have hz : (En.dF (s.data.toList.drop p)) = ([], 0, 30) := by rw [En.dF_amp (by rw [hhd, ha]), if_pos h0]
     have hg := En.goes_bad (F := En.dF) (out := o.data.toList) (at_ := p) hfl hne (by rw [hz]; decide)
     rw [hz] at hg
     have HG := Lib.hid (HH.out.trans hg)
     have ht : ((s[p].toNat : Int) == 38) = true := by rw [ha]; rfl
     generalize En.rf (s.data.toList.drop p) = d at *
     obtain ⟨c, n⟩ := d
     simp only at HX h0
     subst h0
     clear hg hz hhd hne hts HY HH ha hfl
     go_wp2_with fail
     refine (HX.out _).mono ?_
     rintro e w1 ⟨rfl, h1⟩
     have b1 := hbw.trans (h1.mono hbw.size)
     clear hbw h1
     go_wp2
     go_ret3
     exact ⟨by rw [HG.out]; rfl, b1⟩
    ·have hn38 : ¬ (s[p].toNat : Int) = 38 := by
      intro e; apply ha; apply UInt8.toNat_inj.1
      show s[p].toNat = 38
      omega
     have ht : ((s[p].toNat : Int) == 38) = false := by simpa using hn38
     have hh : (s.data.toList.drop p).head? ≠ some 38 := by rw [hhd]; simpa using ha
     have hz := En.dF_no hh
     by_cases hok : (U8.nx (s.data.toList.drop p)).2.2 = 0
     ·have h2 := U8.nx_ok hne hok
      have hg := En.goes_good En.moves_dF (out := o.data.toList) (at_ := p) hfl hne (by rw [hz]; exact hok)
      rw [hz] at hg
      simp only at hg
      rw [List.drop_drop] at hg
      have hk : p + (U8.nx (s.data.toList.drop p)).2.1 ≤ s.size := by have h3 := h2.2.2.2.1; rw [List.length_drop, ← HL.out] at h3; omega
      have hk1 := h2.2.2.1
      have HO : Hid ((o ++ s.extract p (p + (U8.nx (s.data.toList.drop p)).2.1)).data.toList = o.data.toList ++ (s.data.toList.drop p).take (U8.nx (s.data.toList.drop p)).2.1) := Lib.hid (by
       rw [ba_append]; congr 1
       rw [← Lib.toList_data, Lib.extract_toList]
       congr 1; omega)
      have HG := Lib.hid (HH.out.trans hg)
      rw [← HO.out] at HG
      clear HO
      generalize En.rf (s.data.toList.drop p) = d at *
      obtain ⟨c, n⟩ := d
      simp only at HX h0
      subst h0
      generalize U8.nx (s.data.toList.drop p) = q at *
      obtain ⟨ch, m, z⟩ := q
      simp only at HY hok hk hk1 HG
      subst hok
      have hm1 : (p : Int) + (m : Int) ≤ (s.size : Int) := by omega
      have hm2 : (p : Int) ≤ (p : Int) + (m : Int) := by omega
      have HO2 := Lib.hid (show (o ++ s.extract p (p + m)).size ≤ 6 * (p + m) by rw [size_append, ByteArray.size_extract]; omega)
      clear hg hz hh hhd hne hts HH ha hfl hn38 h2
      go_wp2_with fail
      refine (HX.out _).mono ?_
      rintro e w1 ⟨rfl, h1⟩
      have b1 := hbw.trans (h1.mono hbw.size)
      clear hbw h1
      go_wp2_with fail
      refine (HY.out _).mono ?_
      rintro e w2 ⟨rfl, h2⟩
      have b2 := b1.trans (h2.mono b1.size)
      clear b1 h2
      go_wp2
      refine ⟨⟨p + m, _, by go_num, rfl, hk, HO2.out, b2, HG⟩, by simp [intOf]; omega⟩
     ·have hg := En.goes_bad (F := En.dF) (out := o.data.toList) (at_ := p) hfl hne (by rw [hz]; exact hok)
      rw [hz] at hg
      simp only at hg
      have HG := Lib.hid (HH.out.trans hg)
      generalize En.rf (s.data.toList.drop p) = d at *
      obtain ⟨c, n⟩ := d
      simp only at HX h0
      subst h0
      generalize U8.nx (s.data.toList.drop p) = q at *
      obtain ⟨ch, m, z⟩ := q
      simp only at HY hok HG
      have hz1 : (z == 0) = false := by simpa using hok
      have hz2 : (z != 0) = true := by simpa using hok
      clear hg hz hh hhd hne hts HH ha hfl hn38 hok
      go_wp2_with fail
      refine (HX.out _).mono ?_
      rintro e w1 ⟨rfl, h1⟩
      have b1 := hbw.trans (h1.mono hbw.size)
      clear hbw h1
      go_wp2_with fail
      refine (HY.out _).mono ?_
      rintro e w2 ⟨rfl, h2⟩
      have b2 := b1.trans (h2.mono b1.size)
      clear b1 h2
      go_wp2
      go_ret3
      exact ⟨by rw [HG.out]; rfl, b2⟩
   ·have hz := dF_of_rf h0
    have h2 := (En.rf_bd (s.data.toList.drop p)).2 h0
    have hlg := En.long_dF hne (by rw [hz])
    rw [hz] at hlg
    have hg := En.goes_good En.moves_dF (out := o.data.toList) (at_ := p) hfl hne (by rw [hz])
    rw [hz] at hg
    simp only at hg
    rw [List.drop_drop] at hg
    have hk : p + (En.rf (s.data.toList.drop p)).2 ≤ s.size := by have h3 := h2.2; rw [List.length_drop, ← HL.out] at h3; omega
    have HG := Lib.hid (HH.out.trans hg)
    generalize En.rf (s.data.toList.drop p) = d at *
    obtain ⟨c, n⟩ := d
    simp only at HX h0 hk HG hlg
    obtain ⟨P, hP⟩ : ∃ P : ByteArray, P = ⟨c.toArray⟩ := ⟨_, rfl⟩
    have hPc : o.data.toList ++ c = (o ++ P).data.toList := by rw [ba_append, hP, data_mk]
    rw [hPc] at HG
    rw [← hP] at HX
    have hPs : P.size ≤ 6 * n := by rw [hP, size_mk]; exact hlg
    have HO2 := Lib.hid (show (o ++ P).size ≤ 6 * (p + n) by rw [size_append]; omega)
    have hn0 : (0 : Int) < (n : Int) := by omega
    clear hg hz hhd hne hts HY HH hfl h2 hP hPc h0
    go_wp2_with fail
    refine (HX.out _).mono ?_
    rintro e w1 ⟨rfl, h1⟩
    have b1 := hbw.trans (h1.mono hbw.size)
    clear hbw h1
    go_wp2
    refine ⟨⟨p + n, o ++ P, by go_num, rfl, hk, HO2.out, b1, HG⟩, by simp [intOf]; omega⟩
  ·have hlt' : ¬ (p : Int) < (s.size : Int) := by omega
   have hnil : s.data.toList.drop p = [] := List.drop_of_length_le (by have := HL.out; omega)
   have hg := HH.out
   rw [hnil, En.goes_nil] at hg
   have HG := Lib.hid hg
   clear hg hnil HH hlt
   go_wp2
   go_ret3
   exact ⟨by rw [HG.out]; simp only; rw [mk_data]; rfl, hbw⟩
/-! ### Encode -/
end Go.Proofs.YteadfpkihhaadaaGreatDoor
