/- Facts and walks for the statement. -/
import Derived.Test.YtmmdigeciphglaaGreatDoorPzB26
import Derived.Test.YtmmdigeciphglaaGreatDoorPzC00
import Derived.Lib.Bytealg
import Derived.Lib.ItoaNum
import Derived.Lib.ParseIntBCases
import Derived.WalkKit
import Derived.BigQuiet
import Derived.WalkSmall
import Derived.Lib.IndexLaws
import Derived.Deep.AppendLies
import Derived.OwnWalk
import Derived.Lib.OthersKept
import Derived.Lib.Hide
import Derived.Test.YtmmdigeciphglaaGreatDoorProg
import Derived.Laws.EntriesVeiled
import Derived.Lib.CutLaws
import Derived.Deep.RegionHeld3
import Derived.WalkLawsBesides
import Derived.Outline
import Derived.Handy
import Derived.Deep.DeepFit
import Derived.Deep.QuietTactic
import Derived.WalkSpells
import Derived.IntWalk
import Derived.Test.YtmmdigeciphglaaGreatDoorChecked
import Derived.LaidEql
import Derived.Stop.Asserts
import Derived.RowKitTokens
import Derived.Lib.SmallJoins
import Derived.Lib.LaidTab
import Derived.Deep.RegionLaw
import Derived.Deep.CutRange
import Derived.StillTailTactics
import Derived.Laws.Externs
import Derived.Lib.FrozenHead2
import Derived.Lib.UnsafeStr
import Derived.Deep.RegionWith
import Derived.Deep.DeepMust
import Derived.Test.YtmmdigeciphglaaGreatDoorPzC02
import Derived.Test.YtmmdigeciphglaaGreatDoorPzC01
namespace Go.Proofs.YtmmdigeciphglaaGreatDoor
open Go.RowKit Ex
set_option maxHeartbeats 8000000 in
set_option maxRecDepth 100000 in
theorem racheck_any (w : World) (A : Option Addr) (c : Nat) (ps : List (Ac.St × Value)) (hl : ps.length ≤ c) (hc : c ≤ maxLen) (h : StR w w.heap.size A ps) (hf : FitAc ps) :
    Calls Tryz.prog 24 #[.slice A ps.length c] w (CkP (ps.map (·.1)) w) := by
  have H := Lib.hid h
  have HF := Lib.hid hf
  have HOB := Lib.hid (show Ac.okB (ps.map (·.1)) ↔ ps.length ≤ 512 ∧ ∀ p ∈ ps, Ac.okS p.1 from by
    unfold Ac.okB
    rw [List.length_map]
    exact ⟨fun q => ⟨q.1, fun p hp => q.2 _ (List.mem_map_of_mem hp)⟩, fun q => ⟨q.1, fun s hs => by obtain ⟨p, hp, rfl⟩ := List.mem_map.1 hs; exact q.2 p hp⟩⟩)
  have hlI : (ps.length : Int) ≤ (c : Int) := by omega
  have hcI : (c : Int) ≤ 9223372036854775807 := by unfold maxLen at hc; omega
  obtain ⟨n, hn⟩ : ∃ n, n = ps.length := ⟨_, rfl⟩
  have HN := Lib.hid hn
  rw [← hn] at hlI HOB ⊢
  clear h hf hl hc hn
  by_cases h5 : n ≤ 512
  · have h5' : ¬ ((n : Int) > 512) := by omega
    have H5 := Lib.hid h5
    clear h5
    go_enter Tryz.func24, Tryz.ntmps24
    go_wp2
    go_loopw [3] (fun i wr => ∃ k : Nat, i = .int .i64 k ∧ k ≤ n ∧ Hid (Below w.heap.size w wr ∧ ∀ p ∈ ps.take k, Ac.okS p.1)) (fun i _ => n - (intOf i).toNat)
    case atStart => exact ⟨0, rfl, Nat.zero_le _, Lib.hid ⟨Below.refl _ _, fun p hp => by cases hp⟩⟩
    case round =>
      obtain ⟨k, rfl, hk, HI⟩ := hrel
      by_cases hlt : k < n
      · have hlt' : (k : Int) < (n : Int) := by omega
        have hkl : k < ps.length := by have := HN.out; omega
        obtain ⟨g, o, hA, hg, c0, c1, c2⟩ := (H.out.below HI.out.1).cells k hkl
        subst hA
        obtain ⟨Ax, cx, hsx, hcx, hnd⟩ := H.out.nds _ (List.getElem_mem hkl)
        have hfa := HF.out _ (List.getElem_mem hkl)
        rw [hsx] at c2
        have HNA := Lib.hid (show ¬ Ac.okS ps[k].1 → ¬ Ac.okB (ps.map (·.1)) from fun h q => h ((HOB.out.1 q).2 _ (List.getElem_mem hkl)))
        have HST := Lib.hid (show Ac.okS ps[k].1 → ∀ p ∈ ps.take (k + 1), Ac.okS p.1 from fun h p hp => by
          rw [List.take_succ_eq_append_getElem hkl] at hp
          rcases List.mem_append.1 hp with hp | hp
          · exact HI.out.2 p hp
          · rw [List.mem_singleton.1 hp]; exact h)
        have HCH := Lib.hid (fun w' (hb : Below w.heap.size w w') => rCheck_any Ax cx ps[k].1.x hcx ⟨by have := hfa.1.1; omega, hfa.1.2⟩ w' ((hnd.below hb).more hb.size))
        have hnl := hfa.2
        clear hsx hcx hnd hfa
        generalize ps[k] = a at *
        obtain ⟨⟨kk, nm, xs⟩, av⟩ := a
        simp only at c0 c1 c2 HCH hnl HNA HST
        obtain ⟨N, hN⟩ : ∃ N : ByteArray, N = ⟨nm.toArray⟩ := ⟨_, rfl⟩
        rw [← hN] at c1
        obtain ⟨W5, hW5⟩ : ∃ W5, W5 = wr.alloc (.cells #[.int .u8 kk, .string N, .slice Ax xs.length cx] 91) := ⟨_, rfl⟩
        have hb5 : Below wr.heap.size wr W5 := by rw [hW5]; exact (Below.refl _ _).alloc (Nat.le_refl _) _
        have k5 : IsBlk W5 wr.heap.size 91 #[.int .u8 kk, .string N, .slice Ax xs.length cx] := by rw [hW5]; exact IsBlk.new _ _ _
        have HI5 := Lib.hid (HI.out.1.trans (hb5.mono HI.out.1.size))
        have HIS := Lib.hid (ris_any N W5 (by rw [hN]; show nm.toArray.size ≤ _; simp; omega))
        rw [show N.data.toList = nm by rw [hN]] at HIS
        obtain ⟨z, hz⟩ : ∃ z, z = Lx.is nm := ⟨_, rfl⟩
        rw [← hz] at HIS
        have HZ := Lib.hid hz
        obtain ⟨ch, hch⟩ : ∃ ch, ch = chk xs := ⟨_, rfl⟩
        have HCC := Lib.hid hch
        rw [← hch] at HCH
        have K5 := Lib.hid k5
        have z0 : W5.cell? ⟨wr.heap.size, 0, none⟩ = some (.int .u8 kk) := k5.at_ 0
        have z1 : W5.cell? ⟨wr.heap.size, 1, none⟩ = some (.string N) := k5.at_ 1
        have z2 : W5.cell? ⟨wr.heap.size, 2, none⟩ = some (.slice Ax xs.length cx) := k5.at_ 2
        have HW5 := Lib.hid hW5
        rw [hW5] at z0 z1 z2
        clear hN hW5 hb5 k5 hz hch hnl hlt hkl HI
        by_cases hk1 : kk = 1
        · have e1 : (kk != 1) = false := by rw [hk1]; rfl
          have e3 : (kk == 1) = true := by rw [hk1]; rfl
          have HKK := Lib.hid (show kk = 1 ∨ kk = 2 from Or.inl hk1)
          have HK2 := Lib.hid (show kk ≠ 2 by omega)
          clear hk1
          by_cases hz : z = 2
          · have hzb : (z != 2) = false := by rw [hz]; rfl
            have HZ2 := Lib.hid (show Lx.is nm = 2 from HZ.out.symm.trans hz)
            clear hz
            go_wp2_with fail
            rw [← HW5.out]
            refine HIS.out.mono ?_
            rintro e w6 ⟨rfl, hb6⟩
            have HI6 := Lib.hid (HI5.out.trans (hb6.mono HI5.out.size))
            have k6 := K5.out.below hb6 K5.out.lt
            have v0 : w6.cell? ⟨wr.heap.size, 0, none⟩ = some (.int .u8 kk) := k6.at_ 0
            have v2 : w6.cell? ⟨wr.heap.size, 2, none⟩ = some (.slice Ax xs.length cx) := k6.at_ 2
            have HC6 := Lib.hid (HCH.out w6 HI6.out)
            clear hb6 k6 z0 z1 z2 c0 c1 c2
            go_wp2_with fail
            refine HC6.out.mono ?_
            rintro e w7 ⟨rfl, hb7⟩
            have HI7 := Lib.hid (HI6.out.trans (hb7.mono HI6.out.size))
            clear hb7 v0 v2
            by_cases hch : ch = 0
            · have hcb : (ch != 0) = false := by rw [hch]; rfl
              have HOK := Lib.hid (HST.out ⟨HKK.out, HZ2.out, Or.inr (HCC.out.symm.trans hch)⟩)
              clear hch
              go_wp2
              go_roundw
              case rel => exact ⟨k + 1, by go_num, by omega, Lib.hid ⟨HI7.out, HOK.out⟩⟩
              case measure => simp [intOf]; omega
            · have hcb : (ch != 0) = true := by simpa using hch
              have HNO := Lib.hid (HNA.out (show ¬ Ac.okS ⟨kk, nm, xs⟩ from (fun h => h.2.2.elim (fun q => HK2.out q.1) (fun q => hch (HCC.out.trans q)))))
              clear hch
              go_wp2
              go_ret
              exact ⟨Or.inr ⟨rfl, HNO.out⟩, HI7.out⟩
          · skip
            have hzb : (z != 2) = true := by simpa using hz
            have HNO := Lib.hid (HNA.out (show ¬ Ac.okS ⟨kk, nm, xs⟩ from (fun h => hz (HZ.out.trans h.2.1))))
            clear hz
            go_wp2_with fail
            rw [← HW5.out]
            refine HIS.out.mono ?_
            rintro e w6 ⟨rfl, hb6⟩
            have HI6 := Lib.hid (HI5.out.trans (hb6.mono HI5.out.size))
            have k6 := K5.out.below hb6 K5.out.lt
            have v0 : w6.cell? ⟨wr.heap.size, 0, none⟩ = some (.int .u8 kk) := k6.at_ 0
            have v2 : w6.cell? ⟨wr.heap.size, 2, none⟩ = some (.slice Ax xs.length cx) := k6.at_ 2
            have HC6 := Lib.hid (HCH.out w6 HI6.out)
            clear hb6 k6 z0 z1 z2 c0 c1 c2
            go_wp2
            go_ret
            exact ⟨Or.inr ⟨rfl, HNO.out⟩, HI6.out⟩
        · have e1 : (kk != 1) = true := by simpa using hk1
          have e3 : (kk == 1) = false := beq_eq_false_iff_ne.2 hk1
          by_cases hk2 : kk = 2
          · have e2 : (kk != 2) = false := by rw [hk2]; rfl
            have HKK := Lib.hid (show kk = 1 ∨ kk = 2 from Or.inr hk2)
            have HK2 := Lib.hid hk2
            clear hk1 hk2
            by_cases hz : z = 2
            · have hzb : (z != 2) = false := by rw [hz]; rfl
              have HZ2 := Lib.hid (show Lx.is nm = 2 from HZ.out.symm.trans hz)
              clear hz
              by_cases hx : xs = []
              · have HX1 := Lib.hid (show xs.length = 0 by rw [hx]; rfl)
                have HOK := Lib.hid (HST.out ⟨HKK.out, HZ2.out, Or.inl ⟨HK2.out, hx⟩⟩)
                clear hx
                go_wp2_with fail
                rw [← HW5.out]
                refine HIS.out.mono ?_
                rintro e w6 ⟨rfl, hb6⟩
                have HI6 := Lib.hid (HI5.out.trans (hb6.mono HI5.out.size))
                have k6 := K5.out.below hb6 K5.out.lt
                have v0 : w6.cell? ⟨wr.heap.size, 0, none⟩ = some (.int .u8 kk) := k6.at_ 0
                have v2 : w6.cell? ⟨wr.heap.size, 2, none⟩ = some (.slice Ax xs.length cx) := k6.at_ 2
                have HC6 := Lib.hid (HCH.out w6 HI6.out)
                clear hb6 k6 z0 z1 z2 c0 c1 c2
                rw [HX1.out] at v2
                go_wp2
                go_roundw
                case rel => exact ⟨k + 1, by go_num, by omega, Lib.hid ⟨HI6.out, HOK.out⟩⟩
                case measure => simp [intOf]; omega
              · have hx1 : 0 < xs.length := by
                  rcases Nat.eq_zero_or_pos xs.length with q | q
                  · exact absurd (List.length_eq_zero_iff.1 q) hx
                  · exact q
                have HX1 := Lib.hid hx1
                have HXN := Lib.hid hx
                clear hx hx1
                go_wp2_with fail
                rw [← HW5.out]
                refine HIS.out.mono ?_
                rintro e w6 ⟨rfl, hb6⟩
                have HI6 := Lib.hid (HI5.out.trans (hb6.mono HI5.out.size))
                have k6 := K5.out.below hb6 K5.out.lt
                have v0 : w6.cell? ⟨wr.heap.size, 0, none⟩ = some (.int .u8 kk) := k6.at_ 0
                have v2 : w6.cell? ⟨wr.heap.size, 2, none⟩ = some (.slice Ax xs.length cx) := k6.at_ 2
                have HC6 := Lib.hid (HCH.out w6 HI6.out)
                clear hb6 k6 z0 z1 z2 c0 c1 c2
                have hx0 : (xs.length : Int) > 0 := by have := HX1.out; omega
                have hx1 := HX1.out
                go_wp2_with fail
                refine HC6.out.mono ?_
                rintro e w7 ⟨rfl, hb7⟩
                have HI7 := Lib.hid (HI6.out.trans (hb7.mono HI6.out.size))
                clear hb7 v0 v2
                by_cases hch : ch = 0
                · have hcb : (ch != 0) = false := by rw [hch]; rfl
                  have HOK := Lib.hid (HST.out ⟨HKK.out, HZ2.out, Or.inr (HCC.out.symm.trans hch)⟩)
                  clear hch
                  go_wp2
                  go_roundw
                  case rel => exact ⟨k + 1, by go_num, by omega, Lib.hid ⟨HI7.out, HOK.out⟩⟩
                  case measure => simp [intOf]; omega
                · have hcb : (ch != 0) = true := by simpa using hch
                  have HNO := Lib.hid (HNA.out (show ¬ Ac.okS ⟨kk, nm, xs⟩ from (fun h => h.2.2.elim (fun q => HXN.out q.2) (fun q => hch (HCC.out.trans q)))))
                  clear hch
                  go_wp2
                  go_ret
                  exact ⟨Or.inr ⟨rfl, HNO.out⟩, HI7.out⟩
            · skip
              have hzb : (z != 2) = true := by simpa using hz
              have HNO := Lib.hid (HNA.out (show ¬ Ac.okS ⟨kk, nm, xs⟩ from (fun h => hz (HZ.out.trans h.2.1))))
              clear hz
              go_wp2_with fail
              rw [← HW5.out]
              refine HIS.out.mono ?_
              rintro e w6 ⟨rfl, hb6⟩
              have HI6 := Lib.hid (HI5.out.trans (hb6.mono HI5.out.size))
              have k6 := K5.out.below hb6 K5.out.lt
              have v0 : w6.cell? ⟨wr.heap.size, 0, none⟩ = some (.int .u8 kk) := k6.at_ 0
              have v2 : w6.cell? ⟨wr.heap.size, 2, none⟩ = some (.slice Ax xs.length cx) := k6.at_ 2
              have HC6 := Lib.hid (HCH.out w6 HI6.out)
              clear hb6 k6 z0 z1 z2 c0 c1 c2
              go_wp2
              go_ret
              exact ⟨Or.inr ⟨rfl, HNO.out⟩, HI6.out⟩
          · have e2 : (kk != 2) = true := by simpa using hk2
            have HNO := Lib.hid (HNA.out (show ¬ Ac.okS ⟨kk, nm, xs⟩ from (fun h => h.1.elim hk1 hk2)))
            clear hk1 hk2
            go_wp2
            go_ret
            rw [← HW5.out]
            exact ⟨Or.inr ⟨rfl, HNO.out⟩, HI5.out⟩
      · obtain rfl : k = n := by omega
        have hlt' : ¬ ((k : Nat) : Int) < (k : Int) := by omega
        have HYE := Lib.hid (show Ac.okB (ps.map (·.1)) from HOB.out.2 ⟨H5.out, by
          have q := HI.out.2
          rwa [List.take_of_length_le (by rw [← HN.out]; exact Nat.le_refl _)] at q⟩)
        go_wp2
        go_ret
        exact ⟨Or.inl ⟨rfl, HYE.out⟩, HI.out.1⟩
  · have h5' : ((n : Int) > 512) := by omega
    have HNO := Lib.hid (show ¬ Ac.okB (ps.map (·.1)) from fun q => h5 (HOB.out.1 q).1)
    clear h5
    go_enter Tryz.func24, Tryz.ntmps24
    go_wp2
    go_ret
    exact ⟨Or.inr ⟨rfl, HNO.out⟩, Below.refl _ _⟩
end Go.Proofs.YtmmdigeciphglaaGreatDoor
namespace Go.Proofs.YtmmdigeciphglaaGreatDoor
open Go.RowKit Ex
noncomputable def xtT (s : Ac.St) : List UInt8 := if s.x = [] then [] else Ex.prs (Ac.exo s.x) 0 ++ [32]
noncomputable def stTx (s : Ac.St) : List UInt8 := if s.k = 1 then s.nm ++ [32, 58, 61, 32] ++ xtT s ++ [59] else [101, 109, 105, 116, 32] ++ s.nm ++ [32, 40, 32] ++ xtT s ++ [41, 32, 59]
theorem chk_nil : chk ([] : List Nd) ≠ 0 := by decide
theorem stTx_join {s : Ac.St} (h : Ac.okS s) : Lib.join (wrt s) [32] = stTx s := by
  unfold wrt stTx xtT
  rcases h.1 with hk | hk
  · have hx : s.x ≠ [] := fun q => by
      rcases h.2.2 with ⟨h2, _⟩ | h2
      · omega
      · rw [q] at h2; exact chk_nil h2
    rw [if_neg (fun q => by have := q.1; omega), if_neg (by omega), if_pos hk, if_neg hx, join_cons _ (by simp), join_cons _ (by simp), join_cons _ (by simp), join_one]
    simp
  · by_cases hx : s.x = []
    · rw [if_pos ⟨hk, hx⟩, if_neg (by omega), if_pos hx, join_cons _ (by simp), join_cons _ (by simp), join_cons _ (by simp), join_cons _ (by simp), join_one]
      simp
    · rw [if_neg (fun q => hx q.2), if_pos hk, if_neg (by omega), if_neg hx, join_cons _ (by simp), join_cons _ (by simp), join_cons _ (by simp), join_cons _ (by simp), join_cons _ (by simp), join_one]
      simp
theorem xtT_len (s : Ac.St) : (xtT s).length ≤ (stTx s).length := by
  unfold stTx
  split <;> simp only [List.length_append] <;> omega
theorem stTx_nm (s : Ac.St) : s.nm.length ≤ (stTx s).length := by
  unfold stTx
  split <;> simp only [List.length_append] <;> omega
noncomputable def sepT (b : List Ac.St) : List UInt8 := if b = [] then [] else Ac.btx b ++ [32]
theorem btx_snoc {b : List Ac.St} {s : Ac.St} (h : ∀ t ∈ b, Ac.okS t) (hs : Ac.okS s) : Ac.btx (b ++ [s]) = sepT b ++ stTx s := by
  have hall : ∀ t ∈ b ++ [s], Ac.okS t := fun t ht => (List.mem_append.1 ht).elim (h t) (fun q => by rw [List.mem_singleton.1 q]; exact hs)
  rw [← join_all _ hall, List.flatMap_append]
  unfold sepT
  by_cases hb : b = []
  · rw [if_pos hb, hb]
    show Lib.join ([] ++ (wrt s ++ [])) [32] = _
    rw [List.append_nil, List.nil_append, stTx_join hs, List.nil_append]
  · rw [if_neg hb]
    have e1 : b.flatMap wrt ≠ [] := by
      cases b with
      | nil => exact absurd rfl hb
      | cons u r => rw [List.flatMap_cons]; intro q; exact wrt_ne u (List.append_eq_nil_iff.1 q).1
    show Lib.join (b.flatMap wrt ++ (wrt s ++ [])) [32] = _
    rw [List.append_nil, join_app e1 (wrt_ne s), join_all _ h, stTx_join hs]
    simp
theorem btx_bound {ps : List (Ac.St × Value)} (hf : FitP ps) (ho : Ac.okB (ps.map (·.1))) : (Ac.btx (ps.map (·.1))).length ≤ 70368744177664 := by
  have h1 := Ac.btx_len ho hf.okn
  have h2 := vols_le ps hf
  have h3 := ho.1
  rw [List.length_map] at h3
  omega
theorem bsz (l : List UInt8) : (⟨l.toArray⟩ : ByteArray).size = l.length := by show l.toArray.size = _; simp
structure RpnI (w : World) (b : List Ac.St) (O : ByteArray) (v : World) : Prop where
  below : Below w.heap.size w v
  eq : O.data.toList = Ac.btx b
set_option maxHeartbeats 8000000 in
set_option maxRecDepth 100000 in
theorem rprint11_any (hput : ∀ n : Nat, n ≤ 9223372036854775807 → ∀ w1, Calls Tryz.prog 110 #[.int .i64 (n : Nat)] w1 fun e w' => e = .returned (.string ⟨(Ex.dg n).toArray⟩) ∧ Below w1.heap.size w1 w')
    (w : World) (A : Option Addr) (c : Nat) (ps : List (Ac.St × Value)) (hl : ps.length ≤ c) (hc : c ≤ maxLen) (h : StR w w.heap.size A ps) (hf : FitP ps) :
    Calls Tryz.prog 20 #[.slice A ps.length c] w (PnP (ps.map (·.1)) w) := by
  have HCK := Lib.hid (racheck_any w A c ps hl hc h hf.b)
  have HST := Lib.hid h
  have HFP := Lib.hid hf
  have HPT := Lib.hid hput
  have hlI : (ps.length : Int) ≤ (c : Int) := by omega
  obtain ⟨n, hn⟩ : ∃ n, n = ps.length := ⟨_, rfl⟩
  have HN := Lib.hid hn
  rw [← hn] at HCK hlI ⊢
  clear hl hc h hf hn hput
  go_enter Tryz.func20, Tryz.ntmps20
  go_wp2_with fail
  refine HCK.out.mono ?_
  rintro e w2 ⟨hq, hb2⟩
  have B2 := Lib.hid hb2
  clear hb2 HCK
  rcases hq with ⟨rfl, hok⟩ | ⟨rfl, hno⟩
  · have HOK := Lib.hid hok
    have hn5 : n ≤ 512 := by have := hok.1; rw [List.length_map, ← HN.out] at this; exact this
    have hn5I : (n : Int) ≤ 512 := by omega
    clear hok
    go_wp2
    go_loopw [4, 5] (fun s4 s5 wr => ∃ (O : ByteArray) (k : Nat), s4 = .string O ∧ s5 = .int .i64 k ∧ k ≤ n ∧ Hid (RpnI w ((ps.take k).map (·.1)) O wr)) (fun _ s5 _ => n - (intOf s5).toNat)
    case atStart => exact ⟨⟨#[]⟩, 0, rfl, rfl, Nat.zero_le _, Lib.hid ⟨B2.out, rfl⟩⟩
    case round =>
      obtain ⟨O, k, rfl, rfl, hk, HI⟩ := hrel
      by_cases hlt : k < n
      · have hlt' : (k : Int) < (n : Int) := by omega
        have hkl : k < ps.length := by have := HN.out; omega
        obtain ⟨g, o, hA, hg, c0, c1, c2⟩ := (HST.out.below HI.out.below).cells k hkl
        obtain ⟨Ax, cx, hsx, hcx, hnd⟩ := HST.out.nds _ (List.getElem_mem hkl)
        have hfa := HFP.out _ (List.getElem_mem hkl)
        have hoks := HOK.out.2 _ (List.mem_map_of_mem (List.getElem_mem hkl))
        have hokt : Ac.okB ((ps.take (k + 1)).map (·.1)) := ⟨by rw [List.length_map, List.length_take]; omega, fun s hs => by
          obtain ⟨p, hp, rfl⟩ := List.mem_map.1 hs
          exact HOK.out.2 _ (List.mem_map_of_mem (List.mem_of_mem_take hp))⟩
        have hbt : Ac.btx ((ps.take (k + 1)).map (·.1)) = sepT ((ps.take k).map (·.1)) ++ stTx ps[k].1 := by
          rw [List.take_succ_eq_append_getElem hkl, List.map_append]
          exact btx_snoc (fun t ht => by
            obtain ⟨p, hp, rfl⟩ := List.mem_map.1 ht
            exact HOK.out.2 _ (List.mem_map_of_mem (List.mem_of_mem_take hp))) hoks
        have hbd := btx_bound (ps := ps.take (k + 1)) (fun p hp => HFP.out p (List.mem_of_mem_take hp)) hokt
        rw [hbt, List.length_append] at hbd
        have HBT := Lib.hid hbt
        have HBD := Lib.hid hbd
        have HOS := Lib.hid hoks
        have HSE := Lib.hid (show sepT ((ps.take k).map (·.1)) = if k = 0 then [] else Ac.btx ((ps.take k).map (·.1)) ++ [32] from by
          unfold sepT
          by_cases q : k = 0
          · rw [if_pos q, q]; rfl
          · rw [if_neg q, if_neg (fun e => q (by
              have h1 := congrArg List.length e
              rw [List.length_map, List.length_take] at h1
              simp only [List.length_nil] at h1
              omega))])
        have HPR := Lib.hid (fun v (hb : Below w.heap.size w v) => rPrint_any Ax ps[k].1.x cx hcx ⟨by have := hfa.1.1.1; omega, hfa.1.1.2⟩ hfa.1.1.1 hfa.1.2 HPT.out v ((hnd.below hb).more hb.size))
        subst hA
        rw [hsx] at c2
        obtain ⟨SP, hSP⟩ : ∃ l, l = sepT ((ps.take k).map (·.1)) := ⟨_, rfl⟩
        rw [← hSP] at HBT HBD HSE
        clear hsx hcx hnd hfa hoks hokt hbt hbd hSP
        generalize ps[k] = a at *
        obtain ⟨⟨kk, nm, xs⟩, av⟩ := a
        simp only at c0 c1 c2 HPR HBT HBD HOS
        obtain ⟨N, hN⟩ : ∃ N : ByteArray, N = ⟨nm.toArray⟩ := ⟨_, rfl⟩
        rw [← hN] at c1
        have HNN := Lib.hid (show N.data.toList = nm ∧ N.size = nm.length from ⟨by rw [hN], by rw [hN]; exact bsz nm⟩)
        have HG := Lib.hid hg
        have HC0 := Lib.hid (And.intro c0 (And.intro c1 c2))
        have HLT := Lib.hid hlt
        obtain ⟨T, hT⟩ : ∃ T, T = Ac.btx ((ps.take (k + 1)).map (·.1)) := ⟨_, rfl⟩
        rw [← hT] at HBT
        have HTE := Lib.hid hT
        clear hN hT hlt hkl hg
        go_upto_if 17 with fail
        go_cut [4] from 10 to 66 (fun s4 wx => ∃ O2 : ByteArray, s4 = .string O2 ∧ wx = wr ∧ Hid (O2.data.toList = SP))
        case first =>
          by_cases hk0 : k = 0
          · have HZ := Lib.hid (show O.data.toList = SP from by
              rw [HSE.out, if_pos hk0, HI.out.eq, hk0]; rfl)
            have hd : decide ((k : Int) > 0) = false := decide_eq_false (by omega)
            have hd' : ¬ (k : Int) > 0 := by omega
            clear hk0
            go_wp2
            go_meet
            exact ⟨O, rfl, rfl, HZ⟩
          · have HZ := Lib.hid (show (O ++ ⟨#[32]⟩ : ByteArray).data.toList = SP from by
              rw [HSE.out, if_neg hk0, ByteArray.data_append, Array.toList_append, HI.out.eq])
            have hd : decide (0 < k) = true := decide_eq_true (by omega)
            have hd' : 0 < k := by omega
            rw [hd]
            have hosz : O.size ≤ 70368744177664 := by
              have h1 := HSE.out
              rw [if_neg hk0] at h1
              have h2 := HBD.out
              rw [h1, List.length_append, ← HI.out.eq] at h2
              have h3 : O.size = O.data.toList.length := Lib.size_eq O
              omega
            have m1 : O.size + 1 ≤ 9223372036854775807 := by omega
            have m2 : (O.size : Int) + 1 ≤ 9223372036854775807 := by omega
            have m3 : ¬ (9223372036854775807 : Int) < (O.size : Int) + 1 := by omega
            clear hk0 hosz hd hd'
            go_wp2
            go_meet
            exact ⟨_, rfl, rfl, HZ⟩
        case rest =>
          obtain ⟨O2, rfl, hwc, HO2⟩ := hcut
          have hwc := hwc.symm
          subst hwc
          go_upto_if 26 with fail
          go_cut [6] from 10 to 66 (fun s6 wx => ∃ XS : ByteArray, s6 = .string XS ∧ Hid (XS.data.toList = xtT ⟨kk, nm, xs⟩ ∧ Below wr.heap.size wr wx))
          case first =>
            by_cases hx : xs = []
            · have HZ := Lib.hid (show (⟨#[]⟩ : ByteArray).data.toList = xtT ⟨kk, nm, xs⟩ from by unfold xtT; rw [if_pos hx])
              have hd : decide (0 < xs.length) = false := by rw [hx]; rfl
              rw [hd]
              clear hx hd
              go_wp2
              go_meet
              exact ⟨_, rfl, Lib.hid ⟨HZ.out, Below.refl _ _⟩⟩
            · have hd : decide (0 < xs.length) = true := decide_eq_true (List.length_pos_iff.2 hx)
              have HXN := Lib.hid hx
              rw [hd]
              clear hx hd
              go_wp2_with fail
              refine (HPR.out _ HI.out.below).mono ?_
              rintro e w4 ⟨t, er, hq, rfl, hb⟩
              have ht : t = Ex.prs (Ac.exo xs) 0 := by
                have hch : chk xs = 0 := by
                  rcases HOS.out.2.2 with ⟨_, q⟩ | q
                  · exact absurd q HXN.out
                  · exact q
                rcases hq with ⟨h1, _, _⟩ | ⟨_, x, _, _, h4, h5⟩
                · exact absurd hch h1
                · rw [h5, h4, Ac.exo_flat]
              have hxt : xtT ⟨kk, nm, xs⟩ = t ++ [32] := by unfold xtT; rw [if_neg HXN.out, ht]
              have htl : t.length ≤ 70368744177664 := by
                have h1 := HBD.out
                have h2 := xtT_len ⟨kk, nm, xs⟩
                rw [hxt, List.length_append] at h2
                omega
              obtain ⟨P, hP⟩ : ∃ P : ByteArray, P = ⟨t.toArray⟩ := ⟨_, rfl⟩
              rw [← hP]
              have hps : P.size ≤ 70368744177664 := by rw [hP, bsz]; exact htl
              have HZ := Lib.hid (show (P ++ ⟨#[32]⟩ : ByteArray).data.toList = xtT ⟨kk, nm, xs⟩ ∧ Below wr.heap.size wr w4 from ⟨by rw [hxt, ByteArray.data_append, Array.toList_append, hP], hb⟩)
              have m1 : P.size + 1 ≤ 9223372036854775807 := by omega
              have m2 : (P.size : Int) + 1 ≤ 9223372036854775807 := by omega
              have m3 : ¬ (9223372036854775807 : Int) < (P.size : Int) + 1 := by omega
              clear hq ht hxt htl hP hps hb
              go_wp2
              go_meet
              exact ⟨_, rfl, HZ⟩
          case rest =>
            obtain ⟨XS, rfl, HX⟩ := hcut
            have hgs : g < wr.heap.size := Nat.lt_of_lt_of_le HG.out HI.out.below.size
            have d0 := (HX.out.2.cell (p := ⟨g, o + k * 3, none⟩) hgs).trans HC0.out.1
            have d1 := (HX.out.2.cell (p := ⟨g, o + k * 3 + 1, none⟩) hgs).trans HC0.out.2.1
            have HB := Lib.hid (HI.out.below.trans (HX.out.2.mono HI.out.below.size))
            have z1 : O2.size ≤ 70368744177664 := by
              have h1 := HBD.out
              rw [Lib.size_eq, HO2.out]; omega
            have z2 : N.size ≤ 70368744177664 := by
              have h1 := HBD.out
              have h2 := stTx_nm ⟨kk, nm, xs⟩
              simp only at h2
              rw [HNN.out.2]; omega
            have z3 : XS.size ≤ 70368744177664 := by
              have h1 := HBD.out
              have h2 := xtT_len ⟨kk, nm, xs⟩
              rw [Lib.size_eq, HX.out.1]; omega
            clear hgs c0 c1 c2
            by_cases hk1 : kk = 1
            · have e3 : (kk == 1) = true := by rw [hk1]; rfl
              obtain ⟨P1, hP1⟩ : ∃ P, O2 ++ (N : ByteArray) = P := ⟨_, rfl⟩
              have mP1 : P1.size ≤ 200000000000000 := by rw [← hP1, ByteArray.size_append]; omega
              have aP1 : O2.size + N.size ≤ 9223372036854775807 := by omega
              have bP1 : (O2.size : Int) + (N.size : Int) ≤ 9223372036854775807 := by omega
              have cP1 : ¬ (9223372036854775807 : Int) < (O2.size : Int) + (N.size : Int) := by omega
              obtain ⟨P2, hP2⟩ : ∃ P, P1 ++ (⟨#[32, 58, 61, 32]⟩ : ByteArray) = P := ⟨_, rfl⟩
              have mP2 : P2.size ≤ 300000000000000 := by rw [← hP2, ByteArray.size_append]; simp only [show (⟨#[32, 58, 61, 32]⟩ : ByteArray).size = 4 from rfl]; omega
              have aP2 : P1.size + 4 ≤ 9223372036854775807 := by omega
              have bP2 : (P1.size : Int) + 4 ≤ 9223372036854775807 := by omega
              have cP2 : ¬ (9223372036854775807 : Int) < (P1.size : Int) + 4 := by omega
              obtain ⟨P3, hP3⟩ : ∃ P, P2 ++ (XS : ByteArray) = P := ⟨_, rfl⟩
              have mP3 : P3.size ≤ 400000000000000 := by rw [← hP3, ByteArray.size_append]; omega
              have aP3 : P2.size + XS.size ≤ 9223372036854775807 := by omega
              have bP3 : (P2.size : Int) + (XS.size : Int) ≤ 9223372036854775807 := by omega
              have cP3 : ¬ (9223372036854775807 : Int) < (P2.size : Int) + (XS.size : Int) := by omega
              obtain ⟨P4, hP4⟩ : ∃ P, P3 ++ (⟨#[59]⟩ : ByteArray) = P := ⟨_, rfl⟩
              have aP4 : P3.size + 1 ≤ 9223372036854775807 := by omega
              have bP4 : (P3.size : Int) + 1 ≤ 9223372036854775807 := by omega
              have cP4 : ¬ (9223372036854775807 : Int) < (P3.size : Int) + 1 := by omega
              have HE := Lib.hid (show P4.data.toList = SP ++ stTx ⟨kk, nm, xs⟩ from by
                rw [← hP4, ← hP3, ← hP2, ← hP1]
                unfold stTx
                rw [if_pos hk1]
                simp only [ByteArray.data_append, Array.toList_append, HO2.out, HNN.out.1, HX.out.1, List.append_assoc])
              clear hk1 z1 z2 z3 mP1 mP2 mP3
              go_wp2
              go_roundw
              case rel => exact ⟨P4, k + 1, rfl, by go_num, by have := HLT.out; omega, Lib.hid ⟨HB.out, by rw [HE.out, ← HBT.out, HTE.out]⟩⟩
              case measure => have := HLT.out; simp [intOf]; omega
            · have e3 : (kk == 1) = false := beq_eq_false_iff_ne.2 hk1
              obtain ⟨P1, hP1⟩ : ∃ P, O2 ++ (⟨#[101, 109, 105, 116, 32]⟩ : ByteArray) = P := ⟨_, rfl⟩
              have mP1 : P1.size ≤ 200000000000000 := by rw [← hP1, ByteArray.size_append]; simp only [show (⟨#[101, 109, 105, 116, 32]⟩ : ByteArray).size = 5 from rfl]; omega
              have aP1 : O2.size + 5 ≤ 9223372036854775807 := by omega
              have bP1 : (O2.size : Int) + 5 ≤ 9223372036854775807 := by omega
              have cP1 : ¬ (9223372036854775807 : Int) < (O2.size : Int) + 5 := by omega
              obtain ⟨P2, hP2⟩ : ∃ P, P1 ++ (N : ByteArray) = P := ⟨_, rfl⟩
              have mP2 : P2.size ≤ 300000000000000 := by rw [← hP2, ByteArray.size_append]; omega
              have aP2 : P1.size + N.size ≤ 9223372036854775807 := by omega
              have bP2 : (P1.size : Int) + (N.size : Int) ≤ 9223372036854775807 := by omega
              have cP2 : ¬ (9223372036854775807 : Int) < (P1.size : Int) + (N.size : Int) := by omega
              obtain ⟨P3, hP3⟩ : ∃ P, P2 ++ (⟨#[32, 40, 32]⟩ : ByteArray) = P := ⟨_, rfl⟩
              have mP3 : P3.size ≤ 400000000000000 := by rw [← hP3, ByteArray.size_append]; simp only [show (⟨#[32, 40, 32]⟩ : ByteArray).size = 3 from rfl]; omega
              have aP3 : P2.size + 3 ≤ 9223372036854775807 := by omega
              have bP3 : (P2.size : Int) + 3 ≤ 9223372036854775807 := by omega
              have cP3 : ¬ (9223372036854775807 : Int) < (P2.size : Int) + 3 := by omega
              obtain ⟨P4, hP4⟩ : ∃ P, P3 ++ (XS : ByteArray) = P := ⟨_, rfl⟩
              have mP4 : P4.size ≤ 500000000000000 := by rw [← hP4, ByteArray.size_append]; omega
              have aP4 : P3.size + XS.size ≤ 9223372036854775807 := by omega
              have bP4 : (P3.size : Int) + (XS.size : Int) ≤ 9223372036854775807 := by omega
              have cP4 : ¬ (9223372036854775807 : Int) < (P3.size : Int) + (XS.size : Int) := by omega
              obtain ⟨P5, hP5⟩ : ∃ P, P4 ++ (⟨#[41, 32, 59]⟩ : ByteArray) = P := ⟨_, rfl⟩
              have aP5 : P4.size + 3 ≤ 9223372036854775807 := by omega
              have bP5 : (P4.size : Int) + 3 ≤ 9223372036854775807 := by omega
              have cP5 : ¬ (9223372036854775807 : Int) < (P4.size : Int) + 3 := by omega
              have HE := Lib.hid (show P5.data.toList = SP ++ stTx ⟨kk, nm, xs⟩ from by
                rw [← hP5, ← hP4, ← hP3, ← hP2, ← hP1]
                unfold stTx
                rw [if_neg hk1]
                simp only [ByteArray.data_append, Array.toList_append, HO2.out, HNN.out.1, HX.out.1, List.append_assoc])
              clear hk1 z1 z2 z3 mP1 mP2 mP3 mP4
              go_wp2
              go_roundw
              case rel => exact ⟨P5, k + 1, rfl, by go_num, by have := HLT.out; omega, Lib.hid ⟨HB.out, by rw [HE.out, ← HBT.out, HTE.out]⟩⟩
              case measure => have := HLT.out; simp [intOf]; omega
      · obtain rfl : k = n := by omega
        have hlt' : ¬ ((k : Nat) : Int) < (k : Int) := by omega
        have HX := Lib.hid (show O = ⟨(Ac.btx (ps.map (·.1))).toArray⟩ from by
          have h1 := HI.out.eq
          rw [List.take_of_length_le (by rw [← HN.out]; exact Nat.le_refl _)] at h1
          rw [← h1])
        clear hlt
        go_wp2
        refine bodyPost_ret (v := .tuple #[.string O, .int .i64 0]) (by simp [results, Tryz.results20, go_sem]) rfl ?_
        exact ⟨Or.inl ⟨HOK.out, by rw [HX.out]⟩, HI.out.below⟩
  · have HNO := Lib.hid hno
    clear hno
    go_wp2
    refine bodyPost_ret (v := .tuple #[.string ⟨#[]⟩, .int .i64 2]) (by simp [results, Tryz.results20, go_sem]) rfl ?_
    exact ⟨Or.inr ⟨HNO.out, rfl⟩, B2.out⟩
end Go.Proofs.YtmmdigeciphglaaGreatDoor
