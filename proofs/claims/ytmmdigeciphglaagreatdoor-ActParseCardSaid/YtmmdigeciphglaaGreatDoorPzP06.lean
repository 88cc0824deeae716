/- Facts and walks for the statement. -/
import Derived.Test.YtmmdigeciphglaaGreatDoorPzB26
import Derived.Test.YtmmdigeciphglaaGreatDoorPzP05
import Derived.Test.YtmmdigeciphglaaGreatDoorPzP00
import Derived.Lib.Bytealg
import Derived.Lib.ItoaNum
import Derived.Lib.ParseIntBCases
import Derived.Test.YtmmdigeciphglaaGreatDoorProg
import Derived.Laws.EntriesVeiled
import Derived.Lib.IndexLaws
import Derived.Test.YtmmdigeciphglaaGreatDoorPzP01
import Derived.WalkKit
import Derived.WalkLawsBesides
import Derived.Outline
import Derived.Handy
import Derived.Lib.OthersKept
import Derived.Lib.Hide
import Derived.WalkSmall
import Derived.Deep.DeepFit
import Derived.Deep.QuietTactic
import Derived.BigQuiet
import Derived.WalkSpells
import Derived.IntWalk
import Derived.Lib.CutLaws
import Derived.Test.YtmmdigeciphglaaGreatDoorChecked
import Derived.LaidEql
import Derived.Stop.Asserts
import Derived.RowKitTokens
import Derived.Lib.SmallJoins
import Derived.Lib.LaidTab
import Derived.Deep.RegionLaw
import Derived.Deep.CutRange
import Derived.StillTailTactics
import Derived.Laws.Externs
import Derived.Lib.FrozenHead2
import Derived.Lib.UnsafeStr
import Derived.Deep.RegionWith
import Derived.Deep.DeepMust
import Derived.Deep.RegionHeld3
import Derived.Laws.OwnMore
namespace Go.Proofs.YtmmdigeciphglaaGreatDoor
open Go.RowKit Ex
def RpaP (X : List Ac.St × Nat × Int) (w : World) (e : Ending) (w' : World) : Prop :=
  ∃ A c qs, qs.map (·.1) = X.1 ∧ e = .returned (.tuple #[.slice A X.1.length c, .int .i64 (X.2.1 : Nat), .int .i64 X.2.2]) ∧ SrO w.heap.size w' (.slice A X.1.length c) qs ∧ Below w.heap.size w w'
structure RpaI (w2 : World) (ls : List Lx.T) (Y : Ac.Rb) (wr : World) (v : Value) (i : Nat) (qs : List (Ac.St × Value)) : Prop where
  below : Below w2.heap.size w2 wr
  row : SrO w2.heap.size wr v qs
  eq : Y = Ac.B ((kxs ls).drop i) (qs.map (·.1))
  le : i ≤ ls.length
  few : qs.length ≤ 512
def actY (ls : List Lx.T) (n : Nat) : Ac.Rb → List Ac.St × Nat × Int
  | .bad m e => ([], Ac.plc ls (ls.length - m) n, e)
  | .ok b => (b, 0, 0)
theorem act_Y {s : List UInt8} (h : (Lx.toks s).2.2 = 0) : Ac.act s = actY (Lx.toks s).1 s.length (Ac.B (kxs (Lx.toks s).1) []) := by
  unfold Ac.act
  rw [if_neg (fun q => q h)]
  cases Ac.B (kxs (Lx.toks s).1) [] <;> rfl
theorem plc_at {ls : List Lx.T} {i n : Nat} (h : i < ls.length) : Ac.plc ls (ls.length - (ls.length - i)) n = ls[i].p := by
  rw [show ls.length - (ls.length - i) = i by omega]
  unfold Ac.plc
  rw [List.getElem?_eq_getElem h]; rfl
theorem plc_end {ls : List Lx.T} {i n : Nat} (h : ls.length ≤ i) : Ac.plc ls i n = n := by
  unfold Ac.plc
  rw [List.getElem?_eq_none h]; rfl
set_option maxHeartbeats 16000000 in
set_option maxRecDepth 100000 in
theorem rparse11_any (s : ByteArray) (w : World) (hs : s.size ≤ maxLen) :
    Calls Tryz.prog 12 #[.string s] w (RpaP (Ac.act s.data.toList) w) := by
  have HTK := Lib.hid (rtoks_any s w)
  have HFEW := Lib.hid (toks_few s.data.toList)
  have HGD := Lib.hid (toks_goods s.data.toList)
  have HSZ := Lib.hid (show s.data.toList.length = s.size from (Lib.size_eq s).symm)
  obtain ⟨X, hX⟩ : ∃ X, X = Ac.act s.data.toList := ⟨_, rfl⟩
  rw [← hX]
  have HY0 := Lib.hid (fun (q : (Lx.toks s.data.toList).2.2 = 0) => hX.trans (act_Y q))
  have HE0 := Lib.hid (fun (q : (Lx.toks s.data.toList).2.2 ≠ 0) => (show X = ([], (Lx.toks s.data.toList).2.1, (Lx.toks s.data.toList).2.2) from by rw [hX]; exact if_pos q))
  generalize Lx.toks s.data.toList = L at *
  obtain ⟨ls, at_, er⟩ := L
  simp only at HY0 HE0 HTK HFEW HGD
  clear hX
  by_cases he : er = 0
  case neg =>
    have he' : (er != 0) = true := by simpa using he
    have HX := Lib.hid (HE0.out he)
    clear he HY0 HE0
    go_enter Tryz.func12, Tryz.ntmps12
    go_wp2_with fail
    refine HTK.out.mono ?_
    rintro e w2 ⟨v, _, rfl, hb2⟩
    have HB2 := Lib.hid hb2
    clear hb2
    simp only
    go_wp2
    go_ret3
    rw [HX.out]
    exact ⟨none, 0, [], rfl, rfl, SrO.nil _ _, HB2.out⟩
  subst he
  have HY := Lib.hid (HY0.out rfl)
  clear HY0 HE0
  have hsI : (s.size : Int) ≤ 9223372036854775807 := by unfold maxLen at hs; omega
  clear hs
  go_enter Tryz.func12, Tryz.ntmps12
  go_wp2_with fail
  refine HTK.out.mono ?_
  rintro e w2 ⟨v2, ho2, rfl, hb2⟩
  simp only at ho2 ⊢
  obtain ⟨A2, c2, hv2, hcc, hcm, hpl⟩ := own_sliced ho2
  subst hv2
  have hto := own_tor7 ho2 rfl
  have HB2 := Lib.hid hb2
  have HTO := Lib.hid (And.intro hto.1 (And.intro hcc (And.intro hcm (show (A2 = none ∨ ∃ g o, A2 = some ⟨g, o, none⟩) ∧ (A2 = none → c2 = 0) from by
    rcases ho2.2 with ⟨e1, _⟩ | ⟨g, cap, cur, e1, _⟩
    · injection e1 with a1 _ a3
      exact ⟨Or.inl a1, fun _ => a3⟩
    · injection e1 with a1 _ a3
      exact ⟨Or.inr ⟨g, 0, a1⟩, fun q => by rw [q] at a1; cases a1⟩))))
  obtain ⟨Y, hY⟩ : ∃ Y, Y = Ac.B (kxs ls) [] := ⟨_, rfl⟩
  have H0 := Lib.hid (show RpaI w2 ls Y w2 (.slice none 0 0) 0 [] from ⟨Below.refl _ _, SrO.nil _ _, by rw [hY, List.drop_zero]; rfl, Nat.zero_le _, Nat.zero_le _⟩)
  rw [← hY] at HY
  obtain ⟨n, hnl⟩ : ∃ n, n = ls.length := ⟨_, rfl⟩
  have HN := Lib.hid hnl
  have hcI : (n : Int) ≤ (c2 : Int) := by omega
  have hnI : (n : Int) ≤ 140000 := by have := HFEW.out.1; omega
  rw [← hnl]
  clear HTK ho2 hb2 hcc hcm hpl hto hY hnl
  go_wp2
  go_loopw [8, 9] (fun v0 iv wr => ∃ (v : Value) (i : Nat) (qs : List (Ac.St × Value)), v = v0 ∧ iv = .int .i64 (i : Int) ∧ i ≤ n ∧ Hid (RpaI w2 ls Y wr v i qs)) (fun _ iv _ => n - (intOf iv).toNat)
  case atStart => exact ⟨_, 0, [], rfl, rfl, Nat.zero_le _, H0⟩
  case round =>
    clear H0
    obtain ⟨v, i, qs, hv0, rfl, hi, HI⟩ := hrel
    subst hv0
    obtain ⟨Av, cv, hv, hmc, hcm, _⟩ := own_sliced HI.out.row.row
    subst hv
    by_cases hin : i < n
    · have hin' : (i : Int) < (n : Int) := by omega
      have hil : i < ls.length := by have := HN.out; omega
      have HIN := Lib.hid hil
      have HNE := Lib.hid (drop_ne hil)
      obtain ⟨q, hq⟩ : ∃ q, q = qs.length := ⟨_, rfl⟩
      have HQ := Lib.hid hq
      have hq5 : (q : Int) ≤ 512 := by have := HI.out.few; omega
      rw [← hq] at hmc
      have hmcI : (q : Int) ≤ (cv : Int) := by omega
      rw [← hq]
      have HBW := Lib.hid (HB2.out.trans (HI.out.below.mono HB2.out.size))
      obtain ⟨g, o, hA, hg, c0, c1, cp⟩ := (HTO.out.1.below HI.out.below) i (by rw [List.length_map]; exact hil)
      rw [List.getElem_map] at cp
      change wr.cell? ⟨g, o + i * 3 + 2, none⟩ = some (.int .i64 ls[i].p) at cp
      clear c0 c1 hq hin hmc hil
      by_cases h5 : q = 512
      · subst h5
        have HX := Lib.hid (show X = ([], ls[i].p, 3) from by
          rw [HY.out, HI.out.eq, Ac.B_lim HNE.out (by rw [List.length_map]; exact HQ.out.symm)]
          show ([], Ac.plc ls (ls.length - ((kxs ls).drop i).length) _, (3 : Int)) = _
          rw [kxs_rest, plc_at HIN.out]
          rfl)
        subst hA
        generalize ls[i].p = pp at *
        go_wp2
        go_quiet (fail)
        go_wp2
        go_ret3
        rw [HX.out]
        exact ⟨none, 0, [], rfl, rfl, SrO.nil _ _, below_drewN HBW.out _⟩
      · have h5f : ((q : Int) == 512) = false := beq_eq_false_iff_ne.2 (by omega)
        have H5 := Lib.hid (show (qs.map (·.1)).length ≠ 512 from by rw [List.length_map, ← HQ.out]; exact h5)
        have hstm := rstmt_any wr A2 c2 ls ((HTO.out.1.below HI.out.below).more HI.out.below.size) HTO.out.2.1 HTO.out.2.2.1 HTO.out.2.2.2.1 HTO.out.2.2.2.2 HFEW.out.1 HFEW.out.2 i HI.out.le
        rw [← HN.out] at hstm
        have HSM := Lib.hid hstm
        obtain ⟨Z, hZ⟩ : ∃ Z, Z = Ac.stm ((kxs ls).drop i) := ⟨_, rfl⟩
        rw [← hZ] at HSM
        have HZ := Lib.hid hZ.symm
        have hq51 : q + 1 ≤ 512 := by omega
        clear hZ h5 hstm cp hA hg
        go_wp2_with fail
        refine HSM.out.mono ?_
        clear HSM
        cases Z with
        | bad left er =>
          rintro e w3 ⟨_, _, _, i3, ⟨⟨u0, rfl⟩, ⟨u1, rfl⟩, ⟨uA, un, uc, rfl⟩⟩, rfl, hl3, hb3⟩
          have hne := Ac.stm_bad HZ.out
          have heb : (er != 0) = true := by simpa using hne
          have HX := Lib.hid (show X = ([], Ac.plc ls i3 s.size, er) from by
            rw [HY.out, HI.out.eq, Ac.B_bad HNE.out H5.out HZ.out]
            show ([], Ac.plc ls (ls.length - left) _, er) = _
            rw [HSZ.out, show ls.length - left = i3 by omega])
          have ba := (Below.refl w3.heap.size w3).alloc (Nat.le_refl _) (.cells #[.int .u8 u0, .string u1, .slice uA un uc] 91)
          have HB4 := Lib.hid (HBW.out.trans ((hb3.trans (ba.mono hb3.size)).mono HBW.out.size))
          have HBT := Lib.hid (HI.out.below.trans ((hb3.trans (ba.mono hb3.size)).mono HI.out.below.size))
          clear hne
          by_cases hi3 : i3 < n
          · have hi3' : (i3 : Int) < (n : Int) := by omega
            have hil3 : i3 < ls.length := by have := HN.out; omega
            obtain ⟨g, o, hA, hg, c0, c1, cp⟩ := (HTO.out.1.below HBT.out) i3 (by rw [List.length_map]; exact hil3)
            rw [List.getElem_map] at cp
            obtain ⟨W4, hW4⟩ : ∃ W, W = w3.alloc (.cells #[.int .u8 u0, .string u1, .slice uA un uc] 91) := ⟨_, rfl⟩
            rw [← hW4] at cp HB4
            change W4.cell? ⟨g, o + i3 * 3 + 2, none⟩ = some (.int .i64 ls[i3].p) at cp
            have HX := Lib.hid (show X = ([], ls[i3].p, er) from by
              rw [HX.out]
              unfold Ac.plc
              rw [List.getElem?_eq_getElem hil3]; rfl)
            have HW4 := Lib.hid hW4
            rw [hW4] at cp
            subst hA
            generalize ls[i3].p = pp at *
            clear hb3 hl3 ba hi3 hil3 c0 c1 hW4 hg
            go_wp2
            rw [← HW4.out] at cp ⊢
            go_quiet (fail)
            go_wp2
            go_ret3
            rw [HX.out]
            exact ⟨none, 0, [], rfl, rfl, SrO.nil _ _, below_drewN HB4.out _⟩
          · have hi3' : ¬ (i3 : Int) < (n : Int) := by omega
            have HX := Lib.hid (show X = ([], s.size, er) from by rw [HX.out, plc_end (by have := HN.out; omega)])
            clear hb3 hl3 ba hi3
            go_wp2
            go_ret3
            rw [HX.out]
            exact ⟨none, 0, [], rfl, rfl, SrO.nil _ _, HB4.out⟩
        | ok rest st =>
          obtain ⟨kk, nm, xs⟩ := st
          rintro e w3 ⟨A3, c3, i3, rfl, hr3, hle3, ho3, hb3⟩
          simp only at ho3 ⊢
          have hsk := Ac.stm_ok HZ.out (fun t ht => HGD.out t (List.mem_of_mem_drop ht))
          have HLT := Lib.hid (show i < i3 from by
            have h1 := hsk.2.2.1
            rw [hr3, kxs_rest, kxs_rest] at h1
            have h2 : 0 < Ac.vol ⟨kk, nm, xs⟩ := by unfold Ac.vol; split <;> omega
            have h3 := HIN.out
            omega)
          have HYN := Lib.hid (show Y = Ac.B ((kxs ls).drop i3) ((qs ++ [((⟨kk, nm, xs⟩ : Ac.St), Value.slice A3 xs.length c3)]).map (·.1)) from by
            rw [HI.out.eq, Ac.B_ok (fun t ht => HGD.out t (List.mem_of_mem_drop ht)) HNE.out H5.out HZ.out, hr3, List.map_append]; rfl)
          obtain ⟨N, hN⟩ : ∃ N : ByteArray, N = ⟨nm.toArray⟩ := ⟨_, rfl⟩
          rw [← hN]
          have HNN := Lib.hid hN
          obtain ⟨W4, hW4⟩ : ∃ W, W = w3.alloc (.cells #[.int .u8 kk, .string N, .slice A3 xs.length c3] 91) := ⟨_, rfl⟩
          have ba : Below w3.heap.size w3 W4 := by rw [hW4]; exact (Below.refl _ _).alloc (Nat.le_refl _) _
          have k4 : IsBlk W4 w3.heap.size 91 #[.int .u8 kk, .string N, .slice A3 xs.length c3] := by rw [hW4]; exact IsBlk.new _ _ _
          have x0 : W4.cell? ⟨w3.heap.size, 0, none⟩ = some (.int .u8 kk) := k4.at_ 0
          have x1 : W4.cell? ⟨w3.heap.size, 1, none⟩ = some (.string N) := k4.at_ 1
          have x2 : W4.cell? ⟨w3.heap.size, 2, none⟩ = some (.slice A3 xs.length c3) := k4.at_ 2
          have hbt := HI.out.below.trans ((hb3.trans (ba.mono hb3.size)).mono HI.out.below.size)
          have HBT := Lib.hid hbt
          have HRW := Lib.hid (HI.out.row.below (hb3.trans (ba.mono hb3.size)))
          have HOX := Lib.hid (own_less (own_below ho3 ba) HI.out.below.size)
          have hOR := Lib.hid HRW.out.row
          rw [← HQ.out] at hOR
          obtain ⟨i0, hi_, hz0, hz1, hz2⟩ := info_parts infoRS11
          have hmax : q + 1 ≤ maxLen := by unfold maxLen; omega
          have hwl : w2.heap.size ≤ W4.heap.size := hbt.size
          have hz4 : W4.heap.size = w3.heap.size + 1 := by rw [hW4]; simp
          have HW4 := Lib.hid hW4
          rw [hW4] at x0 x1 x2
          have HI3 := Lib.hid hle3
          have HQ51 := Lib.hid hq51
          clear hN hW4 ba k4 hbt hb3 ho3 hsk hr3
          go_wp2_with (at_builtin; go_must (rw [← HW4.out]); go_must (refine wpList_append_own _ rfl _ _ _ rfl w2.heap.size 91 i0 _ 3 48 Tryz.underlying23 hi_ hz0 hz1 hz2 rfl (by omega) (.slice Av q cv) q (qs.flatMap stV) (by rfl) (by exact World.ownsRow.alloc hOR.out _) _ 1 _ [.int .u8 kk, .string N, .slice A3 xs.length c3] (by rfl) rfl (by intro j u hu; exact news_at _ _ _ _ (by first | exact hz4 | rfl | simp) j u hu) (by intro u hu; simp at hu; rcases hu with rfl | rfl | rfl <;> rfl) hmax (by omega) (by first | omega | (rw [hz4]; omega) | (simp; omega)) ?_); go_must (intro v9 w9 hown9 hgr9 _; have H9 := Lib.hid (And.intro hown9 hgr9); clear hown9 hgr9))
          have HRO := Lib.hid (show RpaI w2 ls Y w9 v9 i3 (qs ++ [((⟨kk, nm, xs⟩ : Ac.St), Value.slice A3 xs.length c3)]) from by
            have ba := (Below.refl W4.heap.size W4).alloc (Nat.le_refl _) (.cells #[.int .u8 kk, .string N, .slice A3 xs.length c3] 91)
            have b3 := Below.grown (HBT.out.trans (ba.mono HBT.out.size)) H9.out.2 (Nat.le_trans HBT.out.size ba.size) (fun z hz => by have := (hOR.out.lt z hz).1; omega)
            refine ⟨b3, SrO.snoc (HRW.out.below ba) (own_below HOX.out ba) (by rw [← HQ.out]; exact H9.out.2) ?_, HYN.out, HI3.out, by rw [List.length_append, ← HQ.out]; exact HQ51.out⟩
            have h9 := H9.out.1
            show w9.ownsRow _ _ _ _ (qs.length + 1) (qs.flatMap stV ++ [.int .u8 kk, .string ⟨nm.toArray⟩, .slice A3 xs.length c3])
            rw [← HNN.out, ← HQ.out]
            exact h9)
          (try go_wp2)
          go_roundw
          case rel => exact ⟨v9, i3, _, rfl, rfl, by have := HI3.out; have := HN.out; omega, HRO⟩
          case measure => have := HLT.out; have := HIN.out; have := HN.out; simp [intOf]; omega
    · obtain rfl : i = n := by omega
      have hin' : ¬ ((i : Nat) : Int) < (i : Int) := by omega
      have HX := Lib.hid (show X = (qs.map (·.1), 0, 0) from by
        rw [HY.out, HI.out.eq, HN.out, List.drop_of_length_le (by rw [kxs_len]; exact Nat.le_refl _), Ac.B_nil]; rfl)
      have HBW := Lib.hid (HB2.out.trans (HI.out.below.mono HB2.out.size))
      have HLQ := Lib.hid (show qs.length = (qs.map (·.1)).length from by rw [List.length_map])
      have HRW := Lib.hid (HI.out.row.less HB2.out.size)
      rw [HLQ.out] at HRW
      clear hin hmc hcm
      go_wp2
      go_ret3
      rw [HX.out]
      exact ⟨Av, cv, qs, rfl, congrArg (fun n => Ending.returned (.tuple #[.slice Av n cv, .int .i64 0, .int .i64 0])) HLQ.out, HRW.out, HBW.out⟩
end Go.Proofs.YtmmdigeciphglaaGreatDoor
namespace Go.Proofs.YtmmdigeciphglaaGreatDoor
open Go.RowKit Ex
theorem own_over {w : World} {B : Nat} {e : TypeId} {size n : Nat} {v : Value} {xs : List Value} (h : w.ownsRow B e size v n xs) (g o : Nat) (u : Value) : ∃ ys, (w.setCell ⟨g, o, none⟩ u).ownsRow B e size v n ys ∧ ys.length = xs.length ∧ ∀ j, (v.ownBlock ≠ some g ∨ j ≠ o) → ys[j]? = xs[j]? := by
  by_cases hg : v.ownBlock = some g
  · obtain ⟨A, c, e1, _, _, _⟩ := own_sliced h
    subst e1
    rcases h.2 with ⟨e2, _⟩ | ⟨g', cap, cur, e2, _⟩
    · rw [e2] at hg; cases hg
    · injection e2 with a1 _ a3
      subst a1
      injection hg with hg
      simp only at hg
      subst hg
      refine ⟨xs.set o u, (h.stored o u).1, by simp, fun j hj => ?_⟩
      rw [List.getElem?_set]
      rcases hj with hj | hj
      · exact absurd rfl hj
      · rw [if_neg (fun e => hj e.symm)]
  · refine ⟨xs, ⟨h.1, ?_⟩, rfl, fun _ _ => rfl⟩
    rcases h.2 with h3 | ⟨g', cap, cur, e1, e2, e3, e4⟩
    · exact Or.inl h3
    · refine Or.inr ⟨g', cap, cur, e1, e2, ?_, e4⟩
      rw [Below.heap_setCell w ⟨g, o, none⟩ u g' (fun e => hg (by rw [e1, show g' = g from e]; rfl))]
      exact e3
structure SpI (B : Nat) (w : World) (p : Nat) (A : Option Addr) (n c : Nat) (avs : List (Value × Nat)) (wx : World) : Prop where
  bl : Below B w wx
  bx : IsBlk wx p 29 #[.slice A n c]
  row : ∃ xs, wx.ownsRow B 80 3 (.slice A n c) n xs ∧ xs.length = n * 3 ∧ ∀ (j : Nat) (hj : j < avs.length), xs[j * 3 + 2]? = some avs[j].1
  nds : ∀ x ∈ avs, ∃ ys, wx.ownsRow B 105 6 x.1 x.2 ys ∧ ys.length = x.2 * 6
theorem SpI.put {B : Nat} {w : World} {p : Nat} {A : Option Addr} {n c : Nat} {avs : List (Value × Nat)} {wx : World} (h : SpI B w p A n c avs wx) {g o : Nat} (hg : B ≤ g) (hne : g ≠ p) (ho : A = some ⟨g, 0, none⟩ → ∀ j, j < avs.length → o ≠ j * 3 + 2) (u : Value) : SpI B w p A n c avs (wx.setCell ⟨g, o, none⟩ u) := by
  obtain ⟨xs, h1, h2, h3⟩ := h.row
  refine ⟨h.bl.setCell (p := ⟨g, o, none⟩) hg u, h.bx.far (fun e => hne e.symm) u, ?_, fun x hx => ?_⟩
  · obtain ⟨ys, q1, q2, q3⟩ := own_over h1 g o u
    refine ⟨ys, q1, by rw [q2, h2], fun j hj => ?_⟩
    rw [q3 _ ?_]
    · exact h3 j hj
    · by_cases hA : A = some ⟨g, 0, none⟩
      · exact Or.inr (fun e => ho hA j hj e.symm)
      · left
        intro e
        rcases h1.2 with ⟨e1, _⟩ | ⟨g', c', cur, e1, _⟩
        · rw [e1] at e; cases e
        · rw [e1] at e
          injection e with e
          injection e1 with e1 _ _
          simp only at e
          exact hA (by rw [e1, e])
  · obtain ⟨ys, q1, q2⟩ := h.nds x hx
    obtain ⟨zs, r1, r2, _⟩ := own_over q1 g o u
    exact ⟨zs, r1, by rw [r2, q2]⟩
theorem SpI.put6 {B : Nat} {w : World} {p : Nat} {A : Option Addr} {n c : Nat} {avs : List (Value × Nat)} {wx : World} (h : SpI B w p A n c avs wx) {g o : Nat} (hg : B ≤ g) (hne : g ≠ p) (ho : A ≠ some ⟨g, 0, none⟩) (u0 u1 u2 u3 u4 u5 : Value) :
    SpI B w p A n c avs ((((((wx.setCell ⟨g, o, none⟩ u0).setCell ⟨g, o + 1, none⟩ u1).setCell ⟨g, o + 2, none⟩ u2).setCell ⟨g, o + 3, none⟩ u3).setCell ⟨g, o + 4, none⟩ u4).setCell ⟨g, o + 5, none⟩ u5) :=
  (((((h.put hg hne (fun e => absurd e ho) u0).put hg hne (fun e => absurd e ho) u1).put hg hne (fun e => absurd e ho) u2).put hg hne (fun e => absurd e ho) u3).put hg hne (fun e => absurd e ho) u4).put hg hne (fun e => absurd e ho) u5
set_option maxHeartbeats 8000000 in
set_option maxRecDepth 100000 in
theorem aspoil_any (B : Nat) (w : World) (A : Option Addr) (n c : Nat) (ps : List (Ac.St × Value)) (hB : B ≤ w.heap.size) (h : StO B w (.slice A n c) ps) (hpn : ps.length = n) (hn : n ≤ 1000000) (ha : ∀ p ∈ ps, p.1.x.length ≤ 1000000) :
    Calls Tryz.prog 16 #[.agg #[.slice A n c]] w fun e w' => e = .returned (.tuple #[]) ∧ Below B w w' := by
  obtain ⟨avs, havs⟩ : ∃ avs : List (Value × Nat), avs = ps.map (fun p => (p.2, p.1.x.length)) := ⟨_, rfl⟩
  have hlen : avs.length = n := by rw [havs, List.length_map, hpn]
  have hal : ∀ x ∈ avs, x.2 ≤ 1000000 := by
    intro x hx
    rw [havs] at hx
    obtain ⟨y, hy, rfl⟩ := List.mem_map.1 hx
    exact ha y hy
  obtain ⟨W0, hW0⟩ : ∃ W0, W0 = w.alloc (.cells #[.slice A n c] 29) := ⟨_, rfl⟩
  have hb0 : Below w.heap.size w W0 := by rw [hW0]; exact (Below.refl _ _).alloc (Nat.le_refl _) _
  have hi0 : SpI B w w.heap.size A n c avs W0 := by
    have hr := h.row
    rw [hpn] at hr
    refine ⟨hb0.mono hB, by rw [hW0]; exact IsBlk.new _ _ _, ⟨ps.flatMap stV, own_below hr hb0, by rw [fl_len (k := 3) (fun _ => rfl), hpn], fun j hj => ?_⟩, fun x hx => ?_⟩
    · rw [hlen, ← hpn] at hj
      rw [fl_at (f := stV) (k := 3) (fun _ => rfl) ps j 2 hj (by omega)]
      simp only [havs, List.getElem_map]
      rfl
    · rw [havs] at hx
      obtain ⟨y, hy, rfl⟩ := List.mem_map.1 hx
      exact ⟨_, own_below (h.nds y hy) hb0, by rw [fl_len (k := 6) (fun _ => rfl)]⟩
  have HI0 := Lib.hid hi0
  have HAL := Lib.hid hal
  have HE0 := Lib.hid hW0
  have HL := Lib.hid hlen
  have hn' : (n : Int) ≤ 1000000 := by omega
  clear hi0 hal hW0 hb0 h ha havs hlen hpn
  go_enter Tryz.func16, Tryz.ntmps16
  go_wp2
  rw [← HE0.out]
  go_loopw [2] (fun i wr => ∃ k : Nat, i = .int .i64 k ∧ k ≤ n ∧ Hid (SpI B w w.heap.size A n c avs wr)) (fun i _ => n - (intOf i).toNat)
  case atStart => exact ⟨0, rfl, Nat.zero_le _, HI0⟩
  case round =>
    obtain ⟨k, rfl, hk, HI⟩ := hrel
    have t0 : wr.cell? ⟨w.heap.size, 0, none⟩ = some (.slice A n c) := HI.out.bx.at_ 0
    by_cases hlt : k < n
    · have hlt' : (k : Int) < (n : Int) := by omega
      obtain ⟨xs, hx1, hx2, hx3⟩ := HI.out.row
      obtain ⟨A', c', e, hc1, hc2, hc3⟩ := own_sliced hx1
      injection e with e1 _ e3
      subst e1 e3
      obtain ⟨g, hA, hgB, hg⟩ := hc3 (by omega)
      subst hA
      have hlc : (n : Int) ≤ (c : Int) := by omega
      have hka : k < avs.length := by have := HL.out; omega
      obtain ⟨x, hxe⟩ : ∃ x, x = avs[k] := ⟨_, rfl⟩
      have hxm : x ∈ avs := by rw [hxe]; exact List.getElem_mem hka
      have HRX := Lib.hid (fun wx (h : SpI B w w.heap.size (some ⟨g, 0, none⟩) n c avs wx) => (show ∃ xs, wx.ownsRow B 80 3 (.slice (some ⟨g, 0, none⟩) n c) n xs ∧ xs.length = n * 3 ∧ xs[k * 3 + 2]? = some x.1 from by
        obtain ⟨xs, q1, q2, q3⟩ := h.row
        exact ⟨xs, q1, q2, by rw [q3 k hka, ← hxe]⟩))
      have HRY := Lib.hid (fun wx (h : SpI B w w.heap.size (some ⟨g, 0, none⟩) n c avs wx) => h.nds x hxm)
      have hak := HAL.out x hxm
      obtain ⟨ys, hy1, hy2⟩ := HI.out.nds x hxm
      clear hxe hxm
      obtain ⟨av, ak⟩ := x
      simp only at HRX HRY hak hy1 hy2
      obtain ⟨Ak, ck, hav, hk1, hk2, hk3⟩ := own_sliced hy1
      subst hav
      have HGP := Lib.hid (show B ≤ g ∧ g ≠ w.heap.size from ⟨hgB, fun e => blk_apart HI.out.bx hx1 (by decide) (by rw [← e]; rfl)⟩)
      have HK3 := Lib.hid hk3
      have hak' : (ak : Int) ≤ 1000000 := by omega
      have hakc : (ak : Int) ≤ (ck : Int) := by omega
      clear hx1 hx2 hx3 hy1 hy2 hk1 hk2 hk3 hc1 hc2 hc3 hgB hg hak hka
      have HLT := Lib.hid hlt
      have HR := Lib.hid (fun wx (h : SpI B w w.heap.size (some ⟨g, 0, none⟩) n c avs wx) => (show wx.cell? ⟨g, k * 3 + 2, none⟩ = some (.slice Ak ak ck) ∧ (∃ u, wx.cell? ⟨g, k * 3 + 1, none⟩ = some u) ∧ wx.frozen? ⟨g, k * 3 + 1, none⟩ = false from by
        obtain ⟨xs, h1, h2, h4⟩ := HRX.out wx h
        have hl := (List.getElem?_eq_some_iff.1 h4)
        have hl1 := hl.1
        refine ⟨?_, ⟨_, (own_there h1 (j := k * 3 + 1) (by omega)).1⟩, (own_there h1 (j := k * 3 + 1) (by omega)).2⟩
        rw [(own_there h1 (j := k * 3 + 2) hl.1).1, hl.2]))
      have HRA := Lib.hid (fun wx (h : SpI B w w.heap.size (some ⟨g, 0, none⟩) n c avs wx) (q : Nat) (hq : q < ak) => (show ∃ ga, Ak = some ⟨ga, 0, none⟩ ∧ B ≤ ga ∧ ga ≠ g ∧ ga ≠ w.heap.size ∧ ((∃ u, wx.cell? ⟨ga, q * 6, none⟩ = some u) ∧ (∃ u, wx.cell? ⟨ga, q * 6 + 1, none⟩ = some u) ∧ (∃ u, wx.cell? ⟨ga, q * 6 + 2, none⟩ = some u) ∧ (∃ u, wx.cell? ⟨ga, q * 6 + 3, none⟩ = some u) ∧ (∃ u, wx.cell? ⟨ga, q * 6 + 4, none⟩ = some u) ∧ (∃ u, wx.cell? ⟨ga, q * 6 + 5, none⟩ = some u)) ∧ ∀ j, j < 6 → wx.frozen? ⟨ga, q * 6 + j, none⟩ = false from by
        obtain ⟨xs, h1, _, _⟩ := HRX.out wx h
        obtain ⟨ys, h2, h3⟩ := HRY.out wx h
        obtain ⟨ga, hAk, hga, _⟩ := HK3.out (by omega)
        subst hAk
        have hc : ∀ j, j < 6 → ∃ u, wx.cell? ⟨ga, q * 6 + j, none⟩ = some u := fun j hj => ⟨_, (own_there h2 (j := q * 6 + j) (by rw [h3]; omega)).1⟩
        refine ⟨ga, rfl, hga, fun e => ?_, fun e => blk_apart h.bx h2 (by decide) (by rw [← e]; rfl), ⟨hc 0 (by omega), hc 1 (by omega), hc 2 (by omega), hc 3 (by omega), hc 4 (by omega), hc 5 (by omega)⟩, fun j hj => (own_there h2 (j := q * 6 + j) (by rw [h3]; omega)).2⟩
        obtain ⟨_, _, cs1, b1⟩ := own_heap h1 (g := g) rfl
        obtain ⟨_, _, cs2, b2⟩ := own_heap h2 (g := ga) rfl
        rw [e, b1] at b2
        injection b2 with b2
        injection b2 with _ b2
        exact absurd b2 (by decide)))
      obtain ⟨x1, _⟩ := HR.out wr HI.out
      go_wp2
      clear t0 x1
      go_loopw [3] (fun j wr2 => ∃ q : Nat, j = .int .i64 q ∧ q ≤ ak ∧ Hid (SpI B w w.heap.size (some ⟨g, 0, none⟩) n c avs wr2)) (fun j _ => ak - (intOf j).toNat)
      case atStart => exact ⟨0, rfl, Nat.zero_le _, HI⟩
      case round =>
        obtain ⟨q, rfl, hq, HJ⟩ := hrel
        have y0 : wr.cell? ⟨w.heap.size, 0, none⟩ = some (.slice (some ⟨g, 0, none⟩) n c) := HJ.out.bx.at_ 0
        obtain ⟨y1, ⟨u1, y2⟩, f2⟩ := HR.out wr HJ.out
        by_cases hqa : q < ak
        · have hqa' : (q : Int) < (ak : Int) := by omega
          obtain ⟨ga, hAk, hga, hgg, hgw, ⟨⟨v0, z0⟩, ⟨v1, z1⟩, ⟨v2, z2⟩, ⟨v3, z3⟩, ⟨v4, z4⟩, ⟨v5, z5⟩⟩, hfz⟩ := HRA.out wr HJ.out q hqa
          subst hAk
          have g0 : wr.frozen? ⟨ga, q * 6, none⟩ = false := hfz 0 (by omega)
          have g1 := hfz 1 (by omega)
          have g2 := hfz 2 (by omega)
          have g3 := hfz 3 (by omega)
          have g4 := hfz 4 (by omega)
          have g5 := hfz 5 (by omega)
          have HN := Lib.hid (HJ.out.put6 (o := q * 6) hga hgw (fun e => by injection e with e; injection e with e; exact absurd e.symm hgg) (.int .u8 0) (.int .i64 0) (.string ⟨#[]⟩) (.int .i64 0) (.int .i64 0) (.int .i64 0))
          have HQ := Lib.hid hqa
          clear hqa hga y2 f2 hfz
          go_wp2
          go_roundw
          case rel => exact ⟨q + 1, by go_num, HQ.out, HN⟩
          case measure => have := HQ.out; simp [intOf]; omega
        · obtain rfl : q = ak := by omega
          have hqa' : ¬ ((q : Nat) : Int) < (q : Int) := by omega
          have HN := Lib.hid (show SpI B w w.heap.size (some ⟨g, 0, none⟩) n c avs (wr.setCell ⟨g, k * 3 + 1, none⟩ (.string ⟨#[63]⟩)) from
            HJ.out.put HGP.out.1 HGP.out.2 (fun _ j _ => by omega) _)
          have hgw := HGP.out.2
          clear hqa
          go_wp2
          go_roundw
          case rel => exact ⟨k + 1, by go_num, HLT.out, HN⟩
          case measure => have := HLT.out; simp [intOf]; omega
    · obtain rfl : k = n := by omega
      have hlt' : ¬ ((k : Nat) : Int) < (k : Int) := by omega
      have HF := Lib.hid HI.out.bl
      clear hlt
      go_wp2
      go_end0
      exact ⟨rfl, HF.out⟩
end Go.Proofs.YtmmdigeciphglaaGreatDoor
