/- Facts and walks for the statement. -/
import Derived.Test.YtmmdigeciphglaaGreatDoorPzB26
import Derived.Test.YtmmdigeciphglaaGreatDoorPzP00
import Derived.Lib.Bytealg
import Derived.Lib.ItoaNum
import Derived.Lib.ParseIntBCases
import Derived.Test.YtmmdigeciphglaaGreatDoorProg
import Derived.Laws.EntriesVeiled
import Derived.Lib.IndexLaws
import Derived.Test.YtmmdigeciphglaaGreatDoorPzP01
import Derived.WalkKit
import Derived.WalkLawsBesides
import Derived.Outline
import Derived.Handy
import Derived.Lib.OthersKept
import Derived.Lib.Hide
import Derived.WalkSmall
import Derived.Deep.DeepFit
import Derived.Deep.QuietTactic
import Derived.BigQuiet
import Derived.WalkSpells
import Derived.IntWalk
import Derived.Lib.CutLaws
import Derived.Test.YtmmdigeciphglaaGreatDoorChecked
import Derived.LaidEql
import Derived.Stop.Asserts
import Derived.RowKitTokens
import Derived.Lib.SmallJoins
import Derived.Lib.LaidTab
import Derived.Deep.RegionLaw
import Derived.Deep.CutRange
import Derived.StillTailTactics
import Derived.Laws.Externs
import Derived.Lib.FrozenHead2
import Derived.Lib.UnsafeStr
import Derived.Deep.RegionWith
import Derived.Deep.DeepMust
import Derived.Deep.RegionHeld3
import Derived.Maps.OwnSet
import Derived.Laws.AppendOwnNone
import Derived.Test.YtmmdigeciphglaaGreatDoorCards
import Derived.Test.YtmmdigeciphglaaGreatDoorTie
import Derived.Handed
import Derived.ProofKit
import Derived.OpenShut
import Derived.Lay
import Derived.Lib.LaidU8
import Derived.SevenTiedAt
import Derived.Stop.LaidErr
import Derived.Deep.Slices
import Derived.ChangeSame
import Derived.ReadAgain
import Derived.LaidSub
import Derived.Deep.Strs
import Derived.Carry
import Derived.Test.YtmmdigeciphglaaGreatDoorPzP06
import Derived.JoinedOf
import Derived.KernelRfl
namespace Go.Proofs.YtmmdigeciphglaaGreatDoor
open Go.RowKit Ex
structure PwI (w : World) (A : Option Addr) (qs : List (Ac.St × Value)) (v : World) : Prop where
  below : Below w.heap.size w v
  tx : Tyx v
  row : StR v v.heap.size A qs
theorem PwI.on {w : World} {A : Option Addr} {qs : List (Ac.St × Value)} {v v' : World} (h : PwI w A qs v) (hb : Below v.heap.size v v') : PwI w A qs v' :=
  ⟨h.below.trans (hb.mono h.below.size), h.tx.below hb, h.row.on hb⟩
structure PwS (w : World) (A : Option Addr) (qs : List (Ac.St × Value)) (v0 : World) (b5 : Nat) (A5 : Option Addr) (n5 c5 : Nat) (p5 : List (Ac.St × Value)) (v : World) : Prop where
  below : Below v0.heap.size v0 v
  way : PwI w A qs v
  x5 : Bb v b5 A5 n5 c5 p5
  own : StO v0.heap.size v (.slice A5 n5 c5) p5
theorem PwS.on {w : World} {A : Option Addr} {qs : List (Ac.St × Value)} {v0 : World} {b5 : Nat} {A5 : Option Addr} {n5 c5 : Nat} {p5 : List (Ac.St × Value)} {v v' : World} (h : PwS w A qs v0 b5 A5 n5 c5 p5 v) (hb : Below v.heap.size v v') : PwS w A qs v0 b5 A5 n5 c5 p5 v' :=
  ⟨h.below.trans (hb.mono h.below.size), h.way.on hb, h.x5.below hb, h.own.below hb⟩
set_option maxHeartbeats 16000000 in
set_option maxRecDepth 100000 in
theorem aparseL_any (w : World) (T : Tyx w) (s : ByteArray) (hs : s.size ≤ maxLen) :
    Calls Tryz.prog 3 #[.string s] w fun e w' => e = .returned (.bool true) ∧ Below w.heap.size w w' := by
  have HT := Lib.hid T
  have HWK := Lib.hid (fun v (T0 : Tyx v) => aworks_any v T0)
  have HPS := Lib.hid (fun v (T0 : Tx v) => aparse_val s rfl hs v T0)
  have HRP := Lib.hid (rparse11_any s w hs)
  have HLT := Lib.hid (show s.data.toList.length = s.size from (Lib.size_eq s).symm)
  clear T hs
  by_cases h6 : s.size ≤ 600
  · have h6' : ¬ (s.size : Int) > 600 := by omega
    have h6d : decide ((s.size : Int) > 600) = false := decide_eq_false h6'
    have HFT := Lib.hid (act_fit s.data.toList)
    have HNX := Lib.hid (show (Ac.act s.data.toList).1.length ≤ 1000000 from by
      by_cases q : (Ac.act s.data.toList).2.2 = 0
      · have := (Ac.act_right (by rw [HLT.out]; omega) q).1.1; omega
      · rw [act_bad q]; exact Nat.zero_le _)
    obtain ⟨X, hX⟩ : ∃ X, X = Ac.act s.data.toList := ⟨_, rfl⟩
    rw [← hX] at HPS HRP HFT HNX
    obtain ⟨ss, at_, er⟩ := X
    simp only at HFT HNX
    clear hX h6
    go_enter Tryz.func3, Tryz.ntmps3
    go_wp2_with fail
    refine HRP.out.mono ?_
    rintro e v1 ⟨Aw, cw, qs, hq, rfl, hso, hb⟩
    simp only at hq hso ⊢
    obtain ⟨n, hn⟩ : ∃ n, n = ss.length := ⟨_, rfl⟩
    have hlq : n = qs.length := by rw [hn, ← hq, List.length_map]
    rw [← hn] at hso HNX ⊢
    obtain ⟨r1, r2, r3⟩ := hso.reads hlq
    have H0 := Lib.hid (show PwI w Aw qs v1 from ⟨hb, HT.out.below hb, r1⟩)
    have HQ := Lib.hid (And.intro hq (And.intro hlq.symm (And.intro r2 hn)))
    clear hq hso hb hlq r1 r2 r3 hn HRP HT
    go_wp2
    go_loopw [6] (fun s6 wr => ∃ t : Nat, s6 = .int .i64 (t : Int) ∧ t ≤ 2 ∧ Hid (PwI w Aw qs wr)) (fun s6 _ => 2 - (intOf s6).toNat)
    case atStart => exact ⟨0, rfl, by omega, H0⟩
    case round =>
      clear H0
      obtain ⟨t, rfl, ht, HI⟩ := hrel
      by_cases ht2 : t < 2
      · have ht' : (t : Int) < 2 := by omega
        have HT2 := Lib.hid ht2
        clear ht ht2
        go_wp2_with fail
        refine (HPS.out _ HI.out.tx.tx).mono ?_
        rintro e v2 ⟨A5, c5, p5, hp5, hr5, hc5, hm5, rfl, ho5, hb⟩
        simp only at hc5 hp5 ho5 ⊢
        rw [← HQ.out.2.2.2] at hc5 ho5 ⊢
        obtain ⟨b5, hb5⟩ : ∃ b, b = v2.heap.size := ⟨_, rfl⟩
        obtain ⟨W5, hW5⟩ : ∃ W, W = v2.alloc (.cells #[.slice A5 n c5] 29) := ⟨_, rfl⟩
        have hv : Below v2.heap.size v2 W5 := by rw [hW5]; exact (Below.refl _ _).alloc (Nat.le_refl _) _
        have HK := Lib.hid (show PwS w Aw qs wr b5 A5 n c5 p5 W5 from ⟨hb.trans (hv.mono hb.size), (HI.out.on hb).on hv, by rw [hW5, hb5]; exact Bb.new hr5 (by rw [HQ.out.2.2.2, ← hp5, List.length_map]) hc5 hm5, ho5.below hv⟩)
        have HP5 := Lib.hid (And.intro hp5 (fits_x hp5 HFT.out))
        have x5 := HK.out.x5.at_
        have HW5 := Lib.hid (And.intro hW5 hb5)
        rw [hW5, hb5] at x5
        clear hb hv hp5 hr5 hc5 hm5 ho5 hW5 hb5
        go_wp2_with fail
        rw [← HW5.out.1, ← HW5.out.2]
        clear x5
        refine (HK.out.x5.ref HNX.out HP5.out.2).mono ?_
        rintro e v12 ⟨Ar, cr, qr, rfl, _, hr, hqr, hlr, hcr, hb⟩
        replace HK := Lib.hid (HK.out.on hb)
        have HR := Lib.hid (And.intro hr (And.intro hqr (And.intro hlr hcr)))
        clear hb hr hqr hlr hcr
        go_wp2_with fail
        refine (rsame_yes _ Ar n cr qr HR.out.1 HR.out.2.2.1 HR.out.2.2.2 Aw cw qs HK.out.way.row HQ.out.2.1 HQ.out.2.2.1 HNX.out (fits_x (HR.out.2.1.trans HP5.out.1) HFT.out) (by rw [HQ.out.1, HR.out.2.1, HP5.out.1])).mono ?_
        rintro e v13 ⟨rfl, hb⟩
        replace HK := Lib.hid (HK.out.on hb)
        clear hb
        have x5 := HK.out.x5.at_
        go_wp2_with fail
        refine (aspoil_any wr.heap.size _ A5 n c5 p5 HK.out.below.size HK.out.own HK.out.x5.len HNX.out HP5.out.2).mono ?_
        rintro e v9 ⟨rfl, hb9⟩
        have HB9 := Lib.hid (HK.out.below.trans hb9)
        clear hb9 x5
        go_wp2
        go_roundw
        case rel => exact ⟨t + 1, by go_num, by have := HT2.out; omega, Lib.hid (HI.out.on HB9.out)⟩
        case measure => have := HT2.out; simp [intOf]; omega
      · obtain rfl : t = 2 := by omega
        go_wp2_with fail
        refine (HWK.out _ HI.out.tx).mono ?_
        rintro e vw ⟨rfl, hb⟩
        have IW := Lib.hid (HI.out.on hb)
        clear hb
        go_wp2
        go_ret
        exact ⟨rfl, IW.out.below⟩
  · have h6' : (s.size : Int) > 600 := by omega
    have h6d : decide ((s.size : Int) > 600) = true := decide_eq_true h6'
    clear h6
    go_enter Tryz.func3, Tryz.ntmps3
    go_wp2_with fail
    refine (HWK.out _ HT.out).mono ?_
    rintro e vw ⟨rfl, hb⟩
    have BW := Lib.hid hb
    clear hb
    go_wp2
    go_ret
    exact ⟨rfl, BW.out⟩
end Go.Proofs.YtmmdigeciphglaaGreatDoor
namespace Go.Proofs.YtmmdigeciphglaaGreatDoor
namespace joinActParse
theorem and_t {a b : Bool} (ha : a = true) (hb : b = true) : (a && b) = true := by rw [ha, hb]; rfl
theorem j0 : (Rows.actParseRow.wf (OpenSpec.ofChange Rows.actParseSpec) && laidOutB Tryz.pinned.checked.prog && mapsRowed Tryz.pinned.checked.prog && Tryz.f3.params.all (Tryz.pinned.checked.prog.readableRec ·) && namedTie Tryz.pinned.checked.prog Rows.actParseRow.named Rows.actParseSpec.vars && (Rows.actParseRow.stops == []) && (Tryz.pinned.checked.prog.stops == []) && (Rows.actParseRow.knobs == []) && (Tryz.pinned.checked.prog.stopKnobs == [])) = true := by kernel_rfl
theorem j1 : ((Rows.actParseRow.inPlace == Tryz.pinned.checked.prog.inPlace 3)) = true := by kernel_rfl
theorem j2 : ((Rows.actParseRow.unfollowed == Tryz.pinned.checked.prog.unfollowed 3)) = true := by kernel_rfl
theorem j3 : ((Rows.actParseRow.recurses == Tryz.pinned.checked.prog.recurses 3)) = true := by kernel_rfl
theorem j4 : ((Rows.actParseRow.named == Tryz.pinned.checked.prog.varsNamed 3)) = true := by kernel_rfl
theorem j5 : ((Rows.actParseRow.maps == (Tryz.f3.params.toList ++ Rows.actParseSpec.plain.varTypes Tryz.pinned.checked.prog).any (Tryz.pinned.checked.prog.mapsRec ·))) = true := by kernel_rfl
theorem j6 : ((Rows.actParseRow.ifaces == (Tryz.f3.params.toList ++ Rows.actParseSpec.plain.varTypes Tryz.pinned.checked.prog).any (Tryz.pinned.checked.prog.ifacesRec ·))) = true := by kernel_rfl
theorem j7 : ((Rows.actParseRow.mapsOut == Tryz.pinned.checked.prog.mapsAmong Tryz.f3.resultTypes.toList)) = true := by kernel_rfl
theorem j8 : ((Rows.actParseRow.loops == (Tryz.f3.params.toList ++ Rows.actParseSpec.plain.varTypes Tryz.pinned.checked.prog).any (Tryz.pinned.checked.prog.loopsFrom ·))) = true := by kernel_rfl
theorem j9 : ((Rows.actParseRow.wideKeys == (Tryz.f3.params.toList ++ Rows.actParseSpec.plain.varTypes Tryz.pinned.checked.prog ++ Tryz.f3.resultTypes.toList).any (Tryz.pinned.checked.prog.wideKeysFrom ·))) = true := by kernel_rfl
theorem j10 : (Rows.actParseSpec.vars.all (Tryz.pinned.checked.prog.varReadable ·)) = true := by kernel_rfl
theorem j11 : (Tryz.f3.resultTypes.all (fun t => Tryz.pinned.checked.prog.readableRec t && decide (t < Tryz.pinned.checked.prog.types.size))) = true := by kernel_rfl
theorem j12 : ((Rows.actParseRow.ifacesOut == Tryz.f3.resultTypes.toList.any (Tryz.pinned.checked.prog.ifacesRec ·))) = true := by kernel_rfl
theorem j13 : ((Rows.actParseRow.loopsOut == Tryz.f3.resultTypes.toList.any (Tryz.pinned.checked.prog.loopsFrom ·))) = true := by kernel_rfl
theorem j14 : ((Rows.actParseRow.plainKeys == Tryz.pinned.checked.prog.plainKeys)) = true := by kernel_rfl
theorem j15 : (Rows.actParseRow.shortTexts.isNone) = true := by kernel_rfl
theorem j16 : (Tryz.pinned.checked.prog.stopsHeard) = true := by kernel_rfl
theorem j17 : (Tryz.pinned.checked.prog.mayEnter) = true := by kernel_rfl
theorem j18 : ((Rows.actParseRow.lifted == Tryz.pinned.checked.prog.liftsFinal)) = true := by kernel_rfl
theorem j19 : ((Tryz.pinned.checked.prog.make == some Rows.actParseRow.make)) = true := by kernel_rfl
theorem j20 : ((Rows.actParseRow.kinds == (if Rows.actParseRow.domain.isEmpty then [] else Tryz.f3.params.toList.map fun t => match Tryz.pinned.checked.prog.underlying t with | some (.int k) => some k | _ => none))) = true := by kernel_rfl
theorem j21 : ((Rows.actParseRow.pinned == Rows.actParseRow.pinnedBy)) = true := by kernel_rfl
theorem j22 : ((Rows.actParseRow.veiled == (Tryz.f3.params.toList ++ Rows.actParseSpec.plain.varTypes Tryz.pinned.checked.prog ++ Tryz.f3.resultTypes.toList).any (Tryz.pinned.checked.prog.veiledRec ·))) = true := by kernel_rfl
theorem j23 : (Rows.actParseRow.veiledFits Tryz.pinned.checked.prog Tryz.f3.params.toList (Tryz.f3.params.toList ++ Rows.actParseSpec.plain.varTypes Tryz.pinned.checked.prog ++ Tryz.f3.resultTypes.toList)) = true := by kernel_rfl
set_option maxRecDepth 100000 in
theorem closed : joinedFacts Tryz.pinned.checked.prog 3 Tryz.f3 Rows.actParseSpec Rows.actParseRow = true := (and_t (and_t (and_t (and_t (and_t (and_t (and_t (and_t (and_t (and_t (and_t (and_t (and_t (and_t (and_t (and_t (and_t (and_t (and_t (and_t (and_t (and_t (and_t j0 j1) j2) j3) j4) j5) j6) j7) j8) j9) j10) j11) j12) j13) j14) j15) j16) j17) j18) j19) j20) j21) j22) j23)
end joinActParse
end Go.Proofs.YtmmdigeciphglaaGreatDoor
