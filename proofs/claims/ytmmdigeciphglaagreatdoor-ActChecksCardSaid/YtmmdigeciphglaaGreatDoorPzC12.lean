/- Facts and walks for the statement. -/
import Derived.Test.YtmmdigeciphglaaGreatDoorPzB26
import Derived.Test.YtmmdigeciphglaaGreatDoorPzC00
import Derived.Lib.Bytealg
import Derived.Lib.ItoaNum
import Derived.Lib.ParseIntBCases
import Derived.WalkKit
import Derived.BigQuiet
import Derived.WalkSmall
import Derived.Lib.IndexLaws
import Derived.Deep.AppendLies
import Derived.OwnWalk
import Derived.Lib.OthersKept
import Derived.Lib.Hide
import Derived.Test.YtmmdigeciphglaaGreatDoorProg
import Derived.Laws.EntriesVeiled
import Derived.Lib.CutLaws
import Derived.Deep.RegionHeld3
import Derived.WalkLawsBesides
import Derived.Outline
import Derived.Handy
import Derived.Deep.DeepFit
import Derived.Deep.QuietTactic
import Derived.WalkSpells
import Derived.IntWalk
import Derived.Test.YtmmdigeciphglaaGreatDoorChecked
import Derived.LaidEql
import Derived.Stop.Asserts
import Derived.RowKitTokens
import Derived.Lib.SmallJoins
import Derived.Lib.LaidTab
import Derived.Deep.RegionLaw
import Derived.Deep.CutRange
import Derived.StillTailTactics
import Derived.Laws.Externs
import Derived.Lib.FrozenHead2
import Derived.Lib.UnsafeStr
import Derived.Deep.RegionWith
import Derived.Deep.DeepMust
import Derived.Test.YtmmdigeciphglaaGreatDoorPzC01
import Derived.Test.YtmmdigeciphglaaGreatDoorCards
import Derived.Test.YtmmdigeciphglaaGreatDoorTie
import Derived.Handed
import Derived.ProofKit
import Derived.OpenShut
import Derived.Lay
import Derived.Lib.LaidU8
import Derived.SevenTiedAt
import Derived.Stop.LaidErr
import Derived.Deep.Slices
import Derived.ChangeSame
import Derived.ReadAgain
import Derived.Carry
import Derived.Test.YtmmdigeciphglaaGreatDoorPzC03
import Derived.Test.YtmmdigeciphglaaGreatDoorPzC11
namespace Go.Proofs.YtmmdigeciphglaaGreatDoor
open Go.RowKit Ex
theorem put_dg11 (n : Nat) (h : n ≤ 9223372036854775807) (w1 : World) : Calls Tryz.prog 110 #[.int .i64 (n : Nat)] w1 fun e w' => e = .returned (.string ⟨(Ex.dg n).toArray⟩) ∧ Below w1.heap.size w1 w' := by
  have hit : Lib.itoa (n : Int) = Ex.dg n := by unfold Lib.itoa Ex.dg; rw [if_neg (by omega), Int.toNat_natCast]
  have := rput_any (n : Int) w1 ⟨by omega, by omega⟩
  rw [hit] at this
  exact this
open Classical in
noncomputable def ckV (ss : List Ac.St) : Int := if Ac.okB ss then 0 else 2
open Classical in
noncomputable def prT (ss : List Ac.St) : ByteArray := if Ac.okB ss then ⟨(Ac.btx ss).toArray⟩ else ⟨#[]⟩
open Classical in
noncomputable def tyT (vs es : List Ty.Nm) (ss : List Ac.St) : Nat × Int := if Ac.okB ss then tyg vs es ss 0 else (0, 2)
theorem CkP.val {ss : List Ac.St} {w : World} {e : Ending} {w' : World} (h : CkP ss w e w') : e = .returned (.int .i64 (ckV ss)) ∧ Below w.heap.size w w' := by
  refine ⟨?_, h.2⟩
  unfold ckV
  rcases h.1 with ⟨q, ho⟩ | ⟨q, ho⟩
  · rw [if_pos ho, q]
  · rw [if_neg ho, q]
theorem PnP.val {ss : List Ac.St} {w : World} {e : Ending} {w' : World} (h : PnP ss w e w') : e = .returned (.tuple #[.string (prT ss), .int .i64 (ckV ss)]) ∧ Below w.heap.size w w' := by
  refine ⟨?_, h.2⟩
  unfold prT ckV
  rcases h.1 with ⟨ho, q⟩ | ⟨ho, q⟩
  · rw [if_pos ho, if_pos ho, q]
  · rw [if_neg ho, if_neg ho, q]
theorem TpP.val {ss : List Ac.St} {vs es : List Ty.Nm} {w : World} {e : Ending} {w' : World} (h : TpP ss vs es w e w') : e = .returned (.tuple #[.int .i64 ((tyT vs es ss).1 : Nat), .int .i64 (tyT vs es ss).2]) ∧ Below w.heap.size w w' := by
  refine ⟨?_, h.2⟩
  unfold tyT
  rcases h.1 with ⟨ho, q⟩ | ⟨ho, q⟩
  · rw [if_pos ho, q]
  · rw [if_neg ho, q]; rfl
structure BcI (w : World) (A1 : Option Addr) (n1 c1 : Nat) (p1 : List (Ac.St × Value)) (A2 : Option Addr) (n2 c2 : Nat) (p2 : List (Ac.St × Value)) (v : World) : Prop where
  below : Below w.heap.size w v
  tx : Tyx v
  x1 : Bb v w.heap.size A1 n1 c1 p1
  x2 : Bb v (w.heap.size + 1) A2 n2 c2 p2
theorem BcI.on {w : World} {A1 : Option Addr} {n1 c1 : Nat} {p1 : List (Ac.St × Value)} {A2 : Option Addr} {n2 c2 : Nat} {p2 : List (Ac.St × Value)} {v v' : World} (h : BcI w A1 n1 c1 p1 A2 n2 c2 p2 v) (hb : Below v.heap.size v v') : BcI w A1 n1 c1 p1 A2 n2 c2 p2 v' :=
  ⟨h.below.trans (hb.mono h.below.size), h.tx.below hb, h.x1.below hb, h.x2.below hb⟩
theorem BcI.new {w : World} (T : Tyx w) {A1 : Option Addr} {c1 : Nat} {p1 : List (Ac.St × Value)} (h1 : StR w w.heap.size A1 p1) (hc1 : p1.length ≤ c1) (hm1 : c1 ≤ maxLen) {A2 : Option Addr} {c2 : Nat} {p2 : List (Ac.St × Value)} (h2 : StR w w.heap.size A2 p2) (hc2 : p2.length ≤ c2) (hm2 : c2 ≤ maxLen) :
    BcI w A1 p1.length c1 p1 A2 p2.length c2 p2 ((w.alloc (.cells #[.slice A1 p1.length c1] 29)).alloc (.cells #[.slice A2 p2.length c2] 29)) := by
  have a1 : Below w.heap.size w (w.alloc (.cells #[.slice A1 p1.length c1] 29)) := (Below.refl _ _).alloc (Nat.le_refl _) _
  have b1 : Bb (w.alloc (.cells #[.slice A1 p1.length c1] 29)) w.heap.size A1 p1.length c1 p1 := Bb.new h1 rfl hc1 hm1
  have a2 : Below (w.alloc (.cells #[.slice A1 p1.length c1] 29)).heap.size (w.alloc (.cells #[.slice A1 p1.length c1] 29)) ((w.alloc (.cells #[.slice A1 p1.length c1] 29)).alloc (.cells #[.slice A2 p2.length c2] 29)) := (Below.refl _ _).alloc (Nat.le_refl _) _
  have b2 : Bb ((w.alloc (.cells #[.slice A1 p1.length c1] 29)).alloc (.cells #[.slice A2 p2.length c2] 29)) (w.alloc (.cells #[.slice A1 p1.length c1] 29)).heap.size A2 p2.length c2 p2 := Bb.new (h2.on a1) rfl hc2 hm2
  rw [show (w.alloc (.cells #[.slice A1 p1.length c1] 29)).heap.size = w.heap.size + 1 by simp] at b2
  exact ⟨a1.trans (a2.mono a1.size), (T.below a1).below a2, b1.below a2, b2⟩
theorem BcI.s2 {w : World} {A1 : Option Addr} {n1 c1 : Nat} {p1 : List (Ac.St × Value)} {A2 : Option Addr} {n2 c2 : Nat} {p2 : List (Ac.St × Value)} {v : World} (h : BcI w A1 n1 c1 p1 A2 n2 c2 p2 v) : v.cell? ⟨w.heap.size, 0, none⟩ = some (.slice A1 n1 c1) ∧ v.cell? ⟨w.heap.size + 1, 0, none⟩ = some (.slice A2 n2 c2) := ⟨h.x1.at_, h.x2.at_⟩
set_option maxHeartbeats 16000000 in
set_option maxRecDepth 100000 in
theorem achecks_any (hput : ∀ n : Nat, n ≤ 9223372036854775807 → ∀ w1, Calls Tryz.prog 110 #[.int .i64 (n : Nat)] w1 fun e w' => e = .returned (.string ⟨(Ex.dg n).toArray⟩) ∧ Below w1.heap.size w1 w')
    (w : World) (T : Tyx w) (A1 : Option Addr) (c1 : Nat) (p1 : List (Ac.St × Value)) (h1 : StR w w.heap.size A1 p1) (hc1 : p1.length ≤ c1) (hm1 : c1 ≤ maxLen) (hi1 : FitIn p1) (A2 : Option Addr) (c2 : Nat) (p2 : List (Ac.St × Value)) (h2 : StR w w.heap.size A2 p2) (hc2 : p2.length ≤ c2) (hm2 : c2 ≤ maxLen) (hi2 : FitIn p2)
    (Av : Option Addr) (cv : Nat) (vs : List Ty.Nm) (hv : NsR w w.heap.size Av vs) (hcv : vs.length ≤ cv) (hmv : cv ≤ maxLen) (hov : Av = none → vs.length = 0 ∧ cv = 0) (Ae : Option Addr) (ce : Nat) (es : List Ty.Nm) (he : NsR w w.heap.size Ae es) (hce : es.length ≤ ce) (hme : ce ≤ maxLen) (hoe : Ae = none → es.length = 0 ∧ ce = 0) :
    Calls Tryz.prog 4 #[.agg #[.slice A1 p1.length c1], .agg #[.slice A2 p2.length c2], .slice Av vs.length cv, .slice Ae es.length ce] w fun e w' => e = .returned (.bool true) ∧ Below w.heap.size w w' := by
  have I0 := Lib.hid (BcI.new T h1 hc1 hm1 h2 hc2 hm2)
  have k0 := I0.out.x1.at_
  have m0 := I0.out.x2.at_
  have HPUT := Lib.hid hput
  have HWK := Lib.hid (fun v (T0 : Tyx v) => aworks_any v T0)
  have HW1 := Lib.hid (fun v (y : BcI w A1 p1.length c1 p1 A2 p2.length c2 p2 v) => y.x1.few hi1)
  have HW2 := Lib.hid (fun v (y : BcI w A1 p1.length c1 p1 A2 p2.length c2 p2 v) => y.x2.few hi2)
  have HW3 := Lib.hid (fun v (y : BcI w A1 p1.length c1 p1 A2 p2.length c2 p2 v) => lanames_any v Av cv vs (hv.on y.below) hcv hmv)
  have HW4 := Lib.hid (fun v (y : BcI w A1 p1.length c1 p1 A2 p2.length c2 p2 v) => lanames_any v Ae ce es (he.on y.below) hce hme)
  have HFI := Lib.hid (And.intro hi1 hi2)
  have HV := Lib.hid (And.intro hv (And.intro hcv hov))
  have HE := Lib.hid (And.intro he (And.intro hce hoe))
  obtain ⟨n1, hn1⟩ : ∃ n, n = p1.length := ⟨_, rfl⟩
  obtain ⟨n2, hn2⟩ : ∃ n, n = p2.length := ⟨_, rfl⟩
  obtain ⟨nv, hnv⟩ : ∃ n, n = vs.length := ⟨_, rfl⟩
  obtain ⟨ne, hne⟩ : ∃ n, n = es.length := ⟨_, rfl⟩
  have HN := Lib.hid (And.intro hn1 hn2)
  have HM := Lib.hid (And.intro hnv hne)
  have h0f : True := True.intro
  rw [← hn1, ← hn2] at I0 k0 m0 HW1 HW2 HW3 HW4 ⊢
  rw [← hnv] at HW3 ⊢
  rw [← hne] at HW4 ⊢
  clear hput T h1 hc1 hm1 hi1 h2 hc2 hm2 hi2 hv hcv hmv hov he hce hme hoe hn1 hn2 hnv hne
  go_enter Tryz.func4, Tryz.ntmps4
  go_wp2_with fail
  refine (HW1.out _ I0.out).mono ?_
  rintro e v1 ⟨⟨b, rfl, hbb⟩, hb⟩
  have I1 := Lib.hid (I0.out.on hb)
  have HBB1 := Lib.hid hbb
  clear hb hbb k0 m0
  have k1 := I1.out.x1.at_
  have m1 := I1.out.x2.at_
  cases b with
  | false =>
    go_wp2_with fail
    refine (HWK.out _ I1.out.tx).mono ?_
    rintro e vw ⟨rfl, hb⟩
    have IW := Lib.hid (I1.out.on hb)
    clear hb
    go_wp2
    go_ret
    exact ⟨rfl, IW.out.below⟩
  | true =>
    go_wp2_with fail
    refine (HW2.out _ I1.out).mono ?_
    rintro e v2 ⟨⟨b, rfl, hbb⟩, hb⟩
    have I2 := Lib.hid (I1.out.on hb)
    have HBB2 := Lib.hid hbb
    clear hb hbb k1 m1
    have k2 := I2.out.x1.at_
    have m2 := I2.out.x2.at_
    cases b with
    | false =>
      go_wp2_with fail
      refine (HWK.out _ I2.out.tx).mono ?_
      rintro e vw ⟨rfl, hb⟩
      have IW := Lib.hid (I2.out.on hb)
      clear hb
      go_wp2
      go_ret
      exact ⟨rfl, IW.out.below⟩
    | true =>
      go_wp2_with fail
      refine (HW3.out _ I2.out).mono ?_
      rintro e v3 ⟨⟨b, rfl, hbb⟩, hb⟩
      have I3 := Lib.hid (I2.out.on hb)
      have HBB3 := Lib.hid hbb
      clear hb hbb k2 m2
      have k3 := I3.out.x1.at_
      have m3 := I3.out.x2.at_
      cases b with
      | false =>
        go_wp2_with fail
        refine (HWK.out _ I3.out.tx).mono ?_
        rintro e vw ⟨rfl, hb⟩
        have IW := Lib.hid (I3.out.on hb)
        clear hb
        go_wp2
        go_ret
        exact ⟨rfl, IW.out.below⟩
      | true =>
        go_wp2_with fail
        refine (HW4.out _ I3.out).mono ?_
        rintro e v4 ⟨⟨b, rfl, hbb⟩, hb⟩
        have I4 := Lib.hid (I3.out.on hb)
        have HBB4 := Lib.hid hbb
        clear hb hbb k3 m3
        have k4 := I4.out.x1.at_
        have m4 := I4.out.x2.at_
        cases b with
        | false =>
          go_wp2_with fail
          refine (HWK.out _ I4.out.tx).mono ?_
          rintro e vw ⟨rfl, hb⟩
          have IW := Lib.hid (I4.out.on hb)
          clear hb
          go_wp2
          go_ret
          exact ⟨rfl, IW.out.below⟩
        | true =>
          have HFA := Lib.hid (show fewA (p1.map (·.1)) ∧ fewA (p2.map (·.1)) from ⟨HBB1.out.1 (by first | exact True.intro | rfl), HBB2.out.1 (by first | exact True.intro | rfl)⟩)
          have HNF := Lib.hid (show nmf vs ∧ nmf es from ⟨HBB3.out.1 (by first | exact True.intro | rfl), HBB4.out.1 (by first | exact True.intro | rfl)⟩)
          have HF1 := Lib.hid (fewA_fit HFA.out.1 HFI.out.1)
          have HF2 := Lib.hid (fewA_fit HFA.out.2 HFI.out.2)
          have HTL := Lib.hid (And.intro (TlF.few HFA.out.1 HFI.out.1) (TlF.few HFA.out.2 HFI.out.2))
          have HX1 := Lib.hid (fits_x rfl HTL.out.1.1)
          have HX2 := Lib.hid (fits_x rfl HTL.out.2.1)
          have HL := Lib.hid (show n1 ≤ 1000000 ∧ n2 ≤ 1000000 from ⟨by have h1 := HFA.out.1.1; rw [List.length_map, ← HN.out.1] at h1; omega, by have h1 := HFA.out.2.1; rw [List.length_map, ← HN.out.2] at h1; omega⟩)
          have HVF := Lib.hid (show FitN vs ∧ FitN es ∧ vs.length ≤ 900000 from ⟨⟨by have := HNF.out.1.1; omega, fun q hq => by have := HNF.out.1.2 q hq; omega⟩, ⟨by have := HNF.out.2.1; omega, fun q hq => by have := HNF.out.2.2 q hq; omega⟩, by have := HNF.out.1.1; omega⟩)
          have HZ := Lib.hid (show ckV (p1.map (·.1)) = ckV (p1.map (·.1)) from rfl)
          have HRC := Lib.hid (fun v (y : BcI w A1 n1 c1 p1 A2 n2 c2 p2 v) Ar cr qr (hr : StR v v.heap.size Ar qr) (hl : qr.length = n1) (hc : n1 ≤ cr) (hm : cr ≤ maxLen) (hq : qr.map (·.1) = p1.map (·.1)) => (show Calls Tryz.prog 24 #[.slice Ar n1 cr] v (fun e w' => e = .returned (.int .i64 (ckV (p1.map (·.1)))) ∧ Below v.heap.size v w') from by
            have q := racheck_any v Ar cr qr (by rw [hl]; exact hc) hm hr (fits_p hq HTL.out.1.1).b
            rw [hl, hq] at q
            exact q.mono (fun e w' h => CkP.val h)))
          have HRP := Lib.hid (fun v (y : BcI w A1 n1 c1 p1 A2 n2 c2 p2 v) Ar cr qr (hr : StR v v.heap.size Ar qr) (hl : qr.length = n1) (hc : n1 ≤ cr) (hm : cr ≤ maxLen) (hq : qr.map (·.1) = p1.map (·.1)) => (show Calls Tryz.prog 20 #[.slice Ar n1 cr] v (fun e w' => e = .returned (.tuple #[.string (prT (p1.map (·.1))), .int .i64 (ckV (p1.map (·.1)))]) ∧ Below v.heap.size v w') from by
            have q := rprint11_any HPUT.out v Ar cr qr (by rw [hl]; exact hc) hm hr (fits_p hq HTL.out.1.1)
            rw [hl, hq] at q
            exact q.mono (fun e w' h => PnP.val h)))
          have HRT := Lib.hid (fun v (y : BcI w A1 n1 c1 p1 A2 n2 c2 p2 v) Ar cr qr (hr : StR v v.heap.size Ar qr) (hl : qr.length = n1) (hc : n1 ≤ cr) (hm : cr ≤ maxLen) (hq : qr.map (·.1) = p1.map (·.1)) => (show Calls Tryz.prog 22 #[.slice Ar n1 cr, .slice Av nv cv, .slice Ae ne ce] v (fun e w' => e = .returned (.tuple #[.int .i64 ((tyT vs es (p1.map (·.1))).1 : Nat), .int .i64 (tyT vs es (p1.map (·.1))).2]) ∧ Below v.heap.size v w') from by
            have q := rtypes11_any v Ar cr qr (by rw [hl]; exact hc) hm hr (fits_p hq HTL.out.1.1).b Av cv vs (HV.out.1.on y.below) HV.out.2.1 HV.out.2.2 HVF.out.1 HVF.out.2.2 Ae ce es (HE.out.1.on y.below) HE.out.2.1 HVF.out.2.1
            rw [hl, hq, ← HM.out.1, ← HM.out.2] at q
            exact q.mono (fun e w' h => TpP.val h)))
          have HLT := Lib.hid (fun v (y : BcI w A1 n1 c1 p1 A2 n2 c2 p2 v) => (show Calls Tryz.prog 21 #[.agg #[.slice A1 n1 c1], .slice Av nv cv, .slice Ae ne ce] v (fun e w' => e = .returned (.tuple #[.int .i64 ((tyT vs es (p1.map (·.1))).1 : Nat), .int .i64 (tyT vs es (p1.map (·.1))).2]) ∧ Below v.heap.size v w') from by
            have q := y.x1.types y.tx HF1.out.b (HV.out.1.on y.below) HV.out.2.1 HVF.out.1 (HE.out.1.on y.below) HE.out.2.1 HVF.out.2.1
            rw [← HM.out.1, ← HM.out.2] at q
            exact q.mono (fun e w' h => TpP.val h)))
          have HRS := Lib.hid (fun v Ar cr (qr : List (Ac.St × Value)) (hr : StR v v.heap.size Ar qr) (hl : qr.length = n1) (hc : n1 ≤ cr) (hq : qr.map (·.1) = p1.map (·.1)) Az cz (qz : List (Ac.St × Value)) (hz : StR v v.heap.size Az qz) (hlz : qz.length = n2) (hcz : n2 ≤ cz) (hqz : qz.map (·.1) = p2.map (·.1)) => (show Calls Tryz.prog 14 #[.slice Ar n1 cr, .slice Az n2 cz] v (fun e w' => e = .returned (.bool (sameSs (p1.map (·.1)) (p2.map (·.1)))) ∧ Below v.heap.size v w') from by
            have q := rsame11_any v Ar cr qr (by rw [hl]; exact hc) hr Az cz qz (by rw [hlz]; exact hcz) hz (by rw [hl]; exact HL.out.1) (fits_x hq HTL.out.1.1) (fits_x hqz HTL.out.2.1)
            rw [hl, hlz, hq, hqz] at q
            exact q))
          have HPN := Lib.hid (fun v (y : BcI w A1 n1 c1 p1 A2 n2 c2 p2 v) => (y.x1.print y.tx.tx HF1.out).mono (fun e w' h => PnP.val h))
          have HCK := Lib.hid (fun v (y : BcI w A1 n1 c1 p1 A2 n2 c2 p2 v) => (y.x1.check y.tx.tx HF1.out.b).mono (fun e w' h => CkP.val h))
          have HSM := Lib.hid (fun v (y : BcI w A1 n1 c1 p1 A2 n2 c2 p2 v) => y.x1.same y.x2 HF2.out.b)
          obtain ⟨S, hS_⟩ : ∃ S, S = prT (p1.map (·.1)) := ⟨_, rfl⟩
          obtain ⟨E, hE_⟩ : ∃ E, E = ckV (p1.map (·.1)) := ⟨_, rfl⟩
          obtain ⟨G, hG_⟩ : ∃ G : Int, G = ((tyT vs es (p1.map (·.1))).1 : Nat) := ⟨_, rfl⟩
          obtain ⟨H, hH_⟩ : ∃ H, H = (tyT vs es (p1.map (·.1))).2 := ⟨_, rfl⟩
          obtain ⟨BS, hB_⟩ : ∃ b, b = sameSs (p1.map (·.1)) (p2.map (·.1)) := ⟨_, rfl⟩
          rw [← hS_, ← hE_] at HPN HRP
          rw [← hE_] at HCK HRC
          rw [← hG_, ← hH_] at HLT HRT
          rw [← hB_] at HSM HRS
          clear hS_ hE_ hG_ hH_ hB_ HZ HBB1 HBB2 HBB3 HBB4 h0f
          go_wp2_with fail
          refine (HPN.out _ I4.out).mono ?_
          rintro e v5 ⟨rfl, hb⟩
          have I5 := Lib.hid (I4.out.on hb)
          clear hb k4 m4
          have k5 := I5.out.x1.at_
          have m5 := I5.out.x2.at_
          go_wp2_with fail
          refine (I5.out.x1.ref HL.out.1 HX1.out).mono ?_
          rintro e v6 ⟨Ar, cr, qr, rfl, hro, hr, hqr, hlr, hcr, hb⟩
          have I6 := Lib.hid (I5.out.on hb)
          have HR := Lib.hid (show StR v6 v6.heap.size Ar qr ∧ qr.length = n1 ∧ n1 ≤ cr ∧ cr ≤ maxLen ∧ qr.map (·.1) = p1.map (·.1) from ⟨hr, hlr, hcr, (hro.reads hlr.symm).2.2, hqr⟩)
          clear hb hr hqr hlr hcr hro k5 m5
          have k6 := I6.out.x1.at_
          have m6 := I6.out.x2.at_
          go_wp2_with fail
          refine (HRP.out _ I6.out Ar cr qr HR.out.1 HR.out.2.1 HR.out.2.2.1 HR.out.2.2.2.1 HR.out.2.2.2.2).mono ?_
          rintro e v7 ⟨rfl, hb⟩
          have I7 := Lib.hid (I6.out.on hb)
          clear hb HR k6 m6
          have k7 := I7.out.x1.at_
          have m7 := I7.out.x2.at_
          go_wp2_with fail
          refine (HLT.out _ I7.out).mono ?_
          rintro e v8 ⟨rfl, hb⟩
          have I8 := Lib.hid (I7.out.on hb)
          clear hb k7 m7
          have k8 := I8.out.x1.at_
          have m8 := I8.out.x2.at_
          go_wp2_with fail
          refine (I8.out.x1.ref HL.out.1 HX1.out).mono ?_
          rintro e v9 ⟨Ar, cr, qr, rfl, hro, hr, hqr, hlr, hcr, hb⟩
          have I9 := Lib.hid (I8.out.on hb)
          have HR := Lib.hid (show StR v9 v9.heap.size Ar qr ∧ qr.length = n1 ∧ n1 ≤ cr ∧ cr ≤ maxLen ∧ qr.map (·.1) = p1.map (·.1) from ⟨hr, hlr, hcr, (hro.reads hlr.symm).2.2, hqr⟩)
          clear hb hr hqr hlr hcr hro k8 m8
          have k9 := I9.out.x1.at_
          have m9 := I9.out.x2.at_
          go_wp2_with fail
          refine (HRT.out _ I9.out Ar cr qr HR.out.1 HR.out.2.1 HR.out.2.2.1 HR.out.2.2.2.1 HR.out.2.2.2.2).mono ?_
          rintro e v10 ⟨rfl, hb⟩
          have HK := Lib.hid (I9.out.on hb)
          clear hb HR k9 m9 I4 I5 I6 I7 I8 I9
          go_wp2_with fail
          refine wp_region_held_drew (S := fun w' => w'.cell? ⟨w.heap.size, 0, none⟩ = some (.slice A1 n1 c1) ∧ w'.cell? ⟨w.heap.size + 1, 0, none⟩ = some (.slice A2 n2 c2)) (by kernel_rfl) (HK.out.on (Below.refl _ _).drew).s2 (fun hHeld => ?_)
          refine wpAnyH_take (i := 0) (v := .string S) rfl (by kernel_rfl) (by kernel_rfl) (by kernel_rfl) (fun _ _ _ h => h) (Or.inl ⟨by rfl, by (intro w hS; try (obtain ⟨s0, s1⟩ := hS); go_simp)⟩) hHeld ?_
          try simp only [Act.put, List.getElem_toArray, List.getElem_cons_zero, List.setIfInBounds_toArray, List.set_cons_zero, List.set_cons_succ]
          refine wpAnyH_take (i := 1) (v := .string S) rfl (by kernel_rfl) (by kernel_rfl) (by kernel_rfl) (fun _ _ _ h => h) (Or.inl ⟨by rfl, by (intro w hS; try (obtain ⟨s0, s1⟩ := hS); go_simp)⟩) hHeld ?_
          try simp only [Act.put, List.getElem_toArray, List.getElem_cons_succ, List.getElem_cons_zero, List.setIfInBounds_toArray, List.set_cons_zero, List.set_cons_succ]
          refine wpAnyH_take (i := 2) (v := .bool true) rfl (by kernel_rfl) (by kernel_rfl) (by kernel_rfl) (fun _ _ _ h => h) (Or.inl ⟨by rfl, by (intro w hS; try (obtain ⟨s0, s1⟩ := hS); go_simp)⟩) hHeld ?_
          try simp only [Act.put, List.getElem_toArray, List.getElem_cons_succ, List.getElem_cons_zero, List.setIfInBounds_toArray, List.set_cons_zero, List.set_cons_succ]
          refine wpAnyH_take (i := 3) (v := .bool true) rfl (by kernel_rfl) (by kernel_rfl) (by kernel_rfl) (fun _ _ _ h => h) (Or.inl ⟨by rfl, by (intro w hS; try (obtain ⟨s0, s1⟩ := hS); go_simp)⟩) hHeld ?_
          try simp only [Act.put, List.getElem_toArray, List.getElem_cons_succ, List.getElem_cons_zero, List.setIfInBounds_toArray, List.set_cons_zero, List.set_cons_succ]
          refine wpAnyH_take (i := 4) (v := .int .i64 E) rfl (by kernel_rfl) (by kernel_rfl) (by kernel_rfl) (fun _ _ _ h => h) (Or.inl ⟨by rfl, by (intro w hS; try (obtain ⟨s0, s1⟩ := hS); go_simp)⟩) hHeld ?_
          try simp only [Act.put, List.getElem_toArray, List.getElem_cons_succ, List.getElem_cons_zero, List.setIfInBounds_toArray, List.set_cons_zero, List.set_cons_succ]
          refine wpAnyH_take (i := 5) (v := .int .i64 E) rfl (by kernel_rfl) (by kernel_rfl) (by kernel_rfl) (fun _ _ _ h => h) (Or.inl ⟨by rfl, by (intro w hS; try (obtain ⟨s0, s1⟩ := hS); go_simp)⟩) hHeld ?_
          try simp only [Act.put, List.getElem_toArray, List.getElem_cons_succ, List.getElem_cons_zero, List.setIfInBounds_toArray, List.set_cons_zero, List.set_cons_succ]
          refine wpAnyH_take (i := 6) (v := .bool true) rfl (by kernel_rfl) (by kernel_rfl) (by kernel_rfl) (fun _ _ _ h => h) (Or.inl ⟨by rfl, by (intro w hS; try (obtain ⟨s0, s1⟩ := hS); go_simp)⟩) hHeld ?_
          try simp only [Act.put, List.getElem_toArray, List.getElem_cons_succ, List.getElem_cons_zero, List.setIfInBounds_toArray, List.set_cons_zero, List.set_cons_succ]
          refine wpAnyH_take (i := 7) (v := .bool true) rfl (by kernel_rfl) (by kernel_rfl) (by kernel_rfl) (fun _ _ _ h => h) (Or.inl ⟨by rfl, by (intro w hS; try (obtain ⟨s0, s1⟩ := hS); go_simp)⟩) hHeld ?_
          try simp only [Act.put, List.getElem_toArray, List.getElem_cons_succ, List.getElem_cons_zero, List.setIfInBounds_toArray, List.set_cons_zero, List.set_cons_succ]
          refine wpAnyH_take (i := 8) (v := .bool true) rfl (by kernel_rfl) (by kernel_rfl) (by kernel_rfl) (fun _ _ _ h => h) (Or.inl ⟨by rfl, by (intro w hS; try (obtain ⟨s0, s1⟩ := hS); go_simp)⟩) hHeld ?_
          try simp only [Act.put, List.getElem_toArray, List.getElem_cons_succ, List.getElem_cons_zero, List.setIfInBounds_toArray, List.set_cons_zero, List.set_cons_succ]
          refine wpAnyH_take (i := 9) (v := .int .i64 G) rfl (by kernel_rfl) (by kernel_rfl) (by kernel_rfl) (fun _ _ _ h => h) (Or.inl ⟨by rfl, by (intro w hS; try (obtain ⟨s0, s1⟩ := hS); go_simp)⟩) hHeld ?_
          try simp only [Act.put, List.getElem_toArray, List.getElem_cons_succ, List.getElem_cons_zero, List.setIfInBounds_toArray, List.set_cons_zero, List.set_cons_succ]
          refine wpAnyH_take (i := 10) (v := .int .i64 G) rfl (by kernel_rfl) (by kernel_rfl) (by kernel_rfl) (fun _ _ _ h => h) (Or.inl ⟨by rfl, by (intro w hS; try (obtain ⟨s0, s1⟩ := hS); go_simp)⟩) hHeld ?_
          try simp only [Act.put, List.getElem_toArray, List.getElem_cons_succ, List.getElem_cons_zero, List.setIfInBounds_toArray, List.set_cons_zero, List.set_cons_succ]
          refine wpAnyH_take (i := 11) (v := .bool true) rfl (by kernel_rfl) (by kernel_rfl) (by kernel_rfl) (fun _ _ _ h => h) (Or.inl ⟨by rfl, by (intro w hS; try (obtain ⟨s0, s1⟩ := hS); go_simp)⟩) hHeld ?_
          try simp only [Act.put, List.getElem_toArray, List.getElem_cons_succ, List.getElem_cons_zero, List.setIfInBounds_toArray, List.set_cons_zero, List.set_cons_succ]
          refine wpAnyH_take (i := 12) (v := .bool true) rfl (by kernel_rfl) (by kernel_rfl) (by kernel_rfl) (fun _ _ _ h => h) (Or.inl ⟨by rfl, by (intro w hS; try (obtain ⟨s0, s1⟩ := hS); go_simp)⟩) hHeld ?_
          try simp only [Act.put, List.getElem_toArray, List.getElem_cons_succ, List.getElem_cons_zero, List.setIfInBounds_toArray, List.set_cons_zero, List.set_cons_succ]
          refine wpAnyH_take (i := 13) (v := .bool true) rfl (by kernel_rfl) (by kernel_rfl) (by kernel_rfl) (fun _ _ _ h => h) (Or.inl ⟨by rfl, by (intro w hS; try (obtain ⟨s0, s1⟩ := hS); go_simp)⟩) hHeld ?_
          try simp only [Act.put, List.getElem_toArray, List.getElem_cons_succ, List.getElem_cons_zero, List.setIfInBounds_toArray, List.set_cons_zero, List.set_cons_succ]
          refine wpAnyH_take (i := 14) (v := .int .i64 H) rfl (by kernel_rfl) (by kernel_rfl) (by kernel_rfl) (fun _ _ _ h => h) (Or.inl ⟨by rfl, by (intro w hS; try (obtain ⟨s0, s1⟩ := hS); go_simp)⟩) hHeld ?_
          try simp only [Act.put, List.getElem_toArray, List.getElem_cons_succ, List.getElem_cons_zero, List.setIfInBounds_toArray, List.set_cons_zero, List.set_cons_succ]
          refine wpAnyH_take (i := 15) (v := .int .i64 H) rfl (by kernel_rfl) (by kernel_rfl) (by kernel_rfl) (fun _ _ _ h => h) (Or.inl ⟨by rfl, by (intro w hS; try (obtain ⟨s0, s1⟩ := hS); go_simp)⟩) hHeld ?_
          try simp only [Act.put, List.getElem_toArray, List.getElem_cons_succ, List.getElem_cons_zero, List.setIfInBounds_toArray, List.set_cons_zero, List.set_cons_succ]
          refine wpAnyH_take (i := 16) (v := .bool true) rfl (by kernel_rfl) (by kernel_rfl) (by kernel_rfl) (fun _ _ _ h => h) (Or.inl ⟨by rfl, by (intro w hS; try (obtain ⟨s0, s1⟩ := hS); go_simp)⟩) hHeld ?_
          try simp only [Act.put, List.getElem_toArray, List.getElem_cons_succ, List.getElem_cons_zero, List.setIfInBounds_toArray, List.set_cons_zero, List.set_cons_succ]
          refine wpAnyH_take (i := 17) (v := .bool true) rfl (by kernel_rfl) (by kernel_rfl) (by kernel_rfl) (fun _ _ _ h => h) (Or.inl ⟨by rfl, by (intro w hS; try (obtain ⟨s0, s1⟩ := hS); go_simp)⟩) hHeld ?_
          try simp only [Act.put, List.getElem_toArray, List.getElem_cons_succ, List.getElem_cons_zero, List.setIfInBounds_toArray, List.set_cons_zero, List.set_cons_succ]
          refine wpAnyH_take (i := 18) (v := .bool true) rfl (by kernel_rfl) (by kernel_rfl) (by kernel_rfl) (fun _ _ _ h => h) (Or.inl ⟨by rfl, by (intro w hS; try (obtain ⟨s0, s1⟩ := hS); go_simp)⟩) hHeld ?_
          try simp only [Act.put, List.getElem_toArray, List.getElem_cons_succ, List.getElem_cons_zero, List.setIfInBounds_toArray, List.set_cons_zero, List.set_cons_succ]
          refine wpAnyH_take (i := 19) (v := .agg #[.slice A1 n1 c1]) rfl (by kernel_rfl) (by kernel_rfl) (by kernel_rfl) (fun _ _ _ h => h) (Or.inl ⟨by rfl, by (intro w hS; try (obtain ⟨s0, s1⟩ := hS); go_simp)⟩) hHeld ?_
          try simp only [Act.put, List.getElem_toArray, List.getElem_cons_succ, List.getElem_cons_zero, List.setIfInBounds_toArray, List.set_cons_zero, List.set_cons_succ]
          refine wpAnyH_take (i := 21) (v := .agg #[.slice A1 n1 c1]) rfl (by kernel_rfl) (by kernel_rfl) (by kernel_rfl) (fun _ _ _ h => h) (Or.inl ⟨by rfl, by (intro w hS; try (obtain ⟨s0, s1⟩ := hS); go_simp)⟩) hHeld ?_
          try simp only [Act.put, List.getElem_toArray, List.getElem_cons_succ, List.getElem_cons_zero, List.setIfInBounds_toArray, List.set_cons_zero, List.set_cons_succ]
          refine wpAnyH_ready (rs := [20]) (by kernel_rfl) (by simp) ?_
          refine AllReadyH.cons rfl (fun K hK => ?_) AllReadyH.nil
          go_simp
          replace HK := Lib.hid (HK.out.on (Below.refl _ _).drew)
          refine (HCK.out _ HK.out).mono ?_
          rintro e v20 ⟨rfl, hb⟩
          replace HK := Lib.hid (HK.out.on hb)
          clear hb
          refine hK _ _ HK.out.s2 (fun hHeld => ?_)
          clear hK K
          try simp only [Act.put, List.getElem_toArray, List.getElem_cons_succ, List.getElem_cons_zero, List.setIfInBounds_toArray, List.set_cons_zero, List.set_cons_succ]
          refine wpAnyH_ready (rs := [22]) (by kernel_rfl) (by simp) ?_
          refine AllReadyH.cons rfl (fun K hK => ?_) AllReadyH.nil
          go_simp
          refine (HK.out.x1.ref HL.out.1 HX1.out).mono ?_
          rintro e v22 ⟨Ar, cr, qr, rfl, hro, hr, hqr, hlr, hcr, hb⟩
          replace HK := Lib.hid (HK.out.on hb)
          have HR := Lib.hid (show StR v22 v22.heap.size Ar qr ∧ qr.length = n1 ∧ n1 ≤ cr ∧ cr ≤ maxLen ∧ qr.map (·.1) = p1.map (·.1) from ⟨hr, hlr, hcr, (hro.reads hlr.symm).2.2, hqr⟩)
          clear hb hr hqr hlr hcr hro
          refine hK _ _ HK.out.s2 (fun hHeld => ?_)
          clear hK K
          try simp only [Act.put, List.getElem_toArray, List.getElem_cons_succ, List.getElem_cons_zero, List.setIfInBounds_toArray, List.set_cons_zero, List.set_cons_succ]
          refine wpAnyH_ready (rs := [23]) (by kernel_rfl) (by simp) ?_
          refine AllReadyH.cons rfl (fun K hK => ?_) AllReadyH.nil
          go_simp
          refine (HRC.out _ HK.out Ar cr qr HR.out.1 HR.out.2.1 HR.out.2.2.1 HR.out.2.2.2.1 HR.out.2.2.2.2).mono ?_
          rintro e v23 ⟨rfl, hb⟩
          replace HK := Lib.hid (HK.out.on hb)
          clear hb HR
          refine hK _ _ HK.out.s2 (fun hHeld => ?_)
          clear hK K
          try simp only [Act.put, List.getElem_toArray, List.getElem_cons_succ, List.getElem_cons_zero, List.setIfInBounds_toArray, List.set_cons_zero, List.set_cons_succ]
          refine wpAnyH_take (i := 24) (v := .bool true) rfl (by kernel_rfl) (by kernel_rfl) (by kernel_rfl) (fun _ _ _ h => h) (Or.inl ⟨by rfl, by (intro w hS; try (obtain ⟨s0, s1⟩ := hS); go_simp)⟩) hHeld ?_
          try simp only [Act.put, List.getElem_toArray, List.getElem_cons_succ, List.getElem_cons_zero, List.setIfInBounds_toArray, List.set_cons_zero, List.set_cons_succ]
          refine wpAnyH_take (i := 25) (v := .bool true) rfl (by kernel_rfl) (by kernel_rfl) (by kernel_rfl) (fun _ _ _ h => h) (Or.inl ⟨by rfl, by (intro w hS; try (obtain ⟨s0, s1⟩ := hS); go_simp)⟩) hHeld ?_
          try simp only [Act.put, List.getElem_toArray, List.getElem_cons_succ, List.getElem_cons_zero, List.setIfInBounds_toArray, List.set_cons_zero, List.set_cons_succ]
          refine wpAnyH_take (i := 26) (v := .bool true) rfl (by kernel_rfl) (by kernel_rfl) (by kernel_rfl) (fun _ _ _ h => h) (Or.inl ⟨by rfl, by (intro w hS; try (obtain ⟨s0, s1⟩ := hS); go_simp)⟩) hHeld ?_
          try simp only [Act.put, List.getElem_toArray, List.getElem_cons_succ, List.getElem_cons_zero, List.setIfInBounds_toArray, List.set_cons_zero, List.set_cons_succ]
          refine wpAnyH_take (i := 27) (v := .agg #[.slice A1 n1 c1]) rfl (by kernel_rfl) (by kernel_rfl) (by kernel_rfl) (fun _ _ _ h => h) (Or.inl ⟨by rfl, by (intro w hS; try (obtain ⟨s0, s1⟩ := hS); go_simp)⟩) hHeld ?_
          try simp only [Act.put, List.getElem_toArray, List.getElem_cons_succ, List.getElem_cons_zero, List.setIfInBounds_toArray, List.set_cons_zero, List.set_cons_succ]
          refine wpAnyH_take (i := 28) (v := .agg #[.slice A2 n2 c2]) rfl (by kernel_rfl) (by kernel_rfl) (by kernel_rfl) (fun _ _ _ h => h) (Or.inl ⟨by rfl, by (intro w hS; try (obtain ⟨s0, s1⟩ := hS); go_simp)⟩) hHeld ?_
          try simp only [Act.put, List.getElem_toArray, List.getElem_cons_succ, List.getElem_cons_zero, List.setIfInBounds_toArray, List.set_cons_zero, List.set_cons_succ]
          refine wpAnyH_take (i := 30) (v := .agg #[.slice A1 n1 c1]) rfl (by kernel_rfl) (by kernel_rfl) (by kernel_rfl) (fun _ _ _ h => h) (Or.inl ⟨by rfl, by (intro w hS; try (obtain ⟨s0, s1⟩ := hS); go_simp)⟩) hHeld ?_
          try simp only [Act.put, List.getElem_toArray, List.getElem_cons_succ, List.getElem_cons_zero, List.setIfInBounds_toArray, List.set_cons_zero, List.set_cons_succ]
          refine wpAnyH_take (i := 32) (v := .agg #[.slice A2 n2 c2]) rfl (by kernel_rfl) (by kernel_rfl) (by kernel_rfl) (fun _ _ _ h => h) (Or.inl ⟨by rfl, by (intro w hS; try (obtain ⟨s0, s1⟩ := hS); go_simp)⟩) hHeld ?_
          try simp only [Act.put, List.getElem_toArray, List.getElem_cons_succ, List.getElem_cons_zero, List.setIfInBounds_toArray, List.set_cons_zero, List.set_cons_succ]
          refine wpAnyH_ready (rs := [29]) (by kernel_rfl) (by simp) ?_
          refine AllReadyH.cons rfl (fun K hK => ?_) AllReadyH.nil
          go_simp
          refine (HSM.out _ HK.out).mono ?_
          rintro e v29 ⟨rfl, hb⟩
          replace HK := Lib.hid (HK.out.on hb)
          clear hb
          refine hK _ _ HK.out.s2 (fun hHeld => ?_)
          clear hK K
          try simp only [Act.put, List.getElem_toArray, List.getElem_cons_succ, List.getElem_cons_zero, List.setIfInBounds_toArray, List.set_cons_zero, List.set_cons_succ]
          refine wpAnyH_ready (rs := [31]) (by kernel_rfl) (by simp) ?_
          refine AllReadyH.cons rfl (fun K hK => ?_) AllReadyH.nil
          go_simp
          refine (HK.out.x1.ref HL.out.1 HX1.out).mono ?_
          rintro e v31 ⟨Ar, cr, qr, rfl, _, hr, hqr, hlr, hcr, hb⟩
          replace HK := Lib.hid (HK.out.on hb)
          have HR := Lib.hid (And.intro hr (And.intro hqr (And.intro hlr hcr)))
          clear hb hr hqr hlr hcr
          refine hK _ _ HK.out.s2 (fun hHeld => ?_)
          clear hK K
          try simp only [Act.put, List.getElem_toArray, List.getElem_cons_succ, List.getElem_cons_zero, List.setIfInBounds_toArray, List.set_cons_zero, List.set_cons_succ]
          refine wpAnyH_ready (rs := [33]) (by kernel_rfl) (by simp) ?_
          refine AllReadyH.cons rfl (fun K hK => ?_) AllReadyH.nil
          go_simp
          refine (HK.out.x2.ref HL.out.2 HX2.out).mono ?_
          rintro e v33 ⟨Az, cz, qz, rfl, _, hr, hqz, hlz, hcz, hb⟩
          replace HK := Lib.hid (HK.out.on hb)
          have HY := Lib.hid (And.intro hr (And.intro hqz (And.intro hlz hcz)))
          replace HR := Lib.hid (show StR v33 v33.heap.size Ar qr ∧ qr.map (·.1) = p1.map (·.1) ∧ qr.length = n1 ∧ n1 ≤ cr from ⟨HR.out.1.on hb, HR.out.2⟩)
          clear hb hr hqz hlz hcz
          refine hK _ _ HK.out.s2 (fun hHeld => ?_)
          clear hK K
          try simp only [Act.put, List.getElem_toArray, List.getElem_cons_succ, List.getElem_cons_zero, List.setIfInBounds_toArray, List.set_cons_zero, List.set_cons_succ]
          refine wpAnyH_ready (rs := [34]) (by kernel_rfl) (by simp) ?_
          refine AllReadyH.cons rfl (fun K hK => ?_) AllReadyH.nil
          go_simp
          refine (HRS.out _ Ar cr qr HR.out.1 HR.out.2.2.1 HR.out.2.2.2 HR.out.2.1 Az cz qz HY.out.1 HY.out.2.2.1 HY.out.2.2.2 HY.out.2.1).mono ?_
          rintro e v34 ⟨rfl, hb⟩
          replace HK := Lib.hid (HK.out.on hb)
          clear hb
          refine hK _ _ HK.out.s2 (fun hHeld => ?_)
          clear hK K
          try simp only [Act.put, List.getElem_toArray, List.getElem_cons_succ, List.getElem_cons_zero, List.setIfInBounds_toArray, List.set_cons_zero, List.set_cons_succ]
          refine wpAnyH_take (i := 35) (v := .bool true) rfl (by kernel_rfl) (by kernel_rfl) (by kernel_rfl) (fun _ _ _ h => h) (Or.inl ⟨by rfl, by (intro w hS; try (obtain ⟨s0, s1⟩ := hS); go_simp)⟩) hHeld ?_
          try simp only [Act.put, List.getElem_toArray, List.getElem_cons_succ, List.getElem_cons_zero, List.setIfInBounds_toArray, List.set_cons_zero, List.set_cons_succ]
          refine wpAnyH_take (i := 36) (v := .bool true) rfl (by kernel_rfl) (by kernel_rfl) (by kernel_rfl) (fun _ _ _ h => h) (Or.inl ⟨by rfl, by (intro w hS; try (obtain ⟨s0, s1⟩ := hS); go_simp)⟩) hHeld ?_
          try simp only [Act.put, List.getElem_toArray, List.getElem_cons_succ, List.getElem_cons_zero, List.setIfInBounds_toArray, List.set_cons_zero, List.set_cons_succ]
          refine wpAnyH_take (i := 37) (v := .bool true) rfl (by kernel_rfl) (by kernel_rfl) (by kernel_rfl) (fun _ _ _ h => h) (Or.inl ⟨by rfl, by (intro w hS; try (obtain ⟨s0, s1⟩ := hS); go_simp)⟩) hHeld ?_
          try simp only [Act.put, List.getElem_toArray, List.getElem_cons_succ, List.getElem_cons_zero, List.setIfInBounds_toArray, List.set_cons_zero, List.set_cons_succ]
          refine wpAnyH_take (i := 38) (v := .agg #[.slice A1 n1 c1]) rfl (by kernel_rfl) (by kernel_rfl) (by kernel_rfl) (fun _ _ _ h => h) (Or.inl ⟨by rfl, by (intro w hS; try (obtain ⟨s0, s1⟩ := hS); go_simp)⟩) hHeld ?_
          try simp only [Act.put, List.getElem_toArray, List.getElem_cons_succ, List.getElem_cons_zero, List.setIfInBounds_toArray, List.set_cons_zero, List.set_cons_succ]
          refine wpAnyH_take (i := 39) (v := .agg #[.slice A1 n1 c1]) rfl (by kernel_rfl) (by kernel_rfl) (by kernel_rfl) (fun _ _ _ h => h) (Or.inl ⟨by rfl, by (intro w hS; try (obtain ⟨s0, s1⟩ := hS); go_simp)⟩) hHeld ?_
          try simp only [Act.put, List.getElem_toArray, List.getElem_cons_succ, List.getElem_cons_zero, List.setIfInBounds_toArray, List.set_cons_zero, List.set_cons_succ]
          refine wpAnyH_ready (rs := [40]) (by kernel_rfl) (by simp) ?_
          refine AllReadyH.cons rfl (fun K hK => ?_) AllReadyH.nil
          go_simp
          refine (HK.out.x1.same HK.out.x1 HF1.out.b).mono ?_
          rw [sameSs_self]
          rintro e v40 ⟨rfl, hb⟩
          replace HK := Lib.hid (HK.out.on hb)
          clear hb
          refine hK _ _ HK.out.s2 (fun hHeld => ?_)
          clear hK K
          try simp only [Act.put, List.getElem_toArray, List.getElem_cons_succ, List.getElem_cons_zero, List.setIfInBounds_toArray, List.set_cons_zero, List.set_cons_succ]
          refine wpAnyH_take (i := 41) (v := .bool true) rfl (by kernel_rfl) (by kernel_rfl) (by kernel_rfl) (fun _ _ _ h => h) (Or.inl ⟨by rfl, by (intro w hS; try (obtain ⟨s0, s1⟩ := hS); go_simp)⟩) hHeld ?_
          try simp only [Act.put, List.getElem_toArray, List.getElem_cons_succ, List.getElem_cons_zero, List.setIfInBounds_toArray, List.set_cons_zero, List.set_cons_succ]
          refine wpAnyH_take (i := 42) (v := .bool true) rfl (by kernel_rfl) (by kernel_rfl) (by kernel_rfl) (fun _ _ _ h => h) (Or.inl ⟨by rfl, by (intro w hS; try (obtain ⟨s0, s1⟩ := hS); go_simp)⟩) hHeld ?_
          try simp only [Act.put, List.getElem_toArray, List.getElem_cons_succ, List.getElem_cons_zero, List.setIfInBounds_toArray, List.set_cons_zero, List.set_cons_succ]
          refine wpAnyH_ready (rs := [43]) (by kernel_rfl) (by simp) ?_
          refine AllReadyH.cons rfl (fun K hK => ?_) AllReadyH.nil
          go_simp
          refine (HWK.out _ HK.out.tx).mono ?_
          rintro e v43 ⟨rfl, hb⟩
          replace HK := Lib.hid (HK.out.on hb)
          clear hb
          refine hK _ _ HK.out.s2 (fun hHeld => ?_)
          clear hK K
          try simp only [Act.put, List.getElem_toArray, List.getElem_cons_succ, List.getElem_cons_zero, List.setIfInBounds_toArray, List.set_cons_zero, List.set_cons_succ]
          refine wpAnyH_take (i := 44) (v := .bool true) rfl (by kernel_rfl) (by kernel_rfl) (by kernel_rfl) (fun _ _ _ h => h) (Or.inl ⟨by rfl, by (intro w hS; try (obtain ⟨s0, s1⟩ := hS); go_simp)⟩) hHeld ?_
          try simp only [Act.put, List.getElem_toArray, List.getElem_cons_succ, List.getElem_cons_zero, List.setIfInBounds_toArray, List.set_cons_zero, List.set_cons_succ]
          refine wpAnyH_take (i := 45) (v := .bool true) rfl (by kernel_rfl) (by kernel_rfl) (by kernel_rfl) (fun _ _ _ h => h) (Or.inl ⟨by rfl, by (intro w hS; try (obtain ⟨s0, s1⟩ := hS); go_simp)⟩) hHeld ?_
          try simp only [Act.put, List.getElem_toArray, List.getElem_cons_succ, List.getElem_cons_zero, List.setIfInBounds_toArray, List.set_cons_zero, List.set_cons_succ]
          refine wpAnyH_done (by kernel_rfl) ?_ _
          repeat (first | go_values | go_skip | go_guarded | go_step | go_upon)
          go_ret
          exact ⟨rfl, HK.out.below⟩
end Go.Proofs.YtmmdigeciphglaaGreatDoor
