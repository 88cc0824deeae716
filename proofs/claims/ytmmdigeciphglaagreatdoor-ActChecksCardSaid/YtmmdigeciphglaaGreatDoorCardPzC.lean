/- The row and card of ActChecks: for every input the answer is true, and the input reads as it did. Condition: the listed tables and sentinels start as the program's text lays them (the card ties them). -/
import Derived.Test.YtmmdigeciphglaaGreatDoorPzB26
import Derived.Test.YtmmdigeciphglaaGreatDoorPzC00
import Derived.Lib.Bytealg
import Derived.Lib.ItoaNum
import Derived.Lib.ParseIntBCases
import Derived.WalkKit
import Derived.BigQuiet
import Derived.WalkSmall
import Derived.Lib.IndexLaws
import Derived.Deep.AppendLies
import Derived.OwnWalk
import Derived.Lib.OthersKept
import Derived.Lib.Hide
import Derived.Test.YtmmdigeciphglaaGreatDoorProg
import Derived.Laws.EntriesVeiled
import Derived.Lib.CutLaws
import Derived.Deep.RegionHeld3
import Derived.WalkLawsBesides
import Derived.Outline
import Derived.Handy
import Derived.Deep.DeepFit
import Derived.Deep.QuietTactic
import Derived.WalkSpells
import Derived.IntWalk
import Derived.Test.YtmmdigeciphglaaGreatDoorChecked
import Derived.LaidEql
import Derived.Stop.Asserts
import Derived.RowKitTokens
import Derived.Lib.SmallJoins
import Derived.Lib.LaidTab
import Derived.Deep.RegionLaw
import Derived.Deep.CutRange
import Derived.StillTailTactics
import Derived.Laws.Externs
import Derived.Lib.FrozenHead2
import Derived.Lib.UnsafeStr
import Derived.Deep.RegionWith
import Derived.Deep.DeepMust
import Derived.Test.YtmmdigeciphglaaGreatDoorCards
import Derived.Test.YtmmdigeciphglaaGreatDoorTie
import Derived.Handed
import Derived.ProofKit
import Derived.OpenShut
import Derived.Lay
import Derived.Lib.LaidU8
import Derived.SevenTiedAt
import Derived.Stop.LaidErr
import Derived.Deep.Slices
import Derived.ChangeSame
import Derived.ReadAgain
import Derived.Carry
import Derived.Test.YtmmdigeciphglaaGreatDoorPzC01
import Derived.Test.YtmmdigeciphglaaGreatDoorPzC12
import Derived.Test.YtmmdigeciphglaaGreatDoorPzC13
namespace Go.Proofs.YtmmdigeciphglaaGreatDoor
open Go.RowKit Go.Shelf Go.Lib
open Go.ChangeShapes Go.WideShapes Go.ChangeAt
set_option maxRecDepth 100000
namespace cardActChecks
theorem lifted (os : Os) (started : os.Started) (H : Type) (enc : TypeId × Value → H) :
    ReturnsInHanded {} Tryz.checked os 4 .any (fun w args => (Rows.actChecksSpec.pre enc Tryz.prog Tryz.f4 [] false w args ∧ laidMetH Tryz.prog laidAllTy w) ∧ sizedMet enc Tryz.prog Tryz.f4 (OpenSpec.ofChange Rows.actChecksSpec) false w args)
      (Rows.actChecksSpec.post enc Tryz.prog Tryz.f4 false true false false) := by
  refine returnsInHanded_of_change_and (C := Tryz.checked) (X := fun w _ => laidMetH Tryz.prog laidAllTy w) (fun _ _ _ hh h => h.of_heap hh) own started (by kernel_rfl) Tryz.func4
    (ChangeSpec.witness_shaped (enc := enc) (C := Tryz.checked) (os := os) (X := fun w _ => laidMetH Tryz.prog laidAllTy w) false (World.laidAll Tryz.prog os laidAllTy) #[.agg #[.slice none 0 0], .agg #[.slice none 0 0], .slice none 0 0, .slice none 0 0] 8 (World.laidAll_os _ _ _)
      (World.shaped_of_ZipB (by kernel_rfl) (by kernel_rfl)) (by kernel_rfl) (by kernel_rfl) (by kernel_rfl)
      (by rw [MakeChecks.laidMetH_plain _ _ _ (by kernel_rfl)]; exact laidMet_laidAll _ (by kernel_rfl) (by kernel_rfl))) ?_
  intro W base args ds gs before hval0 hW _ _ hL _
  have hval : ∀ (j : Nat) t v, Tryz.f4.params[j]? = some t → args[j]? = some v → Value.okWide Tryz.prog W .any base t v := hval0
  have hW' := hW
  obtain ⟨p, q, hA0, hV, rfl, _, _⟩ := hW
  have hA : DataW.TrodAll enc Tryz.prog W 0 (fun _ => true) true Tryz.f4.params.toList args.toList ds p := hA0
  rw [Tryz.params4] at hA hval
  obtain ⟨v0, v1, v2, v3, d0, d1, d2, d3, p0, p1, p2, p3, rfl, rfl, rfl, h0, h1, h2, h3⟩ := trodAll_four hA
  obtain ⟨rfl, rfl⟩ := trodVars_none hV
  have hlt := DataW.TrodAll.lt hA
  obtain ⟨A0, c0, l0, rfl, n0, k0, b0, f0⟩ := body_of (hval 0 29 v0 rfl rfl) h0
  obtain ⟨A1, c1, l1, rfl, n1, k1, b1, f1⟩ := body_of (hval 1 29 v1 rfl rfl) h1
  obtain ⟨A2, c2, l2, rfl, k2, b2, o2, n2⟩ := strs_of (hval 2 36 v2 rfl rfl) h2
  unfold maxLen at b2
  obtain ⟨A3, c3, l3, rfl, k3, b3, o3, n3⟩ := strs_of (hval 3 36 v3 rfl rfl) h3
  unfold maxLen at b3
  simp only [List.append_nil] at hW'
  rw [MakeChecks.laidMetH_plain _ _ _ (by kernel_rfl)] at hL
  have T := tyx_of hL
  refine (achecks_any put_dg11 W T A0 c0 l0 n0 k0 b0 f0 A1 c1 l1 n1 k1 b1 f1 A2 c2 l2 n2 k2 (by unfold maxLen; omega) o2 A3 c3 l3 n3 k3 (by unfold maxLen; omega) o3).mono fun e W' ⟨he, hb⟩ => ?_
  subst he
  exact ⟨_, rfl, _, _, _, [], p0 ++ (p1 ++ (p2 ++ p3)), [], hW', trodAll_mk1 (shut_bool Tryz.underlying4 _), trodAll_mk4 (trod_again h0 hb (of_decide_eq_true (by kernel_rfl)) (fun q hq => hlt q (by simp [hq])) (fun q hq => decide_eq_true (hlt q (by simp [hq])))) (trod_again h1 hb (of_decide_eq_true (by kernel_rfl)) (fun q hq => hlt q (by simp [hq])) (fun q hq => decide_eq_true (hlt q (by simp [hq])))) (trod_again h2 hb (of_decide_eq_true (by kernel_rfl)) (fun q hq => hlt q (by simp [hq])) (fun q hq => decide_eq_true (hlt q (by simp [hq])))) (trod_again h3 hb (of_decide_eq_true (by kernel_rfl)) (fun q hq => hlt q (by simp [hq])) (fun q hq => decide_eq_true (hlt q (by simp [hq])))), rfl, hb.frame _, fun h => by cases h⟩
theorem holds : Rows.ActChecksSaid :=
  OpenClaim.holds_of_wide 4 Tryz.f4 rfl rfl rfl rfl rfl rfl rfl ⟨rfl, rfl, rfl, rfl, rfl⟩ rfl rfl rfl rfl rfl (by kernel_rfl) Tryz.func4 joinActChecks.closed
    (of_decide_eq_true (by kernel_rfl)) (by unfold Func.isWrapper; rw [if_neg (of_decide_eq_false (by kernel_rfl))]; exact ⟨rfl, rfl⟩)
    (fun os started H enc _ => lifted os started H enc)
theorem plain (f : FuncId) (fn : Func) (hf : Tryz.pinned.checked.prog.funcNamed "hopscotch/hopscotchlaw11.ActChecks" = some f) (hfn : Tryz.pinned.checked.prog.funcs[f]? = some fn) :
    true = Tryz.pinned.checked.prog.looks [] ∧ ∀ (j : Nat) t, fn.params[j]? = some t → Tryz.pinned.checked.prog.wantsStandIn t = false := by
  obtain rfl : f = 4 := Option.some.inj ((show Tryz.prog.funcNamed "hopscotch/hopscotchlaw11.ActChecks" = some 4 by kernel_rfl).symm.trans hf) |>.symm
  obtain rfl : fn = Tryz.f4 := (Option.some.inj (Tryz.func4.symm.trans hfn)).symm
  refine ⟨by kernel_rfl, fun j t ht => ?_⟩
  rw [Tryz.params4] at ht
  have hm : t ∈ [29, 29, 36, 36] := by simpa using Array.mem_of_getElem? ht
  have hall : ([29, 29, 36, 36].all fun u => !Tryz.prog.wantsStandIn u) = true := by kernel_rfl
  exact (show Tryz.prog.wantsStandIn t = false by simpa using List.all_eq_true.1 hall t hm)
theorem card : Rows.ActChecksCardSaid :=
  Claim7.holds_tied_plain_at .later [] _ _ _ _ holds (fun _ h => by cases h) (by kernel_rfl) (fun _ h => by cases h) actChecks_row_tie rfl ⟨rfl, rfl⟩ (by kernel_rfl) rfl plain (by kernel_rfl)
end cardActChecks
end Go.Proofs.YtmmdigeciphglaaGreatDoor
