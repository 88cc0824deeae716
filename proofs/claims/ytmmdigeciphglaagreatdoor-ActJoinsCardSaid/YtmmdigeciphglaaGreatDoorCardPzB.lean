/- The row and card of ActJoins: for every input the answer is true, and the input reads as it did. Condition: the listed tables and sentinels start as the program's text lays them (the card ties them). -/
import Derived.Test.YtmmdigeciphglaaGreatDoorPzB19
import Derived.Test.YtmmdigeciphglaaGreatDoorPzB21
import Derived.Test.YtmmdigeciphglaaGreatDoorPzB29
import Derived.Test.YtmmdigeciphglaaGreatDoorPzB30
namespace Go.Proofs.YtmmdigeciphglaaGreatDoor
open Go.RowKit Go.Shelf Go.Lib
open Go.ChangeShapes Go.WideShapes Go.ChangeAt
open Go.ChangeMaps (open_string shut_string)
set_option maxRecDepth 100000
namespace cardActJoins
theorem lifted (os : Os) (started : os.Started) (H : Type) (enc : TypeId × Value → H) :
    ReturnsInHanded {} Tryz.checked os 6 .any (fun w args => (Rows.actJoinsSpec.pre enc Tryz.prog Tryz.f6 [] false w args ∧ laidMetH Tryz.prog laidAllTy w) ∧ sizedMet enc Tryz.prog Tryz.f6 (OpenSpec.ofChange Rows.actJoinsSpec) false w args)
      (Rows.actJoinsSpec.post enc Tryz.prog Tryz.f6 false true false false) := by
  refine returnsInHanded_of_change_and (C := Tryz.checked) (X := fun w _ => laidMetH Tryz.prog laidAllTy w) (fun _ _ _ hh h => h.of_heap hh) own started (by kernel_rfl) Tryz.func6
    (ChangeSpec.witness_shaped (enc := enc) (C := Tryz.checked) (os := os) (X := fun w _ => laidMetH Tryz.prog laidAllTy w) false (World.laidAll Tryz.prog os laidAllTy) #[.string ⟨#[]⟩, .string ⟨#[]⟩, .slice none 0 0, .slice none 0 0, .slice none 0 0] 8 (World.laidAll_os _ _ _)
      (World.shaped_of_ZipB (by kernel_rfl) (by kernel_rfl)) (by kernel_rfl) (by kernel_rfl) (by kernel_rfl)
      (by rw [MakeChecks.laidMetH_plain _ _ _ (by kernel_rfl)]; exact laidMet_laidAll _ (by kernel_rfl) (by kernel_rfl))) ?_
  intro W base args ds gs before hval0 hW _ _ hL _
  have hval : ∀ (j : Nat) t v, Tryz.f6.params[j]? = some t → args[j]? = some v → Value.okWide Tryz.prog W .any base t v := hval0
  have hW' := hW
  obtain ⟨p, q, hA0, hV, rfl, _, _⟩ := hW
  have hA : DataW.TrodAll enc Tryz.prog W 0 (fun _ => true) true Tryz.f6.params.toList args.toList ds p := hA0
  rw [Tryz.params6] at hA hval
  obtain ⟨v0, v1, v2, v3, v4, d0, d1, d2, d3, d4, p0, p1, p2, p3, p4, rfl, rfl, rfl, h0, h1, h2, h3, h4⟩ := trodAll_five hA
  obtain ⟨rfl, rfl⟩ := trodVars_none hV
  have hlt := DataW.TrodAll.lt hA
  obtain ⟨x0, rfl, rfl, rfl, wx0⟩ := open_string Tryz.underlying9 (hval 0 9 v0 rfl rfl) h0
  obtain ⟨x1, rfl, rfl, rfl, wx1⟩ := open_string Tryz.underlying9 (hval 1 9 v1 rfl rfl) h1
  obtain ⟨A2, c2, l2, rfl, k2, b2, o2, n2⟩ := strs_of (hval 2 36 v2 rfl rfl) h2
  unfold maxLen at b2
  obtain ⟨A3, c3, l3, rfl, k3, b3, o3, n3⟩ := strs_of (hval 3 36 v3 rfl rfl) h3
  unfold maxLen at b3
  obtain ⟨A4, c4, l4, rfl, k4, b4, o4, n4⟩ := strs_of (hval 4 36 v4 rfl rfl) h4
  unfold maxLen at b4
  simp only [List.append_nil] at hW'
  rw [MakeChecks.laidMetH_plain _ _ _ (by kernel_rfl)] at hL
  have T := tyx_of hL
  refine (ajoins_any W T x0 x1 (by simpa [Lit.wf] using wx0) (by simpa [Lit.wf] using wx1) A2 c2 l2 n2 k2 (by unfold maxLen; omega) o2 A3 c3 l3 n3 k3 (by unfold maxLen; omega) o3 A4 c4 l4 n4 k4 (by unfold maxLen; omega) o4).mono fun e W' ⟨he, hb⟩ => ?_
  subst he
  exact ⟨_, rfl, _, _, _, [], [] ++ ([] ++ (p2 ++ (p3 ++ p4))), [], hW', trodAll_mk1 (shut_bool Tryz.underlying4 _), trodAll_mk5 (shut_string Tryz.underlying9 wx0) (shut_string Tryz.underlying9 wx1) (trod_again h2 hb (of_decide_eq_true (by kernel_rfl)) (fun q hq => hlt q (by simp [hq])) (fun q hq => decide_eq_true (hlt q (by simp [hq])))) (trod_again h3 hb (of_decide_eq_true (by kernel_rfl)) (fun q hq => hlt q (by simp [hq])) (fun q hq => decide_eq_true (hlt q (by simp [hq])))) (trod_again h4 hb (of_decide_eq_true (by kernel_rfl)) (fun q hq => hlt q (by simp [hq])) (fun q hq => decide_eq_true (hlt q (by simp [hq])))), rfl, hb.frame _, fun h => by cases h⟩
theorem holds : Rows.ActJoinsSaid :=
  OpenClaim.holds_of_wide 6 Tryz.f6 rfl rfl rfl rfl rfl rfl rfl ⟨rfl, rfl, rfl, rfl, rfl⟩ rfl rfl rfl rfl rfl (by kernel_rfl) Tryz.func6 joinActJoins.closed
    (of_decide_eq_true (by kernel_rfl)) (by unfold Func.isWrapper; rw [if_neg (of_decide_eq_false (by kernel_rfl))]; exact ⟨rfl, rfl⟩)
    (fun os started H enc _ => lifted os started H enc)
theorem plain (f : FuncId) (fn : Func) (hf : Tryz.pinned.checked.prog.funcNamed "hopscotch/hopscotchlaw11.ActJoins" = some f) (hfn : Tryz.pinned.checked.prog.funcs[f]? = some fn) :
    true = Tryz.pinned.checked.prog.looks [] ∧ ∀ (j : Nat) t, fn.params[j]? = some t → Tryz.pinned.checked.prog.wantsStandIn t = false := by
  obtain rfl : f = 6 := Option.some.inj ((show Tryz.prog.funcNamed "hopscotch/hopscotchlaw11.ActJoins" = some 6 by kernel_rfl).symm.trans hf) |>.symm
  obtain rfl : fn = Tryz.f6 := (Option.some.inj (Tryz.func6.symm.trans hfn)).symm
  refine ⟨by kernel_rfl, fun j t ht => ?_⟩
  rw [Tryz.params6] at ht
  have hm : t ∈ [9, 9, 36, 36, 36] := by simpa using Array.mem_of_getElem? ht
  have hall : ([9, 9, 36, 36, 36].all fun u => !Tryz.prog.wantsStandIn u) = true := by kernel_rfl
  exact (show Tryz.prog.wantsStandIn t = false by simpa using List.all_eq_true.1 hall t hm)
theorem card : Rows.ActJoinsCardSaid :=
  Claim7.holds_tied_plain_at .later [] _ _ _ _ holds (fun _ h => by cases h) (by kernel_rfl) (fun _ h => by cases h) actJoins_row_tie rfl ⟨rfl, rfl⟩ (by kernel_rfl) rfl plain (by kernel_rfl)
end cardActJoins
end Go.Proofs.YtmmdigeciphglaaGreatDoor
