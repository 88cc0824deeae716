/- Facts and walks for the statement. -/
import Derived.Test.YtkgoikdppikkpaaGreatDoorCards
import Derived.Test.YtkgoikdppikkpaaGreatDoorChecked
import Derived.JoinedOf
import Derived.KernelRfl
namespace Go.Proofs.YtkgoikdppikkpaaGreatDoor
namespace joinEvalTypes
theorem and_t {a b : Bool} (ha : a = true) (hb : b = true) : (a && b) = true := by rw [ha, hb]; rfl
theorem j0 : (Rows.evalTypesRow.wf (OpenSpec.ofChange Rows.evalTypesSpec) && laidOutB Tryz.pinned.checked.prog && mapsRowed Tryz.pinned.checked.prog && Tryz.f11.params.all (Tryz.pinned.checked.prog.readableRec ·) && namedTie Tryz.pinned.checked.prog Rows.evalTypesRow.named Rows.evalTypesSpec.vars && (Rows.evalTypesRow.stops == []) && (Tryz.pinned.checked.prog.stops == []) && (Rows.evalTypesRow.knobs == []) && (Tryz.pinned.checked.prog.stopKnobs == [])) = true := by kernel_rfl
theorem j1 : ((Rows.evalTypesRow.inPlace == Tryz.pinned.checked.prog.inPlace 11)) = true := by kernel_rfl
theorem j2 : ((Rows.evalTypesRow.unfollowed == Tryz.pinned.checked.prog.unfollowed 11)) = true := by kernel_rfl
theorem j3 : ((Rows.evalTypesRow.recurses == Tryz.pinned.checked.prog.recurses 11)) = true := by kernel_rfl
theorem j4 : ((Rows.evalTypesRow.named == Tryz.pinned.checked.prog.varsNamed 11)) = true := by kernel_rfl
theorem j5 : ((Rows.evalTypesRow.maps == (Tryz.f11.params.toList ++ Rows.evalTypesSpec.plain.varTypes Tryz.pinned.checked.prog).any (Tryz.pinned.checked.prog.mapsRec ·))) = true := by kernel_rfl
theorem j6 : ((Rows.evalTypesRow.ifaces == (Tryz.f11.params.toList ++ Rows.evalTypesSpec.plain.varTypes Tryz.pinned.checked.prog).any (Tryz.pinned.checked.prog.ifacesRec ·))) = true := by kernel_rfl
theorem j7 : ((Rows.evalTypesRow.mapsOut == Tryz.pinned.checked.prog.mapsAmong Tryz.f11.resultTypes.toList)) = true := by kernel_rfl
theorem j8 : ((Rows.evalTypesRow.loops == (Tryz.f11.params.toList ++ Rows.evalTypesSpec.plain.varTypes Tryz.pinned.checked.prog).any (Tryz.pinned.checked.prog.loopsFrom ·))) = true := by kernel_rfl
theorem j9 : ((Rows.evalTypesRow.wideKeys == (Tryz.f11.params.toList ++ Rows.evalTypesSpec.plain.varTypes Tryz.pinned.checked.prog ++ Tryz.f11.resultTypes.toList).any (Tryz.pinned.checked.prog.wideKeysFrom ·))) = true := by kernel_rfl
theorem j10 : (Rows.evalTypesSpec.vars.all (Tryz.pinned.checked.prog.varReadable ·)) = true := by kernel_rfl
theorem j11 : (Tryz.f11.resultTypes.all (fun t => Tryz.pinned.checked.prog.readableRec t && decide (t < Tryz.pinned.checked.prog.types.size))) = true := by kernel_rfl
theorem j12 : ((Rows.evalTypesRow.ifacesOut == Tryz.f11.resultTypes.toList.any (Tryz.pinned.checked.prog.ifacesRec ·))) = true := by kernel_rfl
theorem j13 : ((Rows.evalTypesRow.loopsOut == Tryz.f11.resultTypes.toList.any (Tryz.pinned.checked.prog.loopsFrom ·))) = true := by kernel_rfl
theorem j14 : ((Rows.evalTypesRow.plainKeys == Tryz.pinned.checked.prog.plainKeys)) = true := by kernel_rfl
theorem j15 : (Rows.evalTypesRow.shortTexts.isNone) = true := by kernel_rfl
theorem j16 : (Tryz.pinned.checked.prog.stopsHeard) = true := by kernel_rfl
theorem j17 : (Tryz.pinned.checked.prog.mayEnter) = true := by kernel_rfl
theorem j18 : ((Rows.evalTypesRow.lifted == Tryz.pinned.checked.prog.liftsFinal)) = true := by kernel_rfl
theorem j19 : ((Tryz.pinned.checked.prog.make == some Rows.evalTypesRow.make)) = true := by kernel_rfl
theorem j20 : ((Rows.evalTypesRow.kinds == (if Rows.evalTypesRow.domain.isEmpty then [] else Tryz.f11.params.toList.map fun t => match Tryz.pinned.checked.prog.underlying t with | some (.int k) => some k | _ => none))) = true := by kernel_rfl
theorem j21 : ((Rows.evalTypesRow.pinned == Rows.evalTypesRow.pinnedBy)) = true := by kernel_rfl
theorem j22 : ((Rows.evalTypesRow.veiled == (Tryz.f11.params.toList ++ Rows.evalTypesSpec.plain.varTypes Tryz.pinned.checked.prog ++ Tryz.f11.resultTypes.toList).any (Tryz.pinned.checked.prog.veiledRec ·))) = true := by kernel_rfl
theorem j23 : (Rows.evalTypesRow.veiledFits Tryz.pinned.checked.prog Tryz.f11.params.toList (Tryz.f11.params.toList ++ Rows.evalTypesSpec.plain.varTypes Tryz.pinned.checked.prog ++ Tryz.f11.resultTypes.toList)) = true := by kernel_rfl
set_option maxRecDepth 100000 in
theorem closed : joinedFacts Tryz.pinned.checked.prog 11 Tryz.f11 Rows.evalTypesSpec Rows.evalTypesRow = true := (and_t (and_t (and_t (and_t (and_t (and_t (and_t (and_t (and_t (and_t (and_t (and_t (and_t (and_t (and_t (and_t (and_t (and_t (and_t (and_t (and_t (and_t (and_t j0 j1) j2) j3) j4) j5) j6) j7) j8) j9) j10) j11) j12) j13) j14) j15) j16) j17) j18) j19) j20) j21) j22) j23)
end joinEvalTypes
end Go.Proofs.YtkgoikdppikkpaaGreatDoor
