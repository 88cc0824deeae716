/- Facts and walks for the statement. -/
import Derived.Test.YtmmdigeciphglaaGreatDoorCards
import Derived.Test.YtmmdigeciphglaaGreatDoorChecked
import Derived.JoinedOf
import Derived.KernelRfl
namespace Go.Proofs.YtmmdigeciphglaaGreatDoor
namespace joinActBack
theorem and_t {a b : Bool} (ha : a = true) (hb : b = true) : (a && b) = true := by rw [ha, hb]; rfl
theorem j0 : (Rows.actBackRow.wf (OpenSpec.ofChange Rows.actBackSpec) && laidOutB Tryz.pinned.checked.prog && mapsRowed Tryz.pinned.checked.prog && Tryz.f5.params.all (Tryz.pinned.checked.prog.readableRec ·) && namedTie Tryz.pinned.checked.prog Rows.actBackRow.named Rows.actBackSpec.vars && (Rows.actBackRow.stops == []) && (Tryz.pinned.checked.prog.stops == []) && (Rows.actBackRow.knobs == []) && (Tryz.pinned.checked.prog.stopKnobs == [])) = true := by kernel_rfl
theorem j1 : ((Rows.actBackRow.inPlace == Tryz.pinned.checked.prog.inPlace 5)) = true := by kernel_rfl
theorem j2 : ((Rows.actBackRow.unfollowed == Tryz.pinned.checked.prog.unfollowed 5)) = true := by kernel_rfl
theorem j3 : ((Rows.actBackRow.recurses == Tryz.pinned.checked.prog.recurses 5)) = true := by kernel_rfl
theorem j4 : ((Rows.actBackRow.named == Tryz.pinned.checked.prog.varsNamed 5)) = true := by kernel_rfl
theorem j5 : ((Rows.actBackRow.maps == (Tryz.f5.params.toList ++ Rows.actBackSpec.plain.varTypes Tryz.pinned.checked.prog).any (Tryz.pinned.checked.prog.mapsRec ·))) = true := by kernel_rfl
theorem j6 : ((Rows.actBackRow.ifaces == (Tryz.f5.params.toList ++ Rows.actBackSpec.plain.varTypes Tryz.pinned.checked.prog).any (Tryz.pinned.checked.prog.ifacesRec ·))) = true := by kernel_rfl
theorem j7 : ((Rows.actBackRow.mapsOut == Tryz.pinned.checked.prog.mapsAmong Tryz.f5.resultTypes.toList)) = true := by kernel_rfl
theorem j8 : ((Rows.actBackRow.loops == (Tryz.f5.params.toList ++ Rows.actBackSpec.plain.varTypes Tryz.pinned.checked.prog).any (Tryz.pinned.checked.prog.loopsFrom ·))) = true := by kernel_rfl
theorem j9 : ((Rows.actBackRow.wideKeys == (Tryz.f5.params.toList ++ Rows.actBackSpec.plain.varTypes Tryz.pinned.checked.prog ++ Tryz.f5.resultTypes.toList).any (Tryz.pinned.checked.prog.wideKeysFrom ·))) = true := by kernel_rfl
theorem j10 : (Rows.actBackSpec.vars.all (Tryz.pinned.checked.prog.varReadable ·)) = true := by kernel_rfl
theorem j11 : (Tryz.f5.resultTypes.all (fun t => Tryz.pinned.checked.prog.readableRec t && decide (t < Tryz.pinned.checked.prog.types.size))) = true := by kernel_rfl
theorem j12 : ((Rows.actBackRow.ifacesOut == Tryz.f5.resultTypes.toList.any (Tryz.pinned.checked.prog.ifacesRec ·))) = true := by kernel_rfl
theorem j13 : ((Rows.actBackRow.loopsOut == Tryz.f5.resultTypes.toList.any (Tryz.pinned.checked.prog.loopsFrom ·))) = true := by kernel_rfl
theorem j14 : ((Rows.actBackRow.plainKeys == Tryz.pinned.checked.prog.plainKeys)) = true := by kernel_rfl
theorem j15 : (Rows.actBackRow.shortTexts.isNone) = true := by kernel_rfl
theorem j16 : (Tryz.pinned.checked.prog.stopsHeard) = true := by kernel_rfl
theorem j17 : (Tryz.pinned.checked.prog.mayEnter) = true := by kernel_rfl
theorem j18 : ((Rows.actBackRow.lifted == Tryz.pinned.checked.prog.liftsFinal)) = true := by kernel_rfl
theorem j19 : ((Tryz.pinned.checked.prog.make == some Rows.actBackRow.make)) = true := by kernel_rfl
theorem j20 : ((Rows.actBackRow.kinds == (if Rows.actBackRow.domain.isEmpty then [] else Tryz.f5.params.toList.map fun t => match Tryz.pinned.checked.prog.underlying t with | some (.int k) => some k | _ => none))) = true := by kernel_rfl
theorem j21 : ((Rows.actBackRow.pinned == Rows.actBackRow.pinnedBy)) = true := by kernel_rfl
theorem j22 : ((Rows.actBackRow.veiled == (Tryz.f5.params.toList ++ Rows.actBackSpec.plain.varTypes Tryz.pinned.checked.prog ++ Tryz.f5.resultTypes.toList).any (Tryz.pinned.checked.prog.veiledRec ·))) = true := by kernel_rfl
theorem j23 : (Rows.actBackRow.veiledFits Tryz.pinned.checked.prog Tryz.f5.params.toList (Tryz.f5.params.toList ++ Rows.actBackSpec.plain.varTypes Tryz.pinned.checked.prog ++ Tryz.f5.resultTypes.toList)) = true := by kernel_rfl
set_option maxRecDepth 100000 in
theorem closed : joinedFacts Tryz.pinned.checked.prog 5 Tryz.f5 Rows.actBackSpec Rows.actBackRow = true := (and_t (and_t (and_t (and_t (and_t (and_t (and_t (and_t (and_t (and_t (and_t (and_t (and_t (and_t (and_t (and_t (and_t (and_t (and_t (and_t (and_t (and_t (and_t j0 j1) j2) j3) j4) j5) j6) j7) j8) j9) j10) j11) j12) j13) j14) j15) j16) j17) j18) j19) j20) j21) j22) j23)
end joinActBack
end Go.Proofs.YtmmdigeciphglaaGreatDoor
