/- Facts and walks for the statement. -/
import Derived.Test.YtmmdigeciphglaaGreatDoorCards
import Derived.Test.YtmmdigeciphglaaGreatDoorChecked
import Derived.JoinedOf
import Derived.KernelRfl
namespace Go.Proofs.YtmmdigeciphglaaGreatDoor
namespace joinActJoins
theorem and_t {a b : Bool} (ha : a = true) (hb : b = true) : (a && b) = true := by rw [ha, hb]; rfl
theorem j0 : (Rows.actJoinsRow.wf (OpenSpec.ofChange Rows.actJoinsSpec) && laidOutB Tryz.pinned.checked.prog && mapsRowed Tryz.pinned.checked.prog && Tryz.f6.params.all (Tryz.pinned.checked.prog.readableRec ·) && namedTie Tryz.pinned.checked.prog Rows.actJoinsRow.named Rows.actJoinsSpec.vars && (Rows.actJoinsRow.stops == []) && (Tryz.pinned.checked.prog.stops == []) && (Rows.actJoinsRow.knobs == []) && (Tryz.pinned.checked.prog.stopKnobs == [])) = true := by kernel_rfl
theorem j1 : ((Rows.actJoinsRow.inPlace == Tryz.pinned.checked.prog.inPlace 6)) = true := by kernel_rfl
theorem j2 : ((Rows.actJoinsRow.unfollowed == Tryz.pinned.checked.prog.unfollowed 6)) = true := by kernel_rfl
theorem j3 : ((Rows.actJoinsRow.recurses == Tryz.pinned.checked.prog.recurses 6)) = true := by kernel_rfl
theorem j4 : ((Rows.actJoinsRow.named == Tryz.pinned.checked.prog.varsNamed 6)) = true := by kernel_rfl
theorem j5 : ((Rows.actJoinsRow.maps == (Tryz.f6.params.toList ++ Rows.actJoinsSpec.plain.varTypes Tryz.pinned.checked.prog).any (Tryz.pinned.checked.prog.mapsRec ·))) = true := by kernel_rfl
theorem j6 : ((Rows.actJoinsRow.ifaces == (Tryz.f6.params.toList ++ Rows.actJoinsSpec.plain.varTypes Tryz.pinned.checked.prog).any (Tryz.pinned.checked.prog.ifacesRec ·))) = true := by kernel_rfl
theorem j7 : ((Rows.actJoinsRow.mapsOut == Tryz.pinned.checked.prog.mapsAmong Tryz.f6.resultTypes.toList)) = true := by kernel_rfl
theorem j8 : ((Rows.actJoinsRow.loops == (Tryz.f6.params.toList ++ Rows.actJoinsSpec.plain.varTypes Tryz.pinned.checked.prog).any (Tryz.pinned.checked.prog.loopsFrom ·))) = true := by kernel_rfl
theorem j9 : ((Rows.actJoinsRow.wideKeys == (Tryz.f6.params.toList ++ Rows.actJoinsSpec.plain.varTypes Tryz.pinned.checked.prog ++ Tryz.f6.resultTypes.toList).any (Tryz.pinned.checked.prog.wideKeysFrom ·))) = true := by kernel_rfl
theorem j10 : (Rows.actJoinsSpec.vars.all (Tryz.pinned.checked.prog.varReadable ·)) = true := by kernel_rfl
theorem j11 : (Tryz.f6.resultTypes.all (fun t => Tryz.pinned.checked.prog.readableRec t && decide (t < Tryz.pinned.checked.prog.types.size))) = true := by kernel_rfl
theorem j12 : ((Rows.actJoinsRow.ifacesOut == Tryz.f6.resultTypes.toList.any (Tryz.pinned.checked.prog.ifacesRec ·))) = true := by kernel_rfl
theorem j13 : ((Rows.actJoinsRow.loopsOut == Tryz.f6.resultTypes.toList.any (Tryz.pinned.checked.prog.loopsFrom ·))) = true := by kernel_rfl
theorem j14 : ((Rows.actJoinsRow.plainKeys == Tryz.pinned.checked.prog.plainKeys)) = true := by kernel_rfl
theorem j15 : (Rows.actJoinsRow.shortTexts.isNone) = true := by kernel_rfl
theorem j16 : (Tryz.pinned.checked.prog.stopsHeard) = true := by kernel_rfl
theorem j17 : (Tryz.pinned.checked.prog.mayEnter) = true := by kernel_rfl
theorem j18 : ((Rows.actJoinsRow.lifted == Tryz.pinned.checked.prog.liftsFinal)) = true := by kernel_rfl
theorem j19 : ((Tryz.pinned.checked.prog.make == some Rows.actJoinsRow.make)) = true := by kernel_rfl
theorem j20 : ((Rows.actJoinsRow.kinds == (if Rows.actJoinsRow.domain.isEmpty then [] else Tryz.f6.params.toList.map fun t => match Tryz.pinned.checked.prog.underlying t with | some (.int k) => some k | _ => none))) = true := by kernel_rfl
theorem j21 : ((Rows.actJoinsRow.pinned == Rows.actJoinsRow.pinnedBy)) = true := by kernel_rfl
theorem j22 : ((Rows.actJoinsRow.veiled == (Tryz.f6.params.toList ++ Rows.actJoinsSpec.plain.varTypes Tryz.pinned.checked.prog ++ Tryz.f6.resultTypes.toList).any (Tryz.pinned.checked.prog.veiledRec ·))) = true := by kernel_rfl
theorem j23 : (Rows.actJoinsRow.veiledFits Tryz.pinned.checked.prog Tryz.f6.params.toList (Tryz.f6.params.toList ++ Rows.actJoinsSpec.plain.varTypes Tryz.pinned.checked.prog ++ Tryz.f6.resultTypes.toList)) = true := by kernel_rfl
set_option maxRecDepth 100000 in
theorem closed : joinedFacts Tryz.pinned.checked.prog 6 Tryz.f6 Rows.actJoinsSpec Rows.actJoinsRow = true := (and_t (and_t (and_t (and_t (and_t (and_t (and_t (and_t (and_t (and_t (and_t (and_t (and_t (and_t (and_t (and_t (and_t (and_t (and_t (and_t (and_t (and_t (and_t j0 j1) j2) j3) j4) j5) j6) j7) j8) j9) j10) j11) j12) j13) j14) j15) j16) j17) j18) j19) j20) j21) j22) j23)
end joinActJoins
end Go.Proofs.YtmmdigeciphglaaGreatDoor
