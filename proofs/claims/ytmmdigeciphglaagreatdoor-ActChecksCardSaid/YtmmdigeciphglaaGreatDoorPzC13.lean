/- Facts and walks for the statement. -/
import Derived.Test.YtmmdigeciphglaaGreatDoorPzB26
import Derived.Test.YtmmdigeciphglaaGreatDoorCards
import Derived.Test.YtmmdigeciphglaaGreatDoorChecked
import Derived.JoinedOf
import Derived.KernelRfl
namespace Go.Proofs.YtmmdigeciphglaaGreatDoor
namespace joinActChecks
theorem and_t {a b : Bool} (ha : a = true) (hb : b = true) : (a && b) = true := by rw [ha, hb]; rfl
theorem j0 : (Rows.actChecksRow.wf (OpenSpec.ofChange Rows.actChecksSpec) && laidOutB Tryz.pinned.checked.prog && mapsRowed Tryz.pinned.checked.prog && Tryz.f4.params.all (Tryz.pinned.checked.prog.readableRec ·) && namedTie Tryz.pinned.checked.prog Rows.actChecksRow.named Rows.actChecksSpec.vars && (Rows.actChecksRow.stops == []) && (Tryz.pinned.checked.prog.stops == []) && (Rows.actChecksRow.knobs == []) && (Tryz.pinned.checked.prog.stopKnobs == [])) = true := by kernel_rfl
theorem j1 : ((Rows.actChecksRow.inPlace == Tryz.pinned.checked.prog.inPlace 4)) = true := by kernel_rfl
theorem j2 : ((Rows.actChecksRow.unfollowed == Tryz.pinned.checked.prog.unfollowed 4)) = true := by kernel_rfl
theorem j3 : ((Rows.actChecksRow.recurses == Tryz.pinned.checked.prog.recurses 4)) = true := by kernel_rfl
theorem j4 : ((Rows.actChecksRow.named == Tryz.pinned.checked.prog.varsNamed 4)) = true := by kernel_rfl
theorem j5 : ((Rows.actChecksRow.maps == (Tryz.f4.params.toList ++ Rows.actChecksSpec.plain.varTypes Tryz.pinned.checked.prog).any (Tryz.pinned.checked.prog.mapsRec ·))) = true := by kernel_rfl
theorem j6 : ((Rows.actChecksRow.ifaces == (Tryz.f4.params.toList ++ Rows.actChecksSpec.plain.varTypes Tryz.pinned.checked.prog).any (Tryz.pinned.checked.prog.ifacesRec ·))) = true := by kernel_rfl
theorem j7 : ((Rows.actChecksRow.mapsOut == Tryz.pinned.checked.prog.mapsAmong Tryz.f4.resultTypes.toList)) = true := by kernel_rfl
theorem j8 : ((Rows.actChecksRow.loops == (Tryz.f4.params.toList ++ Rows.actChecksSpec.plain.varTypes Tryz.pinned.checked.prog).any (Tryz.pinned.checked.prog.loopsFrom ·))) = true := by kernel_rfl
theorem j9 : ((Rows.actChecksRow.wideKeys == (Tryz.f4.params.toList ++ Rows.actChecksSpec.plain.varTypes Tryz.pinned.checked.prog ++ Tryz.f4.resultTypes.toList).any (Tryz.pinned.checked.prog.wideKeysFrom ·))) = true := by kernel_rfl
theorem j10 : (Rows.actChecksSpec.vars.all (Tryz.pinned.checked.prog.varReadable ·)) = true := by kernel_rfl
theorem j11 : (Tryz.f4.resultTypes.all (fun t => Tryz.pinned.checked.prog.readableRec t && decide (t < Tryz.pinned.checked.prog.types.size))) = true := by kernel_rfl
theorem j12 : ((Rows.actChecksRow.ifacesOut == Tryz.f4.resultTypes.toList.any (Tryz.pinned.checked.prog.ifacesRec ·))) = true := by kernel_rfl
theorem j13 : ((Rows.actChecksRow.loopsOut == Tryz.f4.resultTypes.toList.any (Tryz.pinned.checked.prog.loopsFrom ·))) = true := by kernel_rfl
theorem j14 : ((Rows.actChecksRow.plainKeys == Tryz.pinned.checked.prog.plainKeys)) = true := by kernel_rfl
theorem j15 : (Rows.actChecksRow.shortTexts.isNone) = true := by kernel_rfl
theorem j16 : (Tryz.pinned.checked.prog.stopsHeard) = true := by kernel_rfl
theorem j17 : (Tryz.pinned.checked.prog.mayEnter) = true := by kernel_rfl
theorem j18 : ((Rows.actChecksRow.lifted == Tryz.pinned.checked.prog.liftsFinal)) = true := by kernel_rfl
theorem j19 : ((Tryz.pinned.checked.prog.make == some Rows.actChecksRow.make)) = true := by kernel_rfl
theorem j20 : ((Rows.actChecksRow.kinds == (if Rows.actChecksRow.domain.isEmpty then [] else Tryz.f4.params.toList.map fun t => match Tryz.pinned.checked.prog.underlying t with | some (.int k) => some k | _ => none))) = true := by kernel_rfl
theorem j21 : ((Rows.actChecksRow.pinned == Rows.actChecksRow.pinnedBy)) = true := by kernel_rfl
theorem j22 : ((Rows.actChecksRow.veiled == (Tryz.f4.params.toList ++ Rows.actChecksSpec.plain.varTypes Tryz.pinned.checked.prog ++ Tryz.f4.resultTypes.toList).any (Tryz.pinned.checked.prog.veiledRec ·))) = true := by kernel_rfl
theorem j23 : (Rows.actChecksRow.veiledFits Tryz.pinned.checked.prog Tryz.f4.params.toList (Tryz.f4.params.toList ++ Rows.actChecksSpec.plain.varTypes Tryz.pinned.checked.prog ++ Tryz.f4.resultTypes.toList)) = true := by kernel_rfl
set_option maxRecDepth 100000 in
theorem closed : joinedFacts Tryz.pinned.checked.prog 4 Tryz.f4 Rows.actChecksSpec Rows.actChecksRow = true := (and_t (and_t (and_t (and_t (and_t (and_t (and_t (and_t (and_t (and_t (and_t (and_t (and_t (and_t (and_t (and_t (and_t (and_t (and_t (and_t (and_t (and_t (and_t j0 j1) j2) j3) j4) j5) j6) j7) j8) j9) j10) j11) j12) j13) j14) j15) j16) j17) j18) j19) j20) j21) j22) j23)
end joinActChecks
end Go.Proofs.YtmmdigeciphglaaGreatDoor
