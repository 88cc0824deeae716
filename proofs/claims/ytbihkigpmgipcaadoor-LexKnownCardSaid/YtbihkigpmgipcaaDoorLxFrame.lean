/- What the rows of layer 7 list (the table of signs), and what it gives to the walks. No condition. -/
import Derived.Test.YtbihkigpmgipcaaDoorCards
import Derived.Test.YtbihkigpmgipcaaDoorTie
import Derived.Test.YtbihkigpmgipcaaDoorLxShow
import Derived.Test.YtbihkigpmgipcaaDoorLxWalk6
import Derived.Handed
import Derived.Shelf.Vars
import Derived.ProofKit
import Derived.OpenShut
import Derived.Lay
import Derived.Lib.LaidU8
import Derived.SevenTiedAt
import Derived.Stop.LaidErr
namespace Go.Proofs.YtbihkigpmgipcaaDoor
open Go.RowKit Go.Shelf Go.Lib
open Go.ChangeShapes Go.WideShapes Go.ChangeAt

def laidAllOf : List (String × DataW Unit) := [("hopscotch/lex.signs", Rows.laid_hopscotch_lex_signs)]
theorem signs_eq : (Rows.laid_hopscotch_lex_signs : DataW Unit) = .agg (sgB.map fun x => .lit (.string x.data.toList)) := by kernel_rfl
theorem gSigns : Tryd.prog.globalNamed "hopscotch/lex.signs" = some 0 := by kernel_rfl
theorem ySigns : (Tryd.prog.globals[0]?).map (·.type) = some 69 := by kernel_rfl
theorem cStr : Tryd.prog.cellsOf 9 = 1 := by kernel_rfl
theorem ba_of {a b : ByteArray} (h : a.data.toList = b.data.toList) : a = b := by
  cases a with | mk x => cases b with | mk y => simpa using h
theorem sg_of {W : World} (hL : laidMet Tryd.prog laidAllOf W) : Sg W := by
  have h : VarReads Tryd.prog W "hopscotch/lex.signs" Rows.laid_hopscotch_lex_signs := laidMet.reads hL (.head _)
  obtain ⟨g, t, cs, fuel, p, hg, hty, hvar, hd⟩ := h
  obtain rfl := Option.some.inj (gSigns.symm.trans hg)
  obtain rfl := Option.some.inj (ySigns.symm.trans hty)
  rw [signs_eq] at hd
  intro j hj
  obtain ⟨fuel', d, q, hdi, he⟩ := array_elem Tryd.underlying69 hd j hj
  rw [List.getElem?_map, List.getElem?_eq_getElem hj] at hdi
  simp only [Option.map_some, Option.some.injEq] at hdi
  subst hdi
  rw [cStr] at he
  obtain ⟨s, hs, hx, _⟩ := DataW.trod_string Tryd.underlying9 he
  have hx1 := congrArg Prod.fst hx
  simp only [DataW.lit.injEq, Lit.string.injEq] at hx1
  have hsv : s = sgB[j] := ba_of hx1.symm
  have e0 := congrArg (·[0]?) hs
  simp only [List.getElem?_take, List.getElem?_drop] at e0
  rw [World.var?_cell gSigns hvar j, ← Array.getElem?_toList, ← hsv]
  simpa using e0
theorem own : ownKnob Tryd.prog.godebug = none := by kernel_rfl
theorem kind7 : Kind7 Sg := ⟨fun _ _ h b => h.below b (Nat.le_refl _), fun s w hs h => ltoks_any s w hs h, fun s w hs h => is_any s w (by unfold maxLen; omega) h⟩
end Go.Proofs.YtbihkigpmgipcaaDoor
