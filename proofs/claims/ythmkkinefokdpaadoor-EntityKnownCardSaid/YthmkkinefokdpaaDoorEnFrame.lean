/- What the rows of layer 3 list (tables, two sentinels), and what it gives to the walks. No condition. -/
import Derived.Test.YthmkkinefokdpaaDoorCards
import Derived.Test.YthmkkinefokdpaaDoorTie
import Derived.Test.YthmkkinefokdpaaDoorEnKnown
import Derived.ProofKit
import Derived.OpenShut
import Derived.Lib.LaidU8
import Derived.PinnedBridge
import Derived.Lay
import Derived.SevenTiedAt
import Derived.Stop.LaidErr
namespace Go.Proofs.YthmkkinefokdpaaDoor
open Go.RowKit Go.Shelf Go.Lib
open Go.ChangeShapes Go.WideShapes Go.ChangeAt

def laidAllOf : List (String × DataW Unit) := [("math/bits.deBruijn32tab", Rows.laid_math_bits_deBruijn32tab), ("math/bits.deBruijn64tab", Rows.laid_math_bits_deBruijn64tab), ("internal/strconv.uint64pow10", Rows.laid_internal_strconv_uint64pow10), ("unicode/utf8.acceptRanges", Rows.laid_unicode_utf8_acceptRanges), ("strconv.ErrRange", Rows.laid_strconv_ErrRange), ("strconv.ErrSyntax", Rows.laid_strconv_ErrSyntax), ("hopscotch/utf.characters", Rows.laid_hopscotch_utf_characters), ("unicode/utf8.first", Rows.laid_unicode_utf8_first)]
theorem accept_eq : (Rows.laid_unicode_utf8_acceptRanges : DataW Unit) = acceptData := by kernel_rfl
theorem first_eq : Rows.laid_unicode_utf8_first = firstData := Pinned.utf8First_eq
def charL : List (Int × Int) := [(9, 10), (13, 13), (32, 55295), (57344, 65533), (65536, 1114111)]
theorem chars_eq : (Rows.laid_hopscotch_utf_characters : DataW Unit) = .agg (charL.map fun x => .agg ([x.1, x.2].map fun z => .lit (.int .i32 z))) := by kernel_rfl
theorem xU8 : U8Extra Tryd.prog Tryd.lays260_ren := ⟨by kernel_rfl, by kernel_rfl, by kernel_rfl, by kernel_rfl, by kernel_rfl, by kernel_rfl, by kernel_rfl⟩
theorem gChars : Tryd.prog.globalNamed "hopscotch/utf.characters" = some 2 := by kernel_rfl
theorem yChars : (Tryd.prog.globals[2]?).map (·.type) = some 82 := by kernel_rfl
theorem cSpan : Tryd.prog.cellsOf 81 = 2 := by kernel_rfl
theorem cI32 : Tryd.prog.cellsOf 21 = 1 := by kernel_rfl

/-- The table's cells, two by two. -/
theorem chars_cells {W : World} (h : VarReads Tryd.prog W "hopscotch/utf.characters" Rows.laid_hopscotch_utf_characters) (i : Nat) (hi : i < 5) (a b : Int) (hab : charL[i]? = some (a, b)) :
    W.cell? ⟨2, 2 * i, none⟩ = some (.int .i32 a) ∧ W.cell? ⟨2, 2 * i + 1, none⟩ = some (.int .i32 b) := by
  obtain ⟨g, t, cs, fuel, p, hg, hty, hvar, hd⟩ := h
  obtain rfl := Option.some.inj (gChars.symm.trans hg)
  obtain rfl := Option.some.inj (yChars.symm.trans hty)
  rw [chars_eq] at hd
  obtain ⟨fuel', d, q, hdi, he⟩ := array_elem Tryd.underlying82 hd i hi
  rw [List.getElem?_map, hab] at hdi
  simp only [Option.map_some, Option.some.injEq] at hdi
  subst hdi
  rw [cSpan] at he
  have hcs := ints_of_struct Tryd.underlying81 (fun j f hj => by
    match j, hj with
    | 0, hj => simp at hj; subst hj; exact ⟨Tryd.underlying21, rfl, cI32⟩
    | 1, hj => simp at hj; subst hj; exact ⟨Tryd.underlying21, rfl, cI32⟩
    | j + 2, hj => simp at hj) (by rw [cSpan]; rfl) he
  have e0 := congrArg (·[0]?) hcs
  have e1 := congrArg (·[1]?) hcs
  simp only [List.getElem?_take, List.getElem?_drop] at e0 e1
  constructor
  · rw [World.var?_cell hg hvar (2 * i), ← Array.getElem?_toList]
    simpa [Nat.mul_comm] using e0
  · rw [World.var?_cell hg hvar (2 * i + 1), ← Array.getElem?_toList]
    simpa [Nat.mul_comm] using e1

/-- WHAT THE ROWS' LIST GIVES. -/
theorem tabs_of {W : World} (hL : laidMet Tryd.prog laidAllOf W) : Tabs W := by
  have hf : VarReads Tryd.prog W "unicode/utf8.first" firstData := first_eq ▸ laidMet.reads hL (.tail _ (.tail _ (.tail _ (.tail _ (.tail _ (.tail _ (.tail _ (.head _))))))))
  have ha : VarReads Tryd.prog W "unicode/utf8.acceptRanges" acceptData := accept_eq ▸ laidMet.reads hL (.tail _ (.tail _ (.tail _ (.head _))))
  have hc := laidMet.reads hL (.tail _ (.tail _ (.tail _ (.tail _ (.tail _ (.tail _ (.head _)))))))
  have h0 := chars_cells hc 0 (by decide) _ _ rfl
  have h1 := chars_cells hc 1 (by decide) _ _ rfl
  have h2 := chars_cells hc 2 (by decide) _ _ rfl
  have h3 := chars_cells hc 3 (by decide) _ _ rfl
  have h4 := chars_cells hc 4 (by decide) _ _ rfl
  exact ⟨utf8Tabs_of_reads Tryd.lays260 xU8 hf ha, h0.1, h0.2, h1.1, h1.2, h2.1, h2.2, h3.1, h3.2, h4.1, h4.2⟩
theorem gES : Tryd.prog.globalNamed "strconv.ErrSyntax" = some 4 := by kernel_rfl
theorem yES : (Tryd.prog.globals[4]?).map (·.type) = some 52 := by kernel_rfl
theorem cES : Tryd.prog.cellsOf 104 = 1 := by kernel_rfl
theorem cStr : Tryd.prog.cellsOf 9 = 1 := by kernel_rfl
theorem starES : "*" ++ "errors.errorString" = "*errors.errorString" := by decide
theorem rowES (u : TypeId) (h : Tryd.prog.typeName? 3 u = some "*errors.errorString") : u = 102 :=
  typeName_ptr_named (nm := "errors.errorString") (by rw [starES]; kernel_rfl) (by kernel_rfl) (by decide) u (by rw [starES]; exact h)
theorem tb_of {W : World} (hL : laidMet Tryd.prog laidAllOf W) : Tb W := by
  refine ⟨tabs_of hL, ?_⟩
  obtain ⟨a0, _, hv0, -, -, -⟩ := laid_sentinel (laidMet.tail (laidMet.tail (laidMet.tail (laidMet.tail (laidMet.tail hL))))) gES yES Tryd.underlying52 rowES Tryd.underlying102 Tryd.underlying104 rfl rfl Tryd.underlying9 cES cStr
  exact ⟨_, _, by have h0 := World.var?_cell gES hv0 0; simpa using h0⟩
theorem own : ownKnob Tryd.prog.godebug = none := by kernel_rfl
end Go.Proofs.YthmkkinefokdpaaDoor
