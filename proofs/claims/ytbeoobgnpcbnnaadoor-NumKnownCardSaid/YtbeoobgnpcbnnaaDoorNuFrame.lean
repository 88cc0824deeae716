/- What the rows of layer 6 list (tables, two sentinels), and what it gives to the walks. No condition. -/
import Derived.Test.YtbeoobgnpcbnnaaDoorCards
import Derived.Test.YtbeoobgnpcbnnaaDoorTie
import Derived.Test.YtbeoobgnpcbnnaaDoorNuText
import Derived.Handed
import Derived.Shelf.Vars
import Derived.ProofKit
import Derived.OpenShut
import Derived.Lay
import Derived.SevenTiedAt
import Derived.Stop.LaidErr
namespace Go.Proofs.YtbeoobgnpcbnnaaDoor
open Go.RowKit Go.Shelf Go.Lib
open Go.ChangeShapes Go.WideShapes Go.ChangeAt

def laidAllOf : List (String × DataW Unit) := [("math/bits.deBruijn32tab", Rows.laid_math_bits_deBruijn32tab), ("math/bits.deBruijn64tab", Rows.laid_math_bits_deBruijn64tab), ("internal/strconv.uint64pow10", Rows.laid_internal_strconv_uint64pow10), ("strconv.ErrRange", Rows.laid_strconv_ErrRange), ("strconv.ErrSyntax", Rows.laid_strconv_ErrSyntax)]
theorem pow_eq : (Rows.laid_internal_strconv_uint64pow10 : DataW Unit) = tabData .u64 pow10Tab := by kernel_rfl
theorem yPow : (Tryd.prog.globals[2]?).map (·.type) = some 100 := by kernel_rfl
theorem gER : Tryd.prog.globalNamed "strconv.ErrRange" = some 0 := by kernel_rfl
theorem yER : (Tryd.prog.globals[0]?).map (·.type) = some 48 := by kernel_rfl
theorem cES : Tryd.prog.cellsOf 108 = 1 := by kernel_rfl
theorem cStr : Tryd.prog.cellsOf 9 = 1 := by kernel_rfl
theorem starES : "*" ++ "errors.errorString" = "*errors.errorString" := by decide
theorem rowES (u : TypeId) (h : Tryd.prog.typeName? 3 u = some "*errors.errorString") : u = 106 :=
  typeName_ptr_named (nm := "errors.errorString") (by rw [starES]; kernel_rfl) (by kernel_rfl) (by decide) u (by rw [starES]; exact h)
theorem tb_of {W : World} (hL : laidMet Tryd.prog laidAllOf W) : Tb W := by
  constructor
  · obtain ⟨a0, _, hv0, -, -, -⟩ := laid_sentinel (laidMet.tail (laidMet.tail (laidMet.tail hL))) gER yER Tryd.underlying48 rowES Tryd.underlying106 Tryd.underlying108 rfl rfl Tryd.underlying9 cES cStr
    exact ⟨_, by have h0 := World.var?_cell gER hv0 0; simpa using h0⟩
  · have h := (laidMet.tail (laidMet.tail hL))
    rw [pow_eq] at h
    exact tabIs_of_head gPow yPow Tryd.underlying100 Tryd.underlying68 (by kernel_rfl) (by kernel_rfl) h
theorem own : ownKnob Tryd.prog.godebug = none := by kernel_rfl
end Go.Proofs.YtbeoobgnpcbnnaaDoor
