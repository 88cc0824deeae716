/- What the rows of layer 4 list (tables, two sentinels), and what it and the world's shape give to the walks. No condition. -/
import Derived.Test.YtgidpcfaeekjhaaGreatDoorCards
import Derived.Test.YtgidpcfaeekjhaaGreatDoorTie
import Derived.Test.YtgidpcfaeekjhaaGreatDoorTkIs
import Derived.Handed
import Derived.Shelf.Vars
import Derived.ProofKit
import Derived.OpenShut
import Derived.Lib.LaidU8
import Derived.PinnedBridge
import Derived.Lay
import Derived.SevenTiedAt
import Derived.Stop.LaidErr
namespace Go.Proofs.YtgidpcfaeekjhaaGreatDoor
open Go.RowKit Go.Shelf Go.Lib
open Go.ChangeShapes Go.WideShapes Go.ChangeAt

def laidAllOf : List (String × DataW Unit) := [("math/bits.deBruijn32tab", Rows.laid_math_bits_deBruijn32tab), ("math/bits.deBruijn64tab", Rows.laid_math_bits_deBruijn64tab), ("internal/strconv.uint64pow10", Rows.laid_internal_strconv_uint64pow10), ("unicode/utf8.acceptRanges", Rows.laid_unicode_utf8_acceptRanges), ("strconv.ErrRange", Rows.laid_strconv_ErrRange), ("strconv.ErrSyntax", Rows.laid_strconv_ErrSyntax), ("hopscotch/utf.characters", Rows.laid_hopscotch_utf_characters), ("unicode/utf8.first", Rows.laid_unicode_utf8_first)]
theorem accept_eq : (Rows.laid_unicode_utf8_acceptRanges : DataW Unit) = acceptData := by kernel_rfl
theorem first_eq : Rows.laid_unicode_utf8_first = firstData := Pinned.utf8First_eq
def charL : List (Int × Int) := [(9, 10), (13, 13), (32, 55295), (57344, 65533), (65536, 1114111)]
theorem chars_eq : (Rows.laid_hopscotch_utf_characters : DataW Unit) = .agg (charL.map fun x => .agg ([x.1, x.2].map fun z => .lit (.int .i32 z))) := by kernel_rfl
theorem xU8 : U8Extra Tryz.prog Tryz.lays260_ren := ⟨by kernel_rfl, by kernel_rfl, by kernel_rfl, by kernel_rfl, by kernel_rfl, by kernel_rfl, by kernel_rfl⟩
theorem gChars : Tryz.prog.globalNamed "hopscotch/utf.characters" = some 0 := by kernel_rfl
theorem yChars : (Tryz.prog.globals[0]?).map (·.type) = some 223 := by kernel_rfl
theorem cSpan : Tryz.prog.cellsOf 222 = 2 := by kernel_rfl
theorem cI32 : Tryz.prog.cellsOf 21 = 1 := by kernel_rfl

/-- The table's cells, two by two. -/
theorem chars_cells {W : World} (h : VarReads Tryz.prog W "hopscotch/utf.characters" Rows.laid_hopscotch_utf_characters) (i : Nat) (hi : i < 5) (a b : Int) (hab : charL[i]? = some (a, b)) :
    W.cell? ⟨0, 2 * i, none⟩ = some (.int .i32 a) ∧ W.cell? ⟨0, 2 * i + 1, none⟩ = some (.int .i32 b) := by
  obtain ⟨g, t, cs, fuel, p, hg, hty, hvar, hd⟩ := h
  obtain rfl := Option.some.inj (gChars.symm.trans hg)
  obtain rfl := Option.some.inj (yChars.symm.trans hty)
  rw [chars_eq] at hd
  obtain ⟨fuel', d, q, hdi, he⟩ := array_elem Tryz.underlying223 hd i hi
  rw [List.getElem?_map, hab] at hdi
  simp only [Option.map_some, Option.some.injEq] at hdi
  subst hdi
  rw [cSpan] at he
  have hcs := ints_of_struct Tryz.underlying222 (fun j f hj => by
    match j, hj with
    | 0, hj => simp at hj; subst hj; exact ⟨Tryz.underlying21, rfl, cI32⟩
    | 1, hj => simp at hj; subst hj; exact ⟨Tryz.underlying21, rfl, cI32⟩
    | j + 2, hj => simp at hj) (by rw [cSpan]; rfl) he
  have e0 := congrArg (·[0]?) hcs
  have e1 := congrArg (·[1]?) hcs
  simp only [List.getElem?_take, List.getElem?_drop] at e0 e1
  constructor
  · rw [World.var?_cell hg hvar (2 * i), ← Array.getElem?_toList]
    simpa [Nat.mul_comm] using e0
  · rw [World.var?_cell hg hvar (2 * i + 1), ← Array.getElem?_toList]
    simpa [Nat.mul_comm] using e1

/-- WHAT THE ROWS' LIST GIVES. -/
theorem tabs_of {W : World} (hL : laidMet Tryz.prog laidAllOf W) : Tabs W := by
  have hf : VarReads Tryz.prog W "unicode/utf8.first" firstData := first_eq ▸ laidMet.reads hL (.tail _ (.tail _ (.tail _ (.tail _ (.tail _ (.tail _ (.tail _ (.head _))))))))
  have ha : VarReads Tryz.prog W "unicode/utf8.acceptRanges" acceptData := accept_eq ▸ laidMet.reads hL (.tail _ (.tail _ (.tail _ (.head _))))
  have hc := laidMet.reads hL (.tail _ (.tail _ (.tail _ (.tail _ (.tail _ (.tail _ (.head _)))))))
  have h0 := chars_cells hc 0 (by decide) _ _ rfl
  have h1 := chars_cells hc 1 (by decide) _ _ rfl
  have h2 := chars_cells hc 2 (by decide) _ _ rfl
  have h3 := chars_cells hc 3 (by decide) _ _ rfl
  have h4 := chars_cells hc 4 (by decide) _ _ rfl
  exact ⟨utf8Tabs_of_reads Tryz.lays260 xU8 hf ha, h0.1, h0.2, h1.1, h1.2, h2.1, h2.2, h3.1, h3.2, h4.1, h4.2⟩
theorem gES : Tryz.prog.globalNamed "strconv.ErrSyntax" = some 4 := by kernel_rfl
theorem yES : (Tryz.prog.globals[4]?).map (·.type) = some 129 := by kernel_rfl
theorem cES : Tryz.prog.cellsOf 252 = 1 := by kernel_rfl
theorem cStr : Tryz.prog.cellsOf 9 = 1 := by kernel_rfl
theorem starES : "*" ++ "errors.errorString" = "*errors.errorString" := by decide
theorem rowES (u : TypeId) (h : Tryz.prog.typeName? 3 u = some "*errors.errorString") : u = 250 :=
  typeName_ptr_named (nm := "errors.errorString") (by rw [starES]; kernel_rfl) (by kernel_rfl) (by decide) u (by rw [starES]; exact h)
theorem tb_of {W : World} (hL : laidMet Tryz.prog laidAllOf W) : Tb W := by
  refine ⟨tabs_of hL, ?_⟩
  obtain ⟨a0, _, hv0, -, -, -⟩ := laid_sentinel (laidMet.tail (laidMet.tail (laidMet.tail (laidMet.tail (laidMet.tail hL))))) gES yES Tryz.underlying129 rowES Tryz.underlying250 Tryz.underlying252 rfl rfl Tryz.underlying9 cES cStr
  exact ⟨_, _, by have h0 := World.var?_cell gES hv0 0; simpa using h0⟩
theorem own : ownKnob Tryz.prog.godebug = none := by kernel_rfl

/-! ### a row whose contract is handed the world's shape, too -/
section
variable {H : Type} {enc : TypeId × Value → H}
theorem row_shaped {a : Assume} {C : Checked} {os : Os} {f : FuncId} {fn : Func} {s : ChangeSpec} {conds : List PathCond} {apart fresh handsOn again : Bool} {X : World → Array Value → Prop}
    (hX : ∀ (w w' : World) (args : Array Value), w.heap = w'.heap → X w args → X w' args)
    (own : ownKnob C.prog.godebug = none) (started : os.Started) (noInit : C.prog.inits.idxOf? f = none) (hfn : C.prog.funcs[f]? = some fn)
    (witness : ∃ (w : World) (tape : Tape) (i : Input), w.os = os ∧ (w.forCall tape i).Shaped C.prog ∧ i.vars = [] ∧ Input.okWide C.prog (w.forCall tape i) .any w.heap.size f i ∧
      ((s.pre enc C.prog fn conds apart (w.forCall tape i).memory i.args ∧ X (w.forCall tape i).memory i.args) ∧ sizedMet enc C.prog fn (OpenSpec.ofChange s) apart (w.forCall tape i).memory i.args) ∧ a.holds C.prog (lone (Frame.enter C.prog f i.args .normal) [] (w.forCall tape i)))
    (contract : ∀ (W : World) (base : Nat) (args : Array Value) (ds gs : List (DataW H)) (before : List MemPlace),
      (∀ (j : Nat) t v, fn.params[j]? = some t → args[j]? = some v → Value.okWide C.prog W .any base t v) →
      DataW.Whole enc C.prog fn.params.toList s.vars apart W args.toList ds gs before → X W args → W.ShapedOpen C.prog →
      Calls C.prog f args W fun e W' => ∃ v, e = .returned v ∧ s.post enc C.prog fn apart fresh handsOn again W args v W') :
    ReturnsInHanded a C os f .any (fun w args => (s.pre enc C.prog fn conds apart w args ∧ X w args) ∧ sizedMet enc C.prog fn (OpenSpec.ofChange s) apart w args) (s.post enc C.prog fn apart fresh handsOn again) := by
  refine returnsInHanded_of_calls own started noInit witness ?_
  intro w tape i _ hsh _ hok hpre _
  obtain ⟨_, _, _, g, hg, _, _, _, _, hval⟩ := hok
  obtain rfl := Option.some.inj (hg.symm.trans hfn)
  obtain ⟨⟨⟨ds, gs, before, hw, _⟩, hx⟩, _⟩ := hpre
  refine (contract (w.forCall tape i) w.heap.size i.args ds gs before hval (DataW.Whole.of_heap (w' := w.forCall tape i) (by rfl) hw) (hX _ _ _ (by rfl) hx) hsh).mono ?_
  rintro e W' ⟨v, rfl, hp⟩
  exact ChangeSpec.post_blind hp
end
theorem mx_of {W : World} (h : W.ShapedOpen Tryz.prog) : Mx W := by
  exact Go.Proofs.cell_of_shapedOpen_int (t := 3) (zero := #[.int .i64 0]) (k := .i64) h (of_decide_eq_true (by kernel_rfl)) (by kernel_rfl) rfl (by kernel_rfl) (by kernel_rfl) Tryz.underlying3
end Go.Proofs.YtgidpcfaeekjhaaGreatDoor
