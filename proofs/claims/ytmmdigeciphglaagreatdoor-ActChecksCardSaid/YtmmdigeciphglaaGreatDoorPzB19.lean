/- Facts and walks for the statement. -/
import Derived.Test.YtmmdigeciphglaaGreatDoorCards
import Derived.Test.YtmmdigeciphglaaGreatDoorTie
import Derived.Test.YtmmdigeciphglaaGreatDoorPzB13
import Derived.Handed
import Derived.Shelf.Vars
import Derived.ProofKit
import Derived.OpenShut
import Derived.Lay
import Derived.Lib.LaidU8
import Derived.SevenTiedAt
import Derived.Stop.LaidErr
import Derived.Deep.Slices
import Derived.ChangeSame
import Derived.ReadAgain
import Derived.Test.YtmmdigeciphglaaGreatDoorPzB15
import Derived.Test.YtmmdigeciphglaaGreatDoorPzB18
import Derived.Carry
import Derived.Test.YtmmdigeciphglaaGreatDoorPzB00
import Derived.Test.YtmmdigeciphglaaGreatDoorPzB01
import Derived.Test.YtmmdigeciphglaaGreatDoorPzB02
namespace Go.Proofs.YtmmdigeciphglaaGreatDoor
open Go.RowKit Go.Shelf Go.Lib
open Go.ChangeShapes Go.WideShapes Go.ChangeAt
set_option maxRecDepth 100000
def laidAllOf : List (String × DataW Unit) := [("math/bits.deBruijn32tab", Rows.laid_math_bits_deBruijn32tab), ("math/bits.deBruijn64tab", Rows.laid_math_bits_deBruijn64tab), ("internal/strconv.uint64pow10", Rows.laid_internal_strconv_uint64pow10), ("unicode/utf8.acceptRanges", Rows.laid_unicode_utf8_acceptRanges), ("strconv.ErrRange", Rows.laid_strconv_ErrRange), ("strconv.ErrSyntax", Rows.laid_strconv_ErrSyntax), ("hopscotch/lex.signs", Rows.laid_hopscotch_lex_signs), ("hopscotch/expr.forms", Rows.laid_hopscotch_expr_forms), ("hopscotch/types.rules", Rows.laid_hopscotch_types_rules), ("unicode/utf8.first", Rows.laid_unicode_utf8_first)]
theorem pow_eq : (Rows.laid_internal_strconv_uint64pow10 : DataW Unit) = tabData .u64 pow10Tab := by kernel_rfl
theorem yPow : (Tryz.prog.globals[4]?).map (·.type) = some 297 := by kernel_rfl
theorem gER : Tryz.prog.globalNamed "strconv.ErrRange" = some 5 := by kernel_rfl
theorem yER : (Tryz.prog.globals[5]?).map (·.type) = some 157 := by kernel_rfl
theorem cES : Tryz.prog.cellsOf 355 = 1 := by kernel_rfl
theorem cStr : Tryz.prog.cellsOf 9 = 1 := by kernel_rfl
theorem starES : "*" ++ "errors.errorString" = "*errors.errorString" := by decide
theorem rowES (u : TypeId) (h : Tryz.prog.typeName? 3 u = some "*errors.errorString") : u = 353 :=
  typeName_ptr_named (nm := "errors.errorString") (by rw [starES]; kernel_rfl) (by kernel_rfl) (by decide) u (by rw [starES]; exact h)
theorem tb_of {W : World} (hL : laidMet Tryz.prog laidAllOf W) : Tb W := by
  constructor
  · obtain ⟨a0, _, hv0, -, -, -⟩ := laid_sentinel (laidMet.tail (laidMet.tail (laidMet.tail (laidMet.tail hL)))) gER yER Tryz.underlying157 rowES Tryz.underlying353 Tryz.underlying355 rfl rfl Tryz.underlying9 cES cStr
    exact ⟨_, by have h0 := World.var?_cell gER hv0 0; simpa using h0⟩
  · have h := (laidMet.tail (laidMet.tail hL))
    rw [pow_eq] at h
    exact tabIs_of_head gPow yPow Tryz.underlying297 Tryz.underlying284 (by kernel_rfl) (by kernel_rfl) h
theorem own : ownKnob Tryz.prog.godebug = none := by kernel_rfl
theorem signs_eq : (Rows.laid_hopscotch_lex_signs : DataW Unit) = .agg (sgB.map fun x => .lit (.string x.data.toList)) := by kernel_rfl
theorem gSigns : Tryz.prog.globalNamed "hopscotch/lex.signs" = some 0 := by kernel_rfl
theorem ySigns : (Tryz.prog.globals[0]?).map (·.type) = some 217 := by kernel_rfl
theorem ba_of {a b : ByteArray} (h : a.data.toList = b.data.toList) : a = b := by
  cases a with | mk x => cases b with | mk y => simpa using h
theorem sg_of {W : World} (hL : laidMet Tryz.prog laidAllOf W) : Sg W := by
  have h : VarReads Tryz.prog W "hopscotch/lex.signs" Rows.laid_hopscotch_lex_signs := laidMet.reads hL (.tail _ (.tail _ (.tail _ (.tail _ (.tail _ (.tail _ (.head _)))))))
  obtain ⟨g, t, cs, fuel, p, hg, hty, hvar, hd⟩ := h
  obtain rfl := Option.some.inj (gSigns.symm.trans hg)
  obtain rfl := Option.some.inj (ySigns.symm.trans hty)
  rw [signs_eq] at hd
  intro j hj
  obtain ⟨fuel', d, q, hdi, he⟩ := array_elem Tryz.underlying217 hd j hj
  rw [List.getElem?_map, List.getElem?_eq_getElem hj] at hdi
  simp only [Option.map_some, Option.some.injEq] at hdi
  subst hdi
  rw [cStr] at he
  obtain ⟨s, hs, hx, _⟩ := DataW.trod_string Tryz.underlying9 he
  have hx1 := congrArg Prod.fst hx
  simp only [DataW.lit.injEq, Lit.string.injEq] at hx1
  have hsv : s = sgB[j] := ba_of hx1.symm
  have e0 := congrArg (·[0]?) hs
  simp only [List.getElem?_take, List.getElem?_drop] at e0
  rw [World.var?_cell gSigns hvar j, ← Array.getElem?_toList, ← hsv]
  simpa using e0
theorem forms_eq : (Rows.laid_hopscotch_expr_forms : DataW Unit) = .agg ((List.range 23).map fun op => .agg [.lit (.string (fW op)), .lit (.int .u8 (fL op : Nat)), .lit (.int .i64 (fP op : Nat))]) := by kernel_rfl
theorem gForms : Tryz.prog.globalNamed "hopscotch/expr.forms" = some 1 := by kernel_rfl
theorem yForms : (Tryz.prog.globals[1]?).map (·.type) = some 225 := by kernel_rfl
theorem cForm : Tryz.prog.cellsOf 224 = 3 := by kernel_rfl
theorem fm_of {W : World} (hL : laidMet Tryz.prog laidAllOf W) : Fm W := by
  have h : VarReads Tryz.prog W "hopscotch/expr.forms" Rows.laid_hopscotch_expr_forms := laidMet.reads hL (.tail _ (.tail _ (.tail _ (.tail _ (.tail _ (.tail _ (.tail _ (.head _))))))))
  obtain ⟨g, t, cs, fuel, p, hg, hty, hvar, hd⟩ := h
  obtain rfl := Option.some.inj (gForms.symm.trans hg)
  obtain rfl := Option.some.inj (yForms.symm.trans hty)
  rw [forms_eq] at hd
  intro op hop
  obtain ⟨fuel', d, q, hdi, he⟩ := array_elem Tryz.underlying225 hd op hop
  rw [List.getElem?_map, List.getElem?_range hop] at hdi
  simp only [Option.map_some, Option.some.injEq] at hdi
  subst hdi
  rw [cForm] at he
  obtain ⟨xs, n', _, hxe, _, hxl, hg3⟩ := DataW.trod_struct Tryz.underlying224 he
  have hx3 : xs.length = 3 := hxl
  have hm := (Prod.mk.inj hxe).1
  simp only [DataW.agg.injEq] at hm
  have m := fun (j : Nat) => congrArg (fun (l : List (DataW Unit)) => l[j]?) hm
  have t0 : DataW.trod _ Tryz.prog W _ _ _ n' 9 (List.take (Tryz.prog.cellsOf 9) (List.drop 0 _)) = some (xs[0]'(by omega)) := (hg3 0 _ rfl).trans (List.getElem?_eq_getElem (by omega))
  have t1 : DataW.trod _ Tryz.prog W _ _ _ n' 5 (List.take (Tryz.prog.cellsOf 5) (List.drop 1 _)) = some (xs[1]'(by omega)) := (hg3 1 _ rfl).trans (List.getElem?_eq_getElem (by omega))
  have t2 : DataW.trod _ Tryz.prog W _ _ _ n' 3 (List.take (Tryz.prog.cellsOf 3) (List.drop 2 _)) = some (xs[2]'(by omega)) := (hg3 2 _ rfl).trans (List.getElem?_eq_getElem (by omega))
  simp only [show Tryz.prog.cellsOf 5 = 1 by kernel_rfl, show Tryz.prog.cellsOf 9 = 1 by kernel_rfl, show Tryz.prog.cellsOf 3 = 1 by kernel_rfl] at t0 t1 t2
  obtain ⟨s, e0, d0, _⟩ := DataW.trod_string Tryz.underlying9 t0
  obtain ⟨a, e1, d1, _⟩ := DataW.trod_int Tryz.underlying5 t1
  obtain ⟨b, e2, d2, _⟩ := DataW.trod_int Tryz.underlying3 t2
  have m0 := m 0
  have m1 := m 1
  have m2 := m 2
  simp only [List.getElem?_map, List.getElem?_eq_getElem (show 0 < xs.length by omega), List.getElem?_eq_getElem (show 1 < xs.length by omega), List.getElem?_eq_getElem (show 2 < xs.length by omega), Option.map_some, d0, d1, d2, List.getElem?_cons_zero, List.getElem?_cons_succ, Option.some.injEq, DataW.lit.injEq, Lit.string.injEq, Lit.int.injEq, true_and] at m0 m1 m2
  have q0 := congrArg (·[0]?) e0
  have q1 := congrArg (·[0]?) e1
  have q2 := congrArg (·[0]?) e2
  simp only [List.getElem?_take, List.getElem?_drop] at q0 q1 q2
  have hs : s = ⟨(fW op).toArray⟩ := ba_of (by rw [← m0])
  rw [World.var?_cell gForms hvar, World.var?_cell gForms hvar, World.var?_cell gForms hvar, ← Array.getElem?_toList, ← Array.getElem?_toList, ← Array.getElem?_toList, m1, m2, ← hs]
  exact ⟨by simpa using q0, by simpa using q1, by simpa using q2⟩
theorem tx_of {W : World} (hL : laidMet Tryz.prog laidAllOf W) : Tx W := ⟨sg_of hL, tb_of hL, fm_of hL⟩
end Go.Proofs.YtmmdigeciphglaaGreatDoor
namespace Go.Proofs.YtmmdigeciphglaaGreatDoor
open Go.RowKit Go.Shelf Go.Lib
open Go.ChangeShapes Go.WideShapes Go.ChangeAt
set_option maxRecDepth 100000
theorem cell_plain {w : World} {a : Addr} {v : Value} (h : w.cell? a = some v) : a = ⟨a.block, a.off, none⟩ ∧ a.block < w.heap.size := by
  obtain ⟨g, o, sp⟩ := a
  unfold World.cell? at h
  split at h
  · rename_i hh
    split at h
    · cases h
    · rename_i hs
      refine ⟨?_, (Array.getElem?_eq_some_iff.1 hh).1⟩
      cases sp with
      | none => rfl
      | some _ => exact absurd rfl hs
  · cases h
theorem add_plain (g o n : Nat) : (⟨g, o, none⟩ : Addr).add n = ⟨g, o + n, none⟩ := by
  unfold Addr.add
  split
  · rename_i h; subst h; rfl
  · rfl
section
variable {H : Type} {enc : TypeId × Value → H} {W : World}
theorem nodes_of {fuel : Nat} {cs : List Value} {x : DataW H × List MemPlace} (h : DataW.trod enc Tryz.prog W 0 (fun _ => true) true fuel 76 cs = some x) :
    ∃ A c l, cs = [.slice A l.length c] ∧ NdR W W.heap.size A l ∧ l.length ≤ c ∧ c ≤ maxLen ∧ Okn l := by
  rcases Deep.open_slice Tryz.underlying76 h with ⟨hc, _⟩ | ⟨a, len, cap, m, n, D, Pl, hcs, _, hl, hm, hmm, _, hi⟩
  · exact ⟨none, 0, [], hc, fun j hj => absurd hj (by simp), Nat.le_refl _, by decide, fun n hn => by cases hn⟩
  · have hi2 : ∀ i : Fin len, ∃ x : Ex.Nd, (W.cell? (a.add (i.1 * 6)) = some (.int .u8 x.op) ∧ W.cell? (a.add (i.1 * 6 + 1)) = some (.int .i64 x.num) ∧ W.cell? (a.add (i.1 * 6 + 2)) = some (.string ⟨x.nm.toArray⟩) ∧ W.cell? (a.add (i.1 * 6 + 3)) = some (.int .i64 x.a) ∧ W.cell? (a.add (i.1 * 6 + 4)) = some (.int .i64 x.b) ∧ W.cell? (a.add (i.1 * 6 + 5)) = some (.int .i64 x.c)) ∧ 0 ≤ x.op ∧ x.num ≤ 9223372036854775807 := fun i => by
      obtain ⟨cs', hce, ht'⟩ := hi i.1 (by rw [hmm]; simp; have := i.2; omega)
      have h5 : Tryz.prog.cellsOf 105 = 6 := by kernel_rfl
      obtain ⟨_, hcl, hat⟩ := World.cells?_some hce
      obtain ⟨xs, n', _, _, _, hxl, hg⟩ := DataW.trod_struct Tryz.underlying105 ht'
      rw [h5] at hcl hat
      have hx5 : xs.length = 6 := hxl
      match cs', hcl with
      | [v0, v1, v2, v3, v4, v5], _ =>
        have t0 : DataW.trod enc Tryz.prog W 0 (fun _ => true) true n' 5 (List.take (Tryz.prog.cellsOf 5) (List.drop 0 [v0, v1, v2, v3, v4, v5])) = some (xs[0]'(by omega)) := (hg 0 _ rfl).trans (List.getElem?_eq_getElem (by omega))
        have t1 : DataW.trod enc Tryz.prog W 0 (fun _ => true) true n' 2 (List.take (Tryz.prog.cellsOf 2) (List.drop 1 [v0, v1, v2, v3, v4, v5])) = some (xs[1]'(by omega)) := (hg 1 _ rfl).trans (List.getElem?_eq_getElem (by omega))
        have t2 : DataW.trod enc Tryz.prog W 0 (fun _ => true) true n' 9 (List.take (Tryz.prog.cellsOf 9) (List.drop 2 [v0, v1, v2, v3, v4, v5])) = some (xs[2]'(by omega)) := (hg 2 _ rfl).trans (List.getElem?_eq_getElem (by omega))
        have t3 : DataW.trod enc Tryz.prog W 0 (fun _ => true) true n' 3 (List.take (Tryz.prog.cellsOf 3) (List.drop 3 [v0, v1, v2, v3, v4, v5])) = some (xs[3]'(by omega)) := (hg 3 _ rfl).trans (List.getElem?_eq_getElem (by omega))
        have t4 : DataW.trod enc Tryz.prog W 0 (fun _ => true) true n' 3 (List.take (Tryz.prog.cellsOf 3) (List.drop 4 [v0, v1, v2, v3, v4, v5])) = some (xs[4]'(by omega)) := (hg 4 _ rfl).trans (List.getElem?_eq_getElem (by omega))
        have t5 : DataW.trod enc Tryz.prog W 0 (fun _ => true) true n' 3 (List.take (Tryz.prog.cellsOf 3) (List.drop 5 [v0, v1, v2, v3, v4, v5])) = some (xs[5]'(by omega)) := (hg 5 _ rfl).trans (List.getElem?_eq_getElem (by omega))
        simp only [show Tryz.prog.cellsOf 5 = 1 by kernel_rfl, show Tryz.prog.cellsOf 2 = 1 by kernel_rfl, show Tryz.prog.cellsOf 9 = 1 by kernel_rfl, show Tryz.prog.cellsOf 3 = 1 by kernel_rfl, List.drop_zero, List.drop_succ_cons, List.take_succ_cons, List.take_zero] at t0 t1 t2 t3 t4 t5
        have c0 := hat 0 (by omega)
        have c1 := hat 1 (by omega)
        have c2 := hat 2 (by omega)
        have c3 := hat 3 (by omega)
        have c4 := hat 4 (by omega)
        have c5 := hat 5 (by omega)
        rw [Deep.add_add] at c0 c1 c2 c3 c4 c5
        obtain ⟨z0, e0, _, w0⟩ := DataW.trod_int Tryz.underlying5 t0
        obtain ⟨z1, e1, _, w1⟩ := DataW.trod_int Tryz.underlying2 t1
        obtain ⟨N, e2, _, _⟩ := DataW.trod_string Tryz.underlying9 t2
        obtain ⟨z3, e3, _, _⟩ := DataW.trod_int Tryz.underlying3 t3
        obtain ⟨z4, e4, _, _⟩ := DataW.trod_int Tryz.underlying3 t4
        obtain ⟨z5, e5, _, _⟩ := DataW.trod_int Tryz.underlying3 t5
        simp only [List.cons.injEq, and_true] at e0 e1 e2 e3 e4 e5
        subst e0 e1 e2 e3 e4 e5
        simp [Lit.wf, IntKind.min, IntKind.max, IntKind.signed, IntKind.bits] at w0 w1
        exact ⟨⟨z0, z1, N.data.toList, z3, z4, z5⟩, ⟨c0, c1, c2, c3, c4, c5⟩, w0.1, w1.2⟩
    obtain ⟨f, hf⟩ := Classical.skolem.1 hi2
    have hlen : (List.ofFn f).length = len := List.length_ofFn
    refine ⟨some a, cap, List.ofFn f, by rw [hlen]; exact hcs, fun k hk => ?_, by rw [hlen]; exact hl, hm, fun y hy => ?_⟩
    · have hk' : k < len := by rw [← hlen]; exact hk
      obtain ⟨ha, hb⟩ := cell_plain (hf ⟨0, by omega⟩).1.1
      have hz : a.add (0 * 6) = a := by unfold Addr.add; rw [if_pos (by omega)]
      rw [hz] at ha hb
      have h1 := (hf ⟨k, hk'⟩).1
      rw [ha, add_plain, add_plain, add_plain, add_plain, add_plain, add_plain] at h1
      rw [List.getElem_ofFn]
      exact ⟨a.block, a.off, by rw [← ha], hb, h1⟩
    · obtain ⟨i, rfl⟩ := List.mem_ofFn.1 hy
      exact (hf i).2
theorem trod_again {W' : World} {t : TypeId} {v : Value} {d : DataW H} {p : List MemPlace} {sp : Nat → Bool} (h : DataW.Trod enc Tryz.prog W 0 (fun _ => true) true t v d p) (hb : Below W.heap.size W W') (ht : t < Tryz.prog.types.size) (hlt : ∀ q ∈ p, q.block < W.heap.size) (hsp : ∀ q ∈ p, sp q.block = true) :
    DataW.Trod enc Tryz.prog W' 0 sp true t v d p := by
  obtain ⟨n, hn⟩ := DataW.Trod.respare (kids_rows (by kernel_rfl) (by kernel_rfl)) (slices_full_of Tryz.prog (by kernel_rfl)) ht h hsp
  exact ⟨n, DataW.trod_carry n _ _ _ hn (fun q hq => hb.same (hlt q hq))⟩
end
end Go.Proofs.YtmmdigeciphglaaGreatDoor
namespace Go.Proofs.YtmmdigeciphglaaGreatDoor
open Go.RowKit Go.Shelf Go.Lib
open Go.ChangeShapes Go.WideShapes Go.ChangeAt
set_option maxRecDepth 100000
section
variable {H : Type} {enc : TypeId × Value → H} {W : World}
theorem trodAll_five {t0 t1 t2 t3 t4 : TypeId} {args : Array Value} {ds : List (DataW H)} {ps : List MemPlace} {base : Nat} {spare : Nat → Bool} {held : Bool} (h : DataW.TrodAll enc Tryz.prog W base spare held [t0, t1, t2, t3, t4] args.toList ds ps) :
    ∃ v0 v1 v2 v3 v4 d0 d1 d2 d3 d4 p0 p1 p2 p3 p4, args = #[v0, v1, v2, v3, v4] ∧ ds = [d0, d1, d2, d3, d4] ∧ ps = p0 ++ p1 ++ p2 ++ p3 ++ p4 ∧ DataW.Trod enc Tryz.prog W base spare held t0 v0 d0 p0 ∧ DataW.Trod enc Tryz.prog W base spare held t1 v1 d1 p1 ∧ DataW.Trod enc Tryz.prog W base spare held t2 v2 d2 p2 ∧ DataW.Trod enc Tryz.prog W base spare held t3 v3 d3 p3 ∧ DataW.Trod enc Tryz.prog W base spare held t4 v4 d4 p4 := by
  obtain ⟨v0, vs0, d0, ds0, p0, q0, hargs, rfl, rfl, hd0, r0⟩ := trodAll_cons h
  obtain ⟨v1, vs1, d1, ds1, p1, q1, rfl, rfl, rfl, hd1, r1⟩ := trodAll_cons r0
  obtain ⟨v2, vs2, d2, ds2, p2, q2, rfl, rfl, rfl, hd2, r2⟩ := trodAll_cons r1
  obtain ⟨v3, vs3, d3, ds3, p3, q3, rfl, rfl, rfl, hd3, r3⟩ := trodAll_cons r2
  obtain ⟨v4, vs4, d4, ds4, p4, q4, rfl, rfl, rfl, hd4, r4⟩ := trodAll_cons r3
  obtain ⟨rfl, rfl, rfl⟩ := trodAll_nil r4
  exact ⟨v0, v1, v2, v3, v4, d0, d1, d2, d3, d4, p0, p1, p2, p3, p4, by cases args; simp_all, rfl, by simp, hd0, hd1, hd2, hd3, hd4⟩
theorem trodAll_mk5 {t0 t1 t2 t3 t4 : TypeId} {v0 v1 v2 v3 v4 : Value} {d0 d1 d2 d3 d4 : DataW H} {p0 p1 p2 p3 p4 : List MemPlace} {base : Nat} {spare : Nat → Bool} {held : Bool} (h0 : DataW.Trod enc Tryz.prog W base spare held t0 v0 d0 p0) (h1 : DataW.Trod enc Tryz.prog W base spare held t1 v1 d1 p1) (h2 : DataW.Trod enc Tryz.prog W base spare held t2 v2 d2 p2) (h3 : DataW.Trod enc Tryz.prog W base spare held t3 v3 d3 p3) (h4 : DataW.Trod enc Tryz.prog W base spare held t4 v4 d4 p4) :
    DataW.TrodAll enc Tryz.prog W base spare held [t0, t1, t2, t3, t4] [v0, v1, v2, v3, v4] [d0, d1, d2, d3, d4] (p0 ++ (p1 ++ (p2 ++ (p3 ++ p4)))) := ⟨p0, _, h0, trodAll_mk4 h1 h2 h3 h4, rfl⟩
theorem expr_cells {fuel : Nat} {cs : List Value} {x : DataW H × List MemPlace} (hl : cs.length = 1) (h : DataW.trod enc Tryz.prog W 0 (fun _ => true) true fuel 78 cs = some x) :
    ∃ A c l, cs = [.slice A l.length c] ∧ NdR W W.heap.size A l ∧ l.length ≤ c ∧ c ≤ maxLen ∧ Okn l := by
  obtain ⟨u, rfl⟩ := List.length_eq_one_iff.1 hl
  obtain ⟨xs, n', _, _, _, hxl, hg⟩ := DataW.trod_struct Tryz.underlying78 h
  have hx1 : xs.length = 1 := hxl
  have t0 := (hg 0 _ rfl).trans (List.getElem?_eq_getElem (by omega))
  obtain ⟨A, c, l, e, q1, q2, q3, q4⟩ := nodes_of t0
  refine ⟨A, c, l, ?_, q1, q2, q3, q4⟩
  change List.take (Tryz.prog.cellsOf 76) [u] = _ at e
  rw [show Tryz.prog.cellsOf 76 = 1 by kernel_rfl] at e
  simpa using e
def FitIn (ps : List (Ac.St × Value)) : Prop := ∀ p ∈ ps, Okn p.1.x ∧ p.1.x.length ≤ maxLen ∧ p.1.nm.length ≤ maxLen
theorem stmts_of {fuel : Nat} {cs : List Value} {x : DataW H × List MemPlace} (h : DataW.trod enc Tryz.prog W 0 (fun _ => true) true fuel 27 cs = some x) :
    ∃ A c ps, cs = [.slice A ps.length c] ∧ StR W W.heap.size A ps ∧ ps.length ≤ c ∧ c ≤ maxLen ∧ FitIn ps := by
  rcases Deep.open_slice Tryz.underlying27 h with ⟨hc, _⟩ | ⟨a, len, cap, m, n, D, Pl, hcs, _, hl, hm, hmm, _, hi⟩
  · exact ⟨none, 0, [], hc, ⟨fun j hj => absurd hj (by simp), fun p hp => by cases hp⟩, Nat.le_refl _, by decide, fun n hn => by cases hn⟩
  · have hi2 : ∀ i : Fin len, ∃ x : Ac.St × Value, (W.cell? (a.add (i.1 * 3)) = some (.int .u8 x.1.k) ∧ W.cell? (a.add (i.1 * 3 + 1)) = some (.string ⟨x.1.nm.toArray⟩) ∧ W.cell? (a.add (i.1 * 3 + 2)) = some x.2) ∧ (∃ A' c', x.2 = .slice A' x.1.x.length c' ∧ x.1.x.length ≤ c' ∧ NdR W W.heap.size A' x.1.x) ∧ Okn x.1.x ∧ x.1.x.length ≤ maxLen ∧ x.1.nm.length ≤ maxLen := fun i => by
      obtain ⟨cs', hce, ht'⟩ := hi i.1 (by rw [hmm]; simp; have := i.2; omega)
      have h5 : Tryz.prog.cellsOf 80 = 3 := by kernel_rfl
      obtain ⟨_, hcl, hat⟩ := World.cells?_some hce
      obtain ⟨xs, n', _, _, _, hxl, hg⟩ := DataW.trod_struct Tryz.underlying80 ht'
      rw [h5] at hcl hat
      have hx5 : xs.length = 3 := hxl
      match cs', hcl with
      | [v0, v1, v2], _ =>
        have t0 : DataW.trod enc Tryz.prog W 0 (fun _ => true) true n' 5 (List.take (Tryz.prog.cellsOf 5) (List.drop 0 [v0, v1, v2])) = some (xs[0]'(by omega)) := (hg 0 _ rfl).trans (List.getElem?_eq_getElem (by omega))
        have t1 : DataW.trod enc Tryz.prog W 0 (fun _ => true) true n' 9 (List.take (Tryz.prog.cellsOf 9) (List.drop 1 [v0, v1, v2])) = some (xs[1]'(by omega)) := (hg 1 _ rfl).trans (List.getElem?_eq_getElem (by omega))
        have t2 : DataW.trod enc Tryz.prog W 0 (fun _ => true) true n' 78 (List.take (Tryz.prog.cellsOf 78) (List.drop 2 [v0, v1, v2])) = some (xs[2]'(by omega)) := (hg 2 _ rfl).trans (List.getElem?_eq_getElem (by omega))
        simp only [show Tryz.prog.cellsOf 5 = 1 by kernel_rfl, show Tryz.prog.cellsOf 9 = 1 by kernel_rfl, show Tryz.prog.cellsOf 78 = 1 by kernel_rfl, List.drop_zero, List.drop_succ_cons, List.take_succ_cons, List.take_zero] at t0 t1 t2
        have c0 := hat 0 (by omega)
        have c1 := hat 1 (by omega)
        have c2 := hat 2 (by omega)
        rw [Deep.add_add] at c0 c1 c2
        obtain ⟨z0, e0, _, w0⟩ := DataW.trod_int Tryz.underlying5 t0
        obtain ⟨N, e1, _, w1⟩ := DataW.trod_string Tryz.underlying9 t1
        obtain ⟨A', c', l, e2, q1, q2, q3, q4⟩ := expr_cells rfl t2
        simp only [List.cons.injEq, and_true] at e0 e1 e2
        subst e0 e1 e2
        exact ⟨(⟨z0, N.data.toList, l⟩, .slice A' l.length c'), ⟨c0, c1, c2⟩, ⟨A', c', rfl, q2, q1⟩, q4, Nat.le_trans q2 q3, by show N.data.toList.length ≤ maxLen; rw [← Lib.size_eq]; exact w1⟩
    obtain ⟨f, hf⟩ := Classical.skolem.1 hi2
    have hlen : (List.ofFn f).length = len := List.length_ofFn
    refine ⟨some a, cap, List.ofFn f, by rw [hlen]; exact hcs, ⟨fun k hk => ?_, fun p hp => ?_⟩, by rw [hlen]; exact hl, hm, fun y hy => ?_⟩
    · have hk' : k < len := by rw [← hlen]; exact hk
      obtain ⟨ha, hb⟩ := cell_plain (hf ⟨0, by omega⟩).1.1
      have hz : a.add (0 * 3) = a := by unfold Addr.add; rw [if_pos (by omega)]
      rw [hz] at ha hb
      have h1 := (hf ⟨k, hk'⟩).1
      rw [ha, add_plain, add_plain, add_plain] at h1
      rw [List.getElem_ofFn]
      exact ⟨a.block, a.off, by rw [← ha], hb, h1⟩
    · obtain ⟨i, rfl⟩ := List.mem_ofFn.1 hp
      exact (hf i).2.1
    · obtain ⟨i, rfl⟩ := List.mem_ofFn.1 hy
      exact (hf i).2.2
theorem body_of {r : Reach} {b0 : Nat} {v : Value} {d : DataW H} {p : List MemPlace} (hv : Value.okWide Tryz.prog W r b0 29 v) (h : DataW.Trod enc Tryz.prog W 0 (fun _ => true) true 29 v d p) :
    ∃ A c ps, v = .agg #[.slice A ps.length c] ∧ StR W W.heap.size A ps ∧ ps.length ≤ c ∧ c ≤ maxLen ∧ FitIn ps := by
  obtain ⟨cs, rfl, hcs⟩ := okWide_struct Tryz.underlying29 hv
  obtain ⟨fuel, hf⟩ := h
  obtain ⟨xs, n', _, _, _, hxl, hg⟩ := DataW.trod_struct Tryz.underlying29 hf
  have hx1 : xs.length = 1 := hxl
  rw [show Tryz.prog.cellsOf 29 = 1 by kernel_rfl] at hcs
  have t0 := (hg 0 _ rfl).trans (List.getElem?_eq_getElem (by omega))
  obtain ⟨A, c, l, e, q1, q2, q3, q4⟩ := stmts_of t0
  refine ⟨A, c, l, ?_, q1, q2, q3, q4⟩
  obtain ⟨l⟩ := cs
  match l, hcs with
  | [u], _ =>
    change List.take (Tryz.prog.cellsOf 27) [u] = _ at e
    rw [show Tryz.prog.cellsOf 27 = 1 by kernel_rfl] at e
    simp only [List.take_succ_cons, List.take_zero, List.cons.injEq, and_true] at e
    rw [e]
end
end Go.Proofs.YtmmdigeciphglaaGreatDoor
namespace Go.Proofs.YtmmdigeciphglaaGreatDoor
namespace Ty
open Ex
abbrev Nm := List UInt8
def rl : Nat → Nat × Nat × Nat × Nat
  | 1 => (0, 0, 0, 1) | 2 => (0, 0, 0, 1) | 3 => (0, 0, 0, 2) | 4 => (0, 0, 0, 2) | 5 => (1, 0, 0, 1) | 6 => (2, 0, 0, 2)
  | 7 => (1, 1, 0, 1) | 8 => (1, 1, 0, 1) | 9 => (1, 1, 0, 1) | 10 => (1, 1, 0, 1) | 11 => (1, 1, 0, 1)
  | 12 => (1, 1, 0, 2) | 13 => (1, 1, 0, 2) | 14 => (1, 1, 0, 2) | 15 => (1, 1, 0, 2) | 16 => (3, 3, 0, 2) | 17 => (3, 3, 0, 2)
  | 18 => (2, 2, 0, 2) | 19 => (2, 2, 0, 2) | 20 => (2, 2, 0, 2) | 21 => (2, 2, 0, 2) | 22 => (2, 3, 3, 3)
  | _ => (0, 0, 0, 0)
def pt (k x : Nat) : Nat := if x = 3 then k else x
def kat (l : List Nat) (p : Int) : Nat := if p < 0 then 0 else l.getD p.toNat 0
def kd (n : Nd) (l : List Nat) (ns : List Nm) : Nat :=
  if n.op = 2 ∧ n.nm ∉ ns then 0
  else if kat l n.a = pt (kat l n.b) (rl n.op.toNat).1 ∧ kat l n.b = pt (kat l n.b) (rl n.op.toNat).2.1 ∧ kat l n.c = pt (kat l n.b) (rl n.op.toNat).2.2.1 then pt (kat l n.b) (rl n.op.toNat).2.2.2 else 0
def kgo (ns : List Nm) : List Nd → List Nat → List Nat × Nat × Int
  | [], l => (l, 0, 0)
  | n :: r, l => if kd n l ns = 0 then ([], l.length, 90) else kgo ns r (l ++ [kd n l ns])
theorem kgo_bad {ns : List Nm} {n : Nd} {r : List Nd} {l : List Nat} (h : kd n l ns = 0) : kgo ns (n :: r) l = ([], l.length, 90) := if_pos h
theorem kgo_on {ns : List Nm} {n : Nd} {r : List Nd} {l : List Nat} (h : kd n l ns ≠ 0) : kgo ns (n :: r) l = kgo ns r (l ++ [kd n l ns]) := if_neg h
theorem rl_is (o : Nat) : (rl o).2.2.2 ≤ 3 := by
  unfold rl
  split <;> decide
theorem kd_kind {n : Nd} {l : List Nat} {ns : List Nm} (hl : ∀ k ∈ l, k = 1 ∨ k = 2) (h : kd n l ns ≠ 0) : kd n l ns = 1 ∨ kd n l ns = 2 := by
  have hb : kat l n.b = 0 ∨ kat l n.b = 1 ∨ kat l n.b = 2 := by
    unfold kat
    split
    · exact Or.inl rfl
    · by_cases hi : n.b.toNat < l.length
      · rw [List.getD_eq_getElem?_getD, List.getElem?_eq_getElem hi]; exact Or.inr (hl _ (List.getElem_mem hi))
      · rw [List.getD_eq_getElem?_getD, List.getElem?_eq_none (by omega)]; exact Or.inl rfl
  have hr := rl_is n.op.toNat
  unfold kd at h ⊢
  split at h
  · exact absurd rfl h
  · rename_i q1
    rw [if_neg q1]
    split at h
    · rename_i q2
      rw [if_pos q2]
      unfold pt at h ⊢
      split <;> split at h <;> omega
    · exact absurd rfl h
theorem kgo_kinds {ns : List Nm} : ∀ (r : List Nd) (l : List Nat), (∀ k ∈ l, k = 1 ∨ k = 2) → (kgo ns r l).2.2 = 0 → (kgo ns r l).2.1 = 0 ∧ ∃ l', (kgo ns r l).1 = l ++ l' ∧ l'.length = r.length ∧ ∀ k ∈ l ++ l', k = 1 ∨ k = 2
  | [], l, hl, _ => ⟨rfl, [], (List.append_nil l).symm, rfl, by rw [List.append_nil]; exact hl⟩
  | n :: r, l, hl, h => by
    by_cases h0 : kd n l ns = 0
    · rw [kgo_bad h0] at h; cases h
    · rw [kgo_on h0] at h ⊢
      obtain ⟨h1, l', h2, h3, h4⟩ := kgo_kinds r (l ++ [kd n l ns]) (fun k hk => by
        rcases List.mem_append.1 hk with hk | hk
        · exact hl k hk
        · rw [List.mem_singleton.1 hk]; exact kd_kind hl h0) h
      refine ⟨h1, kd n l ns :: l', by rw [h2, List.append_assoc]; rfl, by rw [List.length_cons, h3]; rfl, ?_⟩
      rw [List.append_assoc] at h4; exact h4
def nms : List Nd → List Nm → List Nm
  | [], acc => acc
  | n :: r, acc => if n.op = 2 ∧ n.nm ∉ acc then nms r (acc ++ [n.nm]) else nms r acc
theorem nms_mem : ∀ (r : List Nd) (acc : List Nm) (q : Nm), q ∈ nms r acc ↔ q ∈ acc ∨ ∃ n ∈ r, n.op = 2 ∧ n.nm = q
  | [], acc, q => by simp [nms]
  | n :: r, acc, q => by
    unfold nms
    split
    · rename_i h
      rw [nms_mem r, List.mem_append, List.mem_singleton]
      constructor
      · rintro ((h1 | h1) | ⟨m, h1, h2⟩)
        · exact Or.inl h1
        · exact Or.inr ⟨n, List.mem_cons_self, h.1, h1.symm⟩
        · exact Or.inr ⟨m, List.mem_cons_of_mem _ h1, h2⟩
      · rintro (h1 | ⟨m, h1, h2, h3⟩)
        · exact Or.inl (Or.inl h1)
        · rcases List.mem_cons.1 h1 with rfl | h1
          · exact Or.inl (Or.inr h3.symm)
          · exact Or.inr ⟨m, h1, h2, h3⟩
    · rename_i h
      rw [nms_mem r]
      constructor
      · rintro (h1 | ⟨m, h1, h2⟩)
        · exact Or.inl h1
        · exact Or.inr ⟨m, List.mem_cons_of_mem _ h1, h2⟩
      · rintro (h1 | ⟨m, h1, h2, h3⟩)
        · exact Or.inl h1
        · rcases List.mem_cons.1 h1 with rfl | h1
          · refine Or.inl (Decidable.byContradiction fun q => h ⟨h2, by rw [h3]; exact q⟩)
          · exact Or.inr ⟨m, h1, h2, h3⟩
theorem nms_len : ∀ (r : List Nd) (acc : List Nm), (nms r acc).length ≤ acc.length + r.length
  | [], _ => by simp [nms]
  | n :: r, acc => by
    unfold nms
    split
    · have := nms_len r (acc ++ [n.nm]); simp at this ⊢; omega
    · have := nms_len r acc; simp; omega
theorem nms_all {p : Nm → Prop} : ∀ (r : List Nd) (acc : List Nm), (∀ q ∈ acc, p q) → (∀ n ∈ r, p n.nm) → ∀ q ∈ nms r acc, p q := fun r acc h1 h2 q hq => by
  rcases (nms_mem r acc q).1 hq with h | ⟨n, h, _, rfl⟩
  · exact h1 q h
  · exact h2 n h
/-! ### parts -/
def In (s : Nat) (j : Nat) (p : Int) : Prop := p = -1 ∨ (s : Int) ≤ p ∧ p < j
theorem flat_in : ∀ (x : E) (s i : Nat) (n : Nd), (flat x s)[i]? = some n → In s (s + i) n.a ∧ In s (s + i) n.b ∧ In s (s + i) n.c := by
  have one : ∀ (s i : Nat) (m n : Nd), m.a = -1 → m.b = -1 → m.c = -1 → [m][i]? = some n → In s (s + i) n.a ∧ In s (s + i) n.b ∧ In s (s + i) n.c := by
    intro s i m n h1 h2 h3 h
    match i, h with
    | 0, h => injection h with h; subst h; exact ⟨Or.inl h1, Or.inl h2, Or.inl h3⟩
  have wide : ∀ {s t i j : Nat} {p : Int}, s ≤ t → t + i = s + j → In t (t + i) p → In s (s + j) p := by
    intro s t i j p h1 h2 h
    rcases h with h | h
    · exact Or.inl h
    · exact Or.inr ⟨by omega, by omega⟩
  have app : ∀ {A B : List Nd} {i : Nat} {n : Nd}, (A ++ B)[i]? = some n → (i < A.length ∧ A[i]? = some n) ∨ (A.length ≤ i ∧ B[i - A.length]? = some n) := by
    intro A B i n h
    by_cases hi : i < A.length
    · rw [List.getElem?_append_left hi] at h; exact Or.inl ⟨hi, h⟩
    · rw [List.getElem?_append_right (by omega)] at h; exact Or.inr ⟨by omega, h⟩
  have last : ∀ {m n : Nd} {i : Nat}, [m][i]? = some n → i = 0 ∧ n = m := by
    intro m n i h
    match i, h with
    | 0, h => injection h with h; exact ⟨rfl, h.symm⟩
  intro x
  induction x with
  | num v => intro s i n h; exact one s i _ n rfl rfl rfl h
  | name v => intro s i n h; exact one s i _ n rfl rfl rfl h
  | tt => intro s i n h; exact one s i _ n rfl rfl rfl h
  | ff => intro s i n h; exact one s i _ n rfl rfl rfl h
  | un op a iha =>
    intro s i n h
    have h1 := sz_pos a
    rcases app h with ⟨hi, h⟩ | ⟨hi, h⟩
    · exact iha s i n h
    · rw [flat_len] at hi h
      obtain ⟨e, rfl⟩ := last h
      exact ⟨Or.inr ⟨by simp only; omega, by simp only; omega⟩, Or.inl rfl, Or.inl rfl⟩
  | bin op a b iha ihb =>
    intro s i n h
    have h1 := sz_pos a
    have h2 := sz_pos b
    rcases app h with ⟨hi, h⟩ | ⟨hi, h⟩
    · rcases app h with ⟨hi, h⟩ | ⟨hi, h⟩
      · exact iha s i n h
      · rw [flat_len] at hi h
        have q := ihb (s + sz a) (i - sz a) n h
        exact ⟨wide (by omega) (by omega) q.1, wide (by omega) (by omega) q.2.1, wide (by omega) (by omega) q.2.2⟩
    · rw [List.length_append, flat_len, flat_len] at hi h
      obtain ⟨e, rfl⟩ := last h
      exact ⟨Or.inr ⟨by simp only; omega, by simp only; omega⟩, Or.inr ⟨by simp only; omega, by simp only; omega⟩, Or.inl rfl⟩
  | ite a b c iha ihb ihc =>
    intro s i n h
    have h1 := sz_pos a
    have h2 := sz_pos b
    have h3 := sz_pos c
    rcases app h with ⟨hi, h⟩ | ⟨hi, h⟩
    · rcases app h with ⟨hi, h⟩ | ⟨hi, h⟩
      · rcases app h with ⟨hi, h⟩ | ⟨hi, h⟩
        · exact iha s i n h
        · rw [flat_len] at hi h
          have q := ihb (s + sz a) (i - sz a) n h
          exact ⟨wide (by omega) (by omega) q.1, wide (by omega) (by omega) q.2.1, wide (by omega) (by omega) q.2.2⟩
      · rw [List.length_append, flat_len, flat_len] at hi h
        have q := ihc (s + sz a + sz b) (i - (sz a + sz b)) n h
        exact ⟨wide (by omega) (by omega) q.1, wide (by omega) (by omega) q.2.1, wide (by omega) (by omega) q.2.2⟩
    · rw [List.length_append, List.length_append, flat_len, flat_len, flat_len] at hi h
      obtain ⟨e, rfl⟩ := last h
      exact ⟨Or.inr ⟨by simp only; omega, by simp only; omega⟩, Or.inr ⟨by simp only; omega, by simp only; omega⟩, Or.inr ⟨by simp only; omega, by simp only; omega⟩⟩
end Ty
end Go.Proofs.YtmmdigeciphglaaGreatDoor
