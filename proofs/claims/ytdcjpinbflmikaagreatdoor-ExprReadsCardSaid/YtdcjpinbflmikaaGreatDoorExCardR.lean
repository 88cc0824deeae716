/- Layer 8's statements: the law's ref, walked. Conditions: the row lies in memory; lengths are such as come in.
Layer 8's statements: the law's same of one row twice, walked. Conditions: both rows lie in memory; lengths are such as come in.
What the rows of layer 8 list (three tables, two sentinels), and what it gives to the walks; what an expression that came in reads as. No condition.
What an expression that came in reads as: a row of nodes in memory; ops of 8 bits, numbers of 64. No condition.
Layer 8's statements: ExprReads, walked: any text is read as the document says; what is answered may be written over. Conditions: the tables hold what their texts lay; the text's length fits.
The closed facts of ExprReads's row, one by one. No condition.
The row and card of ExprReads: for every input the answer is true, and the input reads as it did. Condition: the listed tables and sentinels start as the program's text lays them (the card ties them). -/
import Derived.Test.YtdcjpinbflmikaaGreatDoorExWorks
import Derived.Deep.DeepMust
import Derived.Test.YtdcjpinbflmikaaGreatDoorCards
import Derived.Test.YtdcjpinbflmikaaGreatDoorTie
import Derived.Test.YtdcjpinbflmikaaGreatDoorExSame
import Derived.Handed
import Derived.Shelf.Vars
import Derived.ProofKit
import Derived.OpenShut
import Derived.Lay
import Derived.Lib.LaidU8
import Derived.SevenTiedAt
import Derived.Stop.LaidErr
import Derived.Deep.Slices
import Derived.ChangeSame
import Derived.ReadAgain
import Derived.Test.YtdcjpinbflmikaaGreatDoorRvFrom
import Derived.Test.YtdcjpinbflmikaaGreatDoorChecked
import Derived.JoinedOf
import Derived.KernelRfl
namespace Go.Proofs.YtdcjpinbflmikaaGreatDoor
open Go.RowKit Ex

theorem infoRN : (Tryz.prog.info? 114).map (fun i => (i.zero, i.size, i.bytes)) = some (some (.agg #[.int .u8 0, .int .i64 0, .string ⟨#[]⟩, .int .i64 0, .int .i64 0, .int .i64 0]), 6, 56) := by kernel_rfl
structure RfN (w : World) (A : Option Addr) (c : Nat) (l : List Nd) (wr : World) (v : Value) (k : Nat) : Prop where
  below : Below w.heap.size w wr
  box : IsBlk wr w.heap.size 29 #[.slice A l.length c]
  own : wr.ownsRow (w.heap.size + 1) 114 6 v k ((l.take k).flatMap ndV)
set_option maxHeartbeats 8000000 in
set_option maxRecDepth 100000 in
theorem eref_any (w : World) (A : Option Addr) (c : Nat) (l : List Nd) (h : NdR w w.heap.size A l) (hc : l.length ≤ c) (hn : l.length ≤ 1000000) :
    Calls Tryz.prog 64 #[.agg #[.slice A l.length c]] w fun e w' => ∃ v, e = .returned v ∧ w'.ownsRow (w.heap.size + 1) 114 6 v l.length (l.flatMap ndV) ∧ Below w.heap.size w w' := by
  have H := Lib.hid h
  obtain ⟨n, hln⟩ : ∃ n, n = l.length := ⟨_, rfl⟩
  have H0 := Lib.hid (show RfN w A c l (w.alloc (.cells #[.slice A l.length c] 29)) (.slice none 0 0) 0 from ⟨(Below.refl _ _).alloc (Nat.le_refl _) _, IsBlk.new _ _ _, World.ownsRow_nil _ _ _ _⟩)
  rw [← hln] at hn hc ⊢
  have HLN := Lib.hid hln
  have hc' : (n : Int) ≤ (c : Int) := by omega
  clear h hln
  go_enter Tryz.func64, Tryz.ntmps64
  go_wp2
  go_loopw [3, 4] (fun v0 i wr => ∃ (v : Value) (k : Nat), v = v0 ∧ i = .int .i64 k ∧ k ≤ n ∧ Hid (RfN w A c l wr v k)) (fun _ i _ => n - (intOf i).toNat)
  case atStart => exact ⟨_, 0, rfl, rfl, Nat.zero_le _, by rw [HLN.out]; exact H0⟩
  case round =>
    obtain ⟨v, k, hv0, rfl, hk, HI⟩ := hrel
    subst hv0
    have k1 : wr.cell? ⟨w.heap.size, 0, none⟩ = some (.slice A n c) := by rw [HLN.out]; exact HI.out.box.at_ 0
    by_cases hlt : k < n
    · have hlt' : (k : Int) < (n : Int) := by omega
      have hkl : k < l.length := by rw [← HLN.out]; exact hlt
      obtain ⟨g, o, hA, hg, q0, q1, q2, q3, q4, q5⟩ := (H.out.below HI.out.below) k hkl
      subst hA
      have HTK := Lib.hid (show (l.take (k + 1)).flatMap ndV = (l.take k).flatMap ndV ++ ndV l[k] by
        rw [List.take_succ_eq_append_getElem hkl, List.flatMap_append]; simp)
      generalize l[k] = t at *
      obtain ⟨op, num, nm, na, nb, nc⟩ := t
      simp only at q0 q1 q2 q3 q4 q5
      obtain ⟨N, hNN⟩ : ∃ N : ByteArray, N = ⟨nm.toArray⟩ := ⟨_, rfl⟩
      rw [← hNN] at q2
      have HNN := Lib.hid hNN
      obtain ⟨Av, cv, hv, _, _, hv1, hv2⟩ := own_slice HI.out.own
      subst hv
      obtain ⟨i0, hi, hz0, hz1, hz2⟩ := info_parts infoRN
      have hmax : k + 1 ≤ maxLen := by unfold maxLen; omega
      have hbl0 : w.heap.size < wr.heap.size := HI.out.box.lt
      have hOW := Lib.hid HI.out.own
      have HNEW := Lib.hid (fun (W' w9 : World) (v9 : Value) (hW : Below wr.heap.size wr W') (ho : w9.ownsRow (w.heap.size + 1) 114 6 v9 (k + 1) ((l.take k).flatMap ndV ++ [.int .u8 op, .int .i64 num, .string N, .int .i64 na, .int .i64 nb, .int .i64 nc])) (hg : W'.grownBy w9 (Value.slice Av k cv).ownBlock) => (show RfN w (some ⟨g, o, none⟩) c l w9 v9 (k + 1) from by
        have hsz := HI.out.below.size
        have hbl : w.heap.size < wr.heap.size := HI.out.box.lt
        refine ⟨(HI.out.below.trans (hW.mono hsz)).grown hg (Nat.le_trans hsz hW.size) (fun z hz => by have := (hOW.out.lt z hz).1; omega), (HI.out.box.below hW hbl).grown hg (fun e => by have := (hOW.out.lt _ e.symm).1; omega), ?_⟩
        rw [HTK.out]
        show w9.ownsRow _ _ _ _ _ ((l.take k).flatMap ndV ++ [.int .u8 op, .int .i64 num, .string ⟨nm.toArray⟩, .int .i64 na, .int .i64 nb, .int .i64 nc])
        rw [← HNN.out]; exact ho))
      clear hNN
      go_upto_region 6 with fail
      go_wp2_with (at_builtin; go_must (refine wpList_append_own _ rfl _ _ _ rfl (w.heap.size + 1) 114 i0 _ 6 56 Tryz.underlying23 hi hz0 hz1 hz2 rfl (by omega) (.slice Av k cv) k ((l.take k).flatMap ndV) (by rfl) (by exact World.ownsRow.alloc (World.ownsRow.alloc hOW.out _) _) _ 1 _ [.int .u8 op, .int .i64 num, .string N, .int .i64 na, .int .i64 nb, .int .i64 nc] (by rfl) rfl (by intro j u hu; exact news_at _ _ _ _ (by simp) j u hu) (by intro u hu; simp at hu; rcases hu with rfl | rfl | rfl | rfl | rfl | rfl <;> rfl) hmax (by omega) (by simp; omega) ?_); go_must (intro v9 w9 hown9 hgr9 _; have H9 := Lib.hid (HNEW.out _ w9 _ (((Below.refl _ _).alloc (Nat.le_refl _) _).alloc (by simp) _) hown9 hgr9); clear hown9 hgr9))
      go_roundw
      case rel => exact ⟨_, k + 1, rfl, by go_num, hlt, H9⟩
      case measure => simp [intOf]; omega
    · obtain rfl : k = n := by omega
      have hlt' : ¬ (k : Int) < (k : Int) := by omega
      have HE := Lib.hid (show wr.ownsRow (w.heap.size + 1) 114 6 v k (l.flatMap ndV) by
        have h4 := HI.out.own
        rw [List.take_of_length_le (by rw [← HLN.out]; exact Nat.le_refl _)] at h4
        exact h4)
      clear hlt
      go_wp2
      go_ret
      exact ⟨v, rfl, HE.out, HI.out.below⟩
end Go.Proofs.YtdcjpinbflmikaaGreatDoor
namespace Go.Proofs.YtdcjpinbflmikaaGreatDoor
open Go.RowKit Ex

theorem own_rnr {w : World} {B n c : Nat} {A : Option Addr} {l : List Nd} (h : w.ownsRow B 114 6 (.slice A n c) n (l.flatMap ndV)) (hn : n = l.length) : NdR w w.heap.size A l ∧ n ≤ c ∧ c ≤ maxLen := by
  obtain ⟨A', c', e, h1, h2, h3⟩ := own_sliced h
  injection e with e1 _ e3
  subst e1 e3
  refine ⟨fun j hj => ?_, h1, h2⟩
  obtain ⟨g, rfl, _, hg⟩ := h3 (by omega)
  have q := fun (k : Nat) (u : Value) (hk : k < 6) (hu : (ndV l[j])[k]? = some u) => own_cell h ((fl_at (f := ndV) (k := 6) (fun _ => rfl) l j k hj hk).trans hu)
  refine ⟨g, 0, rfl, hg, ?_, ?_, ?_, ?_, ?_, ?_⟩
  · simpa using q 0 _ (by omega) rfl
  · simpa using q 1 _ (by omega) rfl
  · simpa using q 2 _ (by omega) rfl
  · simpa using q 3 _ (by omega) rfl
  · simpa using q 4 _ (by omega) rfl
  · simpa using q 5 _ (by omega) rfl
set_option maxHeartbeats 4000000 in
set_option maxRecDepth 100000 in
theorem lsame_any (w : World) (A : Option Addr) (c : Nat) (l : List Nd) (h : NdR w w.heap.size A l) (hc : l.length ≤ c) (A2 : Option Addr) (c2 : Nat) (h2 : NdR w w.heap.size A2 l) (hc2 : l.length ≤ c2) (hn : l.length ≤ 1000000) :
    Calls Tryz.prog 17 #[.agg #[.slice A l.length c], .slice A2 l.length c2] w fun e w' => e = .returned (.bool true) ∧ Below w.heap.size w w' := by
  have H2 := Lib.hid h2
  have HR := Lib.hid (fun v (hb : Below w.heap.size w v) => eref_any v A c l ((h.below hb).more hb.size) hc hn)
  obtain ⟨W1, hW1⟩ : ∃ W1, W1 = w.alloc (.cells #[.slice A l.length c] 29) := ⟨_, rfl⟩
  have hb1 : Below w.heap.size w W1 := by rw [hW1]; exact (Below.refl _ _).alloc (Nat.le_refl _) _
  have k1 : W1.cell? ⟨w.heap.size, 0, none⟩ = some (.slice A l.length c) := by rw [hW1]; exact (IsBlk.new _ _ _).at_ 0
  have HW1 := Lib.hid hW1
  have HB1 := Lib.hid hb1
  obtain ⟨n, hln⟩ : ∃ n, n = l.length := ⟨_, rfl⟩
  rw [← hln] at hn hc hc2 HR k1 ⊢
  have HLN := Lib.hid hln
  have hc' : (n : Int) ≤ (c : Int) := by omega
  have hc2' : (n : Int) ≤ (c2 : Int) := by omega
  clear h h2 hln hb1 hW1
  rw [← HLN.out] at HW1
  go_enter Tryz.func17, Tryz.ntmps17
  go_wp2_with fail
  rw [← HW1.out]
  refine (HR.out _ HB1.out).mono ?_
  rintro e w2 ⟨v, rfl, ho, hb2⟩
  obtain ⟨A3, c3, hv, _, _, hv1, hv2⟩ := own_slice ho
  subst hv
  have HO3 := Lib.hid (own_rnr ho HLN.out)
  have HB2 := Lib.hid (HB1.out.trans (hb2.mono HB1.out.size))
  have hc3' : (n : Int) ≤ (c3 : Int) := by omega
  clear ho hb2 HR
  go_wp2_with fail
  go_loopw [6] (fun i wr => ∃ k : Nat, i = .int .i64 k ∧ k ≤ n ∧ Hid (Below w2.heap.size w2 wr)) (fun i _ => n - (intOf i).toNat)
  case atStart => exact ⟨0, rfl, Nat.zero_le _, Lib.hid (Below.refl _ _)⟩
  case round =>
    obtain ⟨k, rfl, hk, HI⟩ := hrel
    by_cases hlt : k < n
    · have hlt' : (k : Int) < (n : Int) := by omega
      have hkl : k < l.length := by rw [← HLN.out]; exact hlt
      have hbw := HB2.out.trans (HI.out.mono HB2.out.size)
      obtain ⟨g, o, hA, hg, q0, q1, q2, q3, q4, q5⟩ := (H2.out.below hbw) k hkl
      subst hA
      obtain ⟨g', o', hA', hg', p0, p1, p2, p3, p4, p5⟩ := (HO3.out.1.below HI.out) k hkl
      subst hA'
      generalize l[k] = t at *
      obtain ⟨op, num, nm, na, nb, nc⟩ := t
      simp only at q0 q1 q2 q3 q4 q5 p0 p1 p2 p3 p4 p5
      generalize (⟨nm.toArray⟩ : ByteArray) = N at *
      have HIW := Lib.hid HI.out.drew
      clear hbw hkl
      go_wp2_with fail
      go_quiet (fail)
      go_wp2
      go_roundw
      case rel => exact ⟨k + 1, by go_num, hlt, by first | exact Lib.hid (below_drewN HI.out _) | exact HIW | exact HI⟩
      case measure => simp [intOf]; omega
    · obtain rfl : k = n := by omega
      have hlt' : ¬ (k : Int) < (k : Int) := by omega
      go_wp2
      go_ret
      exact ⟨rfl, HB2.out.trans (HI.out.mono HB2.out.size)⟩
end Go.Proofs.YtdcjpinbflmikaaGreatDoor
namespace Go.Proofs.YtdcjpinbflmikaaGreatDoor
open Go.RowKit Go.Shelf Go.Lib
open Go.ChangeShapes Go.WideShapes Go.ChangeAt
set_option maxRecDepth 100000

def laidAllOf : List (String × DataW Unit) := [("math/bits.deBruijn32tab", Rows.laid_math_bits_deBruijn32tab), ("math/bits.deBruijn64tab", Rows.laid_math_bits_deBruijn64tab), ("internal/strconv.uint64pow10", Rows.laid_internal_strconv_uint64pow10), ("unicode/utf8.acceptRanges", Rows.laid_unicode_utf8_acceptRanges), ("strconv.ErrRange", Rows.laid_strconv_ErrRange), ("strconv.ErrSyntax", Rows.laid_strconv_ErrSyntax), ("hopscotch/lex.signs", Rows.laid_hopscotch_lex_signs), ("hopscotch/expr.forms", Rows.laid_hopscotch_expr_forms), ("unicode/utf8.first", Rows.laid_unicode_utf8_first)]
theorem pow_eq : (Rows.laid_internal_strconv_uint64pow10 : DataW Unit) = tabData .u64 pow10Tab := by kernel_rfl
theorem yPow : (Tryz.prog.globals[5]?).map (·.type) = some 326 := by kernel_rfl
theorem gER : Tryz.prog.globalNamed "strconv.ErrRange" = some 3 := by kernel_rfl
theorem yER : (Tryz.prog.globals[3]?).map (·.type) = some 237 := by kernel_rfl
theorem cES : Tryz.prog.cellsOf 363 = 1 := by kernel_rfl
theorem cStr : Tryz.prog.cellsOf 9 = 1 := by kernel_rfl
theorem starES : "*" ++ "errors.errorString" = "*errors.errorString" := by decide
theorem rowES (u : TypeId) (h : Tryz.prog.typeName? 3 u = some "*errors.errorString") : u = 361 :=
  typeName_ptr_named (nm := "errors.errorString") (by rw [starES]; kernel_rfl) (by kernel_rfl) (by decide) u (by rw [starES]; exact h)
theorem tb_of {W : World} (hL : laidMet Tryz.prog laidAllOf W) : Tb W := by
  constructor
  · obtain ⟨a0, _, hv0, -, -, -⟩ := laid_sentinel (laidMet.tail (laidMet.tail (laidMet.tail (laidMet.tail hL)))) gER yER Tryz.underlying237 rowES Tryz.underlying361 Tryz.underlying363 rfl rfl Tryz.underlying9 cES cStr
    exact ⟨_, by have h0 := World.var?_cell gER hv0 0; simpa using h0⟩
  · have h := (laidMet.tail (laidMet.tail hL))
    rw [pow_eq] at h
    exact tabIs_of_head gPow yPow Tryz.underlying326 Tryz.underlying309 (by kernel_rfl) (by kernel_rfl) h
theorem own : ownKnob Tryz.prog.godebug = none := by kernel_rfl
theorem signs_eq : (Rows.laid_hopscotch_lex_signs : DataW Unit) = .agg (sgB.map fun x => .lit (.string x.data.toList)) := by kernel_rfl
theorem gSigns : Tryz.prog.globalNamed "hopscotch/lex.signs" = some 2 := by kernel_rfl
theorem ySigns : (Tryz.prog.globals[2]?).map (·.type) = some 278 := by kernel_rfl
theorem ba_of {a b : ByteArray} (h : a.data.toList = b.data.toList) : a = b := by
  cases a with | mk x => cases b with | mk y => simpa using h
theorem sg_of {W : World} (hL : laidMet Tryz.prog laidAllOf W) : Sg W := by
  have h : VarReads Tryz.prog W "hopscotch/lex.signs" Rows.laid_hopscotch_lex_signs := laidMet.reads hL (.tail _ (.tail _ (.tail _ (.tail _ (.tail _ (.tail _ (.head _)))))))
  obtain ⟨g, t, cs, fuel, p, hg, hty, hvar, hd⟩ := h
  obtain rfl := Option.some.inj (gSigns.symm.trans hg)
  obtain rfl := Option.some.inj (ySigns.symm.trans hty)
  rw [signs_eq] at hd
  intro j hj
  obtain ⟨fuel', d, q, hdi, he⟩ := array_elem Tryz.underlying278 hd j hj
  rw [List.getElem?_map, List.getElem?_eq_getElem hj] at hdi
  simp only [Option.map_some, Option.some.injEq] at hdi
  subst hdi
  rw [cStr] at he
  obtain ⟨s, hs, hx, _⟩ := DataW.trod_string Tryz.underlying9 he
  have hx1 := congrArg Prod.fst hx
  simp only [DataW.lit.injEq, Lit.string.injEq] at hx1
  have hsv : s = sgB[j] := ba_of hx1.symm
  have e0 := congrArg (·[0]?) hs
  simp only [List.getElem?_take, List.getElem?_drop] at e0
  rw [World.var?_cell gSigns hvar j, ← Array.getElem?_toList, ← hsv]
  simpa using e0
theorem forms_eq : (Rows.laid_hopscotch_expr_forms : DataW Unit) = .agg ((List.range 23).map fun op => .agg [.lit (.string (fW op)), .lit (.int .u8 (fL op : Nat)), .lit (.int .i64 (fP op : Nat))]) := by kernel_rfl
theorem gForms : Tryz.prog.globalNamed "hopscotch/expr.forms" = some 0 := by kernel_rfl
theorem yForms : (Tryz.prog.globals[0]?).map (·.type) = some 163 := by kernel_rfl
theorem cForm : Tryz.prog.cellsOf 162 = 3 := by kernel_rfl
theorem fm_of {W : World} (hL : laidMet Tryz.prog laidAllOf W) : Fm W := by
  have h : VarReads Tryz.prog W "hopscotch/expr.forms" Rows.laid_hopscotch_expr_forms := laidMet.reads hL (.tail _ (.tail _ (.tail _ (.tail _ (.tail _ (.tail _ (.tail _ (.head _))))))))
  obtain ⟨g, t, cs, fuel, p, hg, hty, hvar, hd⟩ := h
  obtain rfl := Option.some.inj (gForms.symm.trans hg)
  obtain rfl := Option.some.inj (yForms.symm.trans hty)
  rw [forms_eq] at hd
  intro op hop
  obtain ⟨fuel', d, q, hdi, he⟩ := array_elem Tryz.underlying163 hd op hop
  rw [List.getElem?_map, List.getElem?_range hop] at hdi
  simp only [Option.map_some, Option.some.injEq] at hdi
  subst hdi
  rw [cForm] at he
  obtain ⟨xs, n', _, hxe, _, hxl, hg3⟩ := DataW.trod_struct Tryz.underlying162 he
  have hx3 : xs.length = 3 := hxl
  have hm := (Prod.mk.inj hxe).1
  simp only [DataW.agg.injEq] at hm
  have m := fun (j : Nat) => congrArg (fun (l : List (DataW Unit)) => l[j]?) hm
  have t0 : DataW.trod _ Tryz.prog W _ _ _ n' 9 (List.take (Tryz.prog.cellsOf 9) (List.drop 0 _)) = some (xs[0]'(by omega)) := (hg3 0 _ rfl).trans (List.getElem?_eq_getElem (by omega))
  have t1 : DataW.trod _ Tryz.prog W _ _ _ n' 5 (List.take (Tryz.prog.cellsOf 5) (List.drop 1 _)) = some (xs[1]'(by omega)) := (hg3 1 _ rfl).trans (List.getElem?_eq_getElem (by omega))
  have t2 : DataW.trod _ Tryz.prog W _ _ _ n' 3 (List.take (Tryz.prog.cellsOf 3) (List.drop 2 _)) = some (xs[2]'(by omega)) := (hg3 2 _ rfl).trans (List.getElem?_eq_getElem (by omega))
  simp only [show Tryz.prog.cellsOf 5 = 1 by kernel_rfl, show Tryz.prog.cellsOf 9 = 1 by kernel_rfl, show Tryz.prog.cellsOf 3 = 1 by kernel_rfl] at t0 t1 t2
  obtain ⟨s, e0, d0, _⟩ := DataW.trod_string Tryz.underlying9 t0
  obtain ⟨a, e1, d1, _⟩ := DataW.trod_int Tryz.underlying5 t1
  obtain ⟨b, e2, d2, _⟩ := DataW.trod_int Tryz.underlying3 t2
  have m0 := m 0
  have m1 := m 1
  have m2 := m 2
  simp only [List.getElem?_map, List.getElem?_eq_getElem (show 0 < xs.length by omega), List.getElem?_eq_getElem (show 1 < xs.length by omega), List.getElem?_eq_getElem (show 2 < xs.length by omega), Option.map_some, d0, d1, d2, List.getElem?_cons_zero, List.getElem?_cons_succ, Option.some.injEq, DataW.lit.injEq, Lit.string.injEq, Lit.int.injEq, true_and] at m0 m1 m2
  have q0 := congrArg (·[0]?) e0
  have q1 := congrArg (·[0]?) e1
  have q2 := congrArg (·[0]?) e2
  simp only [List.getElem?_take, List.getElem?_drop] at q0 q1 q2
  have hs : s = ⟨(fW op).toArray⟩ := ba_of (by rw [← m0])
  rw [World.var?_cell gForms hvar, World.var?_cell gForms hvar, World.var?_cell gForms hvar, ← Array.getElem?_toList, ← Array.getElem?_toList, ← Array.getElem?_toList, m1, m2, ← hs]
  exact ⟨by simpa using q0, by simpa using q1, by simpa using q2⟩
theorem tx_of {W : World} (hL : laidMet Tryz.prog laidAllOf W) : Tx W := ⟨sg_of hL, tb_of hL, fm_of hL⟩
end Go.Proofs.YtdcjpinbflmikaaGreatDoor
namespace Go.Proofs.YtdcjpinbflmikaaGreatDoor
open Go.RowKit Go.Shelf Go.Lib
open Go.ChangeShapes Go.WideShapes Go.ChangeAt
set_option maxRecDepth 100000

theorem cell_plain {w : World} {a : Addr} {v : Value} (h : w.cell? a = some v) : a = ⟨a.block, a.off, none⟩ ∧ a.block < w.heap.size := by
  obtain ⟨g, o, sp⟩ := a
  unfold World.cell? at h
  split at h
  · rename_i hh
    split at h
    · cases h
    · rename_i hs
      refine ⟨?_, (Array.getElem?_eq_some_iff.1 hh).1⟩
      cases sp with
      | none => rfl
      | some _ => exact absurd rfl hs
  · cases h
theorem add_plain (g o n : Nat) : (⟨g, o, none⟩ : Addr).add n = ⟨g, o + n, none⟩ := by
  unfold Addr.add
  split
  · rename_i h; subst h; rfl
  · rfl
section
variable {H : Type} {enc : TypeId × Value → H} {W : World}
theorem nodes_of {fuel : Nat} {cs : List Value} {x : DataW H × List MemPlace} (h : DataW.trod enc Tryz.prog W 0 (fun _ => true) true fuel 27 cs = some x) :
    ∃ A c l, cs = [.slice A l.length c] ∧ NdR W W.heap.size A l ∧ l.length ≤ c ∧ c ≤ maxLen ∧ Okn l := by
  rcases Deep.open_slice Tryz.underlying27 h with ⟨hc, _⟩ | ⟨a, len, cap, m, n, D, Pl, hcs, _, hl, hm, hmm, _, hi⟩
  · exact ⟨none, 0, [], hc, fun j hj => absurd hj (by simp), Nat.le_refl _, by decide, fun n hn => by cases hn⟩
  · have hi2 : ∀ i : Fin len, ∃ x : Ex.Nd, (W.cell? (a.add (i.1 * 6)) = some (.int .u8 x.op) ∧ W.cell? (a.add (i.1 * 6 + 1)) = some (.int .i64 x.num) ∧ W.cell? (a.add (i.1 * 6 + 2)) = some (.string ⟨x.nm.toArray⟩) ∧ W.cell? (a.add (i.1 * 6 + 3)) = some (.int .i64 x.a) ∧ W.cell? (a.add (i.1 * 6 + 4)) = some (.int .i64 x.b) ∧ W.cell? (a.add (i.1 * 6 + 5)) = some (.int .i64 x.c)) ∧ 0 ≤ x.op ∧ x.num ≤ 9223372036854775807 := fun i => by
      obtain ⟨cs', hce, ht'⟩ := hi i.1 (by rw [hmm]; simp; have := i.2; omega)
      have h5 : Tryz.prog.cellsOf 34 = 6 := by kernel_rfl
      obtain ⟨_, hcl, hat⟩ := World.cells?_some hce
      obtain ⟨xs, n', _, _, _, hxl, hg⟩ := DataW.trod_struct Tryz.underlying34 ht'
      rw [h5] at hcl hat
      have hx5 : xs.length = 6 := hxl
      match cs', hcl with
      | [v0, v1, v2, v3, v4, v5], _ =>
        have t0 : DataW.trod enc Tryz.prog W 0 (fun _ => true) true n' 5 (List.take (Tryz.prog.cellsOf 5) (List.drop 0 [v0, v1, v2, v3, v4, v5])) = some (xs[0]'(by omega)) := (hg 0 _ rfl).trans (List.getElem?_eq_getElem (by omega))
        have t1 : DataW.trod enc Tryz.prog W 0 (fun _ => true) true n' 2 (List.take (Tryz.prog.cellsOf 2) (List.drop 1 [v0, v1, v2, v3, v4, v5])) = some (xs[1]'(by omega)) := (hg 1 _ rfl).trans (List.getElem?_eq_getElem (by omega))
        have t2 : DataW.trod enc Tryz.prog W 0 (fun _ => true) true n' 9 (List.take (Tryz.prog.cellsOf 9) (List.drop 2 [v0, v1, v2, v3, v4, v5])) = some (xs[2]'(by omega)) := (hg 2 _ rfl).trans (List.getElem?_eq_getElem (by omega))
        have t3 : DataW.trod enc Tryz.prog W 0 (fun _ => true) true n' 3 (List.take (Tryz.prog.cellsOf 3) (List.drop 3 [v0, v1, v2, v3, v4, v5])) = some (xs[3]'(by omega)) := (hg 3 _ rfl).trans (List.getElem?_eq_getElem (by omega))
        have t4 : DataW.trod enc Tryz.prog W 0 (fun _ => true) true n' 3 (List.take (Tryz.prog.cellsOf 3) (List.drop 4 [v0, v1, v2, v3, v4, v5])) = some (xs[4]'(by omega)) := (hg 4 _ rfl).trans (List.getElem?_eq_getElem (by omega))
        have t5 : DataW.trod enc Tryz.prog W 0 (fun _ => true) true n' 3 (List.take (Tryz.prog.cellsOf 3) (List.drop 5 [v0, v1, v2, v3, v4, v5])) = some (xs[5]'(by omega)) := (hg 5 _ rfl).trans (List.getElem?_eq_getElem (by omega))
        simp only [show Tryz.prog.cellsOf 5 = 1 by kernel_rfl, show Tryz.prog.cellsOf 2 = 1 by kernel_rfl, show Tryz.prog.cellsOf 9 = 1 by kernel_rfl, show Tryz.prog.cellsOf 3 = 1 by kernel_rfl, List.drop_zero, List.drop_succ_cons, List.take_succ_cons, List.take_zero] at t0 t1 t2 t3 t4 t5
        have c0 := hat 0 (by omega)
        have c1 := hat 1 (by omega)
        have c2 := hat 2 (by omega)
        have c3 := hat 3 (by omega)
        have c4 := hat 4 (by omega)
        have c5 := hat 5 (by omega)
        rw [Deep.add_add] at c0 c1 c2 c3 c4 c5
        obtain ⟨z0, e0, _, w0⟩ := DataW.trod_int Tryz.underlying5 t0
        obtain ⟨z1, e1, _, w1⟩ := DataW.trod_int Tryz.underlying2 t1
        obtain ⟨N, e2, _, _⟩ := DataW.trod_string Tryz.underlying9 t2
        obtain ⟨z3, e3, _, _⟩ := DataW.trod_int Tryz.underlying3 t3
        obtain ⟨z4, e4, _, _⟩ := DataW.trod_int Tryz.underlying3 t4
        obtain ⟨z5, e5, _, _⟩ := DataW.trod_int Tryz.underlying3 t5
        simp only [List.cons.injEq, and_true] at e0 e1 e2 e3 e4 e5
        subst e0 e1 e2 e3 e4 e5
        simp [Lit.wf, IntKind.min, IntKind.max, IntKind.signed, IntKind.bits] at w0 w1
        exact ⟨⟨z0, z1, N.data.toList, z3, z4, z5⟩, ⟨c0, c1, c2, c3, c4, c5⟩, w0.1, w1.2⟩
    obtain ⟨f, hf⟩ := Classical.skolem.1 hi2
    have hlen : (List.ofFn f).length = len := List.length_ofFn
    refine ⟨some a, cap, List.ofFn f, by rw [hlen]; exact hcs, fun k hk => ?_, by rw [hlen]; exact hl, hm, fun y hy => ?_⟩
    · have hk' : k < len := by rw [← hlen]; exact hk
      obtain ⟨ha, hb⟩ := cell_plain (hf ⟨0, by omega⟩).1.1
      have hz : a.add (0 * 6) = a := by unfold Addr.add; rw [if_pos (by omega)]
      rw [hz] at ha hb
      have h1 := (hf ⟨k, hk'⟩).1
      rw [ha, add_plain, add_plain, add_plain, add_plain, add_plain, add_plain] at h1
      rw [List.getElem_ofFn]
      exact ⟨a.block, a.off, by rw [← ha], hb, h1⟩
    · obtain ⟨i, rfl⟩ := List.mem_ofFn.1 hy
      exact (hf i).2
theorem expr_of {r : Reach} {b0 : Nat} {v : Value} {d : DataW H} {p : List MemPlace} (hv : Value.okWide Tryz.prog W r b0 29 v) (h : DataW.Trod enc Tryz.prog W 0 (fun _ => true) true 29 v d p) :
    ∃ A c l, v = .agg #[.slice A l.length c] ∧ NdR W W.heap.size A l ∧ l.length ≤ c ∧ l.length ≤ 9223372036854775807 ∧ Okn l := by
  obtain ⟨cs, rfl, hcs⟩ := okWide_struct Tryz.underlying29 hv
  obtain ⟨fuel, hf⟩ := h
  obtain ⟨xs, n', _, _, _, hxl, hg⟩ := DataW.trod_struct Tryz.underlying29 hf
  have hx1 : xs.length = 1 := hxl
  rw [show Tryz.prog.cellsOf 29 = 1 by kernel_rfl] at hcs
  have t0 := (hg 0 _ rfl).trans (List.getElem?_eq_getElem (by omega))
  obtain ⟨A, c, l, e, q1, q2, q3, q4⟩ := nodes_of t0
  refine ⟨A, c, l, ?_, q1, q2, by unfold maxLen at q3; omega, q4⟩
  obtain ⟨l⟩ := cs
  match l, hcs with
  | [u], _ =>
    change List.take (Tryz.prog.cellsOf 27) [u] = _ at e
    rw [show Tryz.prog.cellsOf 27 = 1 by kernel_rfl] at e
    simp only [List.take_succ_cons, List.take_zero, List.cons.injEq, and_true] at e
    rw [e]
theorem trod_again {W' : World} {t : TypeId} {v : Value} {d : DataW H} {p : List MemPlace} {sp : Nat → Bool} (h : DataW.Trod enc Tryz.prog W 0 (fun _ => true) true t v d p) (hb : Below W.heap.size W W') (ht : t < Tryz.prog.types.size) (hlt : ∀ q ∈ p, q.block < W.heap.size) (hsp : ∀ q ∈ p, sp q.block = true) :
    DataW.Trod enc Tryz.prog W' 0 sp true t v d p := by
  obtain ⟨n, hn⟩ := DataW.Trod.respare (kids_rows (by kernel_rfl) (by kernel_rfl)) (slices_full_of Tryz.prog (by kernel_rfl)) ht h hsp
  exact ⟨n, DataW.trod_carry n _ _ _ hn (fun q hq => hb.same (hlt q hq))⟩
end
end Go.Proofs.YtdcjpinbflmikaaGreatDoor
namespace Go.Proofs.YtdcjpinbflmikaaGreatDoor
open Go.RowKit Ex

/-- A row of one's own stays one, whatever cell is written over. -/
theorem own_over8 {w : World} {B : Nat} {e : TypeId} {size n : Nat} {v : Value} {xs : List Value} (h : w.ownsRow B e size v n xs) {g : Nat} (hg : v.ownBlock = some g) (o : Nat) (u : Value) : ∃ ys, (w.setCell ⟨g, o, none⟩ u).ownsRow B e size v n ys ∧ ys.length = xs.length := by
  obtain ⟨A, c, rfl, _, _, h3⟩ := own_sliced h
  obtain ⟨g', hA, _, _⟩ : ∃ g', A = some ⟨g', 0, none⟩ ∧ True ∧ True := by
    cases A with
    | none => cases hg
    | some a =>
      rcases h.2 with h4 | ⟨g', cap, cur, q1, _⟩
      · injection h4.1 with h4 _ _; cases h4
      · injection q1 with q1 _ _; injection q1 with q1; exact ⟨g', by rw [q1], trivial, trivial⟩
  subst hA
  injection hg with hg
  simp only at hg
  subst hg
  exact ⟨xs.set o u, (h.stored o u).1, by simp⟩
/-- While an expression is written over. -/
structure SpE (w : World) (b : Nat) (A : Option Addr) (c n : Nat) (A1 : Option Addr) (c1 : Nat) (l : List Nd) (wx : World) : Prop where
  below : Below w.heap.size w wx
  lt : w.heap.size ≤ b
  box : IsBlk wx b 29 #[.slice A n c]
  row : ∃ xs, wx.ownsRow w.heap.size 34 6 (.slice A n c) n xs ∧ xs.length = n * 6
  ref : wx.ownsRow w.heap.size 114 6 (.slice A1 l.length c1) l.length (l.flatMap ndV)
theorem SpE.put {w : World} {b g : Nat} {c n : Nat} {A1 : Option Addr} {c1 : Nat} {l : List Nd} {wx : World} (h : SpE w b (some ⟨g, 0, none⟩) c n A1 c1 l wx) (o : Nat) (u : Value) : SpE w b (some ⟨g, 0, none⟩) c n A1 c1 l (wx.setCell ⟨g, o, none⟩ u) := by
  obtain ⟨xs, h1, h2⟩ := h.row
  obtain ⟨hB, _, cs, hb⟩ := own_heap h1 (g := g) rfl
  obtain ⟨ys, q1, q2⟩ := own_over8 h1 (g := g) rfl o u
  refine ⟨h.below.setCell (p := ⟨g, o, none⟩) hB u, h.lt, h.box.far (p := ⟨g, o, none⟩) (fun e => ?_) u, ⟨ys, q1, by rw [q2, h2]⟩, own_set h.ref (r := g) (t := 34) (cs := cs) hb (by decide) o u⟩
  have h3 := h.box
  unfold IsBlk at h3
  simp only at e
  rw [e, hb] at h3
  injection h3 with h3
  injection h3 with _ h3 _
  exact absurd h3 (by decide)
theorem prse_short {s : ByteArray} (hs : s.size ≤ 400) : (prse s.data.toList).1.length ≤ 800000 := by
  by_cases h : (prse s.data.toList).2.2 = 0
  · obtain ⟨x, h1, _, _, _, h5, _⟩ := short_facts hs h
    rw [h1]; exact h5.1.1
  · rw [prse_bad h]; exact Nat.zero_le _
set_option maxHeartbeats 8000000 in
set_option maxRecDepth 100000 in
theorem ereads_any (w : World) (T : Tx w) (s : ByteArray) (hs : s.size ≤ maxLen) :
    Calls Tryz.prog 3 #[.string s] w fun e w' => e = .returned (.bool true) ∧ Below w.heap.size w w' := by
  have HT := Lib.hid T
  have HWK := Lib.hid (fun v (T0 : Tx v) => eworks_any v T0)
  by_cases hl : 400 < s.size
  · have hl' : (s.size : Int) > 400 := by omega
    clear hs T hl
    go_enter Tryz.func3, Tryz.ntmps3
    go_wp2_with fail
    refine (HWK.out w HT.out).mono ?_
    rintro e v ⟨rfl, hb⟩
    go_wp2
    go_ret
    exact ⟨rfl, hb⟩
  · have hl' : ¬ (s.size : Int) > 400 := by omega
    have HPR := Lib.hid (reparse_any s w)
    have HPE := Lib.hid (fun v (T0 : Tx v) => eparse_any s v T0 hs)
    have hlen := prse_short (s := s) (by omega)
    generalize prse s.data.toList = X at *
    obtain ⟨nds, n, e⟩ := X
    simp only at hlen HPR HPE
    have HLS := Lib.hid (fun v A c (h : NdR v v.heap.size A nds) (hc : nds.length ≤ c) A2 c2 (h2 : NdR v v.heap.size A2 nds) (hc2 : nds.length ≤ c2) => lsame_any v A c nds h hc A2 c2 h2 hc2 (by omega))
    have hnn : (((n : Nat) : Int) != ((n : Nat) : Int)) = false := by simp
    have hee : (e != e) = false := by simp
    obtain ⟨m, hm⟩ : ∃ m, m = nds.length := ⟨_, rfl⟩
    have HM := Lib.hid hm
    have hml : (m : Int) ≤ 800000 := by omega
    clear hs T hl hlen hm
    go_enter Tryz.func3, Tryz.ntmps3
    go_wp2_with fail
    refine HPR.out.mono ?_
    rintro en w1 ⟨A1, c1, ho1, rfl, hb1⟩
    simp only at ho1
    have H1 := Lib.hid (And.intro hb1 ho1)
    clear hb1 ho1 HPR
    simp only
    rw [← HM.out]
    go_wp2
    go_loopw [6, 7, 8, 9, 10] (fun tv _ _ _ _ wr => ∃ t : Nat, tv = .int .i64 t ∧ t ≤ 2 ∧ Hid (Below w.heap.size w wr ∧ wr.ownsRow w.heap.size 114 6 (.slice A1 nds.length c1) nds.length (nds.flatMap ndV))) (fun tv _ _ _ _ _ => 2 - (intOf tv).toNat)
    case atStart => exact ⟨0, rfl, by decide, H1⟩
    case round =>
      obtain ⟨t, rfl, ht, HI⟩ := hrel
      by_cases ht2 : t < 2
      · have ht2' : (t : Int) < 2 := by omega
        have HT2 := Lib.hid ht2
        have HP := Lib.hid (HPE.out wr (HT.out.below HI.out.1))
        clear ht2
        go_wp2_with fail
        refine HP.out.mono ?_
        rintro en w3 ⟨A3, c3, ho3, rfl, hb3⟩
        simp only at ho3
        obtain ⟨W4, hW4⟩ : ∃ W4, W4 = w3.alloc (.cells #[.slice A3 nds.length c3] 29) := ⟨_, rfl⟩
        have hb4 : Below w3.heap.size w3 W4 := by rw [hW4]; exact (Below.refl _ _).alloc (Nat.le_refl _) _
        have ho4 := own_below ho3 hb4
        have hr4 := own_below (own_below HI.out.2 hb3) hb4
        have hbx : IsBlk W4 w3.heap.size 29 #[.slice A3 nds.length c3] := by rw [hW4]; exact IsBlk.new _ _ _
        have hww := HI.out.1.size
        have S4 : SpE w w3.heap.size A3 c3 nds.length A1 c1 nds W4 := ⟨(HI.out.1.trans (hb3.mono hww)).trans (hb4.mono (Nat.le_trans hww hb3.size)), Nat.le_trans hww hb3.size, hbx, ⟨_, own_less ho4 hww, by rw [fl_len (k := 6) (fun _ => rfl)]⟩, hr4⟩
        have q3 := own_ndr ho4 rfl
        have q1 := own_rnr hr4 rfl
        have HS := Lib.hid (HLS.out W4 A3 c3 q3.1 q3.2.1 A1 c1 q1.1 q1.2.1)
        have HS4 := Lib.hid S4
        have k1 : W4.cell? ⟨w3.heap.size, 0, none⟩ = some (.slice A3 nds.length c3) := hbx.at_ 0
        rw [← HM.out] at k1 HS
        rw [hW4] at k1
        have HW4 := Lib.hid hW4
        clear ho3 hb3 hW4 hb4 ho4 hr4 hbx hww S4 q3 q1 HP
        simp only
        rw [← HM.out]
        go_wp2_with fail
        rw [HM.out, ← HW4.out, ← HM.out]
        refine HS.out.mono ?_
        rintro en w5 ⟨rfl, hb5⟩
        have HS5 := Lib.hid (show SpE w w3.heap.size A3 c3 nds.length A1 c1 nds w5 from by
          have S := HS4.out
          obtain ⟨xs, x1, x2⟩ := S.row
          have hb := hb5.mono (B' := w.heap.size) S.below.size
          exact ⟨S.below.trans hb, S.lt, S.box.below hb5 S.box.lt, ⟨xs, own_below x1 hb5, x2⟩, own_below S.ref hb5⟩)
        clear hb5 HS HS4 k1 HI
        go_wp2
        generalize wr = wb at *
        go_loopw [10] (fun iv wr => ∃ i : Nat, iv = .int .i64 i ∧ i ≤ m ∧ Hid (SpE w w3.heap.size A3 c3 nds.length A1 c1 nds wr)) (fun iv _ => m - (intOf iv).toNat)
        case atStart => exact ⟨0, rfl, Nat.zero_le _, HS5⟩
        case round =>
          obtain ⟨i, rfl, hi, HJ⟩ := hrel
          have k1 := HJ.out.box.at_ 0
          simp only [List.getElem?_toArray, List.getElem?_cons_zero] at k1
          rw [← HM.out] at k1
          by_cases him : i < m
          · have him' : (i : Int) < (m : Int) := by omega
            obtain ⟨xs, x1, x2⟩ := HJ.out.row
            rw [← HM.out] at x1 x2
            obtain ⟨A', c', ea, ha1, ha2, ha3⟩ := own_sliced x1
            injection ea with ea1 _ ea3
            subst ea1 ea3
            obtain ⟨g, rfl, _, _⟩ := ha3 (by omega)
            have hmc : (m : Int) ≤ (c3 : Int) := by omega
            have HN := Lib.hid ((((((HJ.out.put (i * 6) (.int .u8 0)).put (i * 6 + 1) (.int .i64 0)).put (i * 6 + 2) (.string ⟨#[]⟩)).put (i * 6 + 3) (.int .i64 0)).put (i * 6 + 4) (.int .i64 0)).put (i * 6 + 5) (.int .i64 0))
            have y := fun (j : Nat) (hj : j < 6) => own_there x1 (j := i * 6 + j) (by omega)
            obtain ⟨u0, v0⟩ : ∃ u, wr.cell? ⟨g, i * 6, none⟩ = some u := ⟨_, (y 0 (by omega)).1⟩
            obtain ⟨u1, v1⟩ : ∃ u, wr.cell? ⟨g, i * 6 + 1, none⟩ = some u := ⟨_, (y 1 (by omega)).1⟩
            obtain ⟨u2, v2⟩ : ∃ u, wr.cell? ⟨g, i * 6 + 2, none⟩ = some u := ⟨_, (y 2 (by omega)).1⟩
            obtain ⟨u3, v3⟩ : ∃ u, wr.cell? ⟨g, i * 6 + 3, none⟩ = some u := ⟨_, (y 3 (by omega)).1⟩
            obtain ⟨u4, v4⟩ : ∃ u, wr.cell? ⟨g, i * 6 + 4, none⟩ = some u := ⟨_, (y 4 (by omega)).1⟩
            obtain ⟨u5, v5⟩ : ∃ u, wr.cell? ⟨g, i * 6 + 5, none⟩ = some u := ⟨_, (y 5 (by omega)).1⟩
            have f0 : wr.frozen? ⟨g, i * 6, none⟩ = false := (y 0 (by omega)).2
            have f1 := (y 1 (by omega)).2
            have f2 := (y 2 (by omega)).2
            have f3 := (y 3 (by omega)).2
            have f4 := (y 4 (by omega)).2
            have f5 := (y 5 (by omega)).2
            have HIM := Lib.hid him
            clear x1 x2 ha1 ha2 ha3 y him
            go_wp2
            go_roundw
            case rel => exact ⟨i + 1, by go_num, HIM.out, HN⟩
            case measure => have := HIM.out; simp [intOf]; omega
          · obtain rfl : i = m := by omega
            have him' : ¬ ((i : Nat) : Int) < (i : Int) := by omega
            clear him
            go_wp2
            go_roundw
            case rel => exact ⟨t + 1, by go_num, by have := HT2.out; omega, Lib.hid ⟨HJ.out.below, HJ.out.ref⟩⟩
            case measure => have := HT2.out; simp [intOf]; omega
      · obtain rfl : t = 2 := by omega
        have ht2' : ¬ ((2 : Nat) : Int) < 2 := by omega
        clear ht2
        go_wp2_with fail
        refine (HWK.out wr (HT.out.below HI.out.1)).mono ?_
        rintro en v ⟨rfl, hb⟩
        have HB := Lib.hid (HI.out.1.trans (hb.mono HI.out.1.size))
        clear hb
        go_wp2
        go_ret
        exact ⟨rfl, HB.out⟩
end Go.Proofs.YtdcjpinbflmikaaGreatDoor
namespace Go.Proofs.YtdcjpinbflmikaaGreatDoor
namespace joinExprReads
theorem and_t {a b : Bool} (ha : a = true) (hb : b = true) : (a && b) = true := by rw [ha, hb]; rfl
theorem j0 : (Rows.exprReadsRow.wf (OpenSpec.ofChange Rows.exprReadsSpec) && laidOutB Tryz.pinned.checked.prog && mapsRowed Tryz.pinned.checked.prog && Tryz.f3.params.all (Tryz.pinned.checked.prog.readableRec ·) && namedTie Tryz.pinned.checked.prog Rows.exprReadsRow.named Rows.exprReadsSpec.vars && (Rows.exprReadsRow.stops == []) && (Tryz.pinned.checked.prog.stops == []) && (Rows.exprReadsRow.knobs == []) && (Tryz.pinned.checked.prog.stopKnobs == [])) = true := by kernel_rfl
theorem j1 : ((Rows.exprReadsRow.inPlace == Tryz.pinned.checked.prog.inPlace 3)) = true := by kernel_rfl
theorem j2 : ((Rows.exprReadsRow.unfollowed == Tryz.pinned.checked.prog.unfollowed 3)) = true := by kernel_rfl
theorem j3 : ((Rows.exprReadsRow.recurses == Tryz.pinned.checked.prog.recurses 3)) = true := by kernel_rfl
theorem j4 : ((Rows.exprReadsRow.named == Tryz.pinned.checked.prog.varsNamed 3)) = true := by kernel_rfl
theorem j5 : ((Rows.exprReadsRow.maps == (Tryz.f3.params.toList ++ Rows.exprReadsSpec.plain.varTypes Tryz.pinned.checked.prog).any (Tryz.pinned.checked.prog.mapsRec ·))) = true := by kernel_rfl
theorem j6 : ((Rows.exprReadsRow.ifaces == (Tryz.f3.params.toList ++ Rows.exprReadsSpec.plain.varTypes Tryz.pinned.checked.prog).any (Tryz.pinned.checked.prog.ifacesRec ·))) = true := by kernel_rfl
theorem j7 : ((Rows.exprReadsRow.mapsOut == Tryz.pinned.checked.prog.mapsAmong Tryz.f3.resultTypes.toList)) = true := by kernel_rfl
theorem j8 : ((Rows.exprReadsRow.loops == (Tryz.f3.params.toList ++ Rows.exprReadsSpec.plain.varTypes Tryz.pinned.checked.prog).any (Tryz.pinned.checked.prog.loopsFrom ·))) = true := by kernel_rfl
theorem j9 : ((Rows.exprReadsRow.wideKeys == (Tryz.f3.params.toList ++ Rows.exprReadsSpec.plain.varTypes Tryz.pinned.checked.prog ++ Tryz.f3.resultTypes.toList).any (Tryz.pinned.checked.prog.wideKeysFrom ·))) = true := by kernel_rfl
theorem j10 : (Rows.exprReadsSpec.vars.all (Tryz.pinned.checked.prog.varReadable ·)) = true := by kernel_rfl
theorem j11 : (Tryz.f3.resultTypes.all (fun t => Tryz.pinned.checked.prog.readableRec t && decide (t < Tryz.pinned.checked.prog.types.size))) = true := by kernel_rfl
theorem j12 : ((Rows.exprReadsRow.ifacesOut == Tryz.f3.resultTypes.toList.any (Tryz.pinned.checked.prog.ifacesRec ·))) = true := by kernel_rfl
theorem j13 : ((Rows.exprReadsRow.loopsOut == Tryz.f3.resultTypes.toList.any (Tryz.pinned.checked.prog.loopsFrom ·))) = true := by kernel_rfl
theorem j14 : ((Rows.exprReadsRow.plainKeys == Tryz.pinned.checked.prog.plainKeys)) = true := by kernel_rfl
theorem j15 : (Rows.exprReadsRow.shortTexts.isNone) = true := by kernel_rfl
theorem j16 : (Tryz.pinned.checked.prog.stopsHeard) = true := by kernel_rfl
theorem j17 : (Tryz.pinned.checked.prog.mayEnter) = true := by kernel_rfl
theorem j18 : ((Rows.exprReadsRow.lifted == Tryz.pinned.checked.prog.liftsFinal)) = true := by kernel_rfl
theorem j19 : ((Tryz.pinned.checked.prog.make == some Rows.exprReadsRow.make)) = true := by kernel_rfl
theorem j20 : ((Rows.exprReadsRow.kinds == (if Rows.exprReadsRow.domain.isEmpty then [] else Tryz.f3.params.toList.map fun t => match Tryz.pinned.checked.prog.underlying t with | some (.int k) => some k | _ => none))) = true := by kernel_rfl
theorem j21 : ((Rows.exprReadsRow.pinned == Rows.exprReadsRow.pinnedBy)) = true := by kernel_rfl
theorem j22 : ((Rows.exprReadsRow.veiled == (Tryz.f3.params.toList ++ Rows.exprReadsSpec.plain.varTypes Tryz.pinned.checked.prog ++ Tryz.f3.resultTypes.toList).any (Tryz.pinned.checked.prog.veiledRec ·))) = true := by kernel_rfl
theorem j23 : (Rows.exprReadsRow.veiledFits Tryz.pinned.checked.prog Tryz.f3.params.toList (Tryz.f3.params.toList ++ Rows.exprReadsSpec.plain.varTypes Tryz.pinned.checked.prog ++ Tryz.f3.resultTypes.toList)) = true := by kernel_rfl
set_option maxRecDepth 100000 in
theorem closed : joinedFacts Tryz.pinned.checked.prog 3 Tryz.f3 Rows.exprReadsSpec Rows.exprReadsRow = true := (and_t (and_t (and_t (and_t (and_t (and_t (and_t (and_t (and_t (and_t (and_t (and_t (and_t (and_t (and_t (and_t (and_t (and_t (and_t (and_t (and_t (and_t (and_t j0 j1) j2) j3) j4) j5) j6) j7) j8) j9) j10) j11) j12) j13) j14) j15) j16) j17) j18) j19) j20) j21) j22) j23)
end joinExprReads
end Go.Proofs.YtdcjpinbflmikaaGreatDoor
namespace Go.Proofs.YtdcjpinbflmikaaGreatDoor
open Go.RowKit Go.Shelf Go.Lib
open Go.ChangeShapes Go.WideShapes Go.ChangeAt
open Go.ChangeMaps (open_string shut_string)
set_option maxRecDepth 100000

namespace cardExprReads
theorem lifted (os : Os) (started : os.Started) (H : Type) (enc : TypeId × Value → H) :
    ReturnsInHanded {} Tryz.checked os 3 .any (fun w args => (Rows.exprReadsSpec.pre enc Tryz.prog Tryz.f3 [] false w args ∧ laidMetH Tryz.prog laidAllOf w) ∧ sizedMet enc Tryz.prog Tryz.f3 (OpenSpec.ofChange Rows.exprReadsSpec) false w args)
      (Rows.exprReadsSpec.post enc Tryz.prog Tryz.f3 false true false false) := by
  refine returnsInHanded_of_change_and (C := Tryz.checked) (X := fun w _ => laidMetH Tryz.prog laidAllOf w) (fun _ _ _ hh h => h.of_heap hh) own started (by kernel_rfl) Tryz.func3
    (ChangeSpec.witness_shaped (enc := enc) (C := Tryz.checked) (os := os) (X := fun w _ => laidMetH Tryz.prog laidAllOf w) false (World.laidAll Tryz.prog os laidAllOf) #[.string ⟨#[]⟩] 8 (World.laidAll_os _ _ _)
      (World.shaped_of_ZipB (by kernel_rfl) (by kernel_rfl)) (by kernel_rfl) (by kernel_rfl) (by kernel_rfl)
      (by rw [MakeChecks.laidMetH_plain _ _ _ (by kernel_rfl)]; exact laidMet_laidAll _ (by kernel_rfl) (by kernel_rfl))) ?_
  intro W base args ds gs before hval0 hW _ _ hL _
  have hval : ∀ (j : Nat) t v, Tryz.f3.params[j]? = some t → args[j]? = some v → Value.okWide Tryz.prog W .any base t v := hval0
  have hW' := hW
  obtain ⟨p, q, hA0, hV, rfl, _, _⟩ := hW
  have hA : DataW.TrodAll enc Tryz.prog W 0 (fun _ => true) true Tryz.f3.params.toList args.toList ds p := hA0
  rw [Tryz.params3] at hA hval
  obtain ⟨v0, d0, rfl, rfl, h0⟩ := trodAll_one hA
  obtain ⟨rfl, rfl⟩ := trodVars_none hV
  have hlt := DataW.TrodAll.lt hA
  obtain ⟨x0, rfl, rfl, rfl, wx0⟩ := open_string Tryz.underlying9 (hval 0 9 v0 rfl rfl) h0
  simp only [List.append_nil] at hW'
  rw [MakeChecks.laidMetH_plain _ _ _ (by kernel_rfl)] at hL
  have T := tx_of hL
  refine (ereads_any W T x0 (by simpa [Lit.wf] using wx0)).mono fun e W' ⟨he, hb⟩ => ?_
  subst he
  exact ⟨_, rfl, _, _, _, [], [], [], hW', trodAll_mk1 (shut_bool Tryz.underlying4 _), trodAll_mk1 (shut_string Tryz.underlying9 wx0), rfl, hb.frame _, fun h => by cases h⟩

theorem holds : Rows.ExprReadsSaid :=
  OpenClaim.holds_of_wide 3 Tryz.f3 rfl rfl rfl rfl rfl rfl rfl ⟨rfl, rfl, rfl, rfl, rfl⟩ rfl rfl rfl rfl rfl (by kernel_rfl) Tryz.func3 joinExprReads.closed
    (of_decide_eq_true (by kernel_rfl)) (by unfold Func.isWrapper; rw [if_neg (of_decide_eq_false (by kernel_rfl))]; exact ⟨rfl, rfl⟩)
    (fun os started H enc _ => lifted os started H enc)
theorem plain (f : FuncId) (fn : Func) (hf : Tryz.pinned.checked.prog.funcNamed "hopscotch/hopscotchlaw08.ExprReads" = some f) (hfn : Tryz.pinned.checked.prog.funcs[f]? = some fn) :
    true = Tryz.pinned.checked.prog.looks [] ∧ ∀ (j : Nat) t, fn.params[j]? = some t → Tryz.pinned.checked.prog.wantsStandIn t = false := by
  obtain rfl : f = 3 := Option.some.inj ((show Tryz.prog.funcNamed "hopscotch/hopscotchlaw08.ExprReads" = some 3 by kernel_rfl).symm.trans hf) |>.symm
  obtain rfl : fn = Tryz.f3 := (Option.some.inj (Tryz.func3.symm.trans hfn)).symm
  refine ⟨by kernel_rfl, fun j t ht => ?_⟩
  rw [Tryz.params3] at ht
  have hm : t ∈ [9] := by simpa using Array.mem_of_getElem? ht
  have hall : ([9].all fun u => !Tryz.prog.wantsStandIn u) = true := by kernel_rfl
  exact (show Tryz.prog.wantsStandIn t = false by simpa using List.all_eq_true.1 hall t hm)
theorem card : Rows.ExprReadsCardSaid :=
  Claim7.holds_tied_plain_at .later [] _ _ _ _ holds (fun _ h => by cases h) (by kernel_rfl) (fun _ h => by cases h) exprReads_row_tie rfl ⟨rfl, rfl⟩ (by kernel_rfl) rfl plain (by kernel_rfl)
end cardExprReads
end Go.Proofs.YtdcjpinbflmikaaGreatDoor
