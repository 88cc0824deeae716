/- Layer 8's statements: the law's ref, walked. Conditions: the row lies in memory; lengths are such as come in.
Layer 8's statements: the law's same of one row twice, walked. Conditions: both rows lie in memory; lengths are such as come in.
What the rows of layer 8 list (three tables, two sentinels), and what it gives to the walks; what an expression that came in reads as. No condition.
What an expression that came in reads as: a row of nodes in memory; ops of 8 bits, numbers of 64. No condition.
What a row of tokens that came in reads as. No condition.
Layer 8's statements: ExprFrom, walked: the expression with which any tokens begin is told as the document says. Conditions: the tables hold what their texts lay; the row of tokens lies in memory; lengths are such as come in.
The closed facts of ExprFrom's row, one by one. No condition.
The row and card of ExprFrom: for every input the answer is true, and the input reads as it did. Condition: the listed tables and sentinels start as the program's text lays them (the card ties them). -/
import Derived.Test.YtdcjpinbflmikaaGreatDoorExWorks
import Derived.Deep.DeepMust
import Derived.Test.YtdcjpinbflmikaaGreatDoorCards
import Derived.Test.YtdcjpinbflmikaaGreatDoorTie
import Derived.Test.YtdcjpinbflmikaaGreatDoorExSame
import Derived.Handed
import Derived.Shelf.Vars
import Derived.ProofKit
import Derived.OpenShut
import Derived.Lay
import Derived.Lib.LaidU8
import Derived.SevenTiedAt
import Derived.Stop.LaidErr
import Derived.Deep.Slices
import Derived.ChangeSame
import Derived.ReadAgain
import Derived.Test.YtdcjpinbflmikaaGreatDoorExParse
import Derived.Test.YtdcjpinbflmikaaGreatDoorRvFrom
import Derived.Test.YtdcjpinbflmikaaGreatDoorChecked
import Derived.JoinedOf
import Derived.KernelRfl
namespace Go.Proofs.YtdcjpinbflmikaaGreatDoor
open Go.RowKit Ex

theorem infoRN : (Tryz.prog.info? 114).map (fun i => (i.zero, i.size, i.bytes)) = some (some (.agg #[.int .u8 0, .int .i64 0, .string ⟨#[]⟩, .int .i64 0, .int .i64 0, .int .i64 0]), 6, 56) := by kernel_rfl
structure RfN (w : World) (A : Option Addr) (c : Nat) (l : List Nd) (wr : World) (v : Value) (k : Nat) : Prop where
  below : Below w.heap.size w wr
  box : IsBlk wr w.heap.size 29 #[.slice A l.length c]
  own : wr.ownsRow (w.heap.size + 1) 114 6 v k ((l.take k).flatMap ndV)
set_option maxHeartbeats 8000000 in
set_option maxRecDepth 100000 in
theorem eref_any (w : World) (A : Option Addr) (c : Nat) (l : List Nd) (h : NdR w w.heap.size A l) (hc : l.length ≤ c) (hn : l.length ≤ 1000000) :
    Calls Tryz.prog 64 #[.agg #[.slice A l.length c]] w fun e w' => ∃ v, e = .returned v ∧ w'.ownsRow (w.heap.size + 1) 114 6 v l.length (l.flatMap ndV) ∧ Below w.heap.size w w' := by
  have H := Lib.hid h
  obtain ⟨n, hln⟩ : ∃ n, n = l.length := ⟨_, rfl⟩
  have H0 := Lib.hid (show RfN w A c l (w.alloc (.cells #[.slice A l.length c] 29)) (.slice none 0 0) 0 from ⟨(Below.refl _ _).alloc (Nat.le_refl _) _, IsBlk.new _ _ _, World.ownsRow_nil _ _ _ _⟩)
  rw [← hln] at hn hc ⊢
  have HLN := Lib.hid hln
  have hc' : (n : Int) ≤ (c : Int) := by omega
  clear h hln
  go_enter Tryz.func64, Tryz.ntmps64
  go_wp2
  go_loopw [3, 4] (fun v0 i wr => ∃ (v : Value) (k : Nat), v = v0 ∧ i = .int .i64 k ∧ k ≤ n ∧ Hid (RfN w A c l wr v k)) (fun _ i _ => n - (intOf i).toNat)
  case atStart => exact ⟨_, 0, rfl, rfl, Nat.zero_le _, by rw [HLN.out]; exact H0⟩
  case round =>
    obtain ⟨v, k, hv0, rfl, hk, HI⟩ := hrel
    subst hv0
    have k1 : wr.cell? ⟨w.heap.size, 0, none⟩ = some (.slice A n c) := by rw [HLN.out]; exact HI.out.box.at_ 0
    by_cases hlt : k < n
    · have hlt' : (k : Int) < (n : Int) := by omega
      have hkl : k < l.length := by rw [← HLN.out]; exact hlt
      obtain ⟨g, o, hA, hg, q0, q1, q2, q3, q4, q5⟩ := (H.out.below HI.out.below) k hkl
      subst hA
      have HTK := Lib.hid (show (l.take (k + 1)).flatMap ndV = (l.take k).flatMap ndV ++ ndV l[k] by
        rw [List.take_succ_eq_append_getElem hkl, List.flatMap_append]; simp)
      generalize l[k] = t at *
      obtain ⟨op, num, nm, na, nb, nc⟩ := t
      simp only at q0 q1 q2 q3 q4 q5
      obtain ⟨N, hNN⟩ : ∃ N : ByteArray, N = ⟨nm.toArray⟩ := ⟨_, rfl⟩
      rw [← hNN] at q2
      have HNN := Lib.hid hNN
      obtain ⟨Av, cv, hv, _, _, hv1, hv2⟩ := own_slice HI.out.own
      subst hv
      obtain ⟨i0, hi, hz0, hz1, hz2⟩ := info_parts infoRN
      have hmax : k + 1 ≤ maxLen := by unfold maxLen; omega
      have hbl0 : w.heap.size < wr.heap.size := HI.out.box.lt
      have hOW := Lib.hid HI.out.own
      have HNEW := Lib.hid (fun (W' w9 : World) (v9 : Value) (hW : Below wr.heap.size wr W') (ho : w9.ownsRow (w.heap.size + 1) 114 6 v9 (k + 1) ((l.take k).flatMap ndV ++ [.int .u8 op, .int .i64 num, .string N, .int .i64 na, .int .i64 nb, .int .i64 nc])) (hg : W'.grownBy w9 (Value.slice Av k cv).ownBlock) => (show RfN w (some ⟨g, o, none⟩) c l w9 v9 (k + 1) from by
        have hsz := HI.out.below.size
        have hbl : w.heap.size < wr.heap.size := HI.out.box.lt
        refine ⟨(HI.out.below.trans (hW.mono hsz)).grown hg (Nat.le_trans hsz hW.size) (fun z hz => by have := (hOW.out.lt z hz).1; omega), (HI.out.box.below hW hbl).grown hg (fun e => by have := (hOW.out.lt _ e.symm).1; omega), ?_⟩
        rw [HTK.out]
        show w9.ownsRow _ _ _ _ _ ((l.take k).flatMap ndV ++ [.int .u8 op, .int .i64 num, .string ⟨nm.toArray⟩, .int .i64 na, .int .i64 nb, .int .i64 nc])
        rw [← HNN.out]; exact ho))
      clear hNN
      go_upto_region 6 with fail
      go_wp2_with (at_builtin; go_must (refine wpList_append_own _ rfl _ _ _ rfl (w.heap.size + 1) 114 i0 _ 6 56 Tryz.underlying23 hi hz0 hz1 hz2 rfl (by omega) (.slice Av k cv) k ((l.take k).flatMap ndV) (by rfl) (by exact World.ownsRow.alloc (World.ownsRow.alloc hOW.out _) _) _ 1 _ [.int .u8 op, .int .i64 num, .string N, .int .i64 na, .int .i64 nb, .int .i64 nc] (by rfl) rfl (by intro j u hu; exact news_at _ _ _ _ (by simp) j u hu) (by intro u hu; simp at hu; rcases hu with rfl | rfl | rfl | rfl | rfl | rfl <;> rfl) hmax (by omega) (by simp; omega) ?_); go_must (intro v9 w9 hown9 hgr9 _; have H9 := Lib.hid (HNEW.out _ w9 _ (((Below.refl _ _).alloc (Nat.le_refl _) _).alloc (by simp) _) hown9 hgr9); clear hown9 hgr9))
      go_roundw
      case rel => exact ⟨_, k + 1, rfl, by go_num, hlt, H9⟩
      case measure => simp [intOf]; omega
    · obtain rfl : k = n := by omega
      have hlt' : ¬ (k : Int) < (k : Int) := by omega
      have HE := Lib.hid (show wr.ownsRow (w.heap.size + 1) 114 6 v k (l.flatMap ndV) by
        have h4 := HI.out.own
        rw [List.take_of_length_le (by rw [← HLN.out]; exact Nat.le_refl _)] at h4
        exact h4)
      clear hlt
      go_wp2
      go_ret
      exact ⟨v, rfl, HE.out, HI.out.below⟩
end Go.Proofs.YtdcjpinbflmikaaGreatDoor
namespace Go.Proofs.YtdcjpinbflmikaaGreatDoor
open Go.RowKit Ex

theorem own_rnr {w : World} {B n c : Nat} {A : Option Addr} {l : List Nd} (h : w.ownsRow B 114 6 (.slice A n c) n (l.flatMap ndV)) (hn : n = l.length) : NdR w w.heap.size A l ∧ n ≤ c ∧ c ≤ maxLen := by
  obtain ⟨A', c', e, h1, h2, h3⟩ := own_sliced h
  injection e with e1 _ e3
  subst e1 e3
  refine ⟨fun j hj => ?_, h1, h2⟩
  obtain ⟨g, rfl, _, hg⟩ := h3 (by omega)
  have q := fun (k : Nat) (u : Value) (hk : k < 6) (hu : (ndV l[j])[k]? = some u) => own_cell h ((fl_at (f := ndV) (k := 6) (fun _ => rfl) l j k hj hk).trans hu)
  refine ⟨g, 0, rfl, hg, ?_, ?_, ?_, ?_, ?_, ?_⟩
  · simpa using q 0 _ (by omega) rfl
  · simpa using q 1 _ (by omega) rfl
  · simpa using q 2 _ (by omega) rfl
  · simpa using q 3 _ (by omega) rfl
  · simpa using q 4 _ (by omega) rfl
  · simpa using q 5 _ (by omega) rfl
set_option maxHeartbeats 4000000 in
set_option maxRecDepth 100000 in
theorem lsame_any (w : World) (A : Option Addr) (c : Nat) (l : List Nd) (h : NdR w w.heap.size A l) (hc : l.length ≤ c) (A2 : Option Addr) (c2 : Nat) (h2 : NdR w w.heap.size A2 l) (hc2 : l.length ≤ c2) (hn : l.length ≤ 1000000) :
    Calls Tryz.prog 17 #[.agg #[.slice A l.length c], .slice A2 l.length c2] w fun e w' => e = .returned (.bool true) ∧ Below w.heap.size w w' := by
  have H2 := Lib.hid h2
  have HR := Lib.hid (fun v (hb : Below w.heap.size w v) => eref_any v A c l ((h.below hb).more hb.size) hc hn)
  obtain ⟨W1, hW1⟩ : ∃ W1, W1 = w.alloc (.cells #[.slice A l.length c] 29) := ⟨_, rfl⟩
  have hb1 : Below w.heap.size w W1 := by rw [hW1]; exact (Below.refl _ _).alloc (Nat.le_refl _) _
  have k1 : W1.cell? ⟨w.heap.size, 0, none⟩ = some (.slice A l.length c) := by rw [hW1]; exact (IsBlk.new _ _ _).at_ 0
  have HW1 := Lib.hid hW1
  have HB1 := Lib.hid hb1
  obtain ⟨n, hln⟩ : ∃ n, n = l.length := ⟨_, rfl⟩
  rw [← hln] at hn hc hc2 HR k1 ⊢
  have HLN := Lib.hid hln
  have hc' : (n : Int) ≤ (c : Int) := by omega
  have hc2' : (n : Int) ≤ (c2 : Int) := by omega
  clear h h2 hln hb1 hW1
  rw [← HLN.out] at HW1
  go_enter Tryz.func17, Tryz.ntmps17
  go_wp2_with fail
  rw [← HW1.out]
  refine (HR.out _ HB1.out).mono ?_
  rintro e w2 ⟨v, rfl, ho, hb2⟩
  obtain ⟨A3, c3, hv, _, _, hv1, hv2⟩ := own_slice ho
  subst hv
  have HO3 := Lib.hid (own_rnr ho HLN.out)
  have HB2 := Lib.hid (HB1.out.trans (hb2.mono HB1.out.size))
  have hc3' : (n : Int) ≤ (c3 : Int) := by omega
  clear ho hb2 HR
  go_wp2_with fail
  go_loopw [6] (fun i wr => ∃ k : Nat, i = .int .i64 k ∧ k ≤ n ∧ Hid (Below w2.heap.size w2 wr)) (fun i _ => n - (intOf i).toNat)
  case atStart => exact ⟨0, rfl, Nat.zero_le _, Lib.hid (Below.refl _ _)⟩
  case round =>
    obtain ⟨k, rfl, hk, HI⟩ := hrel
    by_cases hlt : k < n
    · have hlt' : (k : Int) < (n : Int) := by omega
      have hkl : k < l.length := by rw [← HLN.out]; exact hlt
      have hbw := HB2.out.trans (HI.out.mono HB2.out.size)
      obtain ⟨g, o, hA, hg, q0, q1, q2, q3, q4, q5⟩ := (H2.out.below hbw) k hkl
      subst hA
      obtain ⟨g', o', hA', hg', p0, p1, p2, p3, p4, p5⟩ := (HO3.out.1.below HI.out) k hkl
      subst hA'
      generalize l[k] = t at *
      obtain ⟨op, num, nm, na, nb, nc⟩ := t
      simp only at q0 q1 q2 q3 q4 q5 p0 p1 p2 p3 p4 p5
      generalize (⟨nm.toArray⟩ : ByteArray) = N at *
      have HIW := Lib.hid HI.out.drew
      clear hbw hkl
      go_wp2_with fail
      go_quiet (fail)
      go_wp2
      go_roundw
      case rel => exact ⟨k + 1, by go_num, hlt, by first | exact Lib.hid (below_drewN HI.out _) | exact HIW | exact HI⟩
      case measure => simp [intOf]; omega
    · obtain rfl : k = n := by omega
      have hlt' : ¬ (k : Int) < (k : Int) := by omega
      go_wp2
      go_ret
      exact ⟨rfl, HB2.out.trans (HI.out.mono HB2.out.size)⟩
end Go.Proofs.YtdcjpinbflmikaaGreatDoor
namespace Go.Proofs.YtdcjpinbflmikaaGreatDoor
open Go.RowKit Go.Shelf Go.Lib
open Go.ChangeShapes Go.WideShapes Go.ChangeAt
set_option maxRecDepth 100000

def laidAllOf : List (String × DataW Unit) := [("math/bits.deBruijn32tab", Rows.laid_math_bits_deBruijn32tab), ("math/bits.deBruijn64tab", Rows.laid_math_bits_deBruijn64tab), ("internal/strconv.uint64pow10", Rows.laid_internal_strconv_uint64pow10), ("unicode/utf8.acceptRanges", Rows.laid_unicode_utf8_acceptRanges), ("strconv.ErrRange", Rows.laid_strconv_ErrRange), ("strconv.ErrSyntax", Rows.laid_strconv_ErrSyntax), ("hopscotch/lex.signs", Rows.laid_hopscotch_lex_signs), ("hopscotch/expr.forms", Rows.laid_hopscotch_expr_forms), ("unicode/utf8.first", Rows.laid_unicode_utf8_first)]
theorem pow_eq : (Rows.laid_internal_strconv_uint64pow10 : DataW Unit) = tabData .u64 pow10Tab := by kernel_rfl
theorem yPow : (Tryz.prog.globals[5]?).map (·.type) = some 326 := by kernel_rfl
theorem gER : Tryz.prog.globalNamed "strconv.ErrRange" = some 3 := by kernel_rfl
theorem yER : (Tryz.prog.globals[3]?).map (·.type) = some 237 := by kernel_rfl
theorem cES : Tryz.prog.cellsOf 363 = 1 := by kernel_rfl
theorem cStr : Tryz.prog.cellsOf 9 = 1 := by kernel_rfl
theorem starES : "*" ++ "errors.errorString" = "*errors.errorString" := by decide
theorem rowES (u : TypeId) (h : Tryz.prog.typeName? 3 u = some "*errors.errorString") : u = 361 :=
  typeName_ptr_named (nm := "errors.errorString") (by rw [starES]; kernel_rfl) (by kernel_rfl) (by decide) u (by rw [starES]; exact h)
theorem tb_of {W : World} (hL : laidMet Tryz.prog laidAllOf W) : Tb W := by
  constructor
  · obtain ⟨a0, _, hv0, -, -, -⟩ := laid_sentinel (laidMet.tail (laidMet.tail (laidMet.tail (laidMet.tail hL)))) gER yER Tryz.underlying237 rowES Tryz.underlying361 Tryz.underlying363 rfl rfl Tryz.underlying9 cES cStr
    exact ⟨_, by have h0 := World.var?_cell gER hv0 0; simpa using h0⟩
  · have h := (laidMet.tail (laidMet.tail hL))
    rw [pow_eq] at h
    exact tabIs_of_head gPow yPow Tryz.underlying326 Tryz.underlying309 (by kernel_rfl) (by kernel_rfl) h
theorem own : ownKnob Tryz.prog.godebug = none := by kernel_rfl
theorem signs_eq : (Rows.laid_hopscotch_lex_signs : DataW Unit) = .agg (sgB.map fun x => .lit (.string x.data.toList)) := by kernel_rfl
theorem gSigns : Tryz.prog.globalNamed "hopscotch/lex.signs" = some 2 := by kernel_rfl
theorem ySigns : (Tryz.prog.globals[2]?).map (·.type) = some 278 := by kernel_rfl
theorem ba_of {a b : ByteArray} (h : a.data.toList = b.data.toList) : a = b := by
  cases a with | mk x => cases b with | mk y => simpa using h
theorem sg_of {W : World} (hL : laidMet Tryz.prog laidAllOf W) : Sg W := by
  have h : VarReads Tryz.prog W "hopscotch/lex.signs" Rows.laid_hopscotch_lex_signs := laidMet.reads hL (.tail _ (.tail _ (.tail _ (.tail _ (.tail _ (.tail _ (.head _)))))))
  obtain ⟨g, t, cs, fuel, p, hg, hty, hvar, hd⟩ := h
  obtain rfl := Option.some.inj (gSigns.symm.trans hg)
  obtain rfl := Option.some.inj (ySigns.symm.trans hty)
  rw [signs_eq] at hd
  intro j hj
  obtain ⟨fuel', d, q, hdi, he⟩ := array_elem Tryz.underlying278 hd j hj
  rw [List.getElem?_map, List.getElem?_eq_getElem hj] at hdi
  simp only [Option.map_some, Option.some.injEq] at hdi
  subst hdi
  rw [cStr] at he
  obtain ⟨s, hs, hx, _⟩ := DataW.trod_string Tryz.underlying9 he
  have hx1 := congrArg Prod.fst hx
  simp only [DataW.lit.injEq, Lit.string.injEq] at hx1
  have hsv : s = sgB[j] := ba_of hx1.symm
  have e0 := congrArg (·[0]?) hs
  simp only [List.getElem?_take, List.getElem?_drop] at e0
  rw [World.var?_cell gSigns hvar j, ← Array.getElem?_toList, ← hsv]
  simpa using e0
theorem forms_eq : (Rows.laid_hopscotch_expr_forms : DataW Unit) = .agg ((List.range 23).map fun op => .agg [.lit (.string (fW op)), .lit (.int .u8 (fL op : Nat)), .lit (.int .i64 (fP op : Nat))]) := by kernel_rfl
theorem gForms : Tryz.prog.globalNamed "hopscotch/expr.forms" = some 0 := by kernel_rfl
theorem yForms : (Tryz.prog.globals[0]?).map (·.type) = some 163 := by kernel_rfl
theorem cForm : Tryz.prog.cellsOf 162 = 3 := by kernel_rfl
theorem fm_of {W : World} (hL : laidMet Tryz.prog laidAllOf W) : Fm W := by
  have h : VarReads Tryz.prog W "hopscotch/expr.forms" Rows.laid_hopscotch_expr_forms := laidMet.reads hL (.tail _ (.tail _ (.tail _ (.tail _ (.tail _ (.tail _ (.tail _ (.head _))))))))
  obtain ⟨g, t, cs, fuel, p, hg, hty, hvar, hd⟩ := h
  obtain rfl := Option.some.inj (gForms.symm.trans hg)
  obtain rfl := Option.some.inj (yForms.symm.trans hty)
  rw [forms_eq] at hd
  intro op hop
  obtain ⟨fuel', d, q, hdi, he⟩ := array_elem Tryz.underlying163 hd op hop
  rw [List.getElem?_map, List.getElem?_range hop] at hdi
  simp only [Option.map_some, Option.some.injEq] at hdi
  subst hdi
  rw [cForm] at he
  obtain ⟨xs, n', _, hxe, _, hxl, hg3⟩ := DataW.trod_struct Tryz.underlying162 he
  have hx3 : xs.length = 3 := hxl
  have hm := (Prod.mk.inj hxe).1
  simp only [DataW.agg.injEq] at hm
  have m := fun (j : Nat) => congrArg (fun (l : List (DataW Unit)) => l[j]?) hm
  have t0 : DataW.trod _ Tryz.prog W _ _ _ n' 9 (List.take (Tryz.prog.cellsOf 9) (List.drop 0 _)) = some (xs[0]'(by omega)) := (hg3 0 _ rfl).trans (List.getElem?_eq_getElem (by omega))
  have t1 : DataW.trod _ Tryz.prog W _ _ _ n' 5 (List.take (Tryz.prog.cellsOf 5) (List.drop 1 _)) = some (xs[1]'(by omega)) := (hg3 1 _ rfl).trans (List.getElem?_eq_getElem (by omega))
  have t2 : DataW.trod _ Tryz.prog W _ _ _ n' 3 (List.take (Tryz.prog.cellsOf 3) (List.drop 2 _)) = some (xs[2]'(by omega)) := (hg3 2 _ rfl).trans (List.getElem?_eq_getElem (by omega))
  simp only [show Tryz.prog.cellsOf 5 = 1 by kernel_rfl, show Tryz.prog.cellsOf 9 = 1 by kernel_rfl, show Tryz.prog.cellsOf 3 = 1 by kernel_rfl] at t0 t1 t2
  obtain ⟨s, e0, d0, _⟩ := DataW.trod_string Tryz.underlying9 t0
  obtain ⟨a, e1, d1, _⟩ := DataW.trod_int Tryz.underlying5 t1
  obtain ⟨b, e2, d2, _⟩ := DataW.trod_int Tryz.underlying3 t2
  have m0 := m 0
  have m1 := m 1
  have m2 := m 2
  simp only [List.getElem?_map, List.getElem?_eq_getElem (show 0 < xs.length by omega), List.getElem?_eq_getElem (show 1 < xs.length by omega), List.getElem?_eq_getElem (show 2 < xs.length by omega), Option.map_some, d0, d1, d2, List.getElem?_cons_zero, List.getElem?_cons_succ, Option.some.injEq, DataW.lit.injEq, Lit.string.injEq, Lit.int.injEq, true_and] at m0 m1 m2
  have q0 := congrArg (·[0]?) e0
  have q1 := congrArg (·[0]?) e1
  have q2 := congrArg (·[0]?) e2
  simp only [List.getElem?_take, List.getElem?_drop] at q0 q1 q2
  have hs : s = ⟨(fW op).toArray⟩ := ba_of (by rw [← m0])
  rw [World.var?_cell gForms hvar, World.var?_cell gForms hvar, World.var?_cell gForms hvar, ← Array.getElem?_toList, ← Array.getElem?_toList, ← Array.getElem?_toList, m1, m2, ← hs]
  exact ⟨by simpa using q0, by simpa using q1, by simpa using q2⟩
theorem tx_of {W : World} (hL : laidMet Tryz.prog laidAllOf W) : Tx W := ⟨sg_of hL, tb_of hL, fm_of hL⟩
end Go.Proofs.YtdcjpinbflmikaaGreatDoor
namespace Go.Proofs.YtdcjpinbflmikaaGreatDoor
open Go.RowKit Go.Shelf Go.Lib
open Go.ChangeShapes Go.WideShapes Go.ChangeAt
set_option maxRecDepth 100000

theorem cell_plain {w : World} {a : Addr} {v : Value} (h : w.cell? a = some v) : a = ⟨a.block, a.off, none⟩ ∧ a.block < w.heap.size := by
  obtain ⟨g, o, sp⟩ := a
  unfold World.cell? at h
  split at h
  · rename_i hh
    split at h
    · cases h
    · rename_i hs
      refine ⟨?_, (Array.getElem?_eq_some_iff.1 hh).1⟩
      cases sp with
      | none => rfl
      | some _ => exact absurd rfl hs
  · cases h
theorem add_plain (g o n : Nat) : (⟨g, o, none⟩ : Addr).add n = ⟨g, o + n, none⟩ := by
  unfold Addr.add
  split
  · rename_i h; subst h; rfl
  · rfl
section
variable {H : Type} {enc : TypeId × Value → H} {W : World}
theorem nodes_of {fuel : Nat} {cs : List Value} {x : DataW H × List MemPlace} (h : DataW.trod enc Tryz.prog W 0 (fun _ => true) true fuel 27 cs = some x) :
    ∃ A c l, cs = [.slice A l.length c] ∧ NdR W W.heap.size A l ∧ l.length ≤ c ∧ c ≤ maxLen ∧ Okn l := by
  rcases Deep.open_slice Tryz.underlying27 h with ⟨hc, _⟩ | ⟨a, len, cap, m, n, D, Pl, hcs, _, hl, hm, hmm, _, hi⟩
  · exact ⟨none, 0, [], hc, fun j hj => absurd hj (by simp), Nat.le_refl _, by decide, fun n hn => by cases hn⟩
  · have hi2 : ∀ i : Fin len, ∃ x : Ex.Nd, (W.cell? (a.add (i.1 * 6)) = some (.int .u8 x.op) ∧ W.cell? (a.add (i.1 * 6 + 1)) = some (.int .i64 x.num) ∧ W.cell? (a.add (i.1 * 6 + 2)) = some (.string ⟨x.nm.toArray⟩) ∧ W.cell? (a.add (i.1 * 6 + 3)) = some (.int .i64 x.a) ∧ W.cell? (a.add (i.1 * 6 + 4)) = some (.int .i64 x.b) ∧ W.cell? (a.add (i.1 * 6 + 5)) = some (.int .i64 x.c)) ∧ 0 ≤ x.op ∧ x.num ≤ 9223372036854775807 := fun i => by
      obtain ⟨cs', hce, ht'⟩ := hi i.1 (by rw [hmm]; simp; have := i.2; omega)
      have h5 : Tryz.prog.cellsOf 34 = 6 := by kernel_rfl
      obtain ⟨_, hcl, hat⟩ := World.cells?_some hce
      obtain ⟨xs, n', _, _, _, hxl, hg⟩ := DataW.trod_struct Tryz.underlying34 ht'
      rw [h5] at hcl hat
      have hx5 : xs.length = 6 := hxl
      match cs', hcl with
      | [v0, v1, v2, v3, v4, v5], _ =>
        have t0 : DataW.trod enc Tryz.prog W 0 (fun _ => true) true n' 5 (List.take (Tryz.prog.cellsOf 5) (List.drop 0 [v0, v1, v2, v3, v4, v5])) = some (xs[0]'(by omega)) := (hg 0 _ rfl).trans (List.getElem?_eq_getElem (by omega))
        have t1 : DataW.trod enc Tryz.prog W 0 (fun _ => true) true n' 2 (List.take (Tryz.prog.cellsOf 2) (List.drop 1 [v0, v1, v2, v3, v4, v5])) = some (xs[1]'(by omega)) := (hg 1 _ rfl).trans (List.getElem?_eq_getElem (by omega))
        have t2 : DataW.trod enc Tryz.prog W 0 (fun _ => true) true n' 9 (List.take (Tryz.prog.cellsOf 9) (List.drop 2 [v0, v1, v2, v3, v4, v5])) = some (xs[2]'(by omega)) := (hg 2 _ rfl).trans (List.getElem?_eq_getElem (by omega))
        have t3 : DataW.trod enc Tryz.prog W 0 (fun _ => true) true n' 3 (List.take (Tryz.prog.cellsOf 3) (List.drop 3 [v0, v1, v2, v3, v4, v5])) = some (xs[3]'(by omega)) := (hg 3 _ rfl).trans (List.getElem?_eq_getElem (by omega))
        have t4 : DataW.trod enc Tryz.prog W 0 (fun _ => true) true n' 3 (List.take (Tryz.prog.cellsOf 3) (List.drop 4 [v0, v1, v2, v3, v4, v5])) = some (xs[4]'(by omega)) := (hg 4 _ rfl).trans (List.getElem?_eq_getElem (by omega))
        have t5 : DataW.trod enc Tryz.prog W 0 (fun _ => true) true n' 3 (List.take (Tryz.prog.cellsOf 3) (List.drop 5 [v0, v1, v2, v3, v4, v5])) = some (xs[5]'(by omega)) := (hg 5 _ rfl).trans (List.getElem?_eq_getElem (by omega))
        simp only [show Tryz.prog.cellsOf 5 = 1 by kernel_rfl, show Tryz.prog.cellsOf 2 = 1 by kernel_rfl, show Tryz.prog.cellsOf 9 = 1 by kernel_rfl, show Tryz.prog.cellsOf 3 = 1 by kernel_rfl, List.drop_zero, List.drop_succ_cons, List.take_succ_cons, List.take_zero] at t0 t1 t2 t3 t4 t5
        have c0 := hat 0 (by omega)
        have c1 := hat 1 (by omega)
        have c2 := hat 2 (by omega)
        have c3 := hat 3 (by omega)
        have c4 := hat 4 (by omega)
        have c5 := hat 5 (by omega)
        rw [Deep.add_add] at c0 c1 c2 c3 c4 c5
        obtain ⟨z0, e0, _, w0⟩ := DataW.trod_int Tryz.underlying5 t0
        obtain ⟨z1, e1, _, w1⟩ := DataW.trod_int Tryz.underlying2 t1
        obtain ⟨N, e2, _, _⟩ := DataW.trod_string Tryz.underlying9 t2
        obtain ⟨z3, e3, _, _⟩ := DataW.trod_int Tryz.underlying3 t3
        obtain ⟨z4, e4, _, _⟩ := DataW.trod_int Tryz.underlying3 t4
        obtain ⟨z5, e5, _, _⟩ := DataW.trod_int Tryz.underlying3 t5
        simp only [List.cons.injEq, and_true] at e0 e1 e2 e3 e4 e5
        subst e0 e1 e2 e3 e4 e5
        simp [Lit.wf, IntKind.min, IntKind.max, IntKind.signed, IntKind.bits] at w0 w1
        exact ⟨⟨z0, z1, N.data.toList, z3, z4, z5⟩, ⟨c0, c1, c2, c3, c4, c5⟩, w0.1, w1.2⟩
    obtain ⟨f, hf⟩ := Classical.skolem.1 hi2
    have hlen : (List.ofFn f).length = len := List.length_ofFn
    refine ⟨some a, cap, List.ofFn f, by rw [hlen]; exact hcs, fun k hk => ?_, by rw [hlen]; exact hl, hm, fun y hy => ?_⟩
    · have hk' : k < len := by rw [← hlen]; exact hk
      obtain ⟨ha, hb⟩ := cell_plain (hf ⟨0, by omega⟩).1.1
      have hz : a.add (0 * 6) = a := by unfold Addr.add; rw [if_pos (by omega)]
      rw [hz] at ha hb
      have h1 := (hf ⟨k, hk'⟩).1
      rw [ha, add_plain, add_plain, add_plain, add_plain, add_plain, add_plain] at h1
      rw [List.getElem_ofFn]
      exact ⟨a.block, a.off, by rw [← ha], hb, h1⟩
    · obtain ⟨i, rfl⟩ := List.mem_ofFn.1 hy
      exact (hf i).2
theorem expr_of {r : Reach} {b0 : Nat} {v : Value} {d : DataW H} {p : List MemPlace} (hv : Value.okWide Tryz.prog W r b0 29 v) (h : DataW.Trod enc Tryz.prog W 0 (fun _ => true) true 29 v d p) :
    ∃ A c l, v = .agg #[.slice A l.length c] ∧ NdR W W.heap.size A l ∧ l.length ≤ c ∧ l.length ≤ 9223372036854775807 ∧ Okn l := by
  obtain ⟨cs, rfl, hcs⟩ := okWide_struct Tryz.underlying29 hv
  obtain ⟨fuel, hf⟩ := h
  obtain ⟨xs, n', _, _, _, hxl, hg⟩ := DataW.trod_struct Tryz.underlying29 hf
  have hx1 : xs.length = 1 := hxl
  rw [show Tryz.prog.cellsOf 29 = 1 by kernel_rfl] at hcs
  have t0 := (hg 0 _ rfl).trans (List.getElem?_eq_getElem (by omega))
  obtain ⟨A, c, l, e, q1, q2, q3, q4⟩ := nodes_of t0
  refine ⟨A, c, l, ?_, q1, q2, by unfold maxLen at q3; omega, q4⟩
  obtain ⟨l⟩ := cs
  match l, hcs with
  | [u], _ =>
    change List.take (Tryz.prog.cellsOf 27) [u] = _ at e
    rw [show Tryz.prog.cellsOf 27 = 1 by kernel_rfl] at e
    simp only [List.take_succ_cons, List.take_zero, List.cons.injEq, and_true] at e
    rw [e]
theorem trod_again {W' : World} {t : TypeId} {v : Value} {d : DataW H} {p : List MemPlace} {sp : Nat → Bool} (h : DataW.Trod enc Tryz.prog W 0 (fun _ => true) true t v d p) (hb : Below W.heap.size W W') (ht : t < Tryz.prog.types.size) (hlt : ∀ q ∈ p, q.block < W.heap.size) (hsp : ∀ q ∈ p, sp q.block = true) :
    DataW.Trod enc Tryz.prog W' 0 sp true t v d p := by
  obtain ⟨n, hn⟩ := DataW.Trod.respare (kids_rows (by kernel_rfl) (by kernel_rfl)) (slices_full_of Tryz.prog (by kernel_rfl)) ht h hsp
  exact ⟨n, DataW.trod_carry n _ _ _ hn (fun q hq => hb.same (hlt q hq))⟩
end
end Go.Proofs.YtdcjpinbflmikaaGreatDoor
namespace Go.Proofs.YtdcjpinbflmikaaGreatDoor
open Go.RowKit Go.Shelf Go.Lib
open Go.ChangeShapes Go.WideShapes Go.ChangeAt
set_option maxRecDepth 100000

section
variable {H : Type} {enc : TypeId × Value → H} {W : World}
theorem mtoks_of {r : Reach} {b0 : Nat} {v : Value} {d : DataW H} {p : List MemPlace} (hv : Value.okWide Tryz.prog W r b0 36 v) (h : DataW.Trod enc Tryz.prog W 0 (fun _ => true) true 36 v d p) :
    ∃ A c l, v = .slice A l.length c ∧ l.length ≤ c ∧ c ≤ maxLen ∧ ToR W W.heap.size A l := by
  obtain ⟨a0, len0, cap0, rfl⟩ := okWide_slice Tryz.underlying36 hv
  obtain ⟨fuel, hf⟩ := h
  rcases Deep.open_slice Tryz.underlying36 hf with ⟨hc, _⟩ | ⟨a, len, cap, m, n, D, Pl, hcs, _, hl, hm, hmm, _, hi⟩
  · simp only [Value.cells, List.cons.injEq, and_true] at hc
    exact ⟨none, 0, [], hc, Nat.le_refl _, by decide, fun j hj => absurd hj (by simp)⟩
  · simp only [Value.cells, List.cons.injEq, and_true] at hcs
    have hi2 : ∀ i : Fin len, ∃ x : MTok, W.cell? (a.add (i.1 * 3)) = some (.int .u8 x.1) ∧ W.cell? (a.add (i.1 * 3 + 1)) = some (.string x.2.1) ∧ W.cell? (a.add (i.1 * 3 + 2)) = some (.int .i64 x.2.2) := fun i => by
      obtain ⟨cs', hce, ht'⟩ := hi i.1 (by rw [hmm]; simp; have := i.2; omega)
      have h5 : Tryz.prog.cellsOf 39 = 3 := by kernel_rfl
      obtain ⟨_, hcl, hat⟩ := World.cells?_some hce
      obtain ⟨xs, n', _, _, _, hxl, hg⟩ := DataW.trod_struct Tryz.underlying39 ht'
      rw [h5] at hcl hat
      have hx5 : xs.length = 3 := hxl
      match cs', hcl with
      | [v0, v1, v2], _ =>
        have t0 : DataW.trod enc Tryz.prog W 0 (fun _ => true) true n' 5 (List.take (Tryz.prog.cellsOf 5) (List.drop 0 [v0, v1, v2])) = some (xs[0]'(by omega)) := (hg 0 _ rfl).trans (List.getElem?_eq_getElem (by omega))
        have t1 : DataW.trod enc Tryz.prog W 0 (fun _ => true) true n' 9 (List.take (Tryz.prog.cellsOf 9) (List.drop 1 [v0, v1, v2])) = some (xs[1]'(by omega)) := (hg 1 _ rfl).trans (List.getElem?_eq_getElem (by omega))
        have t2 : DataW.trod enc Tryz.prog W 0 (fun _ => true) true n' 3 (List.take (Tryz.prog.cellsOf 3) (List.drop 2 [v0, v1, v2])) = some (xs[2]'(by omega)) := (hg 2 _ rfl).trans (List.getElem?_eq_getElem (by omega))
        simp only [show Tryz.prog.cellsOf 5 = 1 by kernel_rfl, show Tryz.prog.cellsOf 9 = 1 by kernel_rfl, show Tryz.prog.cellsOf 3 = 1 by kernel_rfl, List.drop_zero, List.drop_succ_cons, List.take_succ_cons, List.take_zero] at t0 t1 t2
        have c0 := hat 0 (by omega)
        have c1 := hat 1 (by omega)
        have c2 := hat 2 (by omega)
        rw [Deep.add_add] at c0 c1 c2
        obtain ⟨K, e0, _, _⟩ := DataW.trod_int Tryz.underlying5 t0
        obtain ⟨N, e1, _, _⟩ := DataW.trod_string Tryz.underlying9 t1
        obtain ⟨Q, e2, _, _⟩ := DataW.trod_int Tryz.underlying3 t2
        simp only [List.cons.injEq, and_true] at e0 e1 e2
        subst e0 e1 e2
        exact ⟨(K, N, Q), c0, c1, c2⟩
    obtain ⟨f, hf⟩ := Classical.skolem.1 hi2
    have hlen : (List.ofFn f).length = len := List.length_ofFn
    refine ⟨some a, cap, List.ofFn f, by rw [hlen]; exact hcs, by rw [hlen]; exact hl, hm, fun k hk => ?_⟩
    have hk' : k < len := by rw [← hlen]; exact hk
    obtain ⟨ha, hb⟩ := cell_plain (hf ⟨0, by omega⟩).1
    have hz : a.add (0 * 3) = a := by unfold Addr.add; rw [if_pos (by omega)]
    rw [hz] at ha hb
    have h1 := hf ⟨k, hk'⟩
    rw [ha, add_plain, add_plain, add_plain] at h1
    rw [List.getElem_ofFn]
    exact ⟨a.block, a.off, by rw [← ha], hb, h1⟩
end
end Go.Proofs.YtdcjpinbflmikaaGreatDoor
namespace Go.Proofs.YtdcjpinbflmikaaGreatDoor
open Go.RowKit Ex

def mtV (t : MTok) : List Value := [.int .u8 t.1, .string t.2.1, .int .i64 t.2.2]
structure FrI (w wr : World) (v : Value) (k : Nat) (l : List MTok) : Prop where
  below : Below w.heap.size w wr
  own : wr.ownsRow w.heap.size 40 3 v k ((l.take k).flatMap mtV)
  sml : ∀ t ∈ l.take k, t.2.1.size ≤ 70
theorem own_torm {w : World} {B n c : Nat} {A : Option Addr} {l : List MTok} (h : w.ownsRow B 40 3 (.slice A n c) n (l.flatMap mtV)) (hn : n = l.length) : ToR w w.heap.size A l ∧ n ≤ c := by
  obtain ⟨A', c', e, h1, h2, h3⟩ := own_sliced h
  injection e with e1 _ e3
  subst e1 e3
  refine ⟨fun j hj => ?_, h1⟩
  obtain ⟨g, rfl, _, hg⟩ := h3 (by omega)
  have q := fun (k : Nat) (u : Value) (hk : k < 3) (hu : (mtV l[j])[k]? = some u) => own_cell h ((fl_at (f := mtV) (k := 3) (fun _ => rfl) l j k hj hk).trans hu)
  refine ⟨g, 0, rfl, hg, ?_, ?_, ?_⟩
  · simpa using q 0 _ (by omega) rfl
  · simpa using q 1 _ (by omega) rfl
  · simpa using q 2 _ (by omega) rfl
set_option maxHeartbeats 8000000 in
set_option maxRecDepth 100000 in
theorem efrom_law (w : World) (T : Tx w) (A : Option Addr) (c : Nat) (l : List MTok) (h : ToR w w.heap.size A l) (hc : l.length ≤ c) (hm : l.length ≤ 9223372036854775807) :
    Calls Tryz.prog 4 #[.slice A l.length c] w fun e w' => e = .returned (.bool true) ∧ Below w.heap.size w w' := by
  have HT := Lib.hid T
  have HWK := Lib.hid (fun v (T0 : Tx v) => eworks_any v T0)
  have HB0 := Lib.hid (Below.refl w.heap.size w)
  obtain ⟨n, hln⟩ : ∃ n, n = l.length := ⟨_, rfl⟩
  rw [← hln]
  by_cases hl : 80 < n
  · have hl' : (n : Int) > 80 := by omega
    have hm' : (n : Int) ≤ 9223372036854775807 := by omega
    clear T hl h hc hm hln
    go_enter Tryz.func4, Tryz.ntmps4
    go_wp2_with fail
    refine (HWK.out _ (HT.out.below HB0.out)).mono ?_
    rintro en vw ⟨rfl, hb⟩
    have HBW := Lib.hid ((HB0.out).trans (hb.mono (HB0.out).size))
    clear hb
    go_wp2
    go_ret
    exact ⟨rfl, HBW.out⟩
  · have hl' : ¬ (n : Int) > 80 := by omega
    have hn80 : n ≤ 80 := by omega
    have hc' : (n : Int) ≤ (c : Int) := by omega
    have H := Lib.hid h
    have HLN := Lib.hid hln
    have HC := Lib.hid hc
    have H0 := Lib.hid (show FrI w w (.slice none 0 0) 0 l from ⟨Below.refl _ _, World.ownsRow_nil _ _ _ _, fun _ ht => nomatch ht⟩)
    clear T hl h hc hm hln
    go_enter Tryz.func4, Tryz.ntmps4
    go_wp2
    go_loopw [3, 4] (fun v0 i wr => ∃ (v : Value) (k : Nat), v = v0 ∧ i = .int .i64 k ∧ k ≤ n ∧ Hid (FrI w wr v k l)) (fun _ i _ => n - (intOf i).toNat)
    case atStart => exact ⟨_, 0, rfl, rfl, Nat.zero_le _, H0⟩
    case round =>
      obtain ⟨v, k, hv0, rfl, hk, HI⟩ := hrel
      subst hv0
      by_cases hlt : k < n
      · have hlt' : (k : Int) < (n : Int) := by omega
        have hkl : k < l.length := by rw [← HLN.out]; exact hlt
        obtain ⟨g, o, hA, hg, a0, a1, a2⟩ := (H.out.below HI.out.below) k hkl
        subst hA
        have HTK := Lib.hid (show (l.take (k + 1)).flatMap mtV = (l.take k).flatMap mtV ++ mtV l[k] by
          rw [List.take_succ_eq_append_getElem hkl, List.flatMap_append]; simp)
        have HSM := Lib.hid (show l[k].2.1.size ≤ 70 → ∀ t ∈ l.take (k + 1), t.2.1.size ≤ 70 from fun hs t ht => by
          rw [List.take_succ_eq_append_getElem hkl] at ht
          rcases List.mem_append.1 ht with ht | ht
          · exact HI.out.sml t ht
          · rw [List.mem_singleton.1 ht]; exact hs)
        generalize l[k] = t at *
        obtain ⟨K, Y, P⟩ := t
        simp only at a0 a1 a2 HSM
        by_cases h70 : 70 < Y.size
        · have h70' : (Y.size : Int) > 70 := by omega
          clear h70 hlt
          go_wp2_with fail
          refine (HWK.out _ (HT.out.below HI.out.below)).mono ?_
          rintro en vw ⟨rfl, hb⟩
          have HBW := Lib.hid ((HI.out.below).trans (hb.mono (HI.out.below).size))
          clear hb
          go_wp2
          go_ret
          exact ⟨rfl, HBW.out⟩
        · have h70' : ¬ (Y.size : Int) > 70 := by omega
          have HSS := Lib.hid (HSM.out (by omega))
          obtain ⟨i0, hi, hz0, hz1, hz2⟩ := info_parts infoLT
          have hrl := HI.out.below.size
          have hbw := Lib.hid (show ∀ q, v.ownBlock = some q → w.heap.size ≤ q from fun q hq => (HI.out.own.lt q hq).1)
          have hmax : k + 1 ≤ maxLen := by unfold maxLen; omega
          have hgw := Nat.lt_of_lt_of_le hg hrl
          have c_dr := fun (ob : Obj) (off : Nat) => ((Below.refl wr.heap.size wr).alloc (Nat.le_refl _) ob).drew.cell (p := ⟨g, off, none⟩) hgw
          clear h70 HSM
          go_wp2_with fail
          go_region_held3 (fun w' => w'.cell? ⟨g, o + k * 3, none⟩ = some (.int .u8 K) ∧ w'.cell? ⟨g, o + k * 3 + 1, none⟩ = some (.string Y) ∧ w'.cell? ⟨g, o + k * 3 + 2, none⟩ = some (.int .i64 P)) (first | exact ⟨a0, a1, a2⟩ | exact ⟨(c_dr _ _).trans a0, (c_dr _ _).trans a1, (c_dr _ _).trans a2⟩ | exact ⟨(HR9.out.2.2.cell (p := ⟨g, _, none⟩) hg).trans a0, (HR9.out.2.2.cell (p := ⟨g, _, none⟩) hg).trans a1, (HR9.out.2.2.cell (p := ⟨g, _, none⟩) hg).trans a2⟩) (first | (refine step_append_lies _ (by rfl) _ _ _ (by rfl) w.heap.size 40 i0 _ 3 32 Tryz.underlying37 hi hz0 hz1 hz2 rfl (by omega) v k ((l.take k).flatMap mtV) (by rfl) (by exact own_dr (World.ownsRow.alloc HI.out.own _)) _ 1 _ [.int .u8 K, .string Y, .int .i64 P] (by rfl) rfl (by intro j u hu; exact news_dr _ _ _ _ (by simp) j u hu) (by intro u hu; simp at hu; rcases hu with rfl | rfl | rfl <;> rfl) (by omega) hmax (by omega) (by simp; omega) _ rfl ?_; intro g9 cap9 w9 hown9 hgr9 hat9 hlt9; have HR9 := Lib.hid (And.intro hown9 (show Below w.heap.size w w9 ∧ Below w.heap.size wr w9 from ⟨Below.grown (HI.out.below.alloc hrl _).drew hgr9 (by simp; omega) hbw.out, Below.grown ((Below.refl _ _).alloc hrl _).drew hgr9 (by simp; omega) hbw.out⟩)); clear hown9 hgr9 hat9))
          have HJ := Lib.hid (show FrI w w9 (.slice (some ⟨g9, 0, none⟩) (k + 1) cap9) (k + 1) l from ⟨HR9.out.2.1, by rw [HTK.out]; exact HR9.out.1, HSS.out⟩)
          clear HR9 a0 a1 a2 hi hz0 hz1 hz2 hmax
          go_wp2
          go_roundw
          case rel => exact ⟨_, k + 1, rfl, by go_num, hlt, HJ⟩
          case measure => simp [intOf]; omega
      · obtain rfl : k = n := by omega
        have hlt' : ¬ (k : Int) < (k : Int) := by omega
        have htk : l.take k = l := List.take_of_length_le (by rw [← HLN.out]; exact Nat.le_refl _)
        have ho := HI.out.own
        have hsm := HI.out.sml
        rw [htk] at ho hsm
        obtain ⟨Av, cv, rfl, _, _, _⟩ := own_sliced ho
        have HTR := Lib.hid (fun v (hb : Below wr.heap.size wr v) => (own_torm (own_below ho hb) HLN.out))
        have hF : RvF cv l := ⟨by rw [← HLN.out]; exact (own_torm ho HLN.out).2, by rw [← HLN.out]; omega, fun t ht => by have := hsm t ht; omega⟩
        have HFR := Lib.hid (fun v (hb : Below wr.heap.size wr v) => rfrom_any v Av cv l (HTR.out v hb).1 hF)
        have HPE := Lib.hid (from_any wr (HT.out.below HI.out.below) A c l ((H.out.below HI.out.below).more HI.out.below.size) HC.out (by rw [← HLN.out]; omega) (fun t ht => by have := hsm t ht; omega))
        have hfl := frm_le (tks l)
        have hlb : (frm (tks l)).1.length ≤ 1000000 := by
          by_cases h0 : (frm (tks l)).2.2 = 0
          · obtain ⟨r, x, h1, h2, h3⟩ := frm_ok h0
            have := (read_fit h1).2.2
            have h4 := tks_len l
            rw [h3]; simp only [flat_len]; rw [← HLN.out] at h4; omega
          · rw [frm_bad h0]; exact Nat.zero_le _
        rw [← HLN.out] at HFR HPE
        generalize frm (tks l) = X at *
        obtain ⟨nds, nn, e⟩ := X
        simp only at HFR HPE hlb
        have HLS := Lib.hid (fun v A c (h : NdR v v.heap.size A nds) (hc : nds.length ≤ c) A2 c2 (h2 : NdR v v.heap.size A2 nds) (hc2 : nds.length ≤ c2) => lsame_any v A c nds h hc A2 c2 h2 hc2 hlb)
        have hnn : (((nn : Nat) : Int) == ((nn : Nat) : Int)) = true := by simp
        have hee : (e == e) = true := by simp
        have HB := Lib.hid HI.out.below
        clear hlt htk ho hsm hF hfl hlb HI
        go_wp2_with fail
        refine HPE.out.mono ?_
        rintro en w3 ⟨A3, c3, ho3, rfl, hb3⟩
        simp only at ho3
        obtain ⟨W4, hW4⟩ : ∃ W4, W4 = w3.alloc (.cells #[.slice A3 nds.length c3] 29) := ⟨_, rfl⟩
        have hb4 : Below w3.heap.size w3 W4 := by rw [hW4]; exact (Below.refl _ _).alloc (Nat.le_refl _) _
        have hb34 := hb3.trans (hb4.mono hb3.size)
        have HO4 := Lib.hid (own_below ho3 hb4)
        have HX4 := Lib.hid (show IsBlk W4 w3.heap.size 29 #[.slice A3 nds.length c3] by rw [hW4]; exact IsBlk.new _ _ _)
        have HF4 := Lib.hid (HFR.out W4 hb34)
        have HB4 := Lib.hid (HB.out.trans (hb34.mono HB.out.size))
        have HW4 := Lib.hid hW4
        clear ho3 hb3 hW4 hb4 hb34 HPE HFR
        simp only
        go_wp2_with fail
        rw [← HW4.out]
        refine HF4.out.mono ?_
        rintro en w5 ⟨A5, c5, ho5, rfl, hb5⟩
        simp only at ho5
        have k1 : w5.cell? ⟨w3.heap.size, 0, none⟩ = some (.slice A3 nds.length c3) := (HX4.out.below hb5 HX4.out.lt).at_ 0
        have q3 := own_ndr (own_below HO4.out hb5) rfl
        have q5 := own_rnr ho5 rfl
        have HS := Lib.hid (HLS.out w5 A3 c3 q3.1 q3.2.1 A5 c5 q5.1 q5.2.1)
        have HB5 := Lib.hid (HB4.out.trans (hb5.mono HB4.out.size))
        clear ho5 hb5 q3 q5 HF4
        simp only
        go_wp2_with fail
        refine HS.out.mono ?_
        rintro en w6 ⟨rfl, hb6⟩
        have HB6 := Lib.hid (HB5.out.trans (hb6.mono HB5.out.size))
        clear hb6 HS k1
        go_wp2_with fail
        refine (HWK.out _ (HT.out.below HB6.out)).mono ?_
        rintro en vw ⟨rfl, hb⟩
        have HBW := Lib.hid ((HB6.out).trans (hb.mono (HB6.out).size))
        clear hb
        go_wp2
        go_ret
        exact ⟨rfl, HBW.out⟩
end Go.Proofs.YtdcjpinbflmikaaGreatDoor
namespace Go.Proofs.YtdcjpinbflmikaaGreatDoor
namespace joinExprFrom
theorem and_t {a b : Bool} (ha : a = true) (hb : b = true) : (a && b) = true := by rw [ha, hb]; rfl
theorem j0 : (Rows.exprFromRow.wf (OpenSpec.ofChange Rows.exprFromSpec) && laidOutB Tryz.pinned.checked.prog && mapsRowed Tryz.pinned.checked.prog && Tryz.f4.params.all (Tryz.pinned.checked.prog.readableRec ·) && namedTie Tryz.pinned.checked.prog Rows.exprFromRow.named Rows.exprFromSpec.vars && (Rows.exprFromRow.stops == []) && (Tryz.pinned.checked.prog.stops == []) && (Rows.exprFromRow.knobs == []) && (Tryz.pinned.checked.prog.stopKnobs == [])) = true := by kernel_rfl
theorem j1 : ((Rows.exprFromRow.inPlace == Tryz.pinned.checked.prog.inPlace 4)) = true := by kernel_rfl
theorem j2 : ((Rows.exprFromRow.unfollowed == Tryz.pinned.checked.prog.unfollowed 4)) = true := by kernel_rfl
theorem j3 : ((Rows.exprFromRow.recurses == Tryz.pinned.checked.prog.recurses 4)) = true := by kernel_rfl
theorem j4 : ((Rows.exprFromRow.named == Tryz.pinned.checked.prog.varsNamed 4)) = true := by kernel_rfl
theorem j5 : ((Rows.exprFromRow.maps == (Tryz.f4.params.toList ++ Rows.exprFromSpec.plain.varTypes Tryz.pinned.checked.prog).any (Tryz.pinned.checked.prog.mapsRec ·))) = true := by kernel_rfl
theorem j6 : ((Rows.exprFromRow.ifaces == (Tryz.f4.params.toList ++ Rows.exprFromSpec.plain.varTypes Tryz.pinned.checked.prog).any (Tryz.pinned.checked.prog.ifacesRec ·))) = true := by kernel_rfl
theorem j7 : ((Rows.exprFromRow.mapsOut == Tryz.pinned.checked.prog.mapsAmong Tryz.f4.resultTypes.toList)) = true := by kernel_rfl
theorem j8 : ((Rows.exprFromRow.loops == (Tryz.f4.params.toList ++ Rows.exprFromSpec.plain.varTypes Tryz.pinned.checked.prog).any (Tryz.pinned.checked.prog.loopsFrom ·))) = true := by kernel_rfl
theorem j9 : ((Rows.exprFromRow.wideKeys == (Tryz.f4.params.toList ++ Rows.exprFromSpec.plain.varTypes Tryz.pinned.checked.prog ++ Tryz.f4.resultTypes.toList).any (Tryz.pinned.checked.prog.wideKeysFrom ·))) = true := by kernel_rfl
theorem j10 : (Rows.exprFromSpec.vars.all (Tryz.pinned.checked.prog.varReadable ·)) = true := by kernel_rfl
theorem j11 : (Tryz.f4.resultTypes.all (fun t => Tryz.pinned.checked.prog.readableRec t && decide (t < Tryz.pinned.checked.prog.types.size))) = true := by kernel_rfl
theorem j12 : ((Rows.exprFromRow.ifacesOut == Tryz.f4.resultTypes.toList.any (Tryz.pinned.checked.prog.ifacesRec ·))) = true := by kernel_rfl
theorem j13 : ((Rows.exprFromRow.loopsOut == Tryz.f4.resultTypes.toList.any (Tryz.pinned.checked.prog.loopsFrom ·))) = true := by kernel_rfl
theorem j14 : ((Rows.exprFromRow.plainKeys == Tryz.pinned.checked.prog.plainKeys)) = true := by kernel_rfl
theorem j15 : (Rows.exprFromRow.shortTexts.isNone) = true := by kernel_rfl
theorem j16 : (Tryz.pinned.checked.prog.stopsHeard) = true := by kernel_rfl
theorem j17 : (Tryz.pinned.checked.prog.mayEnter) = true := by kernel_rfl
theorem j18 : ((Rows.exprFromRow.lifted == Tryz.pinned.checked.prog.liftsFinal)) = true := by kernel_rfl
theorem j19 : ((Tryz.pinned.checked.prog.make == some Rows.exprFromRow.make)) = true := by kernel_rfl
theorem j20 : ((Rows.exprFromRow.kinds == (if Rows.exprFromRow.domain.isEmpty then [] else Tryz.f4.params.toList.map fun t => match Tryz.pinned.checked.prog.underlying t with | some (.int k) => some k | _ => none))) = true := by kernel_rfl
theorem j21 : ((Rows.exprFromRow.pinned == Rows.exprFromRow.pinnedBy)) = true := by kernel_rfl
theorem j22 : ((Rows.exprFromRow.veiled == (Tryz.f4.params.toList ++ Rows.exprFromSpec.plain.varTypes Tryz.pinned.checked.prog ++ Tryz.f4.resultTypes.toList).any (Tryz.pinned.checked.prog.veiledRec ·))) = true := by kernel_rfl
theorem j23 : (Rows.exprFromRow.veiledFits Tryz.pinned.checked.prog Tryz.f4.params.toList (Tryz.f4.params.toList ++ Rows.exprFromSpec.plain.varTypes Tryz.pinned.checked.prog ++ Tryz.f4.resultTypes.toList)) = true := by kernel_rfl
set_option maxRecDepth 100000 in
theorem closed : joinedFacts Tryz.pinned.checked.prog 4 Tryz.f4 Rows.exprFromSpec Rows.exprFromRow = true := (and_t (and_t (and_t (and_t (and_t (and_t (and_t (and_t (and_t (and_t (and_t (and_t (and_t (and_t (and_t (and_t (and_t (and_t (and_t (and_t (and_t (and_t (and_t j0 j1) j2) j3) j4) j5) j6) j7) j8) j9) j10) j11) j12) j13) j14) j15) j16) j17) j18) j19) j20) j21) j22) j23)
end joinExprFrom
end Go.Proofs.YtdcjpinbflmikaaGreatDoor
namespace Go.Proofs.YtdcjpinbflmikaaGreatDoor
open Go.RowKit Go.Shelf Go.Lib
open Go.ChangeShapes Go.WideShapes Go.ChangeAt
set_option maxRecDepth 100000

namespace cardExprFrom
theorem lifted (os : Os) (started : os.Started) (H : Type) (enc : TypeId × Value → H) :
    ReturnsInHanded {} Tryz.checked os 4 .any (fun w args => (Rows.exprFromSpec.pre enc Tryz.prog Tryz.f4 [] false w args ∧ laidMetH Tryz.prog laidAllOf w) ∧ sizedMet enc Tryz.prog Tryz.f4 (OpenSpec.ofChange Rows.exprFromSpec) false w args)
      (Rows.exprFromSpec.post enc Tryz.prog Tryz.f4 false true false false) := by
  refine returnsInHanded_of_change_and (C := Tryz.checked) (X := fun w _ => laidMetH Tryz.prog laidAllOf w) (fun _ _ _ hh h => h.of_heap hh) own started (by kernel_rfl) Tryz.func4
    (ChangeSpec.witness_shaped (enc := enc) (C := Tryz.checked) (os := os) (X := fun w _ => laidMetH Tryz.prog laidAllOf w) false (World.laidAll Tryz.prog os laidAllOf) #[.slice none 0 0] 8 (World.laidAll_os _ _ _)
      (World.shaped_of_ZipB (by kernel_rfl) (by kernel_rfl)) (by kernel_rfl) (by kernel_rfl) (by kernel_rfl)
      (by rw [MakeChecks.laidMetH_plain _ _ _ (by kernel_rfl)]; exact laidMet_laidAll _ (by kernel_rfl) (by kernel_rfl))) ?_
  intro W base args ds gs before hval0 hW _ _ hL _
  have hval : ∀ (j : Nat) t v, Tryz.f4.params[j]? = some t → args[j]? = some v → Value.okWide Tryz.prog W .any base t v := hval0
  have hW' := hW
  obtain ⟨p, q, hA0, hV, rfl, _, _⟩ := hW
  have hA : DataW.TrodAll enc Tryz.prog W 0 (fun _ => true) true Tryz.f4.params.toList args.toList ds p := hA0
  rw [Tryz.params4] at hA hval
  obtain ⟨v0, d0, rfl, rfl, h0⟩ := trodAll_one hA
  obtain ⟨rfl, rfl⟩ := trodVars_none hV
  have hlt := DataW.TrodAll.lt hA
  obtain ⟨A0, c0, l0, rfl, k0, b0, n0⟩ := mtoks_of (hval 0 36 v0 rfl rfl) h0
  unfold maxLen at b0
  simp only [List.append_nil] at hW'
  rw [MakeChecks.laidMetH_plain _ _ _ (by kernel_rfl)] at hL
  have T := tx_of hL
  refine (efrom_law W T A0 c0 l0 n0 k0 (by omega)).mono fun e W' ⟨he, hb⟩ => ?_
  subst he
  exact ⟨_, rfl, _, _, _, [], p, [], hW', trodAll_mk1 (shut_bool Tryz.underlying4 _), trodAll_mk1 (trod_again h0 hb (of_decide_eq_true (by kernel_rfl)) (fun q hq => hlt q (by simp [hq])) (fun q hq => decide_eq_true (hlt q (by simp [hq])))), rfl, hb.frame _, fun h => by cases h⟩

theorem holds : Rows.ExprFromSaid :=
  OpenClaim.holds_of_wide 4 Tryz.f4 rfl rfl rfl rfl rfl rfl rfl ⟨rfl, rfl, rfl, rfl, rfl⟩ rfl rfl rfl rfl rfl (by kernel_rfl) Tryz.func4 joinExprFrom.closed
    (of_decide_eq_true (by kernel_rfl)) (by unfold Func.isWrapper; rw [if_neg (of_decide_eq_false (by kernel_rfl))]; exact ⟨rfl, rfl⟩)
    (fun os started H enc _ => lifted os started H enc)
theorem plain (f : FuncId) (fn : Func) (hf : Tryz.pinned.checked.prog.funcNamed "hopscotch/hopscotchlaw08.ExprFrom" = some f) (hfn : Tryz.pinned.checked.prog.funcs[f]? = some fn) :
    true = Tryz.pinned.checked.prog.looks [] ∧ ∀ (j : Nat) t, fn.params[j]? = some t → Tryz.pinned.checked.prog.wantsStandIn t = false := by
  obtain rfl : f = 4 := Option.some.inj ((show Tryz.prog.funcNamed "hopscotch/hopscotchlaw08.ExprFrom" = some 4 by kernel_rfl).symm.trans hf) |>.symm
  obtain rfl : fn = Tryz.f4 := (Option.some.inj (Tryz.func4.symm.trans hfn)).symm
  refine ⟨by kernel_rfl, fun j t ht => ?_⟩
  rw [Tryz.params4] at ht
  have hm : t ∈ [36] := by simpa using Array.mem_of_getElem? ht
  have hall : ([36].all fun u => !Tryz.prog.wantsStandIn u) = true := by kernel_rfl
  exact (show Tryz.prog.wantsStandIn t = false by simpa using List.all_eq_true.1 hall t hm)
theorem card : Rows.ExprFromCardSaid :=
  Claim7.holds_tied_plain_at .later [] _ _ _ _ holds (fun _ h => by cases h) (by kernel_rfl) (fun _ h => by cases h) exprFrom_row_tie rfl ⟨rfl, rfl⟩ (by kernel_rfl) rfl plain (by kernel_rfl)
end cardExprFrom
end Go.Proofs.YtdcjpinbflmikaaGreatDoor
