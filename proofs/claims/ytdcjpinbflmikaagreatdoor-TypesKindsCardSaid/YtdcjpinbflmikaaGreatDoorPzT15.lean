/- Facts and walks for the statement. -/
import Derived.Test.YtdcjpinbflmikaaGreatDoorPzT02
import Derived.Test.YtdcjpinbflmikaaGreatDoorPzT12
import Derived.Test.YtdcjpinbflmikaaGreatDoorPzT10
import Derived.Shelf.Strings.BuilderK
import Derived.Laws.Externs
import Derived.Lib.FrozenHead2
import Derived.Lib.UnsafeStr
import Derived.Test.YtdcjpinbflmikaaGreatDoorPzT13
import Derived.Test.YtdcjpinbflmikaaGreatDoorPzT11
import Derived.Test.YtdcjpinbflmikaaGreatDoorCards
import Derived.Test.YtdcjpinbflmikaaGreatDoorTie
import Derived.Handed
import Derived.Shelf.Vars
import Derived.ProofKit
import Derived.OpenShut
import Derived.Lay
import Derived.Lib.LaidU8
import Derived.SevenTiedAt
import Derived.Stop.LaidErr
import Derived.Deep.Slices
import Derived.ChangeSame
import Derived.ReadAgain
namespace Go.Proofs.YtdcjpinbflmikaaGreatDoor
open Ex
theorem run_ne : ∀ (ts : List Tk) (K : List Fr) (c : Option E), (Ex.run ts K c).2.1 ≠ 0
  | [], K, c => Ex.step_end K c
  | t :: ts, K, c => by
    unfold Ex.run
    split
    · exact run_ne ts _ _
    · assumption
theorem R_ne {ts : List Tk} {l : Nat} {e : Int} (h : R (.lev 1) ts = .bad l e) : e ≠ 0 := by
  rw [← run_R] at h
  unfold fin at h
  split at h
  · cases h
  · injection h with _ h2
    rw [← h2]; exact run_ne _ _ _
theorem frm_ok {ts : List Tk} (h : (frm ts).2.2 = 0) : ∃ r x, R (.lev 1) ts = .ok r x ∧ dp x ≤ 64 ∧ frm ts = (flat x 0, ts.length - r.length, 0) := by
  unfold frm at h ⊢
  cases hR : R (.lev 1) ts with
  | bad l e => rw [hR] at h; exact absurd h (R_ne hR)
  | ok r x =>
    rw [hR] at h; simp only at h ⊢
    by_cases hd : 64 < dp x
    · rw [if_pos hd] at h; cases h
    · exact ⟨r, x, rfl, by omega, if_neg hd⟩
theorem prse_ok {s : List UInt8} (h : (prse s).2.2 = 0) : ∃ x, prse s = (flat x 0, 0, 0) ∧ dp x ≤ 64 ∧ R (.lev 1) (kxs (Lx.toks s).1) = .ok [] x ∧ (Lx.toks s).2.2 = 0 := by
  unfold prse at h ⊢
  by_cases h1 : (Lx.toks s).2.2 ≠ 0
  · rw [if_pos h1] at h; exact absurd h h1
  · rw [if_neg h1] at h ⊢
    by_cases h2 : (frm (kxs (Lx.toks s).1)).2.2 = 3
    · rw [if_pos h2] at h; cases h
    · rw [if_neg h2] at h ⊢
      by_cases h3 : (frm (kxs (Lx.toks s).1)).2.2 = 0 ∧ (frm (kxs (Lx.toks s).1)).2.1 = (Lx.toks s).1.length
      · rw [if_pos h3]
        obtain ⟨r, x, q1, q2, q3⟩ := frm_ok h3.1
        have q4 := rd_less _ _ _ _ _ q1
        have q5 := h3.2
        rw [q3] at q5
        have q6 : (kxs (Lx.toks s).1).length = (Lx.toks s).1.length := by simp [kxs]
        have q7 : r = [] := List.length_eq_zero_iff.1 (by simp [one] at q4; simp only at q5; omega)
        subst q7
        exact ⟨x, by rw [q3], q2, q1, Decidable.byContradiction h1⟩
      · rw [if_neg h3] at h; simp only at h
        by_cases h4 : (frm (kxs (Lx.toks s).1)).2.2 = 0
        · rw [if_pos h4] at h; cases h
        · rw [if_neg h4] at h; exact absurd h h4
theorem sz_pr : ∀ (x : E) (L : Nat), sz x ≤ (pr x L).length
  | .num _, _ => Nat.le_refl _
  | .name _, _ => Nat.le_refl _
  | .tt, _ => Nat.le_refl _
  | .ff, _ => Nat.le_refl _
  | .un op a, L => by
    have h1 := sz_pr a 9
    show sz a + 1 ≤ (if lvl op < L then _ else _ : List Tk).length
    split <;> simp only [List.length_append, List.length_cons, List.length_nil] <;> omega
  | .bin op a b, L => by
    have h1 := sz_pr a (lvl op)
    have h2 := sz_pr b (lvl op + 1)
    show sz a + sz b + 1 ≤ (if lvl op < L then _ else _ : List Tk).length
    split <;> simp only [List.length_append, List.length_cons, List.length_nil] <;> omega
  | .ite a b c, L => by
    have h1 := sz_pr a 0
    have h2 := sz_pr b 0
    have h3 := sz_pr c 0
    show sz a + sz b + sz c + 1 ≤ (wT [105, 102] :: pr a 0 ++ wT [116, 104, 101, 110] :: pr b 0 ++ wT [101, 108, 115, 101] :: pr c 0 ++ [wT [101, 110, 100, 105, 102]]).length
    simp only [List.length_append, List.length_cons, List.length_nil]; omega
theorem read_fine {ts : List Tk} {x : E} (h : R (.lev 1) ts = .ok [] x) : wr x ∧ small x ∧ wf x ∧ sz x ≤ ts.length := by
  have hf : wr x ∧ small x := rd_fine _ (.lev 1) _ _ _ h
  exact ⟨hf.1, hf.2, wf_of hf.1 hf.2, Nat.le_trans (sz_pr x 0) (least h)⟩
/-! ### two of one row are the same -/
/-! ### in parentheses -/
end Go.Proofs.YtdcjpinbflmikaaGreatDoor
namespace Go.Proofs.YtdcjpinbflmikaaGreatDoor
open Go.RowKit Ex
structure Xb (w : World) (b : Nat) (A : Option Addr) (c : Nat) (l : List Nd) : Prop where
  blk : IsBlk w b 29 #[.slice A l.length c]
  row : NdR w w.heap.size A l
  cap : l.length ≤ c
theorem NdR.on {w w' : World} {A : Option Addr} {l : List Nd} (h : NdR w w.heap.size A l) (hb : Below w.heap.size w w') : NdR w' w'.heap.size A l := (h.below hb).more hb.size
theorem Xb.below {w w' : World} {b : Nat} {A : Option Addr} {c : Nat} {l : List Nd} (h : Xb w b A c l) (hb : Below w.heap.size w w') : Xb w' b A c l := ⟨h.blk.below hb h.blk.lt, h.row.on hb, h.cap⟩
theorem Xb.at_ {w : World} {b : Nat} {A : Option Addr} {c : Nat} {l : List Nd} (h : Xb w b A c l) : w.cell? ⟨b, 0, none⟩ = some (.slice A l.length c) := h.blk.at_ 0
theorem Xb.new {w : World} {A : Option Addr} {c : Nat} {l : List Nd} (h : NdR w w.heap.size A l) (hc : l.length ≤ c) : Xb (w.alloc (.cells #[.slice A l.length c] 29)) w.heap.size A c l :=
  ⟨IsBlk.new _ _ _, h.on ((Below.refl _ _).alloc (Nat.le_refl _) _), hc⟩
def PrA (X : List Nd × Nat × Int) (w : World) (e : Ending) (w' : World) : Prop :=
  ∃ A c, NdR w' w'.heap.size A X.1 ∧ X.1.length ≤ c ∧ e = .returned (.tuple #[.agg #[.slice A X.1.length c], .int .i64 (X.2.1 : Nat), .int .i64 X.2.2]) ∧ Below w.heap.size w w'
theorem parse_val (s : ByteArray) {X : List Nd × Nat × Int} (hX : prse s.data.toList = X) (hs : s.size ≤ maxLen) (w : World) (T : Tx w) : Calls Tryz.prog 16 #[.string s] w (PrA X w) := by
  refine (eparse_any s w T hs).mono ?_
  rintro e w' ⟨A, c, ho, he, hb⟩
  rw [hX] at ho he
  obtain ⟨h1, h2, _⟩ := own_ndr ho rfl
  exact ⟨A, c, h1, h2, he, hb⟩
end Go.Proofs.YtdcjpinbflmikaaGreatDoor
namespace Go.Proofs.YtdcjpinbflmikaaGreatDoor
open Go.RowKit Ex
end Go.Proofs.YtdcjpinbflmikaaGreatDoor
namespace Go.Proofs.YtdcjpinbflmikaaGreatDoor
open Ex
theorem toks_less {s : List UInt8} (h : s.length ≤ 65536) : (Lx.toks s).1.length ≤ s.length := by
  rw [Lx.toks_C h]
  have h1 := Lx.C_sum _ (s.drop (Lx.blk false s)) (Lx.blk false s) (Nat.le_refl _)
  have h2 := Lx.C_goods _ (s.drop (Lx.blk false s)) (Lx.blk false s) (Nat.le_refl _)
  have h3 : ∀ l : List Lx.T, (∀ t ∈ l, Lx.Good t) → 2 * l.length ≤ (l.map fun t => t.tx.length + 1).sum := by
    intro l
    induction l with
    | nil => intro _; exact Nat.le_refl _
    | cons t l ih =>
      intro h
      have h4 := ih (fun q hq => h q (List.mem_cons_of_mem _ hq))
      have h5 := h t List.mem_cons_self
      have h6 : 1 ≤ t.tx.length := by
        refine Nat.one_le_iff_ne_zero.2 fun e => ?_
        have e2 := List.length_eq_zero_iff.1 e
        exact absurd h5.2.1 (by rw [← h5.1, e2]; decide)
      simp only [List.length_cons, List.map_cons, List.sum_cons]; omega
  have h4 := h3 _ h2
  have h5 : (s.drop (Lx.blk false s)).length ≤ s.length := by rw [List.length_drop]; omega
  omega
theorem flat_fine : ∀ (x : E) (p : Nat), wr x → small x → ∀ n ∈ flat x p, (n.nm.length ≤ 64 ∧ 0 ≤ n.op) ∧ n.num ≤ 9223372036854775807
  | .num n, p, _, h, q, hq => by
    rw [List.mem_singleton.1 hq]
    have h : n ≤ 9223372036854775807 := h
    exact ⟨⟨by simp, by simp⟩, by simp only; omega⟩
  | .name s, p, hw, _, q, hq => by
    rw [List.mem_singleton.1 hq]
    refine ⟨⟨?_, by simp⟩, by simp⟩
    have hw : Lx.is s = 2 := hw
    refine Decidable.byContradiction fun h => ?_
    unfold Lx.is at hw
    rw [if_pos (by simp only at h; omega)] at hw
    cases hw
  | .tt, p, _, _, q, hq => by rw [List.mem_singleton.1 hq]; exact ⟨⟨by simp, by simp⟩, by simp⟩
  | .ff, p, _, _, q, hq => by rw [List.mem_singleton.1 hq]; exact ⟨⟨by simp, by simp⟩, by simp⟩
  | .un op a, p, hw, hs, q, hq => by
    rcases List.mem_append.1 hq with hq | hq
    · exact flat_fine a p hw.2 hs q hq
    · rw [List.mem_singleton.1 hq]; exact ⟨⟨by simp, by simp⟩, by simp⟩
  | .bin op a b, p, hw, hs, q, hq => by
    rcases List.mem_append.1 hq with hq | hq
    · rcases List.mem_append.1 hq with hq | hq
      · exact flat_fine a p hw.2.2.1 hs.1 q hq
      · exact flat_fine b _ hw.2.2.2 hs.2 q hq
    · rw [List.mem_singleton.1 hq]; exact ⟨⟨by simp, by simp⟩, by simp⟩
  | .ite a b c, p, hw, hs, q, hq => by
    rcases List.mem_append.1 hq with hq | hq
    · rcases List.mem_append.1 hq with hq | hq
      · rcases List.mem_append.1 hq with hq | hq
        · exact flat_fine a p hw.1 hs.1 q hq
        · exact flat_fine b _ hw.2.1 hs.2.1 q hq
      · exact flat_fine c _ hw.2.2 hs.2.2 q hq
    · rw [List.mem_singleton.1 hq]; exact ⟨⟨by simp, by simp⟩, by simp⟩
def Okn (l : List Nd) : Prop := ∀ n ∈ l, 0 ≤ n.op ∧ n.num ≤ 9223372036854775807
end Go.Proofs.YtdcjpinbflmikaaGreatDoor
namespace Go.Proofs.YtdcjpinbflmikaaGreatDoor
open Go.RowKit Ex
end Go.Proofs.YtdcjpinbflmikaaGreatDoor
namespace Go.Proofs.YtdcjpinbflmikaaGreatDoor
open Go.RowKit Go.Shelf Go.Lib
open Go.ChangeShapes Go.WideShapes Go.ChangeAt
set_option maxRecDepth 100000
def laidAllOf : List (String × DataW Unit) := [("math/bits.deBruijn32tab", Rows.laid_math_bits_deBruijn32tab), ("math/bits.deBruijn64tab", Rows.laid_math_bits_deBruijn64tab), ("internal/strconv.uint64pow10", Rows.laid_internal_strconv_uint64pow10), ("unicode/utf8.acceptRanges", Rows.laid_unicode_utf8_acceptRanges), ("strconv.ErrRange", Rows.laid_strconv_ErrRange), ("strconv.ErrSyntax", Rows.laid_strconv_ErrSyntax), ("hopscotch/lex.signs", Rows.laid_hopscotch_lex_signs), ("hopscotch/expr.forms", Rows.laid_hopscotch_expr_forms), ("unicode/utf8.first", Rows.laid_unicode_utf8_first)]
theorem pow_eq : (Rows.laid_internal_strconv_uint64pow10 : DataW Unit) = tabData .u64 pow10Tab := by kernel_rfl
theorem yPow : (Tryz.prog.globals[5]?).map (·.type) = some 326 := by kernel_rfl
theorem gER : Tryz.prog.globalNamed "strconv.ErrRange" = some 3 := by kernel_rfl
theorem yER : (Tryz.prog.globals[3]?).map (·.type) = some 237 := by kernel_rfl
theorem cES : Tryz.prog.cellsOf 363 = 1 := by kernel_rfl
theorem cStr : Tryz.prog.cellsOf 9 = 1 := by kernel_rfl
theorem starES : "*" ++ "errors.errorString" = "*errors.errorString" := by decide
theorem rowES (u : TypeId) (h : Tryz.prog.typeName? 3 u = some "*errors.errorString") : u = 361 :=
  typeName_ptr_named (nm := "errors.errorString") (by rw [starES]; kernel_rfl) (by kernel_rfl) (by decide) u (by rw [starES]; exact h)
theorem tb_of {W : World} (hL : laidMet Tryz.prog laidAllOf W) : Tb W := by
  constructor
  · obtain ⟨a0, _, hv0, -, -, -⟩ := laid_sentinel (laidMet.tail (laidMet.tail (laidMet.tail (laidMet.tail hL)))) gER yER Tryz.underlying237 rowES Tryz.underlying361 Tryz.underlying363 rfl rfl Tryz.underlying9 cES cStr
    exact ⟨_, by have h0 := World.var?_cell gER hv0 0; simpa using h0⟩
  · have h := (laidMet.tail (laidMet.tail hL))
    rw [pow_eq] at h
    exact tabIs_of_head gPow yPow Tryz.underlying326 Tryz.underlying309 (by kernel_rfl) (by kernel_rfl) h
theorem own : ownKnob Tryz.prog.godebug = none := by kernel_rfl
theorem signs_eq : (Rows.laid_hopscotch_lex_signs : DataW Unit) = .agg (sgB.map fun x => .lit (.string x.data.toList)) := by kernel_rfl
theorem gSigns : Tryz.prog.globalNamed "hopscotch/lex.signs" = some 2 := by kernel_rfl
theorem ySigns : (Tryz.prog.globals[2]?).map (·.type) = some 278 := by kernel_rfl
theorem ba_of {a b : ByteArray} (h : a.data.toList = b.data.toList) : a = b := by
  cases a with | mk x => cases b with | mk y => simpa using h
theorem sg_of {W : World} (hL : laidMet Tryz.prog laidAllOf W) : Sg W := by
  have h : VarReads Tryz.prog W "hopscotch/lex.signs" Rows.laid_hopscotch_lex_signs := laidMet.reads hL (.tail _ (.tail _ (.tail _ (.tail _ (.tail _ (.tail _ (.head _)))))))
  obtain ⟨g, t, cs, fuel, p, hg, hty, hvar, hd⟩ := h
  obtain rfl := Option.some.inj (gSigns.symm.trans hg)
  obtain rfl := Option.some.inj (ySigns.symm.trans hty)
  rw [signs_eq] at hd
  intro j hj
  obtain ⟨fuel', d, q, hdi, he⟩ := array_elem Tryz.underlying278 hd j hj
  rw [List.getElem?_map, List.getElem?_eq_getElem hj] at hdi
  simp only [Option.map_some, Option.some.injEq] at hdi
  subst hdi
  rw [cStr] at he
  obtain ⟨s, hs, hx, _⟩ := DataW.trod_string Tryz.underlying9 he
  have hx1 := congrArg Prod.fst hx
  simp only [DataW.lit.injEq, Lit.string.injEq] at hx1
  have hsv : s = sgB[j] := ba_of hx1.symm
  have e0 := congrArg (·[0]?) hs
  simp only [List.getElem?_take, List.getElem?_drop] at e0
  rw [World.var?_cell gSigns hvar j, ← Array.getElem?_toList, ← hsv]
  simpa using e0
theorem forms_eq : (Rows.laid_hopscotch_expr_forms : DataW Unit) = .agg ((List.range 23).map fun op => .agg [.lit (.string (fW op)), .lit (.int .u8 (fL op : Nat)), .lit (.int .i64 (fP op : Nat))]) := by kernel_rfl
theorem gForms : Tryz.prog.globalNamed "hopscotch/expr.forms" = some 0 := by kernel_rfl
theorem yForms : (Tryz.prog.globals[0]?).map (·.type) = some 163 := by kernel_rfl
theorem cForm : Tryz.prog.cellsOf 162 = 3 := by kernel_rfl
theorem fm_of {W : World} (hL : laidMet Tryz.prog laidAllOf W) : Fm W := by
  have h : VarReads Tryz.prog W "hopscotch/expr.forms" Rows.laid_hopscotch_expr_forms := laidMet.reads hL (.tail _ (.tail _ (.tail _ (.tail _ (.tail _ (.tail _ (.tail _ (.head _))))))))
  obtain ⟨g, t, cs, fuel, p, hg, hty, hvar, hd⟩ := h
  obtain rfl := Option.some.inj (gForms.symm.trans hg)
  obtain rfl := Option.some.inj (yForms.symm.trans hty)
  rw [forms_eq] at hd
  intro op hop
  obtain ⟨fuel', d, q, hdi, he⟩ := array_elem Tryz.underlying163 hd op hop
  rw [List.getElem?_map, List.getElem?_range hop] at hdi
  simp only [Option.map_some, Option.some.injEq] at hdi
  subst hdi
  rw [cForm] at he
  obtain ⟨xs, n', _, hxe, _, hxl, hg3⟩ := DataW.trod_struct Tryz.underlying162 he
  have hx3 : xs.length = 3 := hxl
  have hm := (Prod.mk.inj hxe).1
  simp only [DataW.agg.injEq] at hm
  have m := fun (j : Nat) => congrArg (fun (l : List (DataW Unit)) => l[j]?) hm
  have t0 : DataW.trod _ Tryz.prog W _ _ _ n' 9 (List.take (Tryz.prog.cellsOf 9) (List.drop 0 _)) = some (xs[0]'(by omega)) := (hg3 0 _ rfl).trans (List.getElem?_eq_getElem (by omega))
  have t1 : DataW.trod _ Tryz.prog W _ _ _ n' 5 (List.take (Tryz.prog.cellsOf 5) (List.drop 1 _)) = some (xs[1]'(by omega)) := (hg3 1 _ rfl).trans (List.getElem?_eq_getElem (by omega))
  have t2 : DataW.trod _ Tryz.prog W _ _ _ n' 3 (List.take (Tryz.prog.cellsOf 3) (List.drop 2 _)) = some (xs[2]'(by omega)) := (hg3 2 _ rfl).trans (List.getElem?_eq_getElem (by omega))
  simp only [show Tryz.prog.cellsOf 5 = 1 by kernel_rfl, show Tryz.prog.cellsOf 9 = 1 by kernel_rfl, show Tryz.prog.cellsOf 3 = 1 by kernel_rfl] at t0 t1 t2
  obtain ⟨s, e0, d0, _⟩ := DataW.trod_string Tryz.underlying9 t0
  obtain ⟨a, e1, d1, _⟩ := DataW.trod_int Tryz.underlying5 t1
  obtain ⟨b, e2, d2, _⟩ := DataW.trod_int Tryz.underlying3 t2
  have m0 := m 0
  have m1 := m 1
  have m2 := m 2
  simp only [List.getElem?_map, List.getElem?_eq_getElem (show 0 < xs.length by omega), List.getElem?_eq_getElem (show 1 < xs.length by omega), List.getElem?_eq_getElem (show 2 < xs.length by omega), Option.map_some, d0, d1, d2, List.getElem?_cons_zero, List.getElem?_cons_succ, Option.some.injEq, DataW.lit.injEq, Lit.string.injEq, Lit.int.injEq, true_and] at m0 m1 m2
  have q0 := congrArg (·[0]?) e0
  have q1 := congrArg (·[0]?) e1
  have q2 := congrArg (·[0]?) e2
  simp only [List.getElem?_take, List.getElem?_drop] at q0 q1 q2
  have hs : s = ⟨(fW op).toArray⟩ := ba_of (by rw [← m0])
  rw [World.var?_cell gForms hvar, World.var?_cell gForms hvar, World.var?_cell gForms hvar, ← Array.getElem?_toList, ← Array.getElem?_toList, ← Array.getElem?_toList, m1, m2, ← hs]
  exact ⟨by simpa using q0, by simpa using q1, by simpa using q2⟩
theorem tx_of {W : World} (hL : laidMet Tryz.prog laidAllOf W) : Tx W := ⟨sg_of hL, tb_of hL, fm_of hL⟩
end Go.Proofs.YtdcjpinbflmikaaGreatDoor
namespace Go.Proofs.YtdcjpinbflmikaaGreatDoor
open Go.RowKit Go.Shelf Go.Lib
open Go.ChangeShapes Go.WideShapes Go.ChangeAt
set_option maxRecDepth 100000
theorem cell_plain {w : World} {a : Addr} {v : Value} (h : w.cell? a = some v) : a = ⟨a.block, a.off, none⟩ ∧ a.block < w.heap.size := by
  obtain ⟨g, o, sp⟩ := a
  unfold World.cell? at h
  split at h
  · rename_i hh
    split at h
    · cases h
    · rename_i hs
      refine ⟨?_, (Array.getElem?_eq_some_iff.1 hh).1⟩
      cases sp with
      | none => rfl
      | some _ => exact absurd rfl hs
  · cases h
theorem add_plain (g o n : Nat) : (⟨g, o, none⟩ : Addr).add n = ⟨g, o + n, none⟩ := by
  unfold Addr.add
  split
  · rename_i h; subst h; rfl
  · rfl
section
variable {H : Type} {enc : TypeId × Value → H} {W : World}
theorem nodes_of {fuel : Nat} {cs : List Value} {x : DataW H × List MemPlace} (h : DataW.trod enc Tryz.prog W 0 (fun _ => true) true fuel 27 cs = some x) :
    ∃ A c l, cs = [.slice A l.length c] ∧ NdR W W.heap.size A l ∧ l.length ≤ c ∧ c ≤ maxLen ∧ Okn l := by
  rcases Deep.open_slice Tryz.underlying27 h with ⟨hc, _⟩ | ⟨a, len, cap, m, n, D, Pl, hcs, _, hl, hm, hmm, _, hi⟩
  · exact ⟨none, 0, [], hc, fun j hj => absurd hj (by simp), Nat.le_refl _, by decide, fun n hn => by cases hn⟩
  · have hi2 : ∀ i : Fin len, ∃ x : Ex.Nd, (W.cell? (a.add (i.1 * 6)) = some (.int .u8 x.op) ∧ W.cell? (a.add (i.1 * 6 + 1)) = some (.int .i64 x.num) ∧ W.cell? (a.add (i.1 * 6 + 2)) = some (.string ⟨x.nm.toArray⟩) ∧ W.cell? (a.add (i.1 * 6 + 3)) = some (.int .i64 x.a) ∧ W.cell? (a.add (i.1 * 6 + 4)) = some (.int .i64 x.b) ∧ W.cell? (a.add (i.1 * 6 + 5)) = some (.int .i64 x.c)) ∧ 0 ≤ x.op ∧ x.num ≤ 9223372036854775807 := fun i => by
      obtain ⟨cs', hce, ht'⟩ := hi i.1 (by rw [hmm]; simp; have := i.2; omega)
      have h5 : Tryz.prog.cellsOf 34 = 6 := by kernel_rfl
      obtain ⟨_, hcl, hat⟩ := World.cells?_some hce
      obtain ⟨xs, n', _, _, _, hxl, hg⟩ := DataW.trod_struct Tryz.underlying34 ht'
      rw [h5] at hcl hat
      have hx5 : xs.length = 6 := hxl
      match cs', hcl with
      | [v0, v1, v2, v3, v4, v5], _ =>
        have t0 : DataW.trod enc Tryz.prog W 0 (fun _ => true) true n' 5 (List.take (Tryz.prog.cellsOf 5) (List.drop 0 [v0, v1, v2, v3, v4, v5])) = some (xs[0]'(by omega)) := (hg 0 _ rfl).trans (List.getElem?_eq_getElem (by omega))
        have t1 : DataW.trod enc Tryz.prog W 0 (fun _ => true) true n' 2 (List.take (Tryz.prog.cellsOf 2) (List.drop 1 [v0, v1, v2, v3, v4, v5])) = some (xs[1]'(by omega)) := (hg 1 _ rfl).trans (List.getElem?_eq_getElem (by omega))
        have t2 : DataW.trod enc Tryz.prog W 0 (fun _ => true) true n' 9 (List.take (Tryz.prog.cellsOf 9) (List.drop 2 [v0, v1, v2, v3, v4, v5])) = some (xs[2]'(by omega)) := (hg 2 _ rfl).trans (List.getElem?_eq_getElem (by omega))
        have t3 : DataW.trod enc Tryz.prog W 0 (fun _ => true) true n' 3 (List.take (Tryz.prog.cellsOf 3) (List.drop 3 [v0, v1, v2, v3, v4, v5])) = some (xs[3]'(by omega)) := (hg 3 _ rfl).trans (List.getElem?_eq_getElem (by omega))
        have t4 : DataW.trod enc Tryz.prog W 0 (fun _ => true) true n' 3 (List.take (Tryz.prog.cellsOf 3) (List.drop 4 [v0, v1, v2, v3, v4, v5])) = some (xs[4]'(by omega)) := (hg 4 _ rfl).trans (List.getElem?_eq_getElem (by omega))
        have t5 : DataW.trod enc Tryz.prog W 0 (fun _ => true) true n' 3 (List.take (Tryz.prog.cellsOf 3) (List.drop 5 [v0, v1, v2, v3, v4, v5])) = some (xs[5]'(by omega)) := (hg 5 _ rfl).trans (List.getElem?_eq_getElem (by omega))
        simp only [show Tryz.prog.cellsOf 5 = 1 by kernel_rfl, show Tryz.prog.cellsOf 2 = 1 by kernel_rfl, show Tryz.prog.cellsOf 9 = 1 by kernel_rfl, show Tryz.prog.cellsOf 3 = 1 by kernel_rfl, List.drop_zero, List.drop_succ_cons, List.take_succ_cons, List.take_zero] at t0 t1 t2 t3 t4 t5
        have c0 := hat 0 (by omega)
        have c1 := hat 1 (by omega)
        have c2 := hat 2 (by omega)
        have c3 := hat 3 (by omega)
        have c4 := hat 4 (by omega)
        have c5 := hat 5 (by omega)
        rw [Deep.add_add] at c0 c1 c2 c3 c4 c5
        obtain ⟨z0, e0, _, w0⟩ := DataW.trod_int Tryz.underlying5 t0
        obtain ⟨z1, e1, _, w1⟩ := DataW.trod_int Tryz.underlying2 t1
        obtain ⟨N, e2, _, _⟩ := DataW.trod_string Tryz.underlying9 t2
        obtain ⟨z3, e3, _, _⟩ := DataW.trod_int Tryz.underlying3 t3
        obtain ⟨z4, e4, _, _⟩ := DataW.trod_int Tryz.underlying3 t4
        obtain ⟨z5, e5, _, _⟩ := DataW.trod_int Tryz.underlying3 t5
        simp only [List.cons.injEq, and_true] at e0 e1 e2 e3 e4 e5
        subst e0 e1 e2 e3 e4 e5
        simp [Lit.wf, IntKind.min, IntKind.max, IntKind.signed, IntKind.bits] at w0 w1
        exact ⟨⟨z0, z1, N.data.toList, z3, z4, z5⟩, ⟨c0, c1, c2, c3, c4, c5⟩, w0.1, w1.2⟩
    obtain ⟨f, hf⟩ := Classical.skolem.1 hi2
    have hlen : (List.ofFn f).length = len := List.length_ofFn
    refine ⟨some a, cap, List.ofFn f, by rw [hlen]; exact hcs, fun k hk => ?_, by rw [hlen]; exact hl, hm, fun y hy => ?_⟩
    · have hk' : k < len := by rw [← hlen]; exact hk
      obtain ⟨ha, hb⟩ := cell_plain (hf ⟨0, by omega⟩).1.1
      have hz : a.add (0 * 6) = a := by unfold Addr.add; rw [if_pos (by omega)]
      rw [hz] at ha hb
      have h1 := (hf ⟨k, hk'⟩).1
      rw [ha, add_plain, add_plain, add_plain, add_plain, add_plain, add_plain] at h1
      rw [List.getElem_ofFn]
      exact ⟨a.block, a.off, by rw [← ha], hb, h1⟩
    · obtain ⟨i, rfl⟩ := List.mem_ofFn.1 hy
      exact (hf i).2
theorem expr_of {r : Reach} {b0 : Nat} {v : Value} {d : DataW H} {p : List MemPlace} (hv : Value.okWide Tryz.prog W r b0 29 v) (h : DataW.Trod enc Tryz.prog W 0 (fun _ => true) true 29 v d p) :
    ∃ A c l, v = .agg #[.slice A l.length c] ∧ NdR W W.heap.size A l ∧ l.length ≤ c ∧ l.length ≤ 9223372036854775807 ∧ Okn l := by
  obtain ⟨cs, rfl, hcs⟩ := okWide_struct Tryz.underlying29 hv
  obtain ⟨fuel, hf⟩ := h
  obtain ⟨xs, n', _, _, _, hxl, hg⟩ := DataW.trod_struct Tryz.underlying29 hf
  have hx1 : xs.length = 1 := hxl
  rw [show Tryz.prog.cellsOf 29 = 1 by kernel_rfl] at hcs
  have t0 := (hg 0 _ rfl).trans (List.getElem?_eq_getElem (by omega))
  obtain ⟨A, c, l, e, q1, q2, q3, q4⟩ := nodes_of t0
  refine ⟨A, c, l, ?_, q1, q2, by unfold maxLen at q3; omega, q4⟩
  obtain ⟨l⟩ := cs
  match l, hcs with
  | [u], _ =>
    change List.take (Tryz.prog.cellsOf 27) [u] = _ at e
    rw [show Tryz.prog.cellsOf 27 = 1 by kernel_rfl] at e
    simp only [List.take_succ_cons, List.take_zero, List.cons.injEq, and_true] at e
    rw [e]
theorem trod_again {W' : World} {t : TypeId} {v : Value} {d : DataW H} {p : List MemPlace} {sp : Nat → Bool} (h : DataW.Trod enc Tryz.prog W 0 (fun _ => true) true t v d p) (hb : Below W.heap.size W W') (ht : t < Tryz.prog.types.size) (hlt : ∀ q ∈ p, q.block < W.heap.size) (hsp : ∀ q ∈ p, sp q.block = true) :
    DataW.Trod enc Tryz.prog W' 0 sp true t v d p := by
  obtain ⟨n, hn⟩ := DataW.Trod.respare (kids_rows (by kernel_rfl) (by kernel_rfl)) (slices_full_of Tryz.prog (by kernel_rfl)) ht h hsp
  exact ⟨n, DataW.trod_carry n _ _ _ hn (fun q hq => hb.same (hlt q hq))⟩
end
end Go.Proofs.YtdcjpinbflmikaaGreatDoor
