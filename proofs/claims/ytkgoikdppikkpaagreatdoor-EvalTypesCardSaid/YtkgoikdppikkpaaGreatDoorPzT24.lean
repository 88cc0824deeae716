/- Facts and walks for the statement. -/
import Derived.Test.YtkgoikdppikkpaaGreatDoorPzT04
import Derived.Test.YtkgoikdppikkpaaGreatDoorPzT23
import Derived.Test.YtkgoikdppikkpaaGreatDoorCards
import Derived.Test.YtkgoikdppikkpaaGreatDoorTie
import Derived.Test.YtkgoikdppikkpaaGreatDoorPzT13
import Derived.Handed
import Derived.Shelf.Vars
import Derived.ProofKit
import Derived.OpenShut
import Derived.Lay
import Derived.Lib.LaidU8
import Derived.SevenTiedAt
import Derived.Stop.LaidErr
import Derived.Deep.Slices
import Derived.ChangeSame
import Derived.ReadAgain
import Derived.Test.YtkgoikdppikkpaaGreatDoorPzT14
import Derived.Laws.AppendOwnNone
import Derived.LaidSub
import Derived.Deep.Strs
namespace Go.Proofs.YtkgoikdppikkpaaGreatDoor
open Go.RowKit Ex
def FewV (l : List Nd) (bs : List Ev.Bd) : Prop := (l.length ≤ 200 ∧ bs.length ≤ 20) ∧ (∀ n ∈ l, n.nm.length ≤ 70) ∧ ∀ q ∈ bs, q.1.length ≤ 70
instance (l : List Nd) (bs : List Ev.Bd) : Decidable (FewV l bs) := inferInstanceAs (Decidable (_ ∧ _))
set_option maxHeartbeats 4000000 in
set_option maxRecDepth 100000 in
theorem fewv_any (w : World) (A : Option Addr) (c : Nat) (l : List Nd) (hl : NdR w w.heap.size A l) (hc : l.length ≤ c) (hn : l.length ≤ 9223372036854775807) (A2 : Option Addr) (c2 : Nat) (bs : List Ev.Bd) (hs : BdR w w.heap.size A2 bs) (hc2 : bs.length ≤ c2) (hn2 : bs.length ≤ 9223372036854775807) :
    Calls Tryz.prog 43 #[.agg #[.slice A l.length c], .slice A2 bs.length c2] w fun e w' => e = .returned (.bool (decide (FewV l bs))) ∧ Below w.heap.size w w' := by
  obtain ⟨R, hR⟩ : ∃ R, R = decide (FewV l bs) := ⟨_, rfl⟩
  rw [← hR]
  obtain ⟨W0, hW0⟩ : ∃ W0, W0 = w.alloc (.cells #[.slice A l.length c] 29) := ⟨_, rfl⟩
  have hb0 : Below w.heap.size w W0 := by rw [hW0]; exact (Below.refl _ _).alloc (Nat.le_refl _) _
  have X0 := Lib.hid (show Xb W0 w.heap.size A c l by rw [hW0]; exact Xb.new hl hc)
  have HB0 := Lib.hid hb0
  have HS0 := Lib.hid (hs.on hb0)
  have k0 := X0.out.at_
  have HW0 := Lib.hid hW0
  obtain ⟨n, hnl⟩ : ∃ n, n = l.length := ⟨_, rfl⟩
  obtain ⟨m, hml⟩ : ∃ m, m = bs.length := ⟨_, rfl⟩
  rw [← hnl] at hW0 hc hn ⊢
  rw [← hnl] at HW0 k0
  rw [← hml] at hc2 hn2 ⊢
  have HN := Lib.hid (And.intro hnl hml)
  have hc' : (n : Int) ≤ (c : Int) := by omega
  have hc2' : (m : Int) ≤ (c2 : Int) := by omega
  have HR := Lib.hid hR
  rw [HW0.out] at k0
  clear hR hW0 hb0 hl hnl hs hml
  by_cases hbig : n > 200
  · have hbig' : (n : Int) > 200 := by omega
    have HF := Lib.hid (show R = false from by rw [HR.out]; exact decide_eq_false (fun h => by have := h.1.1; rw [← HN.out.1] at this; omega))
    go_enter Tryz.func43, Tryz.ntmps43
    go_wp2
    go_ret
    rw [← HW0.out]
    exact ⟨by rw [HF.out]; rfl, HB0.out⟩
  · have hbig' : ¬ (n : Int) > 200 := by omega
    by_cases hbg2 : m > 20
    · have hbg2' : (m : Int) > 20 := by omega
      have HF := Lib.hid (show R = false from by rw [HR.out]; exact decide_eq_false (fun h => by have := h.1.2; rw [← HN.out.2] at this; omega))
      go_enter Tryz.func43, Tryz.ntmps43
      go_wp2
      go_ret
      rw [← HW0.out]
      exact ⟨by rw [HF.out]; rfl, HB0.out⟩
    · have hbg2' : ¬ (m : Int) > 20 := by omega
      have hn60 : n ≤ 200 := by omega
      have hm20 : m ≤ 20 := by omega
      go_enter Tryz.func43, Tryz.ntmps43
      go_wp2
      rw [← HW0.out]
      clear k0
      go_loopw [5] (fun iv wr => ∃ i : Nat, iv = .int .i64 i ∧ i ≤ n ∧ Hid (Below W0.heap.size W0 wr ∧ ∀ q ∈ l.take i, q.nm.length ≤ 70)) (fun iv _ => n - (intOf iv).toNat)
      case atStart => exact ⟨0, rfl, Nat.zero_le _, Lib.hid ⟨Below.refl _ _, by simp⟩⟩
      case round =>
        obtain ⟨i, rfl, hi, HI⟩ := hrel
        have XI := Lib.hid (X0.out.below HI.out.1)
        have k0 := XI.out.at_
        rw [← HN.out.1] at k0
        by_cases hik : i < n
        · have hik' : (i : Int) < (n : Int) := by omega
          have hil : i < l.length := by rw [← HN.out.1]; exact hik
          obtain ⟨g, o, hA, hg, p0, p1, p2, p3, p4, p5⟩ := XI.out.row i hil
          subst hA
          have HNE := Lib.hid (show 70 < l[i].nm.length → R = false from fun h => by
            rw [HR.out]; exact decide_eq_false (fun e => by have := e.2.1 _ (List.getElem_mem hil); omega))
          have HEQ := Lib.hid (show l[i].nm.length ≤ 70 → ∀ q ∈ l.take (i + 1), q.nm.length ≤ 70 from fun h q hq => by
            rw [List.take_succ_eq_append_getElem hil] at hq
            rcases List.mem_append.1 hq with hq | hq
            · exact HI.out.2 q hq
            · rw [List.mem_singleton.1 hq]; exact h)
          have HIK := Lib.hid hik
          generalize l[i].nm = nm at *
          clear hik hil p0 p1 p3 p4 p5
          obtain ⟨N, hN⟩ : ∃ N : ByteArray, N = ⟨nm.toArray⟩ := ⟨_, rfl⟩
          rw [← hN] at p2
          have hNs : N.size = nm.length := by rw [hN]; simp [ByteArray.size]
          rw [← hNs] at HNE HEQ
          clear hN hNs
          by_cases e0 : 70 < N.size
          · have e0' : (N.size : Int) > 70 := by omega
            have HD0 := Lib.hid (HNE.out e0)
            clear HNE HEQ e0
            go_wp2
            go_ret
            exact ⟨by rw [HD0.out]; rfl, HB0.out.trans (HI.out.1.mono HB0.out.size)⟩
          · have e0' : ¬ (N.size : Int) > 70 := by omega
            have HE := Lib.hid (HEQ.out (by omega))
            clear HNE HEQ e0
            go_wp2
            go_roundw
            case rel => exact ⟨i + 1, by go_num, HIK.out, Lib.hid ⟨HI.out.1, HE.out⟩⟩
            case measure => have := HIK.out; simp [intOf]; omega
        · obtain rfl : i = n := by omega
          have hik' : ¬ ((i : Nat) : Int) < (i : Int) := by omega
          have HNS := Lib.hid (show ∀ q ∈ l, q.nm.length ≤ 70 from by
            have h3 := HI.out.2
            rw [List.take_of_length_le (by rw [← HN.out.1]; exact Nat.le_refl _)] at h3
            exact h3)
          have HBA := Lib.hid HI.out.1
          clear hik HI XI
          go_wp2
          generalize wr = wa at *
          clear k0
          go_loopw [6] (fun iv wr => ∃ k : Nat, iv = .int .i64 k ∧ k ≤ m ∧ Hid (Below wa.heap.size wa wr ∧ ∀ q ∈ bs.take k, q.1.length ≤ 70)) (fun iv _ => m - (intOf iv).toNat)
          case atStart => exact ⟨0, rfl, Nat.zero_le _, Lib.hid ⟨Below.refl _ _, by simp⟩⟩
          case round =>
            obtain ⟨k, rfl, hk, HJ⟩ := hrel
            have HB2 := Lib.hid (HBA.out.trans (HJ.out.1.mono HBA.out.size))
            by_cases hkk : k < m
            · have hkk' : (k : Int) < (m : Int) := by omega
              have hkl : k < bs.length := by rw [← HN.out.2]; exact hkk
              obtain ⟨g, o, hA, hg, p2, -⟩ := (HS0.out.on HB2.out) k hkl
              subst hA
              have HNE := Lib.hid (show 70 < bs[k].1.length → R = false from fun h => by
                rw [HR.out]; exact decide_eq_false (fun e => by have := e.2.2 _ (List.getElem_mem hkl); omega))
              have HEQ := Lib.hid (show bs[k].1.length ≤ 70 → ∀ q ∈ bs.take (k + 1), q.1.length ≤ 70 from fun h q hq => by
                rw [List.take_succ_eq_append_getElem hkl] at hq
                rcases List.mem_append.1 hq with hq | hq
                · exact HJ.out.2 q hq
                · rw [List.mem_singleton.1 hq]; exact h)
              have HIK := Lib.hid hkk
              generalize bs[k].1 = nm at *
              clear hkk hkl
              obtain ⟨N, hN⟩ : ∃ N : ByteArray, N = ⟨nm.toArray⟩ := ⟨_, rfl⟩
              rw [← hN] at p2
              have hNs : N.size = nm.length := by rw [hN]; simp [ByteArray.size]
              rw [← hNs] at HNE HEQ
              clear hN hNs
              by_cases e0 : 70 < N.size
              · have e0' : (N.size : Int) > 70 := by omega
                have HD0 := Lib.hid (HNE.out e0)
                clear HNE HEQ e0
                go_wp2
                go_ret
                exact ⟨by rw [HD0.out]; rfl, HB0.out.trans (HB2.out.mono HB0.out.size)⟩
              · have e0' : ¬ (N.size : Int) > 70 := by omega
                have HE := Lib.hid (HEQ.out (by omega))
                clear HNE HEQ e0
                go_wp2
                go_roundw
                case rel => exact ⟨k + 1, by go_num, HIK.out, Lib.hid ⟨HJ.out.1, HE.out⟩⟩
                case measure => have := HIK.out; simp [intOf]; omega
            · obtain rfl : k = m := by omega
              have hkk' : ¬ ((k : Nat) : Int) < (k : Int) := by omega
              have HE := Lib.hid (show R = true from by
                have h3 := HJ.out.2
                rw [List.take_of_length_le (by rw [← HN.out.2]; exact Nat.le_refl _)] at h3
                rw [HR.out]; exact decide_eq_true ⟨⟨by rw [← HN.out.1]; exact hn60, by rw [← HN.out.2]; exact hm20⟩, HNS.out, h3⟩)
              clear hkk
              go_wp2
              go_ret
              exact ⟨by rw [HE.out]; rfl, HB0.out.trans (HB2.out.mono HB0.out.size)⟩
end Go.Proofs.YtkgoikdppikkpaaGreatDoor
namespace Go.Proofs.YtkgoikdppikkpaaGreatDoor
open Go.RowKit Go.Shelf Go.Lib
open Go.ChangeShapes Go.WideShapes Go.ChangeAt
set_option maxRecDepth 100000
def laidAllOf : List (String × DataW Unit) := [("math/bits.deBruijn32tab", Rows.laid_math_bits_deBruijn32tab), ("math/bits.deBruijn64tab", Rows.laid_math_bits_deBruijn64tab), ("internal/strconv.uint64pow10", Rows.laid_internal_strconv_uint64pow10), ("unicode/utf8.acceptRanges", Rows.laid_unicode_utf8_acceptRanges), ("strconv.ErrRange", Rows.laid_strconv_ErrRange), ("strconv.ErrSyntax", Rows.laid_strconv_ErrSyntax), ("hopscotch/lex.signs", Rows.laid_hopscotch_lex_signs), ("hopscotch/expr.forms", Rows.laid_hopscotch_expr_forms), ("unicode/utf8.first", Rows.laid_unicode_utf8_first)]
theorem pow_eq : (Rows.laid_internal_strconv_uint64pow10 : DataW Unit) = tabData .u64 pow10Tab := by kernel_rfl
theorem yPow : (Tryz.prog.globals[5]?).map (·.type) = some 274 := by kernel_rfl
theorem gER : Tryz.prog.globalNamed "strconv.ErrRange" = some 3 := by kernel_rfl
theorem yER : (Tryz.prog.globals[3]?).map (·.type) = some 224 := by kernel_rfl
theorem cES : Tryz.prog.cellsOf 311 = 1 := by kernel_rfl
theorem cStr : Tryz.prog.cellsOf 9 = 1 := by kernel_rfl
theorem starES : "*" ++ "errors.errorString" = "*errors.errorString" := by decide
theorem rowES (u : TypeId) (h : Tryz.prog.typeName? 3 u = some "*errors.errorString") : u = 309 :=
  typeName_ptr_named (nm := "errors.errorString") (by rw [starES]; kernel_rfl) (by kernel_rfl) (by decide) u (by rw [starES]; exact h)
theorem tb_of {W : World} (hL : laidMet Tryz.prog laidAllOf W) : Tb W := by
  constructor
  · obtain ⟨a0, _, hv0, -, -, -⟩ := laid_sentinel (laidMet.tail (laidMet.tail (laidMet.tail (laidMet.tail hL)))) gER yER Tryz.underlying224 rowES Tryz.underlying309 Tryz.underlying311 rfl rfl Tryz.underlying9 cES cStr
    exact ⟨_, by have h0 := World.var?_cell gER hv0 0; simpa using h0⟩
  · have h := (laidMet.tail (laidMet.tail hL))
    rw [pow_eq] at h
    exact tabIs_of_head gPow yPow Tryz.underlying274 Tryz.underlying256 (by kernel_rfl) (by kernel_rfl) h
theorem own : ownKnob Tryz.prog.godebug = none := by kernel_rfl
theorem signs_eq : (Rows.laid_hopscotch_lex_signs : DataW Unit) = .agg (sgB.map fun x => .lit (.string x.data.toList)) := by kernel_rfl
theorem gSigns : Tryz.prog.globalNamed "hopscotch/lex.signs" = some 2 := by kernel_rfl
theorem ySigns : (Tryz.prog.globals[2]?).map (·.type) = some 212 := by kernel_rfl
theorem ba_of {a b : ByteArray} (h : a.data.toList = b.data.toList) : a = b := by
  cases a with | mk x => cases b with | mk y => simpa using h
theorem sg_of {W : World} (hL : laidMet Tryz.prog laidAllOf W) : Sg W := by
  have h : VarReads Tryz.prog W "hopscotch/lex.signs" Rows.laid_hopscotch_lex_signs := laidMet.reads hL (.tail _ (.tail _ (.tail _ (.tail _ (.tail _ (.tail _ (.head _)))))))
  obtain ⟨g, t, cs, fuel, p, hg, hty, hvar, hd⟩ := h
  obtain rfl := Option.some.inj (gSigns.symm.trans hg)
  obtain rfl := Option.some.inj (ySigns.symm.trans hty)
  rw [signs_eq] at hd
  intro j hj
  obtain ⟨fuel', d, q, hdi, he⟩ := array_elem Tryz.underlying212 hd j hj
  rw [List.getElem?_map, List.getElem?_eq_getElem hj] at hdi
  simp only [Option.map_some, Option.some.injEq] at hdi
  subst hdi
  rw [cStr] at he
  obtain ⟨s, hs, hx, _⟩ := DataW.trod_string Tryz.underlying9 he
  have hx1 := congrArg Prod.fst hx
  simp only [DataW.lit.injEq, Lit.string.injEq] at hx1
  have hsv : s = sgB[j] := ba_of hx1.symm
  have e0 := congrArg (·[0]?) hs
  simp only [List.getElem?_take, List.getElem?_drop] at e0
  rw [World.var?_cell gSigns hvar j, ← Array.getElem?_toList, ← hsv]
  simpa using e0
theorem forms_eq : (Rows.laid_hopscotch_expr_forms : DataW Unit) = .agg ((List.range 23).map fun op => .agg [.lit (.string (fW op)), .lit (.int .u8 (fL op : Nat)), .lit (.int .i64 (fP op : Nat))]) := by kernel_rfl
theorem gForms : Tryz.prog.globalNamed "hopscotch/expr.forms" = some 0 := by kernel_rfl
theorem yForms : (Tryz.prog.globals[0]?).map (·.type) = some 152 := by kernel_rfl
theorem cForm : Tryz.prog.cellsOf 151 = 3 := by kernel_rfl
theorem fm_of {W : World} (hL : laidMet Tryz.prog laidAllOf W) : Fm W := by
  have h : VarReads Tryz.prog W "hopscotch/expr.forms" Rows.laid_hopscotch_expr_forms := laidMet.reads hL (.tail _ (.tail _ (.tail _ (.tail _ (.tail _ (.tail _ (.tail _ (.head _))))))))
  obtain ⟨g, t, cs, fuel, p, hg, hty, hvar, hd⟩ := h
  obtain rfl := Option.some.inj (gForms.symm.trans hg)
  obtain rfl := Option.some.inj (yForms.symm.trans hty)
  rw [forms_eq] at hd
  intro op hop
  obtain ⟨fuel', d, q, hdi, he⟩ := array_elem Tryz.underlying152 hd op hop
  rw [List.getElem?_map, List.getElem?_range hop] at hdi
  simp only [Option.map_some, Option.some.injEq] at hdi
  subst hdi
  rw [cForm] at he
  obtain ⟨xs, n', _, hxe, _, hxl, hg3⟩ := DataW.trod_struct Tryz.underlying151 he
  have hx3 : xs.length = 3 := hxl
  have hm := (Prod.mk.inj hxe).1
  simp only [DataW.agg.injEq] at hm
  have m := fun (j : Nat) => congrArg (fun (l : List (DataW Unit)) => l[j]?) hm
  have t0 : DataW.trod _ Tryz.prog W _ _ _ n' 9 (List.take (Tryz.prog.cellsOf 9) (List.drop 0 _)) = some (xs[0]'(by omega)) := (hg3 0 _ rfl).trans (List.getElem?_eq_getElem (by omega))
  have t1 : DataW.trod _ Tryz.prog W _ _ _ n' 5 (List.take (Tryz.prog.cellsOf 5) (List.drop 1 _)) = some (xs[1]'(by omega)) := (hg3 1 _ rfl).trans (List.getElem?_eq_getElem (by omega))
  have t2 : DataW.trod _ Tryz.prog W _ _ _ n' 3 (List.take (Tryz.prog.cellsOf 3) (List.drop 2 _)) = some (xs[2]'(by omega)) := (hg3 2 _ rfl).trans (List.getElem?_eq_getElem (by omega))
  simp only [show Tryz.prog.cellsOf 5 = 1 by kernel_rfl, show Tryz.prog.cellsOf 9 = 1 by kernel_rfl, show Tryz.prog.cellsOf 3 = 1 by kernel_rfl] at t0 t1 t2
  obtain ⟨s, e0, d0, _⟩ := DataW.trod_string Tryz.underlying9 t0
  obtain ⟨a, e1, d1, _⟩ := DataW.trod_int Tryz.underlying5 t1
  obtain ⟨b, e2, d2, _⟩ := DataW.trod_int Tryz.underlying3 t2
  have m0 := m 0
  have m1 := m 1
  have m2 := m 2
  simp only [List.getElem?_map, List.getElem?_eq_getElem (show 0 < xs.length by omega), List.getElem?_eq_getElem (show 1 < xs.length by omega), List.getElem?_eq_getElem (show 2 < xs.length by omega), Option.map_some, d0, d1, d2, List.getElem?_cons_zero, List.getElem?_cons_succ, Option.some.injEq, DataW.lit.injEq, Lit.string.injEq, Lit.int.injEq, true_and] at m0 m1 m2
  have q0 := congrArg (·[0]?) e0
  have q1 := congrArg (·[0]?) e1
  have q2 := congrArg (·[0]?) e2
  simp only [List.getElem?_take, List.getElem?_drop] at q0 q1 q2
  have hs : s = ⟨(fW op).toArray⟩ := ba_of (by rw [← m0])
  rw [World.var?_cell gForms hvar, World.var?_cell gForms hvar, World.var?_cell gForms hvar, ← Array.getElem?_toList, ← Array.getElem?_toList, ← Array.getElem?_toList, m1, m2, ← hs]
  exact ⟨by simpa using q0, by simpa using q1, by simpa using q2⟩
theorem tx_of {W : World} (hL : laidMet Tryz.prog laidAllOf W) : Tx W := ⟨sg_of hL, tb_of hL, fm_of hL⟩
end Go.Proofs.YtkgoikdppikkpaaGreatDoor
namespace Go.Proofs.YtkgoikdppikkpaaGreatDoor
open Go.RowKit Go.Shelf Go.Lib
open Go.ChangeShapes Go.WideShapes Go.ChangeAt
set_option maxRecDepth 100000
theorem cell_plain {w : World} {a : Addr} {v : Value} (h : w.cell? a = some v) : a = ⟨a.block, a.off, none⟩ ∧ a.block < w.heap.size := by
  obtain ⟨g, o, sp⟩ := a
  unfold World.cell? at h
  split at h
  · rename_i hh
    split at h
    · cases h
    · rename_i hs
      refine ⟨?_, (Array.getElem?_eq_some_iff.1 hh).1⟩
      cases sp with
      | none => rfl
      | some _ => exact absurd rfl hs
  · cases h
theorem add_plain (g o n : Nat) : (⟨g, o, none⟩ : Addr).add n = ⟨g, o + n, none⟩ := by
  unfold Addr.add
  split
  · rename_i h; subst h; rfl
  · rfl
section
variable {H : Type} {enc : TypeId × Value → H} {W : World}
theorem nodes_of {fuel : Nat} {cs : List Value} {x : DataW H × List MemPlace} (h : DataW.trod enc Tryz.prog W 0 (fun _ => true) true fuel 27 cs = some x) :
    ∃ A c l, cs = [.slice A l.length c] ∧ NdR W W.heap.size A l ∧ l.length ≤ c ∧ c ≤ maxLen ∧ Okn l := by
  rcases Deep.open_slice Tryz.underlying27 h with ⟨hc, _⟩ | ⟨a, len, cap, m, n, D, Pl, hcs, _, hl, hm, hmm, _, hi⟩
  · exact ⟨none, 0, [], hc, fun j hj => absurd hj (by simp), Nat.le_refl _, by decide, fun n hn => by cases hn⟩
  · have hi2 : ∀ i : Fin len, ∃ x : Ex.Nd, (W.cell? (a.add (i.1 * 6)) = some (.int .u8 x.op) ∧ W.cell? (a.add (i.1 * 6 + 1)) = some (.int .i64 x.num) ∧ W.cell? (a.add (i.1 * 6 + 2)) = some (.string ⟨x.nm.toArray⟩) ∧ W.cell? (a.add (i.1 * 6 + 3)) = some (.int .i64 x.a) ∧ W.cell? (a.add (i.1 * 6 + 4)) = some (.int .i64 x.b) ∧ W.cell? (a.add (i.1 * 6 + 5)) = some (.int .i64 x.c)) ∧ 0 ≤ x.op ∧ x.num ≤ 9223372036854775807 := fun i => by
      obtain ⟨cs', hce, ht'⟩ := hi i.1 (by rw [hmm]; simp; have := i.2; omega)
      have h5 : Tryz.prog.cellsOf 34 = 6 := by kernel_rfl
      obtain ⟨_, hcl, hat⟩ := World.cells?_some hce
      obtain ⟨xs, n', _, _, _, hxl, hg⟩ := DataW.trod_struct Tryz.underlying34 ht'
      rw [h5] at hcl hat
      have hx5 : xs.length = 6 := hxl
      match cs', hcl with
      | [v0, v1, v2, v3, v4, v5], _ =>
        have t0 : DataW.trod enc Tryz.prog W 0 (fun _ => true) true n' 5 (List.take (Tryz.prog.cellsOf 5) (List.drop 0 [v0, v1, v2, v3, v4, v5])) = some (xs[0]'(by omega)) := (hg 0 _ rfl).trans (List.getElem?_eq_getElem (by omega))
        have t1 : DataW.trod enc Tryz.prog W 0 (fun _ => true) true n' 2 (List.take (Tryz.prog.cellsOf 2) (List.drop 1 [v0, v1, v2, v3, v4, v5])) = some (xs[1]'(by omega)) := (hg 1 _ rfl).trans (List.getElem?_eq_getElem (by omega))
        have t2 : DataW.trod enc Tryz.prog W 0 (fun _ => true) true n' 9 (List.take (Tryz.prog.cellsOf 9) (List.drop 2 [v0, v1, v2, v3, v4, v5])) = some (xs[2]'(by omega)) := (hg 2 _ rfl).trans (List.getElem?_eq_getElem (by omega))
        have t3 : DataW.trod enc Tryz.prog W 0 (fun _ => true) true n' 3 (List.take (Tryz.prog.cellsOf 3) (List.drop 3 [v0, v1, v2, v3, v4, v5])) = some (xs[3]'(by omega)) := (hg 3 _ rfl).trans (List.getElem?_eq_getElem (by omega))
        have t4 : DataW.trod enc Tryz.prog W 0 (fun _ => true) true n' 3 (List.take (Tryz.prog.cellsOf 3) (List.drop 4 [v0, v1, v2, v3, v4, v5])) = some (xs[4]'(by omega)) := (hg 4 _ rfl).trans (List.getElem?_eq_getElem (by omega))
        have t5 : DataW.trod enc Tryz.prog W 0 (fun _ => true) true n' 3 (List.take (Tryz.prog.cellsOf 3) (List.drop 5 [v0, v1, v2, v3, v4, v5])) = some (xs[5]'(by omega)) := (hg 5 _ rfl).trans (List.getElem?_eq_getElem (by omega))
        simp only [show Tryz.prog.cellsOf 5 = 1 by kernel_rfl, show Tryz.prog.cellsOf 2 = 1 by kernel_rfl, show Tryz.prog.cellsOf 9 = 1 by kernel_rfl, show Tryz.prog.cellsOf 3 = 1 by kernel_rfl, List.drop_zero, List.drop_succ_cons, List.take_succ_cons, List.take_zero] at t0 t1 t2 t3 t4 t5
        have c0 := hat 0 (by omega)
        have c1 := hat 1 (by omega)
        have c2 := hat 2 (by omega)
        have c3 := hat 3 (by omega)
        have c4 := hat 4 (by omega)
        have c5 := hat 5 (by omega)
        rw [Deep.add_add] at c0 c1 c2 c3 c4 c5
        obtain ⟨z0, e0, _, w0⟩ := DataW.trod_int Tryz.underlying5 t0
        obtain ⟨z1, e1, _, w1⟩ := DataW.trod_int Tryz.underlying2 t1
        obtain ⟨N, e2, _, _⟩ := DataW.trod_string Tryz.underlying9 t2
        obtain ⟨z3, e3, _, _⟩ := DataW.trod_int Tryz.underlying3 t3
        obtain ⟨z4, e4, _, _⟩ := DataW.trod_int Tryz.underlying3 t4
        obtain ⟨z5, e5, _, _⟩ := DataW.trod_int Tryz.underlying3 t5
        simp only [List.cons.injEq, and_true] at e0 e1 e2 e3 e4 e5
        subst e0 e1 e2 e3 e4 e5
        simp [Lit.wf, IntKind.min, IntKind.max, IntKind.signed, IntKind.bits] at w0 w1
        exact ⟨⟨z0, z1, N.data.toList, z3, z4, z5⟩, ⟨c0, c1, c2, c3, c4, c5⟩, w0.1, w1.2⟩
    obtain ⟨f, hf⟩ := Classical.skolem.1 hi2
    have hlen : (List.ofFn f).length = len := List.length_ofFn
    refine ⟨some a, cap, List.ofFn f, by rw [hlen]; exact hcs, fun k hk => ?_, by rw [hlen]; exact hl, hm, fun y hy => ?_⟩
    · have hk' : k < len := by rw [← hlen]; exact hk
      obtain ⟨ha, hb⟩ := cell_plain (hf ⟨0, by omega⟩).1.1
      have hz : a.add (0 * 6) = a := by unfold Addr.add; rw [if_pos (by omega)]
      rw [hz] at ha hb
      have h1 := (hf ⟨k, hk'⟩).1
      rw [ha, add_plain, add_plain, add_plain, add_plain, add_plain, add_plain] at h1
      rw [List.getElem_ofFn]
      exact ⟨a.block, a.off, by rw [← ha], hb, h1⟩
    · obtain ⟨i, rfl⟩ := List.mem_ofFn.1 hy
      exact (hf i).2
theorem expr_of {r : Reach} {b0 : Nat} {v : Value} {d : DataW H} {p : List MemPlace} (hv : Value.okWide Tryz.prog W r b0 29 v) (h : DataW.Trod enc Tryz.prog W 0 (fun _ => true) true 29 v d p) :
    ∃ A c l, v = .agg #[.slice A l.length c] ∧ NdR W W.heap.size A l ∧ l.length ≤ c ∧ l.length ≤ 9223372036854775807 ∧ Okn l := by
  obtain ⟨cs, rfl, hcs⟩ := okWide_struct Tryz.underlying29 hv
  obtain ⟨fuel, hf⟩ := h
  obtain ⟨xs, n', _, _, _, hxl, hg⟩ := DataW.trod_struct Tryz.underlying29 hf
  have hx1 : xs.length = 1 := hxl
  rw [show Tryz.prog.cellsOf 29 = 1 by kernel_rfl] at hcs
  have t0 := (hg 0 _ rfl).trans (List.getElem?_eq_getElem (by omega))
  obtain ⟨A, c, l, e, q1, q2, q3, q4⟩ := nodes_of t0
  refine ⟨A, c, l, ?_, q1, q2, by unfold maxLen at q3; omega, q4⟩
  obtain ⟨l⟩ := cs
  match l, hcs with
  | [u], _ =>
    change List.take (Tryz.prog.cellsOf 27) [u] = _ at e
    rw [show Tryz.prog.cellsOf 27 = 1 by kernel_rfl] at e
    simp only [List.take_succ_cons, List.take_zero, List.cons.injEq, and_true] at e
    rw [e]
theorem trod_again {W' : World} {t : TypeId} {v : Value} {d : DataW H} {p : List MemPlace} {sp : Nat → Bool} (h : DataW.Trod enc Tryz.prog W 0 (fun _ => true) true t v d p) (hb : Below W.heap.size W W') (ht : t < Tryz.prog.types.size) (hlt : ∀ q ∈ p, q.block < W.heap.size) (hsp : ∀ q ∈ p, sp q.block = true) :
    DataW.Trod enc Tryz.prog W' 0 sp true t v d p := by
  obtain ⟨n, hn⟩ := DataW.Trod.respare (kids_rows (by kernel_rfl) (by kernel_rfl)) (slices_full_of Tryz.prog (by kernel_rfl)) ht h hsp
  exact ⟨n, DataW.trod_carry n _ _ _ hn (fun q hq => hb.same (hlt q hq))⟩
end
end Go.Proofs.YtkgoikdppikkpaaGreatDoor
namespace Go.Proofs.YtkgoikdppikkpaaGreatDoor
open Go.RowKit Ex Go.Maps
def nmV (q : Ty.Nm) : Value := .string ⟨q.toArray⟩
theorem infoStr : (Tryz.prog.info? 9).map (fun i => (i.zero, i.size, i.bytes)) = some (some (.string ⟨#[]⟩), 1, 16) := by kernel_rfl
theorem own_nsr {w : World} {B n c : Nat} {A : Option Addr} {L : List Ty.Nm} (h : w.ownsRow B 9 1 (.slice A n c) n (L.map nmV)) (hn : n = L.length) : NsR w w.heap.size A L ∧ n ≤ c ∧ c ≤ maxLen := by
  obtain ⟨A', c', e, h1, h2, h3⟩ := own_sliced h
  injection e with e1 _ e3
  subst e1 e3
  refine ⟨fun j hj => ?_, h1, h2⟩
  obtain ⟨g, rfl, _, hg⟩ := h3 (by omega)
  refine ⟨g, 0, rfl, hg, ?_⟩
  have := own_cell h (j := j) (u := nmV L[j]) (by rw [List.getElem?_map, List.getElem?_eq_getElem hj]; rfl)
  simpa [nmV] using this
end Go.Proofs.YtkgoikdppikkpaaGreatDoor
namespace Go.Proofs.YtkgoikdppikkpaaGreatDoor
open Go.RowKit Ex
end Go.Proofs.YtkgoikdppikkpaaGreatDoor
namespace Go.Proofs.YtkgoikdppikkpaaGreatDoor
open Go.RowKit Ex
end Go.Proofs.YtkgoikdppikkpaaGreatDoor
namespace Go.Proofs.YtkgoikdppikkpaaGreatDoor
open Go.RowKit Ex
end Go.Proofs.YtkgoikdppikkpaaGreatDoor
namespace Go.Proofs.YtkgoikdppikkpaaGreatDoor
open Go.RowKit Ex
end Go.Proofs.YtkgoikdppikkpaaGreatDoor
namespace Go.Proofs.YtkgoikdppikkpaaGreatDoor
open Go.RowKit Ex
theorem wpList_append_src {P : Program} {w : World} {ops : Array Oper} {rest : List Oper} {o : Oper} {a : Act} {Q : Exit → Act → World → Prop} (hgd : o.guard = none) (s x : Operand) (t : TypeId)
    (ho : o.op = .call { callee := .builtin .append, args := #[s, x], argTypes := #[t, t] })
    (base : Nat) (e : TypeId) (i : TypeInfo) (z : Value) (size bytes : Nat) (ht : P.underlying t = some (.slice e)) (hi : P.info? e = some i) (hz : i.zero = some z)
    (hsize : i.size = size) (hby : i.bytes = bytes) (hzs : z.cells.size = size) (hsz : 0 < size)
    (v : Value) (n : Nat) (xs : List Value) (hs : a.eval s = v) (hown : w.ownsRow base e size v n xs)
    (A : Option Addr) (m c : Nat) (news : List Value) (hx : a.eval x = .slice A m c) (hA : A = none → m = 0 ∧ c = 0) (hl : news.length = m * size) (hnews : ∀ ad, A = some ad → ∀ j u, news[j]? = some u → w.cell? (ad.add j) = some u) (h1 : ∀ u ∈ news, u.oneCell' = true)
    (h63 : n + m ≤ maxLen) (hbytes : (n + m) * bytes ≤ 140737488355328) (hbase : base ≤ w.heap.size)
    (h : ∀ v' w', w'.ownsRow base e size v' (n + m) (xs ++ news) → w.grownBy w' v.ownBlock → wpList P ops Q rest (a.put o.dst v') w') : wpList P ops Q (o :: rest) a w := by
  cases A with
  | none =>
    obtain ⟨rfl, rfl⟩ := hA rfl
    obtain rfl : news = [] := List.eq_nil_of_length_eq_zero (by rw [hl, Nat.zero_mul])
    refine wpList_append_own_none hgd s x t ho base e i size ht hi v n xs hs hown hx (h v w ?_ ?_)
    · rw [List.append_nil]; exact hown
    · exact ⟨rfl, rfl, rfl, Nat.le_refl _, fun _ _ _ => rfl⟩
  | some ad => exact wpList_append_own w hgd s x t ho base e i z size bytes ht hi hz hsize hby hzs hsz v n xs hs hown ad m c news hx hl (hnews ad rfl) h1 h63 hbytes hbase (fun v' w' q1 q2 _ => h v' w' q1 q2)
structure MoL (w : World) (A1 : Option Addr) (c1 : Nat) (l : List Nd) (v : World) : Prop where
  below : Below w.heap.size w v
  blk : IsBlk v w.heap.size 29 #[.slice A1 l.length c1]
theorem MoL.new (w : World) (A1 : Option Addr) (c1 : Nat) (l : List Nd) : MoL w A1 c1 l (w.alloc (.cells #[.slice A1 l.length c1] 29)) :=
  ⟨(Below.refl w.heap.size w).alloc (Nat.le_refl _) _, IsBlk.new _ _ _⟩
theorem MoL.on {w : World} {A1 : Option Addr} {c1 : Nat} {l : List Nd} {v v' : World} (h : MoL w A1 c1 l v) (hb : Below v.heap.size v v') : MoL w A1 c1 l v' :=
  ⟨h.below.trans (hb.mono h.below.size), h.blk.below hb h.blk.lt⟩
theorem MoL.grown {w : World} {A1 : Option Addr} {c1 : Nat} {l : List Nd} {v v' : World} {x : Value} (h : MoL w A1 c1 l v) (hg : v.grownBy v' x.ownBlock) (hx : ∀ k, x.ownBlock = some k → w.heap.size + 1 ≤ k) : MoL w A1 c1 l v' :=
  ⟨h.below.grown hg h.below.size (fun k hk => by have := hx k hk; omega), h.blk.grown hg (fun e => by have := hx _ e.symm; omega)⟩
theorem MoL.at_ {w : World} {A1 : Option Addr} {c1 : Nat} {l : List Nd} {v : World} (h : MoL w A1 c1 l v) : v.cell? ⟨w.heap.size, 0, none⟩ = some (.slice A1 l.length c1) := h.blk.at_ 0
theorem MoL.lt {w : World} {A1 : Option Addr} {c1 : Nat} {l : List Nd} {v : World} (h : MoL w A1 c1 l v) : w.heap.size + 1 ≤ v.heap.size := h.blk.lt
theorem NdR.to {w v : World} {A : Option Addr} {l : List Nd} (h : NdR w w.heap.size A l) (hb : Below w.heap.size w v) : NdR v v.heap.size A l := (h.below hb).more hb.size
end Go.Proofs.YtkgoikdppikkpaaGreatDoor
namespace Go.Proofs.YtkgoikdppikkpaaGreatDoor
open Go.RowKit Go.Shelf Go.Lib
open Go.ChangeShapes Go.WideShapes Go.ChangeAt
set_option maxRecDepth 100000
def laidAllTy : List (String × DataW Unit) := [("math/bits.deBruijn32tab", Rows.laid_math_bits_deBruijn32tab), ("math/bits.deBruijn64tab", Rows.laid_math_bits_deBruijn64tab), ("internal/strconv.uint64pow10", Rows.laid_internal_strconv_uint64pow10), ("unicode/utf8.acceptRanges", Rows.laid_unicode_utf8_acceptRanges), ("strconv.ErrRange", Rows.laid_strconv_ErrRange), ("strconv.ErrSyntax", Rows.laid_strconv_ErrSyntax), ("hopscotch/lex.signs", Rows.laid_hopscotch_lex_signs), ("hopscotch/expr.forms", Rows.laid_hopscotch_expr_forms), ("hopscotch/types.rules", Rows.laid_hopscotch_types_rules), ("unicode/utf8.first", Rows.laid_unicode_utf8_first)]
theorem laid_less : laidAllTy.filter (fun x => x.1 != "hopscotch/types.rules") = laidAllOf := by kernel_rfl
theorem rules_eq : (Rows.laid_hopscotch_types_rules : DataW Unit) = .agg ((List.range 23).map fun op => .agg [.agg [.lit (.int .u8 ((Ty.rl op).1 : Nat)), .lit (.int .u8 ((Ty.rl op).2.1 : Nat)), .lit (.int .u8 ((Ty.rl op).2.2.1 : Nat))], .lit (.int .u8 ((Ty.rl op).2.2.2 : Nat))]) := by kernel_rfl
theorem gRules : Tryz.prog.globalNamed "hopscotch/types.rules" = some 1 := by kernel_rfl
theorem yRules : (Tryz.prog.globals[1]?).map (·.type) = some 183 := by kernel_rfl
theorem cRule : Tryz.prog.cellsOf 182 = 4 := by kernel_rfl
theorem cU8 : Tryz.prog.cellsOf 5 = 1 := by kernel_rfl
theorem cParts : Tryz.prog.cellsOf 180 = 3 := by kernel_rfl
theorem rl_of {W : World} (hL : laidMet Tryz.prog laidAllTy W) : Rl W := by
  have h : VarReads Tryz.prog W "hopscotch/types.rules" Rows.laid_hopscotch_types_rules := laidMet.reads hL (.tail _ (.tail _ (.tail _ (.tail _ (.tail _ (.tail _ (.tail _ (.tail _ (.head _)))))))))
  obtain ⟨g, t, cs, fuel, p, hg, hty, hvar, hd⟩ := h
  obtain rfl := Option.some.inj (gRules.symm.trans hg)
  obtain rfl := Option.some.inj (yRules.symm.trans hty)
  rw [rules_eq] at hd
  intro op hop
  obtain ⟨fuel', d, q, hdi, he⟩ := array_elem Tryz.underlying183 hd op hop
  rw [List.getElem?_map, List.getElem?_range hop] at hdi
  simp only [Option.map_some, Option.some.injEq] at hdi
  subst hdi
  rw [cRule] at he
  obtain ⟨xs, n', _, hxe, _, hxl, hg3⟩ := DataW.trod_struct Tryz.underlying182 he
  have hx2 : xs.length = 2 := hxl
  have hm := (Prod.mk.inj hxe).1
  simp only [DataW.agg.injEq] at hm
  have m := fun (j : Nat) => congrArg (fun (l : List (DataW Unit)) => l[j]?) hm
  have t0 : DataW.trod _ Tryz.prog W _ _ _ n' 180 (List.take (Tryz.prog.cellsOf 180) (List.drop 0 _)) = some (xs[0]'(by omega)) := (hg3 0 _ rfl).trans (List.getElem?_eq_getElem (by omega))
  have t1 : DataW.trod _ Tryz.prog W _ _ _ n' 5 (List.take (Tryz.prog.cellsOf 5) (List.drop 3 _)) = some (xs[1]'(by omega)) := (hg3 1 _ rfl).trans (List.getElem?_eq_getElem (by omega))
  obtain ⟨ys, n2, _, hye, _, hyl, hg4⟩ := DataW.trod_struct Tryz.underlying180 t0
  have hy3 : ys.length = 3 := hyl
  have u0 : DataW.trod _ Tryz.prog W _ _ _ n2 5 (List.take (Tryz.prog.cellsOf 5) (List.drop 0 _)) = some (ys[0]'(by omega)) := (hg4 0 _ rfl).trans (List.getElem?_eq_getElem (by omega))
  have u1 : DataW.trod _ Tryz.prog W _ _ _ n2 5 (List.take (Tryz.prog.cellsOf 5) (List.drop 1 _)) = some (ys[1]'(by omega)) := (hg4 1 _ rfl).trans (List.getElem?_eq_getElem (by omega))
  have u2 : DataW.trod _ Tryz.prog W _ _ _ n2 5 (List.take (Tryz.prog.cellsOf 5) (List.drop 2 _)) = some (ys[2]'(by omega)) := (hg4 2 _ rfl).trans (List.getElem?_eq_getElem (by omega))
  simp only [cU8, cParts] at t1 u0 u1 u2
  obtain ⟨a0, e0, d0, _⟩ := DataW.trod_int Tryz.underlying5 u0
  obtain ⟨a1, e1, d1, _⟩ := DataW.trod_int Tryz.underlying5 u1
  obtain ⟨a2, e2, d2, _⟩ := DataW.trod_int Tryz.underlying5 u2
  obtain ⟨a3, e3, d3, _⟩ := DataW.trod_int Tryz.underlying5 t1
  have m0 := m 0
  have m1 := m 1
  simp only [List.getElem?_map, List.getElem?_eq_getElem (show 0 < xs.length by omega), List.getElem?_eq_getElem (show 1 < xs.length by omega), Option.map_some, d3, hye, List.getElem?_cons_zero, List.getElem?_cons_succ, Option.some.injEq, DataW.lit.injEq, Lit.int.injEq, true_and] at m0 m1
  simp only [DataW.agg.injEq] at m0
  have k := fun (j : Nat) => congrArg (fun (l : List (DataW Unit)) => l[j]?) m0
  have k0 := k 0
  have k1 := k 1
  have k2 := k 2
  simp only [List.getElem?_map, List.getElem?_eq_getElem (show 0 < ys.length by omega), List.getElem?_eq_getElem (show 1 < ys.length by omega), List.getElem?_eq_getElem (show 2 < ys.length by omega), Option.map_some, d0, d1, d2, List.getElem?_cons_zero, List.getElem?_cons_succ, Option.some.injEq, DataW.lit.injEq, Lit.int.injEq, true_and] at k0 k1 k2
  have q0 := congrArg (·[0]?) e0
  have q1 := congrArg (·[0]?) e1
  have q2 := congrArg (·[0]?) e2
  have q3 := congrArg (·[0]?) e3
  simp only [List.getElem?_take, List.getElem?_drop] at q0 q1 q2 q3
  rw [World.var?_cell gRules hvar, World.var?_cell gRules hvar, World.var?_cell gRules hvar, World.var?_cell gRules hvar, ← Array.getElem?_toList, ← Array.getElem?_toList, ← Array.getElem?_toList, ← Array.getElem?_toList, k0, k1, k2, m1]
  exact ⟨by simpa using q0, by simpa using q1, by simpa using q2, by simpa using q3⟩
theorem tyx_of {W : World} (hL : laidMet Tryz.prog laidAllTy W) : Tyx W :=
  ⟨tx_of (by have h := laidMet.filter (fun x => x.1 != "hopscotch/types.rules") hL; rw [laid_less] at h; exact h), rl_of hL⟩
section
variable {H : Type} {enc : TypeId × Value → H} {W : World}
end
end Go.Proofs.YtkgoikdppikkpaaGreatDoor
