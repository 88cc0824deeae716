/- Layer 7's statements: LexCuts, walked, from what the package's functions answer. Conditions: they do, in every world of a kind that stays. -/
import Derived.Test.YtbihkigpmgipcaaDoorLxWorks
import Derived.Test.YtbihkigpmgipcaaDoorLxBack
namespace Go.Proofs.YtbihkigpmgipcaaDoor
open Go.RowKit

theorem own_put {w : World} {B : Nat} {e : TypeId} {size g n c : Nat} {xs : List Value} (h : w.ownsRow B e size (.slice (some ⟨g, 0, none⟩) n c) n xs) (o : Nat) (u : Value) : ∃ ys, (w.setCell ⟨g, o, none⟩ u).ownsRow B e size (.slice (some ⟨g, 0, none⟩) n c) n ys ∧ ys.length = xs.length := ⟨xs.set o u, (h.stored o u).1, by simp⟩
theorem own_at {w : World} {B : Nat} {e : TypeId} {size g n c : Nat} {xs : List Value} (h : w.ownsRow B e size (.slice (some ⟨g, 0, none⟩) n c) n xs) {j : Nat} (hj : j < xs.length) : (∃ u, w.cell? ⟨g, j, none⟩ = some u) ∧ w.frozen? ⟨g, j, none⟩ = false := by
  refine ⟨⟨xs[j], ?_⟩, ?_⟩
  · have := h.cells (g := g) rfl j xs[j] (List.getElem?_eq_getElem hj)
    have hadd : (⟨g, 0, none⟩ : Addr).add j = ⟨g, j, none⟩ := by unfold Addr.add; split <;> simp_all
    rwa [hadd] at this
  · rcases h.2 with ⟨h1, _⟩ | ⟨g', cap', cur, h1, _, h3, _⟩
    · cases h1
    · injection h1 with h1
      injection h1 with h1
      injection h1 with h1
      subst h1
      exact Lib.frozen_of_heap h3 j
theorem fm_len : ∀ l : List Lx.T, (l.flatMap tkV).length = l.length * 3
  | [] => rfl
  | t :: r => by rw [List.flatMap_cons, List.length_append, fm_len r, List.length_cons]; show 3 + _ = _; omega
theorem sum_len : ∀ l : List Lx.T, l.length ≤ (l.map fun t => t.tx.length + 1).sum
  | [] => Nat.le_refl _
  | t :: r => by have := sum_len r; simp only [List.map_cons, List.sum_cons, List.length_cons]; omega
theorem toks_count (l : List UInt8) : (Lx.toks l).1.length ≤ 131072 := by
  by_cases h : l.length ≤ 65536
  · rw [Lx.toks_C h]
    have h1 := Lx.C_sum _ (l.drop (Lx.blk false l)) (Lx.blk false l) (Nat.le_refl _)
    have h2 := sum_len (Lx.C (l.drop (Lx.blk false l)) (Lx.blk false l)).1
    rw [List.length_drop] at h1
    omega
  · unfold Lx.toks; rw [if_pos (by omega)]; exact Nat.zero_le _
set_option maxHeartbeats 8000000 in
set_option maxRecDepth 100000 in
theorem cuts_any {I : World → Prop} (K : Kind7 I) (s : ByteArray) (w : World) (hs : s.size ≤ maxLen) (hI : I w) :
    Calls Tryd.prog 3 #[.string s] w fun e w' => e = .returned (.bool true) ∧ Below w.heap.size w w' := by
  have HK := Lib.hid K
  have HIw := Lib.hid hI
  have HS := Lib.hid hs
  clear K hI
  by_cases h1 : 600 < s.size ∧ s.size ≤ 65536
  · have h1a : (s.size : Int) > 600 := by omega
    have h1b : (s.size : Int) ≤ 65536 := by omega
    clear h1
    go_enter Tryd.func3, Tryd.ntmps3
    go_wp2_with fail
    refine (works_any HK.out _ HIw.out).mono ?_
    rintro e wz ⟨rfl, hz⟩
    go_wp2
    go_ret
    exact ⟨rfl, hz⟩
  · have hg : ((s.size : Int) ≤ 600) ∨ ((s.size : Int) > 600 ∧ ¬ (s.size : Int) ≤ 65536) := by omega
    have HCN := Lib.hid (toks_count s.data.toList)
    have HR := Lib.hid (fun w0 => rtoks_any s w0)
    have HT := Lib.hid (fun w0 (i0 : I w0) => HK.out.toks s w0 HS.out i0)
    generalize Lx.toks s.data.toList = R at *
    obtain ⟨L, m, f⟩ := R
    have HCN' := HCN.out
    simp only at HCN'
    have em : ((m : Int) != (m : Int)) = false := by simp
    have ef : (f != f) = false := by simp
    clear h1 hs
    rcases hg with hg | ⟨hg, hg2⟩
    all_goals
      go_enter Tryd.func3, Tryd.ntmps3
      go_wp2_with fail
      refine (HR.out _).mono ?_
      rintro e w1 ⟨v, own1, rfl, b1⟩
      simp only at own1
      obtain ⟨A1, c1, rfl, _⟩ := own_slice own1
      obtain ⟨rd1, lc1, _⟩ := own_rd own1 rfl
      have HB1 := Lib.hid b1
      have HRD := Lib.hid rd1
      clear own1 b1 rd1
      go_wp2
      go_loopw [6] (fun i wr => ∃ k : Nat, i = .int .i64 k ∧ k ≤ 2 ∧ Hid (Below w1.heap.size w1 wr)) (fun i _ => 2 - (intOf i).toNat)
      case atStart => exact ⟨0, rfl, by omega, Lib.hid (Below.refl _ _)⟩
      case round =>
        obtain ⟨k, rfl, hk, HB⟩ := hrel
        by_cases hlt : k < 2
        · have hlt' : (k : Int) < 2 := by omega
          have HIr := Lib.hid (HK.out.stays _ _ HIw.out (HB1.out.trans (HB.out.mono HB1.out.size)))
          go_wp2_with fail
          refine (HT.out _ HIr.out).mono ?_
          rintro e w2 ⟨A2, c2, own2, rfl, b2⟩
          simp only at own2
          obtain ⟨rd2, lc2, _⟩ := own_rd own2 rfl
          have HB2 := Lib.hid (And.intro (HB.out.trans (b2.mono HB.out.size)) own2)
          have rd1' := HRD.out.below (HB2.out.1)
          have HSM := Lib.hid (same_yes w2 A2 A1 c2 c1 L rd2 (fun h0 => by
            obtain ⟨g, o, e1, e2, e3⟩ := rd1' h0
            exact ⟨g, o, e1, Nat.lt_of_lt_of_le e2 HB2.out.1.size, e3⟩) lc2 lc1 (by omega))
          have hbs := HB.out.size
          clear b2 own2 rd2 rd1'
          go_wp2_with fail
          refine HSM.out.mono ?_
          rintro e w3 ⟨rfl, b3⟩
          have HW := Lib.hid (show Below w1.heap.size w1 w3 ∧ ∃ xs, w3.ownsRow w1.heap.size 32 3 (.slice A2 L.length c2) L.length xs ∧ xs.length = L.length * 3 from ⟨HB2.out.1.trans (b3.mono HB2.out.1.size), _, own_less (own_below HB2.out.2 b3) hbs, fm_len L⟩)
          clear b3 HB2 HSM HB
          go_wp2
          go_loopw [10] (fun i wr => ∃ j : Nat, i = .int .i64 j ∧ j ≤ L.length ∧ Hid (Below w1.heap.size w1 wr ∧ ∃ xs, wr.ownsRow w1.heap.size 32 3 (.slice A2 L.length c2) L.length xs ∧ xs.length = L.length * 3)) (fun i _ => L.length - (intOf i).toNat)
          case atStart => exact ⟨0, rfl, Nat.zero_le _, HW⟩
          case round =>
            obtain ⟨j, rfl, hj, HJ⟩ := hrel
            by_cases hjl : j < L.length
            · have hjl' : (j : Int) < (L.length : Int) := by omega
              obtain ⟨hb, xs, ho, hx⟩ := HJ.out
              obtain ⟨A3, c3, e3, hA3, _⟩ := own_slice ho
              injection e3 with e3 _ e4
              subst e3 e4
              obtain ⟨g, rfl, hg1, hg2, _⟩ := hA3 (by omega)
              have HHO := Lib.hid ho
              obtain ⟨⟨u0, x0⟩, f0⟩ := own_at ho (j := j * 3) (by omega)
              obtain ⟨⟨u1, x1⟩, f1⟩ := own_at ho (j := j * 3 + 1) (by omega)
              obtain ⟨⟨u2, x2⟩, f2⟩ := own_at ho (j := j * 3 + 2) (by omega)
              have HN := Lib.hid (fun a b c => show Below w1.heap.size w1 (((wr.setCell ⟨g, j * 3, none⟩ a).setCell ⟨g, j * 3 + 1, none⟩ b).setCell ⟨g, j * 3 + 2, none⟩ c) ∧ ∃ xs, (((wr.setCell ⟨g, j * 3, none⟩ a).setCell ⟨g, j * 3 + 1, none⟩ b).setCell ⟨g, j * 3 + 2, none⟩ c).ownsRow w1.heap.size 32 3 (.slice (some ⟨g, 0, none⟩) L.length c2) L.length xs ∧ xs.length = L.length * 3 from by
                refine ⟨((hb.setCell (p := ⟨g, _, none⟩) hg2 _).setCell (p := ⟨g, _, none⟩) hg2 _).setCell (p := ⟨g, _, none⟩) hg2 _, ?_⟩
                obtain ⟨y1, o1, l1⟩ := own_put HHO.out (j * 3) a
                obtain ⟨y2, o2, l2⟩ := own_put o1 (j * 3 + 1) b
                obtain ⟨y3, o3, l3⟩ := own_put o2 (j * 3 + 2) c
                exact ⟨y3, o3, by omega⟩)
              clear hb ho
              go_wp2
              go_roundw
              case rel => exact ⟨j + 1, by go_num, hjl, Lib.hid (HN.out _ _ _)⟩
              case measure => simp [intOf]; omega
            · obtain rfl : j = L.length := by omega
              have hjl' : ¬ (L.length : Int) < (L.length : Int) := by omega
              clear hjl
              go_wp2
              go_roundw
              case rel => exact ⟨k + 1, by go_num, hlt, Lib.hid HJ.out.1⟩
              case measure => simp [intOf]; omega
        · obtain rfl : k = 2 := by omega
          have HIr := Lib.hid (HK.out.stays _ _ HIw.out (HB1.out.trans (HB.out.mono HB1.out.size)))
          go_wp2_with fail
          refine (works_any HK.out _ HIr.out).mono ?_
          rintro e wz ⟨rfl, hz⟩
          go_wp2
          go_ret
          exact ⟨rfl, (HB1.out.trans (HB.out.mono HB1.out.size)).trans (hz.mono (HB1.out.trans (HB.out.mono HB1.out.size)).size)⟩
end Go.Proofs.YtbihkigpmgipcaaDoor
