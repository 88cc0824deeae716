/- Layer 6's reference: Of, walked: a number's digits, and its sign. -/
import Derived.Test.YtbeoobgnpcbnnaaDoorNuPlus
namespace Go.Proofs.YtbeoobgnpcbnnaaDoor
open Go.RowKit

theorem of_step (b : Bool) (r : Nat) : (sg b r).tmod 10 = sg b (r % 10) ∧ max (sg b (r % 10)) (-(sg b (r % 10))) = ((r % 10 : Nat) : Int) ∧ (sg b r).tdiv 10 = sg b (r / 10) := by
  cases b
  · refine ⟨?_, ?_, ?_⟩
    · show ((r : Int)).tmod 10 = _; rw [Int.tmod_eq_emod_of_nonneg (by omega)]; rfl
    · show max ((r % 10 : Nat) : Int) (-((r % 10 : Nat) : Int)) = _; omega
    · show ((r : Int)).tdiv 10 = _; rw [Int.tdiv_eq_ediv_of_nonneg (by omega)]; rfl
  · refine ⟨?_, ?_, ?_⟩
    · show (-(r : Int)).tmod 10 = _; rw [Int.neg_tmod, Int.tmod_eq_emod_of_nonneg (by omega)]; rfl
    · show max (-((r % 10 : Nat) : Int)) (-(-((r % 10 : Nat) : Int))) = _; omega
    · show (-(r : Int)).tdiv 10 = _; rw [Int.neg_tdiv, Int.tdiv_eq_ediv_of_nonneg (by omega)]; rfl
structure OfI (w : World) (b : Bool) (N r : Nat) (v : Value) (l : List Nat) (wr : World) : Prop where
  below : Below w.heap.size w wr
  blk : IsBlk wr (w.heap.size + 1) 40 #[v, .bool b]
  res : IsBlk wr w.heap.size 40 #[.slice none 0 0, .bool false]
  own : OwnD (w.heap.size + 2) wr v l
  eq : l ++ Nu.dig r = Nu.dig N
theorem OfI.next {w : World} {b : Bool} {N r : Nat} {v v' : Value} {l : List Nat} {wr w' : World} (h : OfI w b N r v l wr) (hr : r ≠ 0) (hb : Below (w.heap.size + 2) wr w') (ho : OwnD (w.heap.size + 2) w' v' (l ++ [r % 10])) :
    OfI w b N (r / 10) v' (l ++ [r % 10]) (w'.setCell ⟨w.heap.size + 1, 0, none⟩ v') := by
  have hs := h.blk.lt
  refine ⟨(h.below.trans (hb.mono (by omega))).setCell (p := ⟨_, 0, none⟩) (by show w.heap.size ≤ w.heap.size + 1; omega) _, (h.blk.below hb (by omega)).set 0 v', (h.res.below hb (by omega)).far (by show w.heap.size ≠ w.heap.size + 1; omega) _, ?_, ?_⟩
  · exact ownsRow_setCell_below ho (a := ⟨_, 0, none⟩) (by show w.heap.size + 1 < w.heap.size + 2; omega) _
  · rw [List.append_assoc, List.singleton_append, ← Nu.dig_pos hr]; exact h.eq
set_option maxHeartbeats 4000000 in
set_option maxRecDepth 100000 in
theorem of_any (w : World) (b : Bool) (N : Nat) (hf : Nu.fits (sg b N)) (hb0 : b = true → N ≠ 0) :
    Calls Tryd.prog 29 #[.int .i64 (sg b N)] w (LgP w (sg b N)) := by
  have hlt : decide (sg b N < 0) = b := by cases b with
    | true => exact decide_eq_true (by have := hb0 rfl; unfold sg; simp; omega)
    | false => exact decide_eq_false (by unfold sg; simp)
  have hNL : (Nu.dig N).length ≤ 100 := by
    refine Nat.le_trans (Nu.dig_len_le (n := N) (k := 19) ?_) (by decide)
    unfold Nu.fits sg at hf; cases b <;> simp at hf <;> omega
  obtain ⟨W0, hW0⟩ : ∃ W0, W0 = (w.alloc (.cells #[.slice none 0 0, .bool false] 40)).alloc (.cells #[.slice none 0 0, .bool b] 40) := ⟨_, rfl⟩
  have H0 := Lib.hid (show OfI w b N N (.slice none 0 0) [] W0 by
    have hb1 : Below w.heap.size w W0 := by rw [hW0]; exact ((Below.refl _ _).alloc (Nat.le_refl _) _).alloc (by simp) _
    refine ⟨hb1, ?_, ?_, ?_, rfl⟩
    · rw [hW0]
      have := IsBlk.new (w.alloc (.cells #[.slice none 0 0, .bool false] 40)) 40 #[.slice none 0 0, .bool b]
      rw [sz] at this
      exact this
    · rw [hW0]
      exact IsBlk.below (B := w.heap.size + 1) (IsBlk.new w _ _) ((Below.refl _ _).alloc (by simp) _) (by omega)
    · unfold OwnD; exact World.ownsRow_nil _ _ _ _)
  have HW0 := Lib.hid hW0
  have HNL := Lib.hid hNL
  obtain ⟨z0, hz0⟩ : ∃ z, z = sg b N := ⟨_, rfl⟩
  have HZ0 := Lib.hid hz0
  rw [← hz0] at hlt hf ⊢
  unfold Nu.fits at hf
  have hN : N ≤ 9223372036854775808 := by unfold sg at hz0; cases b <;> simp at hz0 <;> omega
  clear hz0 hW0 hb0 hNL
  go_enter Tryd.func29, Tryd.ntmps29
  go_wp2
  rw [← HW0.out]
  go_loopw [0] (fun zv wr => ∃ (r : Nat) (z : Int) (l : List Nat) (v : Value), zv = .int .i64 z ∧ r ≤ N ∧ Hid (z = sg b r ∧ OfI w b N r v l wr)) (fun zv _ => (intOf zv).natAbs)
  case atStart => exact ⟨N, z0, [], _, rfl, Nat.le_refl _, Lib.hid ⟨HZ0.out, H0.out⟩⟩
  case round =>
    obtain ⟨r, z, l, v, rfl, hr, HI⟩ := hrel
    obtain ⟨Av, cv, hv, _, _, _, _⟩ := own_slice HI.out.2.own
    subst hv
    have k0 := HI.out.2.blk.at_ 0
    have k1 := HI.out.2.blk.at_ 1
    have q0 := HI.out.2.res.at_ 0
    have q1 := HI.out.2.res.at_ 1
    have f0 := HI.out.2.blk.fz 0
    have g0 := HI.out.2.res.fz 0
    have g1 := HI.out.2.res.fz 1
    simp only [List.getElem?_toArray, List.getElem?_cons_zero, List.getElem?_cons_succ] at k0 k1 q0 q1
    have hzb : -9223372036854775808 ≤ z ∧ z ≤ 9223372036854775807 := by have h1 := HI.out.1; have h2 := HZ0.out; unfold sg at h1 h2; cases b <;> simp at h1 h2 <;> omega
    by_cases hr0 : r = 0
    · have hz : z = 0 := by have h1 := HI.out.1; unfold sg at h1; cases b <;> simp at h1 <;> omega
      subst hz hr0
      have HL := Lib.hid (show l = Nu.dig N from by have := HI.out.2.eq; rwa [Nu.dig_zero, List.append_nil] at this)
      have HR := Lib.hid (HI.out.2.own.dr).2
      have HB := Lib.hid HI.out.2.below
      have HQ := Lib.hid (show l.length = (Nu.dig N).length by rw [HL.out])
      clear f0
      go_wp2
      refine bodyPost_ret (v := .agg #[.slice Av l.length cv, .bool b]) (by simp [results, Tryd.results29, go_sem, q0, q1]) rfl ?_
      have hd := HR.out
      rw [HL.out] at hd
      exact ⟨Av, cv, b, N, by rw [HQ.out], hd.far q0 _ _, HZ0.out.symm, (HB.out.setCell (p := ⟨_, 0, none⟩) (Nat.le_refl _) _).setCell (p := ⟨_, 1, none⟩) (Nat.le_refl _) _⟩
    · have hz : ¬ z = 0 := by have h1 := HI.out.1; unfold sg at h1; cases b <;> simp at h1 <;> omega
      have hz' : (z != 0) = true := by simp [bne, hz]
      obtain ⟨s1, s2, s3⟩ := of_step b r
      rw [← HI.out.1] at s1 s3
      have HM := Lib.hid (show (sg b (r / 10)).natAbs < z.natAbs by rw [HI.out.1, sg_abs, sg_abs]; omega)
      obtain ⟨dz, hdz⟩ : ∃ d, d = sg b (r % 10) := ⟨_, rfl⟩
      obtain ⟨zq, hzq⟩ : ∃ q, q = sg b (r / 10) := ⟨_, rfl⟩
      have hdz9 : -10 < dz ∧ dz < 10 := by unfold sg at hdz; cases b <;> simp at hdz <;> omega
      rw [← hdz] at s1 s2
      rw [← hzq] at s3 HM
      have HZQ := Lib.hid hzq
      have hzqb : -9223372036854775808 ≤ zq ∧ zq ≤ 9223372036854775807 := by have h1 := HM.out; omega
      obtain ⟨d, hd⟩ : ∃ d, d = r % 10 := ⟨_, rfl⟩
      rw [← hd] at s2
      have HO := Lib.hid (show wr.ownsRow (w.heap.size + 2) 3 1 (.slice Av l.length cv) l.length (intsV l) from HI.out.2.own)
      have HNX := Lib.hid (fun v' w' hb ho => HI.out.2.next (v' := v') (w' := w') hr0 hb ho)
      rw [← hd] at HNX
      have HBK := Lib.hid HI.out.2.blk
      have hl10 : l.length ≤ 100 := by have h1 := HNL.out; rw [← HI.out.2.eq, List.length_append] at h1; omega
      have hws : w.heap.size + 2 ≤ wr.heap.size := by have := HI.out.2.blk.lt; omega
      have HR0 := Lib.hid (show r / 10 ≤ N by omega)
      clear hdz hzq hd hz hzb hr0 hr
      obtain ⟨i0, hi0, hz0, hz1, hz2⟩ := info_parts infoInt
      have hbig : l.length + 1 ≤ maxLen := by unfold maxLen; omega
      clear q0 q1 g0 g1
      go_wp2_with (at_builtin; (refine wpList_append_own _ rfl _ _ _ rfl (w.heap.size + 2) 3 i0 _ 1 8 Tryd.underlying38 hi0 hz0 hz1 hz2 rfl (by omega) (.slice Av l.length cv) l.length (intsV l) (by rfl) (by exact HO.out.alloc _) _ 1 _ [.int .i64 d] (by rfl) rfl (by intro j u hu; exact news_at _ _ _ _ (by simp) j u hu) (by intro u hu; simp at hu; subst hu; rfl) hbig (by omega) (by simp; omega) ?_); intro v3 w3 hown3 hgr3 _; obtain ⟨A3, c3, hv3, _, _, _, _⟩ := own_slice hown3; subst hv3; have B3 := Lib.hid (Below.grown ((Below.refl (w.heap.size + 2) wr).alloc hws _) hgr3 (by simp; omega) (fun k hk => (HO.out.lt k hk).1)); have H3 := Lib.hid hown3; have kb := HBK.out.below B3.out (by omega); have k0 := kb.at_ 0; have k1 := kb.at_ 1; have f0 := kb.fz 0; clear kb hown3 hgr3; simp only [List.getElem?_toArray, List.getElem?_cons_zero, List.getElem?_cons_succ] at k0 k1)
      go_roundw
      case rel =>
        refine ⟨r / 10, zq, l ++ [d], .slice A3 (l.length + 1) c3, rfl, HR0.out, Lib.hid ⟨HZQ.out, HNX.out _ _ B3.out ?_⟩⟩
        unfold OwnD
        rw [List.length_append, ← intsV_snoc]
        exact H3.out
      case measure => have := HM.out; simpa [intOf] using this
end Go.Proofs.YtbeoobgnpcbnnaaDoor
