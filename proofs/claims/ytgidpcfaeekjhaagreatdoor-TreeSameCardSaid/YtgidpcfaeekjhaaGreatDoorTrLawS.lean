/- The statement TreeSame, walked: it answers true. Conditions: the tables hold what their texts lay; internal/bytealg.MaxLen holds a number; the two rows of nodes read as told; no length is larger than 2^47 (2^43 attributes). -/
import Derived.Test.YtgidpcfaeekjhaaGreatDoorTrWorks
import Derived.Test.YtgidpcfaeekjhaaGreatDoorTrLsame
namespace Go.Proofs.YtgidpcfaeekjhaaGreatDoor
open Go.RowKit Go.Shelf

set_option maxHeartbeats 4000000 in
set_option maxRecDepth 100000 in
theorem lsame_ne (w : World) (A A2 : Option Addr) (c c2 n m : Nat) (f : Bool) (h : n ≠ m) :
    Calls Tryz.prog 10 #[.agg #[.slice A n c], .agg #[.slice A2 m c2], .bool f] w fun e w' => e = .returned (.bool false) ∧ Below w.heap.size w w' := by
  have hn : ((n : Int) == (m : Int)) = false := beq_eq_false_iff_ne.2 (by omega)
  have hn' : ((n : Int) != (m : Int)) = true := by simp [bne, hn]
  have HB := Lib.hid (((Below.refl w.heap.size w).alloc (Nat.le_refl _) (.cells #[.slice A n c] 25)).alloc (by simp) (.cells #[.slice A2 m c2] 25))
  go_enter Tryz.func10, Tryz.ntmps10
  go_wp2
  go_ret
  exact ⟨rfl, HB.out⟩
theorem lsame_all (w : World) (A A2 : Option Addr) (c c2 Ba Bb : Nat) (pa pb : List (Tr.N × Value)) (ha : NRow Ba w (.slice A pa.length c) pa) (hb : NRow Bb w (.slice A2 pb.length c2) pb) (hn : pa.length ≤ 1048576) :
    Calls Tryz.prog 10 #[.agg #[.slice A pa.length c], .agg #[.slice A2 pb.length c2], .bool false] w fun e w' => e = .returned (.bool (Tr.same (pa.map (·.1)) (pb.map (·.1)))) ∧ Below w.heap.size w w' := by
  by_cases h : pa.length = pb.length
  · exact lsame_any w A A2 c c2 Ba Bb pa pb ha hb hn h
  · rw [Tr.same_len (by rw [List.length_map, List.length_map]; exact h)]
    exact lsame_ne w A A2 c c2 _ _ false h
/-- What stays while the law goes on. -/
structure TsI (w : World) (A : Option Addr) (c : Nat) (xs : List Nd) (A2 : Option Addr) (c2 : Nat) (ys : List Nd) (wx : World) : Prop where
  tb : Tb wx
  mx : Mx wx
  ra : ReadsNd wx wx.heap.size A xs
  rb : ReadsNd wx wx.heap.size A2 ys
  b1 : IsBlk wx w.heap.size 31 #[.slice A xs.length c]
  b2 : IsBlk wx (w.heap.size + 1) 31 #[.slice A2 ys.length c2]
  bl : Below w.heap.size w wx
theorem TsI.on {w : World} {A A2 : Option Addr} {c c2 : Nat} {xs ys : List Nd} {wx wy : World} (h : TsI w A c xs A2 c2 ys wx) (hb : Below wx.heap.size wx wy) : TsI w A c xs A2 c2 ys wy :=
  ⟨h.tb.below hb (Nat.le_refl _), h.mx.below hb, (h.ra.below hb).more hb.size, (h.rb.below hb).more hb.size, h.b1.below hb h.b1.lt, h.b2.below hb h.b2.lt, h.bl.trans (hb.mono h.bl.size)⟩
set_option maxHeartbeats 8000000 in
set_option maxRecDepth 100000 in
theorem lawTSame (w : World) (T : Tb w) (hmx : Mx w) (A A2 : Option Addr) (c c2 : Nat) (xs ys : List Nd) (hl1 : xs.length ≤ c) (hl2 : ys.length ≤ c2) (hc1 : c ≤ maxLen) (hc2 : c2 ≤ maxLen) (h1 : ReadsNd w w.heap.size A xs) (h2 : ReadsNd w w.heap.size A2 ys) (hx : ∀ x ∈ xs, NdBig x) (hy : ∀ x ∈ ys, NdBig x) :
    Calls Tryz.prog 5 #[.agg #[.slice A xs.length c], .agg #[.slice A2 ys.length c2]] w fun e w' => e = .returned (.bool true) ∧ Below w.heap.size w w' := by
  obtain ⟨W1, hW1⟩ : ∃ W1, W1 = (w.alloc (.cells #[.slice A xs.length c] 31)).alloc (.cells #[.slice A2 ys.length c2] 31) := ⟨_, rfl⟩
  have hz : (w.alloc (.cells #[.slice A xs.length c] 31)).heap.size = w.heap.size + 1 := by simp
  have hb1 : Below w.heap.size w W1 := by rw [hW1]; exact ((Below.refl _ _).alloc (Nat.le_refl _) _).alloc (by simp) _
  have HI1 := Lib.hid (show TsI w A c xs A2 c2 ys W1 from ⟨T.below hb1 (Nat.le_refl _), hmx.below hb1, (h1.below hb1).more hb1.size, (h2.below hb1).more hb1.size, by rw [hW1]; exact (IsBlk.new w _ _).below ((Below.refl _ _).alloc (Nat.le_refl _) _) (by simp), by rw [hW1, ← hz]; exact IsBlk.new _ _ _, hb1⟩)
  have HWK := Lib.hid (fun wx (h : TsI w A c xs A2 c2 ys wx) => works_tr wx h.tb h.mx)
  have HF1 := Lib.hid (fun wx (h : TsI w A c xs A2 c2 ys wx) => few_any wx A c xs hl1 hc1 h.ra hx)
  have HF2 := Lib.hid (fun wx (h : TsI w A c xs A2 c2 ys wx) => few_any wx A2 c2 ys hl2 hc2 h.rb hy)
  have HS := Lib.hid (fun wx (h : TsI w A c xs A2 c2 ys wx) => tsame_any wx A A2 c c2 xs ys hl1 hl2 hc1 hc2 h.ra h.rb)
  have HSS := Lib.hid (fun wx (h : TsI w A c xs A2 c2 ys wx) => tsame_any wx A A c c xs xs hl1 hl1 hc1 hc1 h.ra h.ra)
  rw [Tr.same_refl] at HSS
  have HR1 := Lib.hid (fun wx (h : TsI w A c xs A2 c2 ys wx) (hn : xs.length ≤ 60) (hf : ∀ x ∈ xs, NdFit x) => ref_any wx A c xs hl1 (by omega) h.ra hf)
  have HR2 := Lib.hid (fun wx (h : TsI w A c xs A2 c2 ys wx) (hn : ys.length ≤ 60) (hf : ∀ x ∈ ys, NdFit x) => ref_any wx A2 c2 ys hl2 (by omega) h.rb hf)
  have HE1 := Lib.hid hW1
  have x0 : W1.cell? ⟨w.heap.size, 0, none⟩ = some (.slice A xs.length c) := HI1.out.b1.at_ 0
  have x1 : W1.cell? ⟨w.heap.size + 1, 0, none⟩ = some (.slice A2 ys.length c2) := HI1.out.b2.at_ 0
  rw [hW1] at x0 x1
  clear hW1 hz hb1 T hmx hl1 hl2 hc1 hc2 h1 h2 hx hy
  go_enter Tryz.func5, Tryz.ntmps5
  go_wp2_with fail
  rw [← HE1.out]
  refine (HF1.out W1 HI1.out).mono ?_
  rintro e w2 ⟨b1, rfl, hb1, h2⟩
  have HI2 := Lib.hid (HI1.out.on h2)
  have HB1 := Lib.hid hb1
  clear h2 hb1 x0 x1
  cases b1 with
  | false =>
    go_wp2_with fail
    refine (HWK.out _ HI2.out).mono ?_
    rintro e wz ⟨rfl, hz⟩
    have BZ := Lib.hid (HI2.out.on hz).bl
    clear hz
    go_wp2
    go_ret
    exact ⟨rfl, BZ.out⟩
  | true =>
    have y1 : w2.cell? ⟨w.heap.size + 1, 0, none⟩ = some (.slice A2 ys.length c2) := HI2.out.b2.at_ 0
    go_wp2_with fail
    refine (HF2.out w2 HI2.out).mono ?_
    rintro e w3 ⟨b2, rfl, hb2, h3⟩
    have HI3 := Lib.hid (HI2.out.on h3)
    have HB2 := Lib.hid hb2
    clear h3 hb2 y1
    cases b2 with
    | false =>
      go_wp2_with fail
      refine (HWK.out _ HI3.out).mono ?_
      rintro e wz ⟨rfl, hz⟩
      have BZ := Lib.hid (HI3.out.on hz).bl
      clear hz
      go_wp2
      go_ret
      exact ⟨rfl, BZ.out⟩
    | true =>
      have HX := Lib.hid (HB1.out (by trivial))
      have HY := Lib.hid (HB2.out (by trivial))
      have z0 : w3.cell? ⟨w.heap.size, 0, none⟩ = some (.slice A xs.length c) := HI3.out.b1.at_ 0
      have z1 : w3.cell? ⟨w.heap.size + 1, 0, none⟩ = some (.slice A2 ys.length c2) := HI3.out.b2.at_ 0
      obtain ⟨sb, hsb⟩ : ∃ b, b = Tr.same (xs.map Nd.n) (ys.map Nd.n) := ⟨_, rfl⟩
      rw [← hsb] at HS
      have HSB := Lib.hid hsb
      clear hsb
      go_wp2_with fail
      refine wp_region_held_drew (S := (fun w' => w'.cell? ⟨w.heap.size, 0, none⟩ = some (.slice A xs.length c) ∧ w'.cell? ⟨w.heap.size + 1, 0, none⟩ = some (.slice A2 ys.length c2))) (by kernel_rfl) ⟨z0, z1⟩ (fun hHeld => ?_)
      have HI4 := Lib.hid (HI3.out.on (Below.refl w3.heap.size w3).drew)
      refine wpAnyH_take (i := 0) (v := (.agg #[.slice A xs.length c])) rfl (by kernel_rfl) (by kernel_rfl) (by kernel_rfl) (fun _ _ _ h => h) (Or.inl ⟨by rfl, by (intro w hS; obtain ⟨s0, s1⟩ := hS; go_simp)⟩) hHeld ?_
      try simp only [Act.put, List.getElem_toArray, List.getElem_cons_zero, List.setIfInBounds_toArray, List.set_cons_zero, List.set_cons_succ]
      refine wpAnyH_take (i := 1) (v := (.agg #[.slice A2 ys.length c2])) rfl (by kernel_rfl) (by kernel_rfl) (by kernel_rfl) (fun _ _ _ h => h) (Or.inl ⟨by rfl, by (intro w hS; try (obtain ⟨s0, s1⟩ := hS); go_simp)⟩) hHeld ?_
      try simp only [Act.put, List.getElem_toArray, List.getElem_cons_succ, List.getElem_cons_zero, List.setIfInBounds_toArray, List.set_cons_zero, List.set_cons_succ]
      refine wpAnyH_take (i := 3) (v := (.agg #[.slice A xs.length c])) rfl (by kernel_rfl) (by kernel_rfl) (by kernel_rfl) (fun _ _ _ h => h) (Or.inl ⟨by rfl, by (intro w hS; try (obtain ⟨s0, s1⟩ := hS); go_simp)⟩) hHeld ?_
      try simp only [Act.put, List.getElem_toArray, List.getElem_cons_succ, List.getElem_cons_zero, List.setIfInBounds_toArray, List.set_cons_zero, List.set_cons_succ]
      refine wpAnyH_take (i := 5) (v := (.agg #[.slice A2 ys.length c2])) rfl (by kernel_rfl) (by kernel_rfl) (by kernel_rfl) (fun _ _ _ h => h) (Or.inl ⟨by rfl, by (intro w hS; try (obtain ⟨s0, s1⟩ := hS); go_simp)⟩) hHeld ?_
      try simp only [Act.put, List.getElem_toArray, List.getElem_cons_succ, List.getElem_cons_zero, List.setIfInBounds_toArray, List.set_cons_zero, List.set_cons_succ]
      refine wpAnyH_ready (rs := [2]) (by kernel_rfl) (by simp) ?_
      refine AllReadyH.cons rfl (fun K hK => ?_) AllReadyH.nil
      try simp only [List.getElem_toArray, List.getElem_cons_succ, List.getElem_cons_zero]
      go_simp
      refine (HS.out _ HI4.out).mono ?_
      rintro e w5 ⟨rfl, h5⟩
      have HI5 := Lib.hid (HI4.out.on h5)
      clear h5
      refine hK.out _ _ ⟨HI5.out.b1.at_ 0, HI5.out.b2.at_ 0⟩ (fun hHeld => ?_)
      clear hK K
      try simp only [Act.put, List.getElem_toArray, List.getElem_cons_succ, List.getElem_cons_zero, List.setIfInBounds_toArray, List.set_cons_zero, List.set_cons_succ]
      refine wpAnyH_ready (rs := [4]) (by kernel_rfl) (by simp) ?_
      refine AllReadyH.cons rfl (fun K hK => ?_) AllReadyH.nil
      try simp only [List.getElem_toArray, List.getElem_cons_succ, List.getElem_cons_zero]
      go_simp
      refine (HR1.out _ HI5.out HX.out.1 (fit_of_few HX.out.2)).mono ?_
      rintro e w6 ⟨v6, p6, rfl, hr6, hm6, h6⟩
      obtain ⟨A6, c6, hv6, _, _, _⟩ := own_sliced hr6.own
      subst hv6
      have HI6 := Lib.hid (HI5.out.on h6)
      have HP6 := Lib.hid (And.intro hr6 hm6)
      clear h6 hr6 hm6
      refine hK.out _ _ ⟨HI6.out.b1.at_ 0, HI6.out.b2.at_ 0⟩ (fun hHeld => ?_)
      clear hK K
      try simp only [Act.put, List.getElem_toArray, List.getElem_cons_succ, List.getElem_cons_zero, List.setIfInBounds_toArray, List.set_cons_zero, List.set_cons_succ]
      refine wpAnyH_ready (rs := [6]) (by kernel_rfl) (by simp) ?_
      refine AllReadyH.cons rfl (fun K hK => ?_) AllReadyH.nil
      try simp only [List.getElem_toArray, List.getElem_cons_succ, List.getElem_cons_zero]
      go_simp
      refine (HR2.out _ HI6.out HY.out.1 (fit_of_few HY.out.2)).mono ?_
      rintro e w7 ⟨v7, p7, rfl, hr7, hm7, h7⟩
      obtain ⟨A7, c7, hv7, _, _, _⟩ := own_sliced hr7.own
      subst hv7
      have HI7 := Lib.hid (HI6.out.on h7)
      have HLS := Lib.hid (lsame_all w7 A6 A7 c6 c7 _ _ p6 p7 (HP6.out.1.below h7) hr7 (by
        have h1 := congrArg List.length HP6.out.2
        rw [List.length_map, List.length_map] at h1
        have := HX.out.1
        omega))
      rw [HP6.out.2, hm7, ← HSB.out] at HLS
      clear h7 hr7 hm7
      refine hK.out _ _ ⟨HI7.out.b1.at_ 0, HI7.out.b2.at_ 0⟩ (fun hHeld => ?_)
      clear hK K
      try simp only [Act.put, List.getElem_toArray, List.getElem_cons_succ, List.getElem_cons_zero, List.setIfInBounds_toArray, List.set_cons_zero, List.set_cons_succ]
      refine wpAnyH_ready (rs := [7]) (by kernel_rfl) (by simp) ?_
      refine AllReadyH.cons rfl (fun K hK => ?_) AllReadyH.nil
      try simp only [List.getElem_toArray, List.getElem_cons_succ, List.getElem_cons_zero]
      go_simp
      refine HLS.out.mono ?_
      rintro e w8 ⟨rfl, h8⟩
      have HI8 := Lib.hid (HI7.out.on h8)
      clear h8
      refine hK.out _ _ ⟨HI8.out.b1.at_ 0, HI8.out.b2.at_ 0⟩ (fun hHeld => ?_)
      clear hK K
      try simp only [Act.put, List.getElem_toArray, List.getElem_cons_succ, List.getElem_cons_zero, List.setIfInBounds_toArray, List.set_cons_zero, List.set_cons_succ]
      refine wpAnyH_take (i := 8) (v := (.bool true)) rfl (by kernel_rfl) (by kernel_rfl) (by kernel_rfl) (fun _ _ _ h => h) (Or.inl ⟨by rfl, by (intro w hS; try (obtain ⟨s0, s1⟩ := hS); go_simp)⟩) hHeld ?_
      try simp only [Act.put, List.getElem_toArray, List.getElem_cons_succ, List.getElem_cons_zero, List.setIfInBounds_toArray, List.set_cons_zero, List.set_cons_succ]
      refine wpAnyH_take (i := 9) (v := (.bool true)) rfl (by kernel_rfl) (by kernel_rfl) (by kernel_rfl) (fun _ _ _ h => h) (Or.inl ⟨by rfl, by (intro w hS; try (obtain ⟨s0, s1⟩ := hS); go_simp)⟩) hHeld ?_
      try simp only [Act.put, List.getElem_toArray, List.getElem_cons_succ, List.getElem_cons_zero, List.setIfInBounds_toArray, List.set_cons_zero, List.set_cons_succ]
      refine wpAnyH_take (i := 10) (v := (.agg #[.slice A xs.length c])) rfl (by kernel_rfl) (by kernel_rfl) (by kernel_rfl) (fun _ _ _ h => h) (Or.inl ⟨by rfl, by (intro w hS; try (obtain ⟨s0, s1⟩ := hS); go_simp)⟩) hHeld ?_
      try simp only [Act.put, List.getElem_toArray, List.getElem_cons_succ, List.getElem_cons_zero, List.setIfInBounds_toArray, List.set_cons_zero, List.set_cons_succ]
      refine wpAnyH_take (i := 11) (v := (.agg #[.slice A xs.length c])) rfl (by kernel_rfl) (by kernel_rfl) (by kernel_rfl) (fun _ _ _ h => h) (Or.inl ⟨by rfl, by (intro w hS; try (obtain ⟨s0, s1⟩ := hS); go_simp)⟩) hHeld ?_
      try simp only [Act.put, List.getElem_toArray, List.getElem_cons_succ, List.getElem_cons_zero, List.setIfInBounds_toArray, List.set_cons_zero, List.set_cons_succ]
      refine wpAnyH_ready (rs := [12]) (by kernel_rfl) (by simp) ?_
      refine AllReadyH.cons rfl (fun K hK => ?_) AllReadyH.nil
      try simp only [List.getElem_toArray, List.getElem_cons_succ, List.getElem_cons_zero]
      go_simp
      refine (HSS.out _ HI8.out).mono ?_
      rintro e w9 ⟨rfl, h9⟩
      have HI9 := Lib.hid (HI8.out.on h9)
      clear h9
      refine hK.out _ _ ⟨HI9.out.b1.at_ 0, HI9.out.b2.at_ 0⟩ (fun hHeld => ?_)
      clear hK K
      try simp only [Act.put, List.getElem_toArray, List.getElem_cons_succ, List.getElem_cons_zero, List.setIfInBounds_toArray, List.set_cons_zero, List.set_cons_succ]
      refine wpAnyH_take (i := 13) (v := (.bool true)) rfl (by kernel_rfl) (by kernel_rfl) (by kernel_rfl) (fun _ _ _ h => h) (Or.inl ⟨by rfl, by (intro w hS; try (obtain ⟨s0, s1⟩ := hS); go_simp)⟩) hHeld ?_
      try simp only [Act.put, List.getElem_toArray, List.getElem_cons_succ, List.getElem_cons_zero, List.setIfInBounds_toArray, List.set_cons_zero, List.set_cons_succ]
      refine wpAnyH_take (i := 14) (v := (.bool true)) rfl (by kernel_rfl) (by kernel_rfl) (by kernel_rfl) (fun _ _ _ h => h) (Or.inl ⟨by rfl, by (intro w hS; try (obtain ⟨s0, s1⟩ := hS); go_simp)⟩) hHeld ?_
      try simp only [Act.put, List.getElem_toArray, List.getElem_cons_succ, List.getElem_cons_zero, List.setIfInBounds_toArray, List.set_cons_zero, List.set_cons_succ]
      refine wpAnyH_ready (rs := [15]) (by kernel_rfl) (by simp) ?_
      refine AllReadyH.cons rfl (fun K hK => ?_) AllReadyH.nil
      try simp only [List.getElem_toArray, List.getElem_cons_succ, List.getElem_cons_zero]
      go_simp
      refine (HWK.out _ HI9.out).mono ?_
      rintro e w10 ⟨rfl, h10⟩
      have HI10 := Lib.hid (HI9.out.on h10)
      clear h10
      refine hK.out _ _ ⟨HI10.out.b1.at_ 0, HI10.out.b2.at_ 0⟩ (fun hHeld => ?_)
      clear hK K
      try simp only [Act.put, List.getElem_toArray, List.getElem_cons_succ, List.getElem_cons_zero, List.setIfInBounds_toArray, List.set_cons_zero, List.set_cons_succ]
      refine wpAnyH_take (i := 16) (v := (.bool true)) rfl (by kernel_rfl) (by kernel_rfl) (by kernel_rfl) (fun _ _ _ h => h) (Or.inl ⟨by rfl, by (intro w hS; try (obtain ⟨s0, s1⟩ := hS); go_simp)⟩) hHeld ?_
      try simp only [Act.put, List.getElem_toArray, List.getElem_cons_succ, List.getElem_cons_zero, List.setIfInBounds_toArray, List.set_cons_zero, List.set_cons_succ]
      refine wpAnyH_take (i := 17) (v := (.bool true)) rfl (by kernel_rfl) (by kernel_rfl) (by kernel_rfl) (fun _ _ _ h => h) (Or.inl ⟨by rfl, by (intro w hS; try (obtain ⟨s0, s1⟩ := hS); go_simp)⟩) hHeld ?_
      try simp only [Act.put, List.getElem_toArray, List.getElem_cons_succ, List.getElem_cons_zero, List.setIfInBounds_toArray, List.set_cons_zero, List.set_cons_succ]
      refine wpAnyH_done (by kernel_rfl) ?_ _
      clear hHeld z0 z1
      go_wp2
      go_ret
      exact ⟨rfl, HI10.out.bl⟩
end Go.Proofs.YtgidpcfaeekjhaaGreatDoor
