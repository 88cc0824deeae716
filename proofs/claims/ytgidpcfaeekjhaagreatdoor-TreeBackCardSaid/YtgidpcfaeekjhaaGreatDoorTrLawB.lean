/- The statement TreeBack, walked: it answers true. Conditions: the tables hold what their texts lay; internal/bytealg.MaxLen holds a number; the row of nodes reads as told; no length is larger than 2^47 (2^43 attributes). -/
import Derived.Test.YtgidpcfaeekjhaaGreatDoorTrLsAll
import Derived.Test.YtgidpcfaeekjhaaGreatDoorTrBackP
namespace Go.Proofs.YtgidpcfaeekjhaaGreatDoor
open Go.RowKit Go.Shelf

/-- What stays while the law goes on: the tree asked about lies in its box. -/
structure BkI (w : World) (p : Nat) (A : Option Addr) (c : Nat) (zs : List Nd) (wx : World) : Prop where
  tb : Tb wx
  mx : Mx wx
  rd : ReadsNd wx wx.heap.size A zs
  bx : IsBlk wx p 31 #[.slice A zs.length c]
  bl : Below w.heap.size w wx
theorem BkI.on {w : World} {p : Nat} {A : Option Addr} {c : Nat} {zs : List Nd} {wx wy : World} (h : BkI w p A c zs wx) (hb : Below wx.heap.size wx wy) : BkI w p A c zs wy :=
  ⟨h.tb.below hb (Nat.le_refl _), h.mx.below hb, (h.rd.below hb).more hb.size, h.bx.below hb h.bx.lt, h.bl.trans (hb.mono h.bl.size)⟩
/-- .. and the tree that was parsed again. -/
structure BkJ (w : World) (p : Nat) (A : Option Addr) (c : Nat) (zs : List Nd) (p2 : Nat) (A2 : Option Addr) (c2 : Nat) (ys : List Nd) (wx : World) : Prop where
  i : BkI w p A c zs wx
  j : BkI w p2 A2 c2 ys wx
theorem BkJ.on {w : World} {p p2 : Nat} {A A2 : Option Addr} {c c2 : Nat} {zs ys : List Nd} {wx wy : World} (h : BkJ w p A c zs p2 A2 c2 ys wx) (hb : Below wx.heap.size wx wy) : BkJ w p A c zs p2 A2 c2 ys wy := ⟨h.i.on hb, h.j.on hb⟩
theorem fit_same {xs ys : List Nd} (h : ∀ x ∈ xs, NdFit x) (hs : Tr.same (xs.map Nd.n) (ys.map Nd.n) = true) : ∀ y ∈ ys, NdFit y := by
  obtain ⟨h1, h2⟩ := Tr.same_iff.1 hs
  rw [List.length_map, List.length_map] at h1
  intro y hy
  obtain ⟨i, hi, rfl⟩ := List.mem_iff_getElem.1 hy
  have hi2 : i < xs.length := by omega
  obtain ⟨a, b, c, _⟩ := Tr.same1_iff.1 (h2 i xs[i].n ys[i].n (by rw [List.getElem?_map, List.getElem?_eq_getElem hi2]; rfl) (by rw [List.getElem?_map, List.getElem?_eq_getElem hi]; rfl))
  have := h _ (List.getElem_mem hi2)
  unfold NdFit at this ⊢
  rw [← a, ← b, ← c]
  exact this
set_option maxHeartbeats 16000000 in
set_option maxRecDepth 100000 in
theorem lawTBack (w : World) (T : Tb w) (hmx : Mx w) (s : ByteArray) (hs : s.size ≤ maxLen) (A : Option Addr) (c : Nat) (xs : List Nd) (hl1 : xs.length ≤ c) (hc1 : c ≤ maxLen) (h1 : ReadsNd w w.heap.size A xs) (hx : ∀ x ∈ xs, NdBig x) :
    Calls Tryz.prog 4 #[.string s, .agg #[.slice A xs.length c]] w fun e w' => e = .returned (.bool true) ∧ Below w.heap.size w w' := by
  obtain ⟨W0, hW0⟩ : ∃ W0, W0 = w.alloc (.cells #[.slice A xs.length c] 31) := ⟨_, rfl⟩
  have hb0 : Below w.heap.size w W0 := by rw [hW0]; exact (Below.refl _ _).alloc (Nat.le_refl _) _
  have HI0 := Lib.hid (show BkI w w.heap.size A c xs W0 from ⟨T.below hb0 (Nat.le_refl _), hmx.below hb0, (h1.below hb0).more hb0.size, by rw [hW0]; exact IsBlk.new _ _ _, hb0⟩)
  have HWK := Lib.hid (fun wx (T : Tb wx) (M : Mx wx) => works_tr wx T M)
  have HFW := Lib.hid (fun wx (h : BkI w w.heap.size A c xs wx) => few_any wx A c xs hl1 hc1 h.rd hx)
  have HPS := Lib.hid (fun wx (h : BkI w w.heap.size A c xs wx) => parse_any s hs wx h.tb h.mx)
  have HT := Lib.hid (And.intro T hmx)
  have HRD := Lib.hid h1
  have HE0 := Lib.hid hW0
  have HB0 := Lib.hid (And.intro hl1 hc1)
  have hsz : s.data.toList.length = s.size := (Lib.size_eq s).symm
  have hsm : (s.size : Int) ≤ 9223372036854775807 := by unfold maxLen at hs; omega
  have x3 : W0.cell? ⟨w.heap.size, 0, none⟩ = some (.slice A xs.length c) := HI0.out.bx.at_ 0
  rw [hW0] at x3
  clear hW0 hb0 T hmx hl1 hc1 h1 hx hs
  by_cases hbig : 1000 < s.size
  · have hbig' : (s.size : Int) > 1000 := by omega
    clear hbig hsz
    go_enter Tryz.func4, Tryz.ntmps4
    go_wp2_with fail
    rw [← HE0.out]
    refine (HWK.out _ HI0.out.tb HI0.out.mx).mono ?_
    rintro e wz ⟨rfl, hz⟩
    have BZ := Lib.hid (HI0.out.on hz).bl
    clear hz
    go_wp2
    go_ret
    exact ⟨rfl, BZ.out⟩
  · have hbig' : ¬ (s.size : Int) > 1000 := by omega
    have HSL := Lib.hid (show s.data.toList.length ≤ 1000 from by omega)
    clear hbig hsz
    go_enter Tryz.func4, Tryz.ntmps4
    go_wp2_with fail
    rw [← HE0.out]
    refine (HFW.out W0 HI0.out).mono ?_
    rintro e w1 ⟨b1, rfl, hb1, h2⟩
    have HI1 := Lib.hid (HI0.out.on h2)
    have HB1 := Lib.hid hb1
    clear h2 hb1 x3
    cases b1 with
    | false =>
      go_wp2_with fail
      refine (HWK.out _ HI1.out.tb HI1.out.mx).mono ?_
      rintro e wz ⟨rfl, hz⟩
      have BZ := Lib.hid (HI1.out.bl.trans (hz.mono HI1.out.bl.size))
      clear hz
      go_wp2
      go_ret
      exact ⟨rfl, BZ.out⟩
    | true =>
      have HFEW := Lib.hid (HB1.out (by trivial))
      obtain ⟨R, hR⟩ : ∃ R, R = Tr.parse s.data.toList := ⟨_, rfl⟩
      rw [← hR] at HPS
      have HRE := Lib.hid hR
      clear hR
      go_wp2_with fail
      refine (HPS.out w1 HI1.out).mono ?_
      rintro e w2 ⟨v2, nds0, rfl, hr2, hm2, h2⟩
      obtain ⟨A0, c0, hv2, hd1, hd2, _⟩ := own_sliced hr2.own
      subst hv2
      obtain ⟨p5, hp5⟩ : ∃ p, p = w2.heap.size := ⟨_, rfl⟩
      obtain ⟨W2, hW2⟩ : ∃ W, W = w2.alloc (.cells #[.slice A0 nds0.length c0] 31) := ⟨_, rfl⟩
      have hb2 : Below w2.heap.size w2 W2 := by rw [hW2]; exact (Below.refl _ _).alloc (Nat.le_refl _) _
      have hi2 := (HI1.out.on h2).on hb2
      have HI2 := Lib.hid hi2
      have HN2 := Lib.hid (show BkI w p5 A0 c0 nds0 W2 from ⟨hi2.tb, hi2.mx, (hr2.reads.below hb2).more hb2.size, by rw [hW2, hp5]; exact IsBlk.new _ _ _, hi2.bl⟩)
      have HE2 := Lib.hid hW2
      have HP5 := Lib.hid hp5
      have HM2 := Lib.hid hm2
      have HD2 := Lib.hid (And.intro hd1 hd2)
      obtain ⟨R1, R2, R3⟩ := R
      simp only at hm2
      by_cases hte : R3 = 0
      · subst hte
        -- what was parsed
        obtain ⟨A, hA⟩ : ∃ A, A = A0 := ⟨_, rfl⟩
        obtain ⟨c, hc⟩ : ∃ c, c = c0 := ⟨_, rfl⟩
        obtain ⟨zs, hzs⟩ : ∃ zs, zs = nds0 := ⟨_, rfl⟩
        rw [← hA, ← hc, ← hzs] at HN2 HE2
        rw [← hc, ← hzs] at HD2
        rw [← hzs] at hm2
        have x5 : W2.cell? ⟨p5, 0, none⟩ = some (.slice A zs.length c) := HN2.out.bx.at_ 0
        rw [HE2.out, HP5.out] at x5
        rw [← hA, ← hc, ← hzs]
        have hpr : Tr.parse s.data.toList = (zs.map Nd.n, R2, 0) := by rw [← HRE.out, ← hm2]
        have HC := Lib.hid (show Tr.check (zs.map Nd.n) = true from by have := Tr.back1 (L := s.data.toList) (by rw [hpr]); rwa [hpr] at this)
        have HF := Lib.hid (show ∀ x ∈ zs, NdFit x from fit_of (by have := Tr.parse_fit (L := s.data.toList) HSL.out; rwa [hpr] at this))
        have HL := Lib.hid (show Tr.check (zs.map Nd.n) = true → (Tr.write (zs.map Nd.n)).length ≤ 65536 from fun _ => by have := Tr.len1 (L := s.data.toList) HSL.out (by rw [hpr]); rwa [hpr] at this)
        have HB := Lib.hid HD2.out
        have HCK := Lib.hid (fun wx (h : BkI w p5 A c zs wx) => check_any wx h.tb A c zs HB.out.1 HB.out.2 h.rd HF.out)
        rw [HC.out] at HCK
        clear hr2 hm2 h2 hd1 hd2 hW2 hb2 hi2 hp5 hA hc hzs hpr HM2
        go_wp2_with fail
        rw [← HE2.out, ← HP5.out]
        refine (HCK.out W2 HN2.out).mono ?_
        rintro e wc ⟨rfl, hc⟩
        have HZ := Lib.hid (HN2.out.on hc)
        clear hc x5
        -- Write, Parse, Write, and the comparisons; HZ: BkI at wz; HC: check = true; HF: all fit; HL: short; HB: lengths
        have HOK := Lib.hid (Tr.check_ok HC.out)
        have HWL := Lib.hid (show (Tr.write (zs.map Nd.n)).length ≤ 65536 from HL.out HC.out)
        obtain ⟨S, hS⟩ : ∃ S : ByteArray, S = ⟨(Tr.write (zs.map Nd.n)).toArray⟩ := ⟨_, rfl⟩
        have hSd : S.data.toList = Tr.write (zs.map Nd.n) := by rw [hS]
        have hSs : S.size ≤ 65536 := by rw [Lib.size_eq, hSd]; exact HWL.out
        obtain ⟨ys, hys, hyc, hyw, hsame⟩ := Tr.back2 HC.out HWL.out
        have HW1 := Lib.hid (twrite_any wc HZ.out.tb A c zs HB.out.1 HB.out.2 HZ.out.rd HF.out (by have := HWL.out; omega))
        rw [HC.out, ← hS] at HW1
        have HP := Lib.hid (fun wx (h : BkI w p5 A c zs wx) => parse_any S (by unfold maxLen; omega) wx h.tb h.mx)
        rw [hSd, hys] at HP
        have HYS := Lib.hid (And.intro hyc (And.intro hyw hsame))
        have HSE := Lib.hid hS
        have x5 : wc.cell? ⟨p5, 0, none⟩ = some (.slice A zs.length c) := HZ.out.bx.at_ 0
        clear hS hSd hSs hys hyc hyw hsame
        go_wp2_with fail
        refine HW1.out.mono ?_
        rintro e w6 ⟨rfl, h6⟩
        have HZ6 := Lib.hid (HZ.out.on h6)
        clear h6 x5
        go_wp2_with fail
        refine (HP.out w6 HZ6.out).mono ?_
        rintro e w7 ⟨v7, nds, rfl, hr7, hm7, h7⟩
        obtain ⟨A2, c2, hv7, hd1, hd2, _⟩ := own_sliced hr7.own
        subst hv7
        obtain ⟨p10, hp10⟩ : ∃ p, p = w7.heap.size := ⟨_, rfl⟩
        obtain ⟨W7, hW7⟩ : ∃ W, W = w7.alloc (.cells #[.slice A2 nds.length c2] 31) := ⟨_, rfl⟩
        have hb7 : Below w7.heap.size w7 W7 := by rw [hW7]; exact (Below.refl _ _).alloc (Nat.le_refl _) _
        have hz7 := (HZ6.out.on h7).on hb7
        have HJ := Lib.hid (show BkJ w p5 A c zs p10 A2 c2 nds W7 from ⟨hz7, ⟨hz7.tb, hz7.mx, (hr7.reads.below hb7).more hb7.size, by rw [hW7, hp10]; exact IsBlk.new _ _ _, hz7.bl⟩⟩)
        have HS2 := Lib.hid (show Tr.same (zs.map Nd.n) (nds.map Nd.n) = true from by rw [hm7]; exact HYS.out.2.2)
        have HF2 := Lib.hid (fit_same HF.out HS2.out)
        have HB2 := Lib.hid (And.intro hd1 hd2)
        have HW2 := Lib.hid (twrite_any W7 hz7.tb A2 c2 nds hd1 hd2 HJ.out.j.rd HF2.out (by rw [hm7, HYS.out.2.1]; have := HWL.out; omega))
        rw [show nds.map Nd.n = ys from hm7, HYS.out.1, HYS.out.2.1, ← HSE.out] at HW2
        have HE7 := Lib.hid hW7
        have HP10 := Lib.hid hp10
        clear hr7 hm7 h7 hd1 hd2 hW7 hb7 hz7 hp10
        go_wp2_with fail
        rw [← HE7.out, ← HP10.out]
        refine HW2.out.mono ?_
        rintro e w8 ⟨rfl, h8⟩
        have HJ8 := Lib.hid (HJ.out.on h8)
        have HSAME := Lib.hid (fun wx (h : BkJ w p5 A c zs p10 A2 c2 nds wx) => tsame_any wx A A2 c c2 zs nds HB.out.1 HB2.out.1 HB.out.2 HB2.out.2 h.i.rd h.j.rd)
        have HSAME2 := Lib.hid (fun wx (h : BkJ w p5 A c zs p10 A2 c2 nds wx) => tsame_any wx A2 A c2 c nds zs HB2.out.1 HB.out.1 HB2.out.2 HB.out.2 h.j.rd h.i.rd)
        rw [HS2.out] at HSAME
        rw [Tr.same_symm HS2.out] at HSAME2
        have HNL := Lib.hid (show zs.length ≤ 4096 ∧ nds.length ≤ 4096 from by
          have h1 := HOK.out.2.2.2
          have h2 := (Tr.same_iff.1 HS2.out).1
          rw [List.length_map] at h1
          rw [List.length_map, List.length_map] at h2
          omega)
        have HR1 := Lib.hid (fun wx (h : BkJ w p5 A c zs p10 A2 c2 nds wx) => ref_any wx A c zs HB.out.1 (by have := HNL.out; omega) h.i.rd HF.out)
        have HR2 := Lib.hid (fun wx (h : BkJ w p5 A c zs p10 A2 c2 nds wx) => ref_any wx A2 c2 nds HB2.out.1 (by have := HNL.out; omega) h.j.rd HF2.out)
        have y5 : w8.cell? ⟨p5, 0, none⟩ = some (.slice A zs.length c) := HJ8.out.i.bx.at_ 0
        have y10 : w8.cell? ⟨p10, 0, none⟩ = some (.slice A2 nds.length c2) := HJ8.out.j.bx.at_ 0
        clear h8
        go_wp2_with fail
        refine wp_region_held_drew (S := (fun w' => w'.cell? ⟨p5, 0, none⟩ = some (.slice A zs.length c) ∧ w'.cell? ⟨p10, 0, none⟩ = some (.slice A2 nds.length c2))) (by kernel_rfl) ⟨y5, y10⟩ (fun hHeld => ?_)
        have HJ9 := Lib.hid (HJ8.out.on (Below.refl w8.heap.size w8).drew)
        refine wpAnyH_take (i := 0) (v := .int .i64 0) rfl (by kernel_rfl) (by kernel_rfl) (by kernel_rfl) (fun _ _ _ h => h) (Or.inl ⟨by rfl, by (intro w hS; go_simp)⟩) hHeld ?_
        try simp only [Act.put, List.getElem_toArray, List.getElem_cons_zero, List.setIfInBounds_toArray, List.set_cons_zero, List.set_cons_succ]
        refine wpAnyH_take (i := 1) (v := .bool true) rfl (by kernel_rfl) (by kernel_rfl) (by kernel_rfl) (fun _ _ _ h => h) (Or.inl ⟨by rfl, by (intro w hS; try (obtain ⟨s0, s1⟩ := hS); go_simp)⟩) hHeld ?_
        try simp only [Act.put, List.getElem_toArray, List.getElem_cons_succ, List.getElem_cons_zero, List.setIfInBounds_toArray, List.set_cons_zero, List.set_cons_succ]
        refine wpAnyH_take (i := 2) (v := .bool true) rfl (by kernel_rfl) (by kernel_rfl) (by kernel_rfl) (fun _ _ _ h => h) (Or.inl ⟨by rfl, by (intro w hS; try (obtain ⟨s0, s1⟩ := hS); go_simp)⟩) hHeld ?_
        try simp only [Act.put, List.getElem_toArray, List.getElem_cons_succ, List.getElem_cons_zero, List.setIfInBounds_toArray, List.set_cons_zero, List.set_cons_succ]
        refine wpAnyH_take (i := 3) (v := .int .i64 0) rfl (by kernel_rfl) (by kernel_rfl) (by kernel_rfl) (fun _ _ _ h => h) (Or.inl ⟨by rfl, by (intro w hS; try (obtain ⟨s0, s1⟩ := hS); go_simp)⟩) hHeld ?_
        try simp only [Act.put, List.getElem_toArray, List.getElem_cons_succ, List.getElem_cons_zero, List.setIfInBounds_toArray, List.set_cons_zero, List.set_cons_succ]
        refine wpAnyH_take (i := 4) (v := .bool true) rfl (by kernel_rfl) (by kernel_rfl) (by kernel_rfl) (fun _ _ _ h => h) (Or.inl ⟨by rfl, by (intro w hS; try (obtain ⟨s0, s1⟩ := hS); go_simp)⟩) hHeld ?_
        try simp only [Act.put, List.getElem_toArray, List.getElem_cons_succ, List.getElem_cons_zero, List.setIfInBounds_toArray, List.set_cons_zero, List.set_cons_succ]
        refine wpAnyH_take (i := 5) (v := .bool true) rfl (by kernel_rfl) (by kernel_rfl) (by kernel_rfl) (fun _ _ _ h => h) (Or.inl ⟨by rfl, by (intro w hS; try (obtain ⟨s0, s1⟩ := hS); go_simp)⟩) hHeld ?_
        try simp only [Act.put, List.getElem_toArray, List.getElem_cons_succ, List.getElem_cons_zero, List.setIfInBounds_toArray, List.set_cons_zero, List.set_cons_succ]
        refine wpAnyH_take (i := 6) (v := .bool true) rfl (by kernel_rfl) (by kernel_rfl) (by kernel_rfl) (fun _ _ _ h => h) (Or.inl ⟨by rfl, by (intro w hS; try (obtain ⟨s0, s1⟩ := hS); go_simp)⟩) hHeld ?_
        try simp only [Act.put, List.getElem_toArray, List.getElem_cons_succ, List.getElem_cons_zero, List.setIfInBounds_toArray, List.set_cons_zero, List.set_cons_succ]
        refine wpAnyH_take (i := 7) (v := .int .i64 0) rfl (by kernel_rfl) (by kernel_rfl) (by kernel_rfl) (fun _ _ _ h => h) (Or.inl ⟨by rfl, by (intro w hS; try (obtain ⟨s0, s1⟩ := hS); go_simp)⟩) hHeld ?_
        try simp only [Act.put, List.getElem_toArray, List.getElem_cons_succ, List.getElem_cons_zero, List.setIfInBounds_toArray, List.set_cons_zero, List.set_cons_succ]
        refine wpAnyH_take (i := 8) (v := .bool true) rfl (by kernel_rfl) (by kernel_rfl) (by kernel_rfl) (fun _ _ _ h => h) (Or.inl ⟨by rfl, by (intro w hS; try (obtain ⟨s0, s1⟩ := hS); go_simp)⟩) hHeld ?_
        try simp only [Act.put, List.getElem_toArray, List.getElem_cons_succ, List.getElem_cons_zero, List.setIfInBounds_toArray, List.set_cons_zero, List.set_cons_succ]
        refine wpAnyH_take (i := 9) (v := .bool true) rfl (by kernel_rfl) (by kernel_rfl) (by kernel_rfl) (fun _ _ _ h => h) (Or.inl ⟨by rfl, by (intro w hS; try (obtain ⟨s0, s1⟩ := hS); go_simp)⟩) hHeld ?_
        try simp only [Act.put, List.getElem_toArray, List.getElem_cons_succ, List.getElem_cons_zero, List.setIfInBounds_toArray, List.set_cons_zero, List.set_cons_succ]
        refine wpAnyH_take (i := 10) (v := .bool true) rfl (by kernel_rfl) (by kernel_rfl) (by kernel_rfl) (fun _ _ _ h => h) (Or.inl ⟨by rfl, by (intro w hS; try (obtain ⟨s0, s1⟩ := hS); go_simp)⟩) hHeld ?_
        try simp only [Act.put, List.getElem_toArray, List.getElem_cons_succ, List.getElem_cons_zero, List.setIfInBounds_toArray, List.set_cons_zero, List.set_cons_succ]
        refine wpAnyH_take (i := 11) (v := .string S) rfl (by kernel_rfl) (by kernel_rfl) (by kernel_rfl) (fun _ _ _ h => h) (Or.inl ⟨by rfl, by (intro w hS; try (obtain ⟨s0, s1⟩ := hS); go_simp)⟩) hHeld ?_
        try simp only [Act.put, List.getElem_toArray, List.getElem_cons_succ, List.getElem_cons_zero, List.setIfInBounds_toArray, List.set_cons_zero, List.set_cons_succ]
        refine wpAnyH_take (i := 12) (v := .string S) rfl (by kernel_rfl) (by kernel_rfl) (by kernel_rfl) (fun _ _ _ h => h) (Or.inl ⟨by rfl, by (intro w hS; try (obtain ⟨s0, s1⟩ := hS); go_simp)⟩) hHeld ?_
        try simp only [Act.put, List.getElem_toArray, List.getElem_cons_succ, List.getElem_cons_zero, List.setIfInBounds_toArray, List.set_cons_zero, List.set_cons_succ]
        refine wpAnyH_take (i := 13) (v := .bool true) rfl (by kernel_rfl) (by kernel_rfl) (by kernel_rfl) (fun _ _ _ h => h) (Or.inl ⟨by rfl, by (intro w hS; try (obtain ⟨s0, s1⟩ := hS); go_simp)⟩) hHeld ?_
        try simp only [Act.put, List.getElem_toArray, List.getElem_cons_succ, List.getElem_cons_zero, List.setIfInBounds_toArray, List.set_cons_zero, List.set_cons_succ]
        refine wpAnyH_take (i := 14) (v := .bool true) rfl (by kernel_rfl) (by kernel_rfl) (by kernel_rfl) (fun _ _ _ h => h) (Or.inl ⟨by rfl, by (intro w hS; try (obtain ⟨s0, s1⟩ := hS); go_simp)⟩) hHeld ?_
        try simp only [Act.put, List.getElem_toArray, List.getElem_cons_succ, List.getElem_cons_zero, List.setIfInBounds_toArray, List.set_cons_zero, List.set_cons_succ]
        refine wpAnyH_take (i := 15) (v := .bool true) rfl (by kernel_rfl) (by kernel_rfl) (by kernel_rfl) (fun _ _ _ h => h) (Or.inl ⟨by rfl, by (intro w hS; try (obtain ⟨s0, s1⟩ := hS); go_simp)⟩) hHeld ?_
        try simp only [Act.put, List.getElem_toArray, List.getElem_cons_succ, List.getElem_cons_zero, List.setIfInBounds_toArray, List.set_cons_zero, List.set_cons_succ]
        refine wpAnyH_take (i := 16) (v := .agg #[.slice A zs.length c]) rfl (by kernel_rfl) (by kernel_rfl) (by kernel_rfl) (fun _ _ _ h => h) (Or.inl ⟨by rfl, by (intro w hS; try (obtain ⟨s0, s1⟩ := hS); go_simp)⟩) hHeld ?_
        try simp only [Act.put, List.getElem_toArray, List.getElem_cons_succ, List.getElem_cons_zero, List.setIfInBounds_toArray, List.set_cons_zero, List.set_cons_succ]
        refine wpAnyH_take (i := 17) (v := .agg #[.slice A2 nds.length c2]) rfl (by kernel_rfl) (by kernel_rfl) (by kernel_rfl) (fun _ _ _ h => h) (Or.inl ⟨by rfl, by (intro w hS; try (obtain ⟨s0, s1⟩ := hS); go_simp)⟩) hHeld ?_
        try simp only [Act.put, List.getElem_toArray, List.getElem_cons_succ, List.getElem_cons_zero, List.setIfInBounds_toArray, List.set_cons_zero, List.set_cons_succ]
        refine wpAnyH_ready (rs := [18]) (by kernel_rfl) (by simp) ?_
        refine AllReadyH.cons rfl (fun K hK => ?_) AllReadyH.nil
        try simp only [List.getElem_toArray, List.getElem_cons_succ, List.getElem_cons_zero]
        go_simp
        refine (HSAME.out _ HJ9.out).mono ?_
        rintro e w10 ⟨rfl, h10⟩
        have HJ10 := Lib.hid (HJ9.out.on h10)
        clear h10
        refine hK.out _ _ ⟨HJ10.out.i.bx.at_ 0, HJ10.out.j.bx.at_ 0⟩ (fun hHeld => ?_)
        clear hK K
        try simp only [Act.put, List.getElem_toArray, List.getElem_cons_succ, List.getElem_cons_zero, List.setIfInBounds_toArray, List.set_cons_zero, List.set_cons_succ]
        refine wpAnyH_take (i := 19) (v := (.bool true)) rfl (by kernel_rfl) (by kernel_rfl) (by kernel_rfl) (fun _ _ _ h => h) (Or.inl ⟨by rfl, by (intro w hS; try (obtain ⟨s0, s1⟩ := hS); go_simp)⟩) hHeld ?_
        try simp only [Act.put, List.getElem_toArray, List.getElem_cons_succ, List.getElem_cons_zero, List.setIfInBounds_toArray, List.set_cons_zero, List.set_cons_succ]
        refine wpAnyH_take (i := 20) (v := (.bool true)) rfl (by kernel_rfl) (by kernel_rfl) (by kernel_rfl) (fun _ _ _ h => h) (Or.inl ⟨by rfl, by (intro w hS; try (obtain ⟨s0, s1⟩ := hS); go_simp)⟩) hHeld ?_
        try simp only [Act.put, List.getElem_toArray, List.getElem_cons_succ, List.getElem_cons_zero, List.setIfInBounds_toArray, List.set_cons_zero, List.set_cons_succ]
        refine wpAnyH_take (i := 21) (v := (.agg #[.slice A2 nds.length c2])) rfl (by kernel_rfl) (by kernel_rfl) (by kernel_rfl) (fun _ _ _ h => h) (Or.inl ⟨by rfl, by (intro w hS; try (obtain ⟨s0, s1⟩ := hS); go_simp)⟩) hHeld ?_
        try simp only [Act.put, List.getElem_toArray, List.getElem_cons_succ, List.getElem_cons_zero, List.setIfInBounds_toArray, List.set_cons_zero, List.set_cons_succ]
        refine wpAnyH_take (i := 22) (v := (.agg #[.slice A zs.length c])) rfl (by kernel_rfl) (by kernel_rfl) (by kernel_rfl) (fun _ _ _ h => h) (Or.inl ⟨by rfl, by (intro w hS; try (obtain ⟨s0, s1⟩ := hS); go_simp)⟩) hHeld ?_
        try simp only [Act.put, List.getElem_toArray, List.getElem_cons_succ, List.getElem_cons_zero, List.setIfInBounds_toArray, List.set_cons_zero, List.set_cons_succ]
        refine wpAnyH_ready (rs := [23]) (by kernel_rfl) (by simp) ?_
        refine AllReadyH.cons rfl (fun K hK => ?_) AllReadyH.nil
        try simp only [List.getElem_toArray, List.getElem_cons_succ, List.getElem_cons_zero]
        go_simp
        refine (HSAME2.out _ HJ10.out).mono ?_
        rintro e w11 ⟨rfl, h11⟩
        have HJ11 := Lib.hid (HJ10.out.on h11)
        clear h11
        refine hK.out _ _ ⟨HJ11.out.i.bx.at_ 0, HJ11.out.j.bx.at_ 0⟩ (fun hHeld => ?_)
        clear hK K
        try simp only [Act.put, List.getElem_toArray, List.getElem_cons_succ, List.getElem_cons_zero, List.setIfInBounds_toArray, List.set_cons_zero, List.set_cons_succ]
        refine wpAnyH_take (i := 24) (v := (.bool true)) rfl (by kernel_rfl) (by kernel_rfl) (by kernel_rfl) (fun _ _ _ h => h) (Or.inl ⟨by rfl, by (intro w hS; try (obtain ⟨s0, s1⟩ := hS); go_simp)⟩) hHeld ?_
        try simp only [Act.put, List.getElem_toArray, List.getElem_cons_succ, List.getElem_cons_zero, List.setIfInBounds_toArray, List.set_cons_zero, List.set_cons_succ]
        refine wpAnyH_take (i := 25) (v := (.bool true)) rfl (by kernel_rfl) (by kernel_rfl) (by kernel_rfl) (fun _ _ _ h => h) (Or.inl ⟨by rfl, by (intro w hS; try (obtain ⟨s0, s1⟩ := hS); go_simp)⟩) hHeld ?_
        try simp only [Act.put, List.getElem_toArray, List.getElem_cons_succ, List.getElem_cons_zero, List.setIfInBounds_toArray, List.set_cons_zero, List.set_cons_succ]
        refine wpAnyH_take (i := 26) (v := (.agg #[.slice A zs.length c])) rfl (by kernel_rfl) (by kernel_rfl) (by kernel_rfl) (fun _ _ _ h => h) (Or.inl ⟨by rfl, by (intro w hS; try (obtain ⟨s0, s1⟩ := hS); go_simp)⟩) hHeld ?_
        try simp only [Act.put, List.getElem_toArray, List.getElem_cons_succ, List.getElem_cons_zero, List.setIfInBounds_toArray, List.set_cons_zero, List.set_cons_succ]
        refine wpAnyH_take (i := 28) (v := (.agg #[.slice A2 nds.length c2])) rfl (by kernel_rfl) (by kernel_rfl) (by kernel_rfl) (fun _ _ _ h => h) (Or.inl ⟨by rfl, by (intro w hS; try (obtain ⟨s0, s1⟩ := hS); go_simp)⟩) hHeld ?_
        try simp only [Act.put, List.getElem_toArray, List.getElem_cons_succ, List.getElem_cons_zero, List.setIfInBounds_toArray, List.set_cons_zero, List.set_cons_succ]
        refine wpAnyH_ready (rs := [27]) (by kernel_rfl) (by simp) ?_
        refine AllReadyH.cons rfl (fun K hK => ?_) AllReadyH.nil
        try simp only [List.getElem_toArray, List.getElem_cons_succ, List.getElem_cons_zero]
        go_simp
        refine (HR1.out _ HJ11.out).mono ?_
        rintro e w12 ⟨v12, p12, rfl, hr12, hm12, h12⟩
        obtain ⟨A12, c12, hv12, _, _, _⟩ := own_sliced hr12.own
        subst hv12
        have HJ12 := Lib.hid (HJ11.out.on h12)
        have HP12 := Lib.hid (And.intro hr12 hm12)
        clear h12 hr12 hm12
        refine hK.out _ _ ⟨HJ12.out.i.bx.at_ 0, HJ12.out.j.bx.at_ 0⟩ (fun hHeld => ?_)
        clear hK K
        try simp only [Act.put, List.getElem_toArray, List.getElem_cons_succ, List.getElem_cons_zero, List.setIfInBounds_toArray, List.set_cons_zero, List.set_cons_succ]
        refine wpAnyH_ready (rs := [29]) (by kernel_rfl) (by simp) ?_
        refine AllReadyH.cons rfl (fun K hK => ?_) AllReadyH.nil
        try simp only [List.getElem_toArray, List.getElem_cons_succ, List.getElem_cons_zero]
        go_simp
        refine (HR2.out _ HJ12.out).mono ?_
        rintro e w13 ⟨v13, p13, rfl, hr13, hm13, h13⟩
        obtain ⟨A13, c13, hv13, _, _, _⟩ := own_sliced hr13.own
        subst hv13
        have HJ13 := Lib.hid (HJ12.out.on h13)
        have HLS := Lib.hid (lsame_all w13 A12 A13 c12 c13 _ _ p12 p13 (HP12.out.1.below h13) hr13 (by
          have h1 := congrArg List.length HP12.out.2
          rw [List.length_map, List.length_map] at h1
          have := HNL.out
          omega))
        rw [HP12.out.2, hm13, HS2.out] at HLS
        clear h13 hr13 hm13
        refine hK.out _ _ ⟨HJ13.out.i.bx.at_ 0, HJ13.out.j.bx.at_ 0⟩ (fun hHeld => ?_)
        clear hK K
        try simp only [Act.put, List.getElem_toArray, List.getElem_cons_succ, List.getElem_cons_zero, List.setIfInBounds_toArray, List.set_cons_zero, List.set_cons_succ]
        refine wpAnyH_ready (rs := [30]) (by kernel_rfl) (by simp) ?_
        refine AllReadyH.cons rfl (fun K hK => ?_) AllReadyH.nil
        try simp only [List.getElem_toArray, List.getElem_cons_succ, List.getElem_cons_zero]
        go_simp
        refine HLS.out.mono ?_
        rintro e w14 ⟨rfl, h14⟩
        have HJ14 := Lib.hid (HJ13.out.on h14)
        clear h14
        refine hK.out _ _ ⟨HJ14.out.i.bx.at_ 0, HJ14.out.j.bx.at_ 0⟩ (fun hHeld => ?_)
        clear hK K
        try simp only [Act.put, List.getElem_toArray, List.getElem_cons_succ, List.getElem_cons_zero, List.setIfInBounds_toArray, List.set_cons_zero, List.set_cons_succ]
        refine wpAnyH_take (i := 31) (v := (.bool true)) rfl (by kernel_rfl) (by kernel_rfl) (by kernel_rfl) (fun _ _ _ h => h) (Or.inl ⟨by rfl, by (intro w hS; try (obtain ⟨s0, s1⟩ := hS); go_simp)⟩) hHeld ?_
        try simp only [Act.put, List.getElem_toArray, List.getElem_cons_succ, List.getElem_cons_zero, List.setIfInBounds_toArray, List.set_cons_zero, List.set_cons_succ]
        refine wpAnyH_take (i := 32) (v := (.bool true)) rfl (by kernel_rfl) (by kernel_rfl) (by kernel_rfl) (fun _ _ _ h => h) (Or.inl ⟨by rfl, by (intro w hS; try (obtain ⟨s0, s1⟩ := hS); go_simp)⟩) hHeld ?_
        try simp only [Act.put, List.getElem_toArray, List.getElem_cons_succ, List.getElem_cons_zero, List.setIfInBounds_toArray, List.set_cons_zero, List.set_cons_succ]
        refine wpAnyH_ready (rs := [33]) (by kernel_rfl) (by simp) ?_
        refine AllReadyH.cons rfl (fun K hK => ?_) AllReadyH.nil
        try simp only [List.getElem_toArray, List.getElem_cons_succ, List.getElem_cons_zero]
        go_simp
        refine (HWK.out _ HJ14.out.i.tb HJ14.out.i.mx).mono ?_
        rintro e w15 ⟨rfl, h15⟩
        have HJ15 := Lib.hid (HJ14.out.on h15)
        clear h15
        refine hK.out _ _ ⟨HJ15.out.i.bx.at_ 0, HJ15.out.j.bx.at_ 0⟩ (fun hHeld => ?_)
        clear hK K
        try simp only [Act.put, List.getElem_toArray, List.getElem_cons_succ, List.getElem_cons_zero, List.setIfInBounds_toArray, List.set_cons_zero, List.set_cons_succ]
        refine wpAnyH_take (i := 34) (v := (.bool true)) rfl (by kernel_rfl) (by kernel_rfl) (by kernel_rfl) (fun _ _ _ h => h) (Or.inl ⟨by rfl, by (intro w hS; try (obtain ⟨s0, s1⟩ := hS); go_simp)⟩) hHeld ?_
        try simp only [Act.put, List.getElem_toArray, List.getElem_cons_succ, List.getElem_cons_zero, List.setIfInBounds_toArray, List.set_cons_zero, List.set_cons_succ]
        refine wpAnyH_take (i := 35) (v := (.bool true)) rfl (by kernel_rfl) (by kernel_rfl) (by kernel_rfl) (fun _ _ _ h => h) (Or.inl ⟨by rfl, by (intro w hS; try (obtain ⟨s0, s1⟩ := hS); go_simp)⟩) hHeld ?_
        try simp only [Act.put, List.getElem_toArray, List.getElem_cons_succ, List.getElem_cons_zero, List.setIfInBounds_toArray, List.set_cons_zero, List.set_cons_succ]
        refine wpAnyH_done (by kernel_rfl) ?_ _
        clear hHeld y5 y10
        go_wp2
        go_ret
        exact ⟨rfl, HJ15.out.i.bl⟩
      · -- the tree that came in
        have hte' : (R3 == 0) = false := beq_eq_false_iff_ne.2 hte
        have hte2 : (R3 != 0) = true := by simp [bne, hte']
        have x3 : W2.cell? ⟨w.heap.size, 0, none⟩ = some (.slice A xs.length c) := HI2.out.bx.at_ 0
        have x5 : W2.cell? ⟨p5, 0, none⟩ = some (.slice A0 nds0.length c0) := HN2.out.bx.at_ 0
        have xf : W2.frozen? ⟨p5, 0, none⟩ = false := HN2.out.bx.fz 0
        obtain ⟨A1, hA1⟩ : ∃ A1, A1 = A := ⟨_, rfl⟩
        obtain ⟨c1, hc1⟩ : ∃ c1, c1 = c := ⟨_, rfl⟩
        obtain ⟨zs, hzs⟩ : ∃ zs, zs = xs := ⟨_, rfl⟩
        rw [← hA1, ← hc1, ← hzs] at x3 ⊢
        rw [← hA1, ← hzs] at HRD
        rw [← hc1, ← hzs] at HB0
        rw [← hzs] at HFEW
        obtain ⟨W3, hW3⟩ : ∃ W3, W3 = w2.alloc (.cells #[.slice A1 zs.length c1] 31) := ⟨_, rfl⟩
        have hi3 := HI1.out.on h2
        have hb3 : Below w.heap.size w W3 := by rw [hW3]; exact hi3.bl.alloc hi3.bl.size _
        have HN3 := Lib.hid (show BkI w p5 A1 c1 zs W3 from ⟨HT.out.1.below hb3 (Nat.le_refl _), HT.out.2.below hb3, (HRD.out.below hb3).more hb3.size, by rw [hW3, hp5]; exact IsBlk.new _ _ _, hb3⟩)
        have HE3 := Lib.hid hW3
        have HF := Lib.hid (fit_of_few HFEW.out.2)
        have HL := Lib.hid (show Tr.check (zs.map Nd.n) = true → (Tr.write (zs.map Nd.n)).length ≤ 65536 from fun h => Tr.len2 (by rw [List.length_map]; exact HFEW.out.1) HFEW.out.2 h)
        have HB := Lib.hid HB0.out
        have HCK := Lib.hid (fun wx (h : BkI w p5 A1 c1 zs wx) => check_any wx h.tb A1 c1 zs HB.out.1 HB.out.2 h.rd HF.out)
        rw [HE2.out] at x3
        rw [HE2.out, HP5.out] at x5 xf
        obtain ⟨cb, hcb⟩ : ∃ b, b = Tr.check (zs.map Nd.n) := ⟨_, rfl⟩
        rw [← hcb] at HCK
        have HCB := Lib.hid hcb
        clear hr2 hm2 h2 hd1 hd2 hW2 hb2 hi2 hi3 hp5 hA1 hc1 hzs HM2 hW3 hb3 hte hcb
        cases cb with
        | false =>
          go_wp2_with fail
          rw [← HE3.out, ← HP5.out]
          refine (HCK.out W3 HN3.out).mono ?_
          rintro e wc ⟨rfl, hc⟩
          have HZ := Lib.hid (HN3.out.on hc)
          clear hc x3 x5 xf
          go_wp2_with fail
          refine (HWK.out _ HZ.out.tb HZ.out.mx).mono ?_
          rintro e wz ⟨rfl, hz⟩
          have BZ := Lib.hid (HZ.out.bl.trans (hz.mono HZ.out.bl.size))
          clear hz
          go_wp2
          go_ret
          exact ⟨rfl, BZ.out⟩
        | true =>
          have HC := Lib.hid (show Tr.check (zs.map Nd.n) = true from HCB.out.symm)
          go_wp2_with fail
          rw [← HE3.out, ← HP5.out]
          refine (HCK.out W3 HN3.out).mono ?_
          rintro e wc ⟨rfl, hc⟩
          have HZ := Lib.hid (HN3.out.on hc)
          clear hc x3 x5 xf
          obtain ⟨A, hA⟩ : ∃ A, A = A1 := ⟨_, rfl⟩
          obtain ⟨c, hc⟩ : ∃ c, c = c1 := ⟨_, rfl⟩
          rw [← hA, ← hc] at HZ
          rw [← hc] at HB
          rw [← hA, ← hc]
          clear hA hc
          -- Write, Parse, Write, and the comparisons; HZ: BkI at wz; HC: check = true; HF: all fit; HL: short; HB: lengths
          have HOK := Lib.hid (Tr.check_ok HC.out)
          have HWL := Lib.hid (show (Tr.write (zs.map Nd.n)).length ≤ 65536 from HL.out HC.out)
          obtain ⟨S, hS⟩ : ∃ S : ByteArray, S = ⟨(Tr.write (zs.map Nd.n)).toArray⟩ := ⟨_, rfl⟩
          have hSd : S.data.toList = Tr.write (zs.map Nd.n) := by rw [hS]
          have hSs : S.size ≤ 65536 := by rw [Lib.size_eq, hSd]; exact HWL.out
          obtain ⟨ys, hys, hyc, hyw, hsame⟩ := Tr.back2 HC.out HWL.out
          have HW1 := Lib.hid (twrite_any wc HZ.out.tb A c zs HB.out.1 HB.out.2 HZ.out.rd HF.out (by have := HWL.out; omega))
          rw [HC.out, ← hS] at HW1
          have HP := Lib.hid (fun wx (h : BkI w p5 A c zs wx) => parse_any S (by unfold maxLen; omega) wx h.tb h.mx)
          rw [hSd, hys] at HP
          have HYS := Lib.hid (And.intro hyc (And.intro hyw hsame))
          have HSE := Lib.hid hS
          have x5 : wc.cell? ⟨p5, 0, none⟩ = some (.slice A zs.length c) := HZ.out.bx.at_ 0
          clear hS hSd hSs hys hyc hyw hsame
          go_wp2_with fail
          refine HW1.out.mono ?_
          rintro e w6 ⟨rfl, h6⟩
          have HZ6 := Lib.hid (HZ.out.on h6)
          clear h6 x5
          go_wp2_with fail
          refine (HP.out w6 HZ6.out).mono ?_
          rintro e w7 ⟨v7, nds, rfl, hr7, hm7, h7⟩
          obtain ⟨A2, c2, hv7, hd1, hd2, _⟩ := own_sliced hr7.own
          subst hv7
          obtain ⟨p10, hp10⟩ : ∃ p, p = w7.heap.size := ⟨_, rfl⟩
          obtain ⟨W7, hW7⟩ : ∃ W, W = w7.alloc (.cells #[.slice A2 nds.length c2] 31) := ⟨_, rfl⟩
          have hb7 : Below w7.heap.size w7 W7 := by rw [hW7]; exact (Below.refl _ _).alloc (Nat.le_refl _) _
          have hz7 := (HZ6.out.on h7).on hb7
          have HJ := Lib.hid (show BkJ w p5 A c zs p10 A2 c2 nds W7 from ⟨hz7, ⟨hz7.tb, hz7.mx, (hr7.reads.below hb7).more hb7.size, by rw [hW7, hp10]; exact IsBlk.new _ _ _, hz7.bl⟩⟩)
          have HS2 := Lib.hid (show Tr.same (zs.map Nd.n) (nds.map Nd.n) = true from by rw [hm7]; exact HYS.out.2.2)
          have HF2 := Lib.hid (fit_same HF.out HS2.out)
          have HB2 := Lib.hid (And.intro hd1 hd2)
          have HW2 := Lib.hid (twrite_any W7 hz7.tb A2 c2 nds hd1 hd2 HJ.out.j.rd HF2.out (by rw [hm7, HYS.out.2.1]; have := HWL.out; omega))
          rw [show nds.map Nd.n = ys from hm7, HYS.out.1, HYS.out.2.1, ← HSE.out] at HW2
          have HE7 := Lib.hid hW7
          have HP10 := Lib.hid hp10
          clear hr7 hm7 h7 hd1 hd2 hW7 hb7 hz7 hp10
          go_wp2_with fail
          rw [← HE7.out, ← HP10.out]
          refine HW2.out.mono ?_
          rintro e w8 ⟨rfl, h8⟩
          have HJ8 := Lib.hid (HJ.out.on h8)
          have HSAME := Lib.hid (fun wx (h : BkJ w p5 A c zs p10 A2 c2 nds wx) => tsame_any wx A A2 c c2 zs nds HB.out.1 HB2.out.1 HB.out.2 HB2.out.2 h.i.rd h.j.rd)
          have HSAME2 := Lib.hid (fun wx (h : BkJ w p5 A c zs p10 A2 c2 nds wx) => tsame_any wx A2 A c2 c nds zs HB2.out.1 HB.out.1 HB2.out.2 HB.out.2 h.j.rd h.i.rd)
          rw [HS2.out] at HSAME
          rw [Tr.same_symm HS2.out] at HSAME2
          have HNL := Lib.hid (show zs.length ≤ 4096 ∧ nds.length ≤ 4096 from by
            have h1 := HOK.out.2.2.2
            have h2 := (Tr.same_iff.1 HS2.out).1
            rw [List.length_map] at h1
            rw [List.length_map, List.length_map] at h2
            omega)
          have HR1 := Lib.hid (fun wx (h : BkJ w p5 A c zs p10 A2 c2 nds wx) => ref_any wx A c zs HB.out.1 (by have := HNL.out; omega) h.i.rd HF.out)
          have HR2 := Lib.hid (fun wx (h : BkJ w p5 A c zs p10 A2 c2 nds wx) => ref_any wx A2 c2 nds HB2.out.1 (by have := HNL.out; omega) h.j.rd HF2.out)
          have y5 : w8.cell? ⟨p5, 0, none⟩ = some (.slice A zs.length c) := HJ8.out.i.bx.at_ 0
          have y10 : w8.cell? ⟨p10, 0, none⟩ = some (.slice A2 nds.length c2) := HJ8.out.j.bx.at_ 0
          clear h8
          go_wp2_with fail
          refine wp_region_held_drew (S := (fun w' => w'.cell? ⟨p5, 0, none⟩ = some (.slice A zs.length c) ∧ w'.cell? ⟨p10, 0, none⟩ = some (.slice A2 nds.length c2))) (by kernel_rfl) ⟨y5, y10⟩ (fun hHeld => ?_)
          have HJ9 := Lib.hid (HJ8.out.on (Below.refl w8.heap.size w8).drew)
          refine wpAnyH_take (i := 0) (v := .int .i64 0) rfl (by kernel_rfl) (by kernel_rfl) (by kernel_rfl) (fun _ _ _ h => h) (Or.inl ⟨by rfl, by (intro w hS; go_simp)⟩) hHeld ?_
          try simp only [Act.put, List.getElem_toArray, List.getElem_cons_zero, List.setIfInBounds_toArray, List.set_cons_zero, List.set_cons_succ]
          refine wpAnyH_take (i := 1) (v := .bool true) rfl (by kernel_rfl) (by kernel_rfl) (by kernel_rfl) (fun _ _ _ h => h) (Or.inl ⟨by rfl, by (intro w hS; try (obtain ⟨s0, s1⟩ := hS); go_simp)⟩) hHeld ?_
          try simp only [Act.put, List.getElem_toArray, List.getElem_cons_succ, List.getElem_cons_zero, List.setIfInBounds_toArray, List.set_cons_zero, List.set_cons_succ]
          refine wpAnyH_take (i := 2) (v := .bool true) rfl (by kernel_rfl) (by kernel_rfl) (by kernel_rfl) (fun _ _ _ h => h) (Or.inl ⟨by rfl, by (intro w hS; try (obtain ⟨s0, s1⟩ := hS); go_simp)⟩) hHeld ?_
          try simp only [Act.put, List.getElem_toArray, List.getElem_cons_succ, List.getElem_cons_zero, List.setIfInBounds_toArray, List.set_cons_zero, List.set_cons_succ]
          refine wpAnyH_take (i := 3) (v := .int .i64 0) rfl (by kernel_rfl) (by kernel_rfl) (by kernel_rfl) (fun _ _ _ h => h) (Or.inl ⟨by rfl, by (intro w hS; try (obtain ⟨s0, s1⟩ := hS); go_simp)⟩) hHeld ?_
          try simp only [Act.put, List.getElem_toArray, List.getElem_cons_succ, List.getElem_cons_zero, List.setIfInBounds_toArray, List.set_cons_zero, List.set_cons_succ]
          refine wpAnyH_take (i := 4) (v := .bool true) rfl (by kernel_rfl) (by kernel_rfl) (by kernel_rfl) (fun _ _ _ h => h) (Or.inl ⟨by rfl, by (intro w hS; try (obtain ⟨s0, s1⟩ := hS); go_simp)⟩) hHeld ?_
          try simp only [Act.put, List.getElem_toArray, List.getElem_cons_succ, List.getElem_cons_zero, List.setIfInBounds_toArray, List.set_cons_zero, List.set_cons_succ]
          refine wpAnyH_take (i := 5) (v := .bool true) rfl (by kernel_rfl) (by kernel_rfl) (by kernel_rfl) (fun _ _ _ h => h) (Or.inl ⟨by rfl, by (intro w hS; try (obtain ⟨s0, s1⟩ := hS); go_simp)⟩) hHeld ?_
          try simp only [Act.put, List.getElem_toArray, List.getElem_cons_succ, List.getElem_cons_zero, List.setIfInBounds_toArray, List.set_cons_zero, List.set_cons_succ]
          refine wpAnyH_take (i := 6) (v := .bool true) rfl (by kernel_rfl) (by kernel_rfl) (by kernel_rfl) (fun _ _ _ h => h) (Or.inl ⟨by rfl, by (intro w hS; try (obtain ⟨s0, s1⟩ := hS); go_simp)⟩) hHeld ?_
          try simp only [Act.put, List.getElem_toArray, List.getElem_cons_succ, List.getElem_cons_zero, List.setIfInBounds_toArray, List.set_cons_zero, List.set_cons_succ]
          refine wpAnyH_take (i := 7) (v := .int .i64 0) rfl (by kernel_rfl) (by kernel_rfl) (by kernel_rfl) (fun _ _ _ h => h) (Or.inl ⟨by rfl, by (intro w hS; try (obtain ⟨s0, s1⟩ := hS); go_simp)⟩) hHeld ?_
          try simp only [Act.put, List.getElem_toArray, List.getElem_cons_succ, List.getElem_cons_zero, List.setIfInBounds_toArray, List.set_cons_zero, List.set_cons_succ]
          refine wpAnyH_take (i := 8) (v := .bool true) rfl (by kernel_rfl) (by kernel_rfl) (by kernel_rfl) (fun _ _ _ h => h) (Or.inl ⟨by rfl, by (intro w hS; try (obtain ⟨s0, s1⟩ := hS); go_simp)⟩) hHeld ?_
          try simp only [Act.put, List.getElem_toArray, List.getElem_cons_succ, List.getElem_cons_zero, List.setIfInBounds_toArray, List.set_cons_zero, List.set_cons_succ]
          refine wpAnyH_take (i := 9) (v := .bool true) rfl (by kernel_rfl) (by kernel_rfl) (by kernel_rfl) (fun _ _ _ h => h) (Or.inl ⟨by rfl, by (intro w hS; try (obtain ⟨s0, s1⟩ := hS); go_simp)⟩) hHeld ?_
          try simp only [Act.put, List.getElem_toArray, List.getElem_cons_succ, List.getElem_cons_zero, List.setIfInBounds_toArray, List.set_cons_zero, List.set_cons_succ]
          refine wpAnyH_take (i := 10) (v := .bool true) rfl (by kernel_rfl) (by kernel_rfl) (by kernel_rfl) (fun _ _ _ h => h) (Or.inl ⟨by rfl, by (intro w hS; try (obtain ⟨s0, s1⟩ := hS); go_simp)⟩) hHeld ?_
          try simp only [Act.put, List.getElem_toArray, List.getElem_cons_succ, List.getElem_cons_zero, List.setIfInBounds_toArray, List.set_cons_zero, List.set_cons_succ]
          refine wpAnyH_take (i := 11) (v := .string S) rfl (by kernel_rfl) (by kernel_rfl) (by kernel_rfl) (fun _ _ _ h => h) (Or.inl ⟨by rfl, by (intro w hS; try (obtain ⟨s0, s1⟩ := hS); go_simp)⟩) hHeld ?_
          try simp only [Act.put, List.getElem_toArray, List.getElem_cons_succ, List.getElem_cons_zero, List.setIfInBounds_toArray, List.set_cons_zero, List.set_cons_succ]
          refine wpAnyH_take (i := 12) (v := .string S) rfl (by kernel_rfl) (by kernel_rfl) (by kernel_rfl) (fun _ _ _ h => h) (Or.inl ⟨by rfl, by (intro w hS; try (obtain ⟨s0, s1⟩ := hS); go_simp)⟩) hHeld ?_
          try simp only [Act.put, List.getElem_toArray, List.getElem_cons_succ, List.getElem_cons_zero, List.setIfInBounds_toArray, List.set_cons_zero, List.set_cons_succ]
          refine wpAnyH_take (i := 13) (v := .bool true) rfl (by kernel_rfl) (by kernel_rfl) (by kernel_rfl) (fun _ _ _ h => h) (Or.inl ⟨by rfl, by (intro w hS; try (obtain ⟨s0, s1⟩ := hS); go_simp)⟩) hHeld ?_
          try simp only [Act.put, List.getElem_toArray, List.getElem_cons_succ, List.getElem_cons_zero, List.setIfInBounds_toArray, List.set_cons_zero, List.set_cons_succ]
          refine wpAnyH_take (i := 14) (v := .bool true) rfl (by kernel_rfl) (by kernel_rfl) (by kernel_rfl) (fun _ _ _ h => h) (Or.inl ⟨by rfl, by (intro w hS; try (obtain ⟨s0, s1⟩ := hS); go_simp)⟩) hHeld ?_
          try simp only [Act.put, List.getElem_toArray, List.getElem_cons_succ, List.getElem_cons_zero, List.setIfInBounds_toArray, List.set_cons_zero, List.set_cons_succ]
          refine wpAnyH_take (i := 15) (v := .bool true) rfl (by kernel_rfl) (by kernel_rfl) (by kernel_rfl) (fun _ _ _ h => h) (Or.inl ⟨by rfl, by (intro w hS; try (obtain ⟨s0, s1⟩ := hS); go_simp)⟩) hHeld ?_
          try simp only [Act.put, List.getElem_toArray, List.getElem_cons_succ, List.getElem_cons_zero, List.setIfInBounds_toArray, List.set_cons_zero, List.set_cons_succ]
          refine wpAnyH_take (i := 16) (v := .agg #[.slice A zs.length c]) rfl (by kernel_rfl) (by kernel_rfl) (by kernel_rfl) (fun _ _ _ h => h) (Or.inl ⟨by rfl, by (intro w hS; try (obtain ⟨s0, s1⟩ := hS); go_simp)⟩) hHeld ?_
          try simp only [Act.put, List.getElem_toArray, List.getElem_cons_succ, List.getElem_cons_zero, List.setIfInBounds_toArray, List.set_cons_zero, List.set_cons_succ]
          refine wpAnyH_take (i := 17) (v := .agg #[.slice A2 nds.length c2]) rfl (by kernel_rfl) (by kernel_rfl) (by kernel_rfl) (fun _ _ _ h => h) (Or.inl ⟨by rfl, by (intro w hS; try (obtain ⟨s0, s1⟩ := hS); go_simp)⟩) hHeld ?_
          try simp only [Act.put, List.getElem_toArray, List.getElem_cons_succ, List.getElem_cons_zero, List.setIfInBounds_toArray, List.set_cons_zero, List.set_cons_succ]
          refine wpAnyH_ready (rs := [18]) (by kernel_rfl) (by simp) ?_
          refine AllReadyH.cons rfl (fun K hK => ?_) AllReadyH.nil
          try simp only [List.getElem_toArray, List.getElem_cons_succ, List.getElem_cons_zero]
          go_simp
          refine (HSAME.out _ HJ9.out).mono ?_
          rintro e w10 ⟨rfl, h10⟩
          have HJ10 := Lib.hid (HJ9.out.on h10)
          clear h10
          refine hK.out _ _ ⟨HJ10.out.i.bx.at_ 0, HJ10.out.j.bx.at_ 0⟩ (fun hHeld => ?_)
          clear hK K
          try simp only [Act.put, List.getElem_toArray, List.getElem_cons_succ, List.getElem_cons_zero, List.setIfInBounds_toArray, List.set_cons_zero, List.set_cons_succ]
          refine wpAnyH_take (i := 19) (v := (.bool true)) rfl (by kernel_rfl) (by kernel_rfl) (by kernel_rfl) (fun _ _ _ h => h) (Or.inl ⟨by rfl, by (intro w hS; try (obtain ⟨s0, s1⟩ := hS); go_simp)⟩) hHeld ?_
          try simp only [Act.put, List.getElem_toArray, List.getElem_cons_succ, List.getElem_cons_zero, List.setIfInBounds_toArray, List.set_cons_zero, List.set_cons_succ]
          refine wpAnyH_take (i := 20) (v := (.bool true)) rfl (by kernel_rfl) (by kernel_rfl) (by kernel_rfl) (fun _ _ _ h => h) (Or.inl ⟨by rfl, by (intro w hS; try (obtain ⟨s0, s1⟩ := hS); go_simp)⟩) hHeld ?_
          try simp only [Act.put, List.getElem_toArray, List.getElem_cons_succ, List.getElem_cons_zero, List.setIfInBounds_toArray, List.set_cons_zero, List.set_cons_succ]
          refine wpAnyH_take (i := 21) (v := (.agg #[.slice A2 nds.length c2])) rfl (by kernel_rfl) (by kernel_rfl) (by kernel_rfl) (fun _ _ _ h => h) (Or.inl ⟨by rfl, by (intro w hS; try (obtain ⟨s0, s1⟩ := hS); go_simp)⟩) hHeld ?_
          try simp only [Act.put, List.getElem_toArray, List.getElem_cons_succ, List.getElem_cons_zero, List.setIfInBounds_toArray, List.set_cons_zero, List.set_cons_succ]
          refine wpAnyH_take (i := 22) (v := (.agg #[.slice A zs.length c])) rfl (by kernel_rfl) (by kernel_rfl) (by kernel_rfl) (fun _ _ _ h => h) (Or.inl ⟨by rfl, by (intro w hS; try (obtain ⟨s0, s1⟩ := hS); go_simp)⟩) hHeld ?_
          try simp only [Act.put, List.getElem_toArray, List.getElem_cons_succ, List.getElem_cons_zero, List.setIfInBounds_toArray, List.set_cons_zero, List.set_cons_succ]
          refine wpAnyH_ready (rs := [23]) (by kernel_rfl) (by simp) ?_
          refine AllReadyH.cons rfl (fun K hK => ?_) AllReadyH.nil
          try simp only [List.getElem_toArray, List.getElem_cons_succ, List.getElem_cons_zero]
          go_simp
          refine (HSAME2.out _ HJ10.out).mono ?_
          rintro e w11 ⟨rfl, h11⟩
          have HJ11 := Lib.hid (HJ10.out.on h11)
          clear h11
          refine hK.out _ _ ⟨HJ11.out.i.bx.at_ 0, HJ11.out.j.bx.at_ 0⟩ (fun hHeld => ?_)
          clear hK K
          try simp only [Act.put, List.getElem_toArray, List.getElem_cons_succ, List.getElem_cons_zero, List.setIfInBounds_toArray, List.set_cons_zero, List.set_cons_succ]
          refine wpAnyH_take (i := 24) (v := (.bool true)) rfl (by kernel_rfl) (by kernel_rfl) (by kernel_rfl) (fun _ _ _ h => h) (Or.inl ⟨by rfl, by (intro w hS; try (obtain ⟨s0, s1⟩ := hS); go_simp)⟩) hHeld ?_
          try simp only [Act.put, List.getElem_toArray, List.getElem_cons_succ, List.getElem_cons_zero, List.setIfInBounds_toArray, List.set_cons_zero, List.set_cons_succ]
          refine wpAnyH_take (i := 25) (v := (.bool true)) rfl (by kernel_rfl) (by kernel_rfl) (by kernel_rfl) (fun _ _ _ h => h) (Or.inl ⟨by rfl, by (intro w hS; try (obtain ⟨s0, s1⟩ := hS); go_simp)⟩) hHeld ?_
          try simp only [Act.put, List.getElem_toArray, List.getElem_cons_succ, List.getElem_cons_zero, List.setIfInBounds_toArray, List.set_cons_zero, List.set_cons_succ]
          refine wpAnyH_take (i := 26) (v := (.agg #[.slice A zs.length c])) rfl (by kernel_rfl) (by kernel_rfl) (by kernel_rfl) (fun _ _ _ h => h) (Or.inl ⟨by rfl, by (intro w hS; try (obtain ⟨s0, s1⟩ := hS); go_simp)⟩) hHeld ?_
          try simp only [Act.put, List.getElem_toArray, List.getElem_cons_succ, List.getElem_cons_zero, List.setIfInBounds_toArray, List.set_cons_zero, List.set_cons_succ]
          refine wpAnyH_take (i := 28) (v := (.agg #[.slice A2 nds.length c2])) rfl (by kernel_rfl) (by kernel_rfl) (by kernel_rfl) (fun _ _ _ h => h) (Or.inl ⟨by rfl, by (intro w hS; try (obtain ⟨s0, s1⟩ := hS); go_simp)⟩) hHeld ?_
          try simp only [Act.put, List.getElem_toArray, List.getElem_cons_succ, List.getElem_cons_zero, List.setIfInBounds_toArray, List.set_cons_zero, List.set_cons_succ]
          refine wpAnyH_ready (rs := [27]) (by kernel_rfl) (by simp) ?_
          refine AllReadyH.cons rfl (fun K hK => ?_) AllReadyH.nil
          try simp only [List.getElem_toArray, List.getElem_cons_succ, List.getElem_cons_zero]
          go_simp
          refine (HR1.out _ HJ11.out).mono ?_
          rintro e w12 ⟨v12, p12, rfl, hr12, hm12, h12⟩
          obtain ⟨A12, c12, hv12, _, _, _⟩ := own_sliced hr12.own
          subst hv12
          have HJ12 := Lib.hid (HJ11.out.on h12)
          have HP12 := Lib.hid (And.intro hr12 hm12)
          clear h12 hr12 hm12
          refine hK.out _ _ ⟨HJ12.out.i.bx.at_ 0, HJ12.out.j.bx.at_ 0⟩ (fun hHeld => ?_)
          clear hK K
          try simp only [Act.put, List.getElem_toArray, List.getElem_cons_succ, List.getElem_cons_zero, List.setIfInBounds_toArray, List.set_cons_zero, List.set_cons_succ]
          refine wpAnyH_ready (rs := [29]) (by kernel_rfl) (by simp) ?_
          refine AllReadyH.cons rfl (fun K hK => ?_) AllReadyH.nil
          try simp only [List.getElem_toArray, List.getElem_cons_succ, List.getElem_cons_zero]
          go_simp
          refine (HR2.out _ HJ12.out).mono ?_
          rintro e w13 ⟨v13, p13, rfl, hr13, hm13, h13⟩
          obtain ⟨A13, c13, hv13, _, _, _⟩ := own_sliced hr13.own
          subst hv13
          have HJ13 := Lib.hid (HJ12.out.on h13)
          have HLS := Lib.hid (lsame_all w13 A12 A13 c12 c13 _ _ p12 p13 (HP12.out.1.below h13) hr13 (by
            have h1 := congrArg List.length HP12.out.2
            rw [List.length_map, List.length_map] at h1
            have := HNL.out
            omega))
          rw [HP12.out.2, hm13, HS2.out] at HLS
          clear h13 hr13 hm13
          refine hK.out _ _ ⟨HJ13.out.i.bx.at_ 0, HJ13.out.j.bx.at_ 0⟩ (fun hHeld => ?_)
          clear hK K
          try simp only [Act.put, List.getElem_toArray, List.getElem_cons_succ, List.getElem_cons_zero, List.setIfInBounds_toArray, List.set_cons_zero, List.set_cons_succ]
          refine wpAnyH_ready (rs := [30]) (by kernel_rfl) (by simp) ?_
          refine AllReadyH.cons rfl (fun K hK => ?_) AllReadyH.nil
          try simp only [List.getElem_toArray, List.getElem_cons_succ, List.getElem_cons_zero]
          go_simp
          refine HLS.out.mono ?_
          rintro e w14 ⟨rfl, h14⟩
          have HJ14 := Lib.hid (HJ13.out.on h14)
          clear h14
          refine hK.out _ _ ⟨HJ14.out.i.bx.at_ 0, HJ14.out.j.bx.at_ 0⟩ (fun hHeld => ?_)
          clear hK K
          try simp only [Act.put, List.getElem_toArray, List.getElem_cons_succ, List.getElem_cons_zero, List.setIfInBounds_toArray, List.set_cons_zero, List.set_cons_succ]
          refine wpAnyH_take (i := 31) (v := (.bool true)) rfl (by kernel_rfl) (by kernel_rfl) (by kernel_rfl) (fun _ _ _ h => h) (Or.inl ⟨by rfl, by (intro w hS; try (obtain ⟨s0, s1⟩ := hS); go_simp)⟩) hHeld ?_
          try simp only [Act.put, List.getElem_toArray, List.getElem_cons_succ, List.getElem_cons_zero, List.setIfInBounds_toArray, List.set_cons_zero, List.set_cons_succ]
          refine wpAnyH_take (i := 32) (v := (.bool true)) rfl (by kernel_rfl) (by kernel_rfl) (by kernel_rfl) (fun _ _ _ h => h) (Or.inl ⟨by rfl, by (intro w hS; try (obtain ⟨s0, s1⟩ := hS); go_simp)⟩) hHeld ?_
          try simp only [Act.put, List.getElem_toArray, List.getElem_cons_succ, List.getElem_cons_zero, List.setIfInBounds_toArray, List.set_cons_zero, List.set_cons_succ]
          refine wpAnyH_ready (rs := [33]) (by kernel_rfl) (by simp) ?_
          refine AllReadyH.cons rfl (fun K hK => ?_) AllReadyH.nil
          try simp only [List.getElem_toArray, List.getElem_cons_succ, List.getElem_cons_zero]
          go_simp
          refine (HWK.out _ HJ14.out.i.tb HJ14.out.i.mx).mono ?_
          rintro e w15 ⟨rfl, h15⟩
          have HJ15 := Lib.hid (HJ14.out.on h15)
          clear h15
          refine hK.out _ _ ⟨HJ15.out.i.bx.at_ 0, HJ15.out.j.bx.at_ 0⟩ (fun hHeld => ?_)
          clear hK K
          try simp only [Act.put, List.getElem_toArray, List.getElem_cons_succ, List.getElem_cons_zero, List.setIfInBounds_toArray, List.set_cons_zero, List.set_cons_succ]
          refine wpAnyH_take (i := 34) (v := (.bool true)) rfl (by kernel_rfl) (by kernel_rfl) (by kernel_rfl) (fun _ _ _ h => h) (Or.inl ⟨by rfl, by (intro w hS; try (obtain ⟨s0, s1⟩ := hS); go_simp)⟩) hHeld ?_
          try simp only [Act.put, List.getElem_toArray, List.getElem_cons_succ, List.getElem_cons_zero, List.setIfInBounds_toArray, List.set_cons_zero, List.set_cons_succ]
          refine wpAnyH_take (i := 35) (v := (.bool true)) rfl (by kernel_rfl) (by kernel_rfl) (by kernel_rfl) (fun _ _ _ h => h) (Or.inl ⟨by rfl, by (intro w hS; try (obtain ⟨s0, s1⟩ := hS); go_simp)⟩) hHeld ?_
          try simp only [Act.put, List.getElem_toArray, List.getElem_cons_succ, List.getElem_cons_zero, List.setIfInBounds_toArray, List.set_cons_zero, List.set_cons_succ]
          refine wpAnyH_done (by kernel_rfl) ?_ _
          clear hHeld y5 y10
          go_wp2
          go_ret
          exact ⟨rfl, HJ15.out.i.bl⟩
end Go.Proofs.YtgidpcfaeekjhaaGreatDoor
