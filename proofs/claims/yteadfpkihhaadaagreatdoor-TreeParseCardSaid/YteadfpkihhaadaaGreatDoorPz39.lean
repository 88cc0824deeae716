/- Facts and walks for the statement. -/
import Derived.Test.YteadfpkihhaadaaGreatDoorPz38
namespace Go.Proofs.YteadfpkihhaadaaGreatDoor
open Go.RowKit Go.Shelf
set_option maxHeartbeats 8000000 in
set_option maxRecDepth 100000 in
theorem element_step (B r : Nat) (A : Option Addr) (c : Nat) (ps : List RTok) (sz : Nat) (ok : ElOk ps) (f : Nat) (IH : ∀ f', f' ≤ f → ElC B r A c ps sz f') : ElC B r A c ps sz (f + 1) := by
 intro w i nv qs a0 e0 pa deep h hi hf hq hdp hk
 have hn' : (ps.length : Int) ≤ 1048576 := by have := ok.n; omega
 obtain ⟨g, hA, hgc, t0, t1, t2, t3, t4⟩ := h.tcells hi
 subst hA
 have hgc' : (ps.length : Int) ≤ (c : Int) := by omega
 have hi' : (i : Int) < (ps.length : Int) := by omega
 obtain ⟨d0, d1, d2, d3, d4, d5⟩ := h.cells
 have hx := h.tok.att _ (List.getElem_mem hi)
 have hsay := h.tok.says _ (List.getElem_mem hi)
 obtain ⟨Ax, cx, hxv, _, _, _⟩ := own_sliced hx
 rw [hxv] at hx t2
 have HD := Lib.hid (drop_tok hi)
 have HAT := Lib.hid (show atOf ps i sz = ((ps[i].t.p : Nat) : Int) from by unfold atOf; rw [List.getElem?_eq_getElem hi]; rfl)
 have hal := ok.al _ (List.getElem_mem hi)
 have HMEM := Lib.hid (List.getElem_mem hi)
 have HRW := Lib.hid h.blk.lt
 have HH := Lib.hid h
 clear h hxv
 generalize hX : ps[i] = X at *
 have HXI := Lib.hid (show ps[i]? = some X by rw [List.getElem?_eq_getElem hi, hX])
 clear hX
 obtain ⟨N, hN⟩ : ∃ N : ByteArray, N = ⟨X.t.nm.toArray⟩ := ⟨_, rfl⟩
 obtain ⟨T, hT⟩ : ∃ N : ByteArray, N = ⟨X.t.tx.toArray⟩ := ⟨_, rfl⟩
 rw [← hN] at t1
 rw [← hT] at t3
 obtain ⟨W1, hW1⟩ : ∃ W1, W1 = (w.alloc (.cells #[.int .u8 X.t.k, .string N, .slice Ax X.al.length cx, .string T, .int .i64 X.t.p] 64)).drew := ⟨_, rfl⟩
 have HW2 := Lib.hid (show IsBlk W1 w.heap.size 64 #[.int .u8 X.t.k, .string N, .slice Ax X.al.length cx, .string T, .int .i64 X.t.p] ∧ Below w.heap.size w W1 from by
  rw [hW1]; exact ⟨show IsBlk (w.alloc _) _ _ _ from IsBlk.new _ _ _, ((Below.refl _ _).alloc (Nat.le_refl _) _).drew⟩)
 have HSO := Lib.hid (show Calls Tryz.prog 52 #[.slice Ax X.al.length cx] W1 (SrtP X.t.as W1) from by
  rw [hsay]; exact sorted_any B X.p W1 Ax cx X.al (own_below hx HW2.out.2) hal)
 have HX := Lib.hid hx
 have HSAY := Lib.hid hsay
 have HK := Lib.hid hk
 have HAL := Lib.hid hal
 have HF := Lib.hid hf
 have HQ := Lib.hid hq
 have HW1 := Lib.hid hW1
 have HNT := Lib.hid (And.intro hN hT)
 clear hx hsay hal hk hf hq hW1 hi hgc hN hT
 obtain ⟨R, hR⟩ : ∃ R, R = Tr.elP (f + 1) sz ((ps.map (·.t)).drop i) qs.length pa deep := ⟨_, rfl⟩
 rw [← hR]
 rw [HD.out] at hR
 have HR := Lib.hid hR
 clear hR
 go_enter Tryz.func24, Tryz.ntmps24
 go_wp2_with fail
 have zz : ∀ (p : Addr) (u : Value), p.block < w.heap.size → w.cell? p = some u → (w.alloc (.cells #[.int .u8 0, .string ⟨#[]⟩, .slice none 0 0, .string ⟨#[]⟩, .int .i64 0] 64)).cell? p = some u := fun p u hp hu => (World.cell?_alloc_lt _ _ _ hp).trans hu
 have hg : g < w.heap.size := block_lt t0
 have za0 := zz _ _ HRW.out d0
 have za1 := zz _ _ HRW.out d1
 have zt0 := zz _ _ hg t0
 have zt1 := zz _ _ hg t1
 have zt2 := zz _ _ hg t2
 have zt3 := zz _ _ hg t3
 have zt4 := zz _ _ hg t4
 clear zz
 go_region
 rw [← HW1.out]
 clear za0 za1 zt0 zt1 zt2 zt3 zt4 t0 t1 t2 t3 t4 d0 d1 d2 d3 d4 d5
 obtain ⟨rs, hrs⟩ : ∃ b, b = Tr.rising (Tr.srt X.t.as) := ⟨_, rfl⟩
 have HRS := Lib.hid hrs
 have HSO2 := HSO
 unfold SrtP at HSO2
 rw [← hrs] at HSO2
 have x2 : W1.cell? ⟨w.heap.size, 2, none⟩ = some (.slice Ax X.al.length cx) := HW2.out.1.at_ 2
 clear hrs HSO
 go_wp2_with fail
 refine (HSO2.out).mono ?_
 rintro e W2 ⟨v, rfl, hso, hb2⟩
 have HSV := Lib.hid hso
 have HW3 := Lib.hid (show IsBlk W2 w.heap.size 64 #[.int .u8 X.t.k, .string N, .slice Ax X.al.length cx, .string T, .int .i64 X.t.p] ∧ Below w.heap.size w W2 ∧ RD B r W2 (some ⟨g, 0, none⟩) c ps i nv qs a0 e0 sz from
  ⟨HW2.out.1.below hb2 HW2.out.1.lt, HW2.out.2.trans (hb2.mono HW2.out.2.size), (HH.out.below HW2.out.2).below hb2⟩)
 have HB3 := Lib.hid (show Kr w W2 ∧ Below B w W2 from ⟨Kr.of_below HW3.out.2.1, HW3.out.2.1.mono (Nat.le_of_lt (Nat.lt_of_le_of_lt HH.out.base HRW.out))⟩)
 clear hso hb2 x2
 cases rs with
 | false =>
  have HFA := Lib.hid (fails_any B r W2 (some ⟨g, 0, none⟩) c ps i nv qs a0 e0 sz HW3.out.2.2 50 (by omega) (by omega))
  have HRR := Lib.hid (show R = .bad X.t.p 50 by rw [HR.out]; unfold Tr.elP; rw [if_pos HRS.out.symm])
  go_wp2_with fail
  refine (HFA.out).mono ?_
  rintro e w3 ⟨rfl, h1, h2, h3⟩
  go_wp2
  go_ret
  rw [HRR.out]
  rw [HAT.out] at h1
  exact ⟨⟨rfl, i, nv, qs, h1⟩, HB3.out.1.trans h2, HB3.out.2.trans h3⟩
 | true =>
  have HVN := HSV.out rfl
  have HR2 := Lib.hid (show R = if qs.length = 4096 ∨ 64 < deep then .bad X.t.p 3 else if X.t.k = 3 then .ok ((ps.map (·.t)).drop (i + 1)) [Tr.nodeAt X.t pa] else Tr.kdP f sz X.t.nm qs.length deep ((ps.map (·.t)).drop (i + 1)) [Tr.nodeAt X.t pa] [] (-1) from by
   rw [HR.out]; conv => lhs; unfold Tr.elP
   rw [if_neg (by rw [← HRS.out]; decide)])
  obtain ⟨An, cn, hnv, hn1, hn2, hn3⟩ := own_sliced HW3.out.2.2.row.own
  subst hnv
  have e2 : W2.cell? ⟨r, 2, none⟩ = some (.slice An qs.length cn) := HW3.out.2.2.cells.2.2.1
  have HFA := Lib.hid (fails_any B r W2 (some ⟨g, 0, none⟩) c ps i (.slice An qs.length cn) qs a0 e0 sz HW3.out.2.2 3 (by omega) (by omega))
  by_cases h4 : qs.length = 4096
  ·have HRR := Lib.hid (show R = .bad X.t.p 3 by rw [HR2.out, if_pos (Or.inl h4)])
   have h4b : (qs.length : Int) = 4096 := by omega
   go_wp2_with fail
   refine (HFA.out).mono ?_
   rintro e w3 ⟨rfl, h1, h2, h3⟩
   go_wp2
   go_ret
   rw [HRR.out]
   rw [HAT.out] at h1
   exact ⟨⟨rfl, i, _, qs, h1⟩, HB3.out.1.trans h2, HB3.out.2.trans h3⟩
  ·have h4b : ¬ (qs.length : Int) = 4096 := by omega
   have h4c : ((qs.length : Int) == 4096) = false := by simpa using h4b
   by_cases hd : 64 < deep
   ·have HRR := Lib.hid (show R = .bad X.t.p 3 by rw [HR2.out, if_pos (Or.inr hd)])
    have hdi : (deep : Int) > 64 := by omega
    go_wp2_with fail
    refine (HFA.out).mono ?_
    rintro e w3 ⟨rfl, h1, h2, h3⟩
    go_wp2
    go_ret
    rw [HRR.out]
    rw [HAT.out] at h1
    exact ⟨⟨rfl, i, _, qs, h1⟩, HB3.out.1.trans h2, HB3.out.2.trans h3⟩
   ·have hdi : ¬ (deep : Int) > 64 := by omega
    have HR3 := Lib.hid (show R = if X.t.k = 3 then .ok ((ps.map (·.t)).drop (i + 1)) [Tr.nodeAt X.t pa] else Tr.kdP f sz X.t.nm qs.length deep ((ps.map (·.t)).drop (i + 1)) [Tr.nodeAt X.t pa] [] (-1) by rw [HR2.out, if_neg (by omega)])
    have HQ2 := Lib.hid (show qs.length + 1 ≤ 4096 by have := HQ.out; omega)
    clear HFA HR2 h4 hd
    obtain ⟨Av, cv, hvv, _, _, _⟩ := own_sliced HVN
    subst hvv
    have hown : W2.ownsRow B 83 7 (.slice An qs.length cn) qs.length (qs.flatMap rndV) := HW3.out.2.2.row.own
    have b1 : W2.cell? ⟨w.heap.size, 1, none⟩ = some (.string N) := HW3.out.1.at_ 1
    have b4 : W2.cell? ⟨w.heap.size, 4, none⟩ = some (.int .i64 X.t.p) := HW3.out.1.at_ 4
    have hrl : B ≤ W2.heap.size := Nat.le_trans HH.out.base (Nat.le_of_lt HW3.out.2.2.blk.lt)
    have hxl : w.heap.size < W2.heap.size := HW3.out.1.lt
    obtain ⟨i0, hi, hz0, hz1, hz2⟩ := info_parts infoRN5
    have hq4 := HQ.out
    have hbig : qs.length + 1 ≤ maxLen := by unfold maxLen; omega
    obtain ⟨na, hna⟩ : ∃ n, n = (Tr.srt X.t.as).length := ⟨_, rfl⟩
    rw [← hna]
    have HNA := Lib.hid hna
    have HVN2 := Lib.hid HVN
    rw [← hna] at HVN2
    have HAPP := Lib.hid (fun (W5 w9 : World) (g9 cap9 : Nat) (hb5 : Below W2.heap.size W2 W5) (hgr9 : W5.grownBy w9 (Value.slice An qs.length cn).ownBlock) (hown9 : w9.ownsRow B 83 7 (.slice (some ⟨g9, 0, none⟩) (qs.length + 1) cap9) (qs.length + 1) (qs.flatMap rndV ++ [.string N, .slice Av na cv, .string ⟨#[]⟩, .int .i64 pa, .int .i64 (-1), .int .i64 (-1), .int .i64 X.t.p])) =>
     el_app HW3.out.2.2 HW3.out.1 HVN2.out (Nat.le_trans HH.out.base (Nat.le_trans (Nat.le_of_lt HRW.out) HW2.out.2.size)) HNT.out.1 hb5 hgr9 hown9)
    clear HVN hna
    go_wp2_with fail
    refine wp_region_held_drew (S := (fun w' => w'.cell? ⟨w.heap.size, 1, none⟩ = some (.string N) ∧ w'.cell? ⟨w.heap.size, 4, none⟩ = some (.int .i64 X.t.p))) (by kernel_rfl) ⟨b1, b4⟩ (fun hHeld => ?_)
    refine wpAnyH_take (i := 0) (v := .pointer (some ⟨r,0,none⟩)) rfl (by kernel_rfl) (by kernel_rfl) (by kernel_rfl) (fun _ _ _ h => h) (Or.inl ⟨by rfl, by (intro w hS; go_simp)⟩) hHeld ?_
    try simp only [Act.put, List.getElem_toArray, List.getElem_cons_zero, List.setIfInBounds_toArray, List.set_cons_zero, List.set_cons_succ]
    refine wpAnyH_take (i := 1) (v := .pointer (some ⟨r,0,none⟩)) rfl (by kernel_rfl) (by kernel_rfl) (by kernel_rfl) (fun _ _ _ h => h) (Or.inl ⟨by rfl, by (intro w hS; try (obtain ⟨s0, s1⟩ := hS); go_simp)⟩) hHeld ?_
    try simp only [Act.put, List.getElem_toArray, List.getElem_cons_succ, List.getElem_cons_zero, List.setIfInBounds_toArray, List.set_cons_zero, List.set_cons_succ]
    refine wpAnyH_take (i := 2) (v := .pointer (some ⟨r,0,none⟩)) rfl (by kernel_rfl) (by kernel_rfl) (by kernel_rfl) (fun _ _ _ h => h) (Or.inl ⟨by rfl, by (intro w hS; try (obtain ⟨s0, s1⟩ := hS); go_simp)⟩) hHeld ?_
    try simp only [Act.put, List.getElem_toArray, List.getElem_cons_succ, List.getElem_cons_zero, List.setIfInBounds_toArray, List.set_cons_zero, List.set_cons_succ]
    refine wpAnyH_take (i := 3) (v := .pointer (some ⟨r,2,none⟩)) rfl (by kernel_rfl) (by kernel_rfl) (by kernel_rfl) (fun _ _ _ h => h) (Or.inl ⟨by rfl, by (intro w hS; try (obtain ⟨s0, s1⟩ := hS); go_simp)⟩) hHeld ?_
    try simp only [Act.put, List.getElem_toArray, List.getElem_cons_succ, List.getElem_cons_zero, List.setIfInBounds_toArray, List.set_cons_zero, List.set_cons_succ]
    refine wpAnyH_take (i := 4) (v := .pointer (some ⟨r,2,none⟩)) rfl (by kernel_rfl) (by kernel_rfl) (by kernel_rfl) (fun _ _ _ h => h) (Or.inl ⟨by rfl, by (intro w hS; try (obtain ⟨s0, s1⟩ := hS); go_simp)⟩) hHeld ?_
    try simp only [Act.put, List.getElem_toArray, List.getElem_cons_succ, List.getElem_cons_zero, List.setIfInBounds_toArray, List.set_cons_zero, List.set_cons_succ]
    refine wpAnyH_take (i := 6) (v := .pointer (some ⟨w.heap.size,1,none⟩)) rfl (by kernel_rfl) (by kernel_rfl) (by kernel_rfl) (fun _ _ _ h => h) (Or.inl ⟨by rfl, by (intro w hS; try (obtain ⟨s0, s1⟩ := hS); go_simp)⟩) hHeld ?_
    try simp only [Act.put, List.getElem_toArray, List.getElem_cons_succ, List.getElem_cons_zero, List.setIfInBounds_toArray, List.set_cons_zero, List.set_cons_succ]
    refine wpAnyH_take (i := 7) (v := .string N) rfl (by kernel_rfl) (by kernel_rfl) (by kernel_rfl) (fun _ _ _ h => h) (Or.inl ⟨by rfl, by (intro w hS; try (obtain ⟨s0, s1⟩ := hS); go_simp)⟩) hHeld ?_
    try simp only [Act.put, List.getElem_toArray, List.getElem_cons_succ, List.getElem_cons_zero, List.setIfInBounds_toArray, List.set_cons_zero, List.set_cons_succ]
    refine wpAnyH_take (i := 8) (v := .slice Av na cv) rfl (by kernel_rfl) (by kernel_rfl) (by kernel_rfl) (fun _ _ _ h => h) (Or.inl ⟨by rfl, by (intro w hS; try (obtain ⟨s0, s1⟩ := hS); go_simp)⟩) hHeld ?_
    try simp only [Act.put, List.getElem_toArray, List.getElem_cons_succ, List.getElem_cons_zero, List.setIfInBounds_toArray, List.set_cons_zero, List.set_cons_succ]
    refine wpAnyH_take (i := 9) (v := .int .i64 pa) rfl (by kernel_rfl) (by kernel_rfl) (by kernel_rfl) (fun _ _ _ h => h) (Or.inl ⟨by rfl, by (intro w hS; try (obtain ⟨s0, s1⟩ := hS); go_simp)⟩) hHeld ?_
    try simp only [Act.put, List.getElem_toArray, List.getElem_cons_succ, List.getElem_cons_zero, List.setIfInBounds_toArray, List.set_cons_zero, List.set_cons_succ]
    refine wpAnyH_take (i := 10) (v := .pointer (some ⟨w.heap.size,4,none⟩)) rfl (by kernel_rfl) (by kernel_rfl) (by kernel_rfl) (fun _ _ _ h => h) (Or.inl ⟨by rfl, by (intro w hS; try (obtain ⟨s0, s1⟩ := hS); go_simp)⟩) hHeld ?_
    try simp only [Act.put, List.getElem_toArray, List.getElem_cons_succ, List.getElem_cons_zero, List.setIfInBounds_toArray, List.set_cons_zero, List.set_cons_succ]
    refine wpAnyH_take (i := 11) (v := .int .i64 X.t.p) rfl (by kernel_rfl) (by kernel_rfl) (by kernel_rfl) (fun _ _ _ h => h) (Or.inl ⟨by rfl, by (intro w hS; try (obtain ⟨s0, s1⟩ := hS); go_simp)⟩) hHeld ?_
    try simp only [Act.put, List.getElem_toArray, List.getElem_cons_succ, List.getElem_cons_zero, List.setIfInBounds_toArray, List.set_cons_zero, List.set_cons_succ]
    refine wpAnyH_take (i := 12) (v := .agg #[.string N, .slice Av na cv, .string ⟨#[]⟩, .int .i64 pa, .int .i64 (-1), .int .i64 (-1), .int .i64 X.t.p]) rfl (by kernel_rfl) (by kernel_rfl) (by kernel_rfl) (fun _ _ _ h => h) (Or.inl ⟨by rfl, by (intro w hS; try (obtain ⟨s0, s1⟩ := hS); go_simp)⟩) hHeld ?_
    try simp only [Act.put, List.getElem_toArray, List.getElem_cons_succ, List.getElem_cons_zero, List.setIfInBounds_toArray, List.set_cons_zero, List.set_cons_succ]
    refine wpAnyH_ready (rs := [5, 13]) (by kernel_rfl) (by simp) ?_
    refine AllReadyH.cons rfl (fun K hK => ?_) (AllReadyH.cons rfl (fun K hK => ?_) AllReadyH.nil)
    ·try simp only [List.getElem_toArray, List.getElem_cons_succ, List.getElem_cons_zero]
     go_simp
     refine hK.out _ _ ⟨b1, b4⟩ (fun hHeld => ?_)
     clear hK K
     try simp only [Act.put, List.getElem_toArray, List.getElem_cons_succ, List.getElem_cons_zero, List.setIfInBounds_toArray, List.set_cons_zero, List.set_cons_succ]
     refine wpAnyH_ready (rs := [13]) (by kernel_rfl) (by simp) ?_
     refine AllReadyH.cons rfl (fun K hK => ?_) AllReadyH.nil
     try simp only [List.getElem_toArray, List.getElem_cons_succ, List.getElem_cons_zero]
     go_simp
     refine hK.out _ _ ⟨(World.cell?_alloc_lt _ _ _ hxl).trans b1, (World.cell?_alloc_lt _ _ _ hxl).trans b4⟩ (fun hHeld => ?_)
     clear hK K
     try simp only [Act.put, List.getElem_toArray, List.getElem_cons_succ, List.getElem_cons_zero, List.setIfInBounds_toArray, List.set_cons_zero, List.set_cons_succ]
     refine wpAnyH_ready (rs := [14]) (by kernel_rfl) (by simp) ?_
     refine AllReadyH.cons rfl (fun K hK => ?_) AllReadyH.nil
     refine step_append_lies _ (by rfl) _ _ _ (by rfl) B 83 i0 _ 7 88 Tryz.underlying23 hi hz0 hz1 hz2 rfl (by omega) (.slice An qs.length cn) qs.length (qs.flatMap rndV) (by rfl) (by exact World.ownsRow.alloc hown _) _ 1 _ [.string N, .slice Av na cv, .string ⟨#[]⟩, .int .i64 pa, .int .i64 (-1), .int .i64 (-1), .int .i64 X.t.p] (by rfl) rfl (by intro j u hu; exact news_at _ _ _ _ (by simp) j u hu) (by intro u hu; simp at hu; rcases hu with rfl | rfl | rfl | rfl | rfl | rfl | rfl <;> rfl) (by omega) hbig (by omega) (by simp; omega) _ rfl ?_
     intro g9 cap9 w9 hown9 hgr9 hat9 hlt9
     have HA9 := Lib.hid (HAPP.out _ w9 g9 cap9 (by first | exact ((Below.refl _ _).alloc (Nat.le_refl _) _).drew | exact ((Below.refl _ _).drew).alloc (Nat.le_refl _) _ | exact (Below.refl _ _).alloc (Nat.le_refl _) _) hgr9 hown9)
     clear hown9 hgr9 hat9 hlt9
     refine hK.out _ _ ⟨HA9.out.1, HA9.out.2.1⟩ (fun hHeld => ?_)
     clear hK K
     try simp only [Act.put, List.getElem_toArray, List.getElem_cons_succ, List.getElem_cons_zero, List.setIfInBounds_toArray, List.set_cons_zero, List.set_cons_succ]
     refine wpAnyH_take (i := 15) (v := .pointer (some ⟨r,0,none⟩)) rfl (by kernel_rfl) (by kernel_rfl) (by kernel_rfl) (fun _ _ _ h => h) (Or.inl ⟨by rfl, by (intro w hS; try (obtain ⟨s0, s1⟩ := hS); go_simp)⟩) hHeld ?_
     try simp only [Act.put, List.getElem_toArray, List.getElem_cons_succ, List.getElem_cons_zero, List.setIfInBounds_toArray, List.set_cons_zero, List.set_cons_succ]
     refine wpAnyH_take (i := 16) (v := .pointer (some ⟨r,2,none⟩)) rfl (by kernel_rfl) (by kernel_rfl) (by kernel_rfl) (fun _ _ _ h => h) (Or.inl ⟨by rfl, by (intro w hS; try (obtain ⟨s0, s1⟩ := hS); go_simp)⟩) hHeld ?_
     try simp only [Act.put, List.getElem_toArray, List.getElem_cons_succ, List.getElem_cons_zero, List.setIfInBounds_toArray, List.set_cons_zero, List.set_cons_succ]
     refine wpAnyH_take (i := 17) (v := .pointer (some ⟨r,2,none⟩)) rfl (by kernel_rfl) (by kernel_rfl) (by kernel_rfl) (fun _ _ _ h => h) (Or.inl ⟨by rfl, by (intro w hS; try (obtain ⟨s0, s1⟩ := hS); go_simp)⟩) hHeld ?_
     try simp only [Act.put, List.getElem_toArray, List.getElem_cons_succ, List.getElem_cons_zero, List.setIfInBounds_toArray, List.set_cons_zero, List.set_cons_succ]
     have y2 := HA9.out.2.2.1
     have yf := HA9.out.2.2.2.1
     refine wpAnyH_ready (rs := [18]) (by kernel_rfl) (by simp) ?_
     refine AllReadyH.cons rfl (fun K hK => ?_) AllReadyH.nil
     try simp only [List.getElem_toArray, List.getElem_cons_succ, List.getElem_cons_zero]
     go_simp
     refine hK.out _ _ ⟨HA9.out.2.2.2.2.2.2.1.at_ 1, HA9.out.2.2.2.2.2.2.1.at_ 4⟩ (fun hHeld => ?_)
     clear hK K hHeld y2 yf
     try simp only [Act.put, List.getElem_toArray, List.getElem_cons_succ, List.getElem_cons_zero, List.setIfInBounds_toArray, List.set_cons_zero, List.set_cons_succ]
     refine wpAnyH_done (by kernel_rfl) ?_ _
     obtain ⟨qs', hqs'⟩ : ∃ q, q = qs ++ [((⟨X.t.nm, Tr.srt X.t.as, [], pa, -1, -1, X.t.p⟩ : Tr.N), Value.slice Av na cv)] := ⟨_, rfl⟩
     have HQS := Lib.hid hqs'
     have hql : qs.length + 1 = qs'.length := by rw [hqs', List.length_append]; rfl
     have HW4 := Lib.hid (show RD B r (w9.setCell ⟨r, 2, none⟩ (.slice (some ⟨g9, 0, none⟩) (qs.length + 1) cap9)) (some ⟨g, 0, none⟩) c ps i (.slice (some ⟨g9, 0, none⟩) qs'.length cap9) qs' a0 e0 sz ∧ Kr w (w9.setCell ⟨r, 2, none⟩ (.slice (some ⟨g9, 0, none⟩) (qs.length + 1) cap9)) ∧ Below B w (w9.setCell ⟨r, 2, none⟩ (.slice (some ⟨g9, 0, none⟩) (qs.length + 1) cap9)) ∧ IsBlk (w9.setCell ⟨r, 2, none⟩ (.slice (some ⟨g9, 0, none⟩) (qs.length + 1) cap9)) w.heap.size 64 #[.int .u8 X.t.k, .string N, .slice Ax X.al.length cx, .string T, .int .i64 X.t.p] from
      ⟨by rw [← hql, hqs']; exact HA9.out.2.2.2.2.1, HB3.out.1.trans HA9.out.2.2.2.2.2.1, HB3.out.2.trans HA9.out.2.2.2.2.2.2.2, HA9.out.2.2.2.2.2.2.1⟩)
     generalize w9.setCell ⟨r, 2, none⟩ (.slice (some ⟨g9, 0, none⟩) (qs.length + 1) cap9) = W4 at *
     clear hqs' HA9 HAPP hown b1 b4 hrl hxl hi hz0 hz1 hz2 hbig e2 hn1 hn2 hn3 hql h4b h4c hq4
     obtain ⟨d0, d1, d2, d3, d4, d5⟩ := HW4.out.1.cells
     have x0 : W4.cell? ⟨w.heap.size, 0, none⟩ = some (.int .u8 X.t.k) := HW4.out.2.2.2.at_ 0
     have f1 : W4.frozen? ⟨r, 1, none⟩ = false := HW4.out.1.blk.fz 1
     have HD1 := Lib.hid (show qs'.map (·.1) = qs.map (·.1) ++ [Tr.nodeAt X.t pa] from by rw [HQS.out, List.map_append]; rfl)
     have HXL := Lib.hid (List.getElem?_eq_some_iff.1 HXI.out).1
     by_cases hk3 : X.t.k = 3
     ·have HRR := Lib.hid (show R = .ok ((ps.map (·.t)).drop (i + 1)) [Tr.nodeAt X.t pa] by rw [HR3.out, if_pos hk3])
      rw [hk3] at x0
      have HN := Lib.hid (HW4.out.1.seti (i + 1))
      have HNK := Lib.hid (rd_set HW4.out.1 1 (.int .i64 ((i + 1 : Nat) : Int)))
      clear hk3
      go_wp2_with fail
      go_ret
      rw [HRR.out]
      exact ⟨⟨rfl, i + 1, _, qs', HXL.out, rfl, HD1.out, HN.out⟩, HW4.out.2.1.trans HNK.out.2.2.1, HW4.out.2.2.1.trans HNK.out.2.2.2⟩
     ·have hk3b : (X.t.k == 3) = false := by simpa using hk3
      have HR4 := Lib.hid (show R = Tr.kdP f sz X.t.nm qs.length deep ((ps.map (·.t)).drop (i + 1)) [Tr.nodeAt X.t pa] [] (-1) by rw [HR3.out, if_neg hk3])
      have HW5 := Lib.hid (show RD B r (W4.setCell ⟨r, 1, none⟩ (.int .i64 ((i + 1 : Nat) : Int))) (some ⟨g, 0, none⟩) c ps (i + 1) (.slice (some ⟨g9, 0, none⟩) qs'.length cap9) qs' a0 e0 sz ∧ Kr w (W4.setCell ⟨r, 1, none⟩ (.int .i64 ((i + 1 : Nat) : Int))) ∧ Below B w (W4.setCell ⟨r, 1, none⟩ (.int .i64 ((i + 1 : Nat) : Int))) ∧ IsBlk (W4.setCell ⟨r, 1, none⟩ (.int .i64 ((i + 1 : Nat) : Int))) w.heap.size 64 #[.int .u8 X.t.k, .string N, .slice Ax X.al.length cx, .string T, .int .i64 X.t.p] from
       have hs := rd_set HW4.out.1 1 (.int .i64 ((i + 1 : Nat) : Int))
       ⟨HW4.out.1.seti (i + 1), HW4.out.2.1.trans hs.2.2.1, HW4.out.2.2.1.trans hs.2.2.2, hs.2.2.1.blk HW4.out.2.2.2 (by decide) (by decide)⟩)
      clear hk3
      obtain ⟨W6, hW6⟩ : ∃ W6, W6 = W4.setCell ⟨r, 1, none⟩ (.int .i64 ((i : Int) + 1)) := ⟨_, rfl⟩
      have HDP := Lib.hid (show deep ≤ 64 from by omega)
      have HK0 := Lib.hid (show KdL B r (some ⟨g, 0, none⟩) c ps a0 e0 sz w (qs.map (·.1)) w.heap.size #[.int .u8 X.t.k, .string N, .slice Ax X.al.length cx, .string T, .int .i64 X.t.p] X.t.nm deep f R W6 (i + 1) g9 cap9 qs' (ByteArray.mk #[]).data.toList (-1) from by
       rw [hW6]
       refine ⟨HW5.out.1, HW5.out.2.1, HW5.out.2.2.1, HW5.out.2.2.2, HXL.out, ?_, ?_, f, [Tr.nodeAt X.t pa], Nat.le_refl _, ?_, HD1.out, by simp, by rw [HR4.out, List.length_map], Or.inl rfl⟩
       ·have := HQ2.out; rw [HQS.out, List.length_append]; simp; omega
       ·have h1 := ok.tx
        have h2 : Tk.txs ((ps.map (·.t)).drop (i + 1)) ≤ Tk.txs (ps.map (·.t)) := by
         generalize ps.map (·.t) = l
         conv => rhs; rw [← List.take_append_drop (i + 1) l]
         unfold Tk.txs
         rw [List.map_append, List.sum_append]
         omega
        show 0 + _ ≤ _
        omega
       ·have h1 := HF.out; have h2 := HXL.out; omega)
      go_wp2_with fail
      rw [← hW6]
      clear hW6
      go_loopw [11, 12] (fun tv lv wr => ∃ (i1 g1 cn1 : Nat) (qs1 : List (Tr.N × Value)) (T1 : ByteArray) (last : Int), tv = .string T1 ∧ lv = .int .i64 last ∧ Hid (KdL B r (some ⟨g, 0, none⟩) c ps a0 e0 sz w (qs.map (·.1)) w.heap.size #[.int .u8 X.t.k, .string N, .slice Ax X.al.length cx, .string T, .int .i64 X.t.p] X.t.nm deep f R wr i1 g1 cn1 qs1 T1.data.toList last)) (fun _ _ wr => ps.length - iOf r wr)
      case atStart => exact ⟨i + 1, g9, cap9, qs', _, -1, rfl, rfl, HK0⟩
      case round =>
       obtain ⟨i1, g1, cn1, qs1, T1, last, rfl, rfl, HI⟩ := hrel
       clear HK0 HW4 HW5 x0 f1
       have HM := Lib.hid HI.out.rd.iOf
       obtain ⟨d0, d1, d2, d3, d4, d5⟩ := HI.out.rd.cells
       have x1 : wr.cell? ⟨w.heap.size, 1, none⟩ = some (.string N) := HI.out.box.at_ 1
       have f1 : wr.frozen? ⟨r, 1, none⟩ = false := HI.out.rd.blk.fz 1
       have hi1 := HI.out.hi
       have hq1 := HI.out.q
       by_cases hlt : i1 < ps.length
       ·have hlt' : (i1 : Int) < (ps.length : Int) := by omega
        have hltd : decide ((i1 : Int) < (ps.length : Int)) = true := decide_eq_true hlt'
        have hltn : decide (i1 < ps.length) = true := decide_eq_true hlt
        have HLT := Lib.hid hlt
        obtain ⟨gg, hA, hgc1, t0, t1, t2, t3, t4⟩ := HI.out.rd.tcells hlt
        injection hA with hA
        injection hA with hA
        subst hA
        have HKD := Lib.hid (ok.kinds _ (List.getElem_mem hlt))
        have HTL := Lib.hid (show ps[i1].t.tx.length + T1.data.toList.length ≤ 400000 from by
         have h1 := HI.out.tx
         rw [txs_drop hlt] at h1
         omega)
        have HTX := Lib.hid (fun (h4 : ps[i1].t.k = 4) (n : Nat) => fun (wx : World) (hx : KdL B r (some ⟨g, 0, none⟩) c ps a0 e0 sz w (qs.map (·.1)) w.heap.size #[.int .u8 X.t.k, .string N, .slice Ax X.al.length cx, .string T, .int .i64 X.t.p] X.t.nm deep f R wx i1 g1 cn1 qs1 T1.data.toList last) => hx.more hlt h4 n)
        have HCL := Lib.hid (fun (h2 : ps[i1].t.k = 2) => HI.out.close hlt h2)
        have HKI := Lib.hid (fun (h2 : ps[i1].t.k ≠ 2) (h4 : ps[i1].t.k ≠ 4) => HI.out.kid hlt h2 h4)
        have HAT1 := Lib.hid (show atOf ps i1 sz = ((ps[i1].t.p : Nat) : Int) from by unfold atOf; rw [List.getElem?_eq_getElem hlt]; rfl)
        have HIH := Lib.hid (fun (hk : ps[i1].t.k = 1 ∨ ps[i1].t.k = 3) (f2 : Nat) (hf2 : f2 ≤ f) (hfl : 2 * (ps.length - i1) < f2) wx (hr : RD B r wx (some ⟨g, 0, none⟩) c ps i1 (.slice (some ⟨g1, 0, none⟩) qs1.length cn1) qs1 a0 e0 sz) => IH f2 hf2 wx i1 _ qs1 a0 e0 ((qs.length : Nat) : Int) (deep + 1) hr hlt hfl hq1 (by omega) hk)
        generalize ps[i1].t = Y at *
        obtain ⟨YN, hYN⟩ : ∃ N : ByteArray, N = ⟨Y.nm.toArray⟩ := ⟨_, rfl⟩
        obtain ⟨YT, hYT⟩ : ∃ N : ByteArray, N = ⟨Y.tx.toArray⟩ := ⟨_, rfl⟩
        rw [← hYN] at t1
        rw [← hYT] at t3
        have HYN := Lib.hid hYN
        have HYT := Lib.hid (show YT.data.toList = Y.tx by rw [hYT])
        have hltn2 : ((i1 : Int) == (ps.length : Int)) = false := beq_eq_false_iff_ne.2 (by omega)
        have HLTI := Lib.hid (show i1 < ps.length ∧ i1 + 1 ≤ ps.length from ⟨hlt, hlt⟩)
        clear hYN hYT t2 hlt
        obtain ⟨K, hK⟩ : ∃ K, K = Y.k := ⟨_, rfl⟩
        rw [← hK] at t0 HTX HCL HKI HKD HIH
        by_cases k2 : K = 2
        ·subst k2
         have q2 : ((2 : Int) != 2) = false := rfl
         have q2b : decide ((2 : Int) = 2) = true := rfl
         obtain ⟨M, hM1, hM2, hM3⟩ := HCL.out rfl
         have HM1 := Lib.hid hM1
         have HM3 := Lib.hid hM3
         clear hM1 hM2 hM3 HTX HKI HIH HKD
         by_cases hnm : Y.nm = X.t.nm
         ·have hYNN : YN = N := by rw [HYN.out, HNT.out.1, hnm]
          rw [hYNN] at t1
          have HRR := Lib.hid (show R = .ok ((ps.map (·.t)).drop (i1 + 1)) (if Tk.allB T1.data.toList = true then M else M.modify 0 (fun x => { x with tx := T1.data.toList })) by rw [HM3.out, if_neg (by rw [hnm]; simp)])
          have n1 : (N.toList != N.toList) = false := by simp
          have n2 : (!(N.toList == N.toList)) = false := by simp
          clear hnm hYNN HM3
          have HBL := Lib.hid (fun w0 => rBlank_any T1 w0 (by have h1 := HTL.out; rw [← Lib.size_eq] at h1; unfold maxLen; omega))
          cases hb : Tk.allB T1.data.toList with
          | true =>
           rw [hb] at HBL
           have HR5 := Lib.hid (show R = .ok ((ps.map (·.t)).drop (i1 + 1)) M by rw [HRR.out, if_pos hb])
           clear hb HRR
           go_wp2_with fail
           go_quiet (fail)
           go_wp2_with fail
           go_quiet (fail)
           go_wp2_with fail
           refine (HBL.out _).mono ?_
           rintro e w8 ⟨rfl, rfl⟩
           go_wp2
           go_ret
           rw [HR5.out]
           have HQR := fun n => rd_next HI.out.rd HI.out.kr HI.out.below n (i1 + 1)
           exact ⟨⟨rfl, i1 + 1, _, qs1, HLTI.out.2, rfl, HM1.out, (HQR _).1⟩, (HQR _).2.1, (HQR _).2.2⟩
          | false =>
           rw [hb] at HBL
           have HR5 := Lib.hid (show R = .ok ((ps.map (·.t)).drop (i1 + 1)) (M.modify 0 (fun x => { x with tx := T1.data.toList })) by rw [HRR.out, if_neg (by rw [hb]; decide)])
           have hln := HI.out.len
           rw [List.length_map] at hln
           have hln' : (qs.length : Int) < (qs1.length : Int) := by omega
           clear hb HRR
           go_wp2_with fail
           go_quiet (fail)
           go_wp2_with fail
           go_quiet (fail)
           go_wp2_with fail
           refine (HBL.out _).mono ?_
           rintro e w8 ⟨rfl, hw8⟩
           obtain ⟨nn, hw9⟩ : ∃ n, w8 = (wr.drewN n).setCell ⟨r, 1, none⟩ (.int .i64 ((i1 : Int) + 1)) := ⟨_, hw8.symm⟩
           have HFN := Lib.hid (HI.out.fin HM1.out nn (i1 + 1))
           have rd8 : RD B r w8 (some ⟨g, 0, none⟩) c ps (i1 + 1) (.slice (some ⟨g1, 0, none⟩) qs1.length cn1) qs1 a0 e0 sz := by
            rw [hw9]; exact (rd_next HI.out.rd HI.out.kr HI.out.below nn (i1 + 1)).1
           obtain ⟨o1, o2⟩ := own_there rd8.row.own (j := qs.length * 7 + 2) (by rw [fl_len (k := 7) (fun _ => rfl)]; omega)
           have d2' := rd8.cells.2.2.1
           have HFM := Lib.hid (show (RD B r (w8.setCell ⟨g1, qs.length * 7 + 2, none⟩ (.string T1)) (some ⟨g, 0, none⟩) c ps (i1 + 1) (.slice (some ⟨g1, 0, none⟩) (qs1.modify qs.length (G2 T1.data.toList)).length cn1) (qs1.modify qs.length (G2 T1.data.toList)) a0 e0 sz ∧ Kr w (w8.setCell ⟨g1, qs.length * 7 + 2, none⟩ (.string T1)) ∧ Below B w (w8.setCell ⟨g1, qs.length * 7 + 2, none⟩ (.string T1))) ∧ (qs1.modify qs.length (G2 T1.data.toList)).map (·.1) = qs.map (·.1) ++ M.modify 0 (fun x => { x with tx := T1.data.toList }) from by
            have h9 := HFN.out
            rw [List.length_map, show (⟨T1.data.toList.toArray⟩ : ByteArray) = T1 from by cases T1; rfl] at h9
            rw [hw9]
            exact h9)
           clear hw8 hw9 rd8 HFN d0 d1 d2 d3 d4 d5
           go_wp2
           go_ret
           rw [HR5.out]
           exact ⟨⟨rfl, i1 + 1, _, _, HLTI.out.2, rfl, HFM.out.2, HFM.out.1.1⟩, HFM.out.1.2.1, HFM.out.1.2.2⟩
         ·have HRR := Lib.hid (show R = .bad Y.p 50 by rw [HM3.out, if_pos hnm])
          have hne : YN.toList ≠ N.toList := fun e => hnm (by
           rw [Lib.toList_data, Lib.toList_data, HYN.out, HNT.out.1] at e
           simpa using e)
          have n1 : (YN.toList != N.toList) = true := by simpa using hne
          have n2 : (YN.toList == N.toList) = false := by simpa using hne
          clear hnm hne HM3
          go_wp2_with fail
          go_quiet (fail)
          go_wp2_with fail
          go_quiet (fail)
          go_wp2_with fail
          refine (fails_any B r _ _ c ps i1 _ qs1 a0 e0 sz (HI.out.drewN _).rd 50 (by omega) (by omega)).mono ?_
          rintro e w8 ⟨rfl, h1, h2, h3⟩
          go_wp2
          go_ret
          rw [HRR.out]
          rw [HAT1.out] at h1
          exact ⟨⟨rfl, i1, _, qs1, h1⟩, (HI.out.drewN _).kr.trans h2, (HI.out.drewN _).below.trans h3⟩
        ·have q2 : ((K : Int) != 2) = true := by simpa using k2
         by_cases k4 : K = 4
         ·subst k4
          have HTX2 := Lib.hid (HTX.out rfl)
          clear HTX
          have HTE := Lib.hid (show (T1 ++ YT).data.toList = T1.data.toList ++ Y.tx by rw [← HYT.out]; simp)
          have hcat : T1.size + YT.size ≤ 9223372036854775807 := by
           have h1 := HTL.out
           have h2 := HYT.out
           rw [← h2, ← Lib.size_eq, ← Lib.size_eq] at h1
           omega
          go_wp2_with fail
          go_quiet (fail)
          go_wp2_with fail
          go_quiet (fail)
          go_wp2_with fail
          go_quiet (fail)
          go_wp2
          have key : ∀ n, iOf r ((wr.drewN n).setCell ⟨r, 1, none⟩ (.int .i64 ((i1 : Int) + 1))) = i1 + 1 := fun n => (HTX2.out n wr HI.out).rd.iOf
          refine ⟨⟨i1 + 1, g1, cn1, qs1, _, last, rfl, rfl, Lib.hid (by rw [HTE.out]; exact HTX2.out _ wr HI.out)⟩, ?_⟩
          rw [key, HM.out]
          have := HLTI.out.1
          omega
         ·have q4 : ((K : Int) == 4) = false := by simpa using k4
          obtain ⟨f2, M, hE⟩ := HKI.out k2 k4
          have hk13 : K = 1 ∨ K = 3 := by have := HKD.out; omega
          have hlx := HLTI.out.1
          obtain ⟨R2, hR2⟩ : ∃ R2, R2 = Tr.elP f2 sz ((ps.map (·.t)).drop i1) qs1.length ((qs.length : Nat) : Int) (deep + 1) := ⟨_, rfl⟩
          have hCL := fun n => HIH.out hk13 f2 (by have := hE.1; omega) hE.2.1 (wr.drewN n) (HI.out.drewN n).rd
          rw [← hR2] at hCL
          have HCL2 := Lib.hid hCL
          have HE := Lib.hid hE
          have HR2 := Lib.hid hR2
          clear hCL hE hR2 hk13 hlx HKI HIH HTX HCL k2 k4 hK HKD
          go_wp2_with fail
          go_quiet (fail)
          go_wp2_with fail
          go_quiet (fail)
          go_wp2_with fail
          refine (HCL2.out _).mono ?_
          rintro e w4 ⟨hm, kr4, bl4⟩
          have HKB := Lib.hid (And.intro kr4 bl4)
          clear kr4 bl4
          cases R2 with
          | bad a er =>
           obtain ⟨rfl, i2, nv2, qs2, rd2⟩ := hm
           have HRR := Lib.hid (show R = .bad a er by rw [HE.out.2.2.2.2.2, List.length_map, ← HR2.out])
           have HRD2 := Lib.hid rd2
           clear rd2
           go_wp2
           go_ret
           rw [HRR.out]
           exact ⟨⟨rfl, i2, nv2, qs2, HRD2.out⟩, (HI.out.drewN _).kr.trans HKB.out.1, (HI.out.drewN _).below.trans HKB.out.2⟩
          | ok rest K2 =>
           obtain ⟨rfl, i2, nv2, qs2, hi2, hrest, hmap, rd2⟩ := hm
           obtain ⟨An2, cn2, hnv2, hc2a, hc2b, hn2⟩ := own_sliced rd2.row.own
           subst hnv2
           have hln := HI.out.len
           rw [List.length_map] at hln
           have hl2 : qs1.length ≤ qs2.length := by
            have := congrArg List.length hmap
            rw [List.length_map, List.length_append, List.length_map] at this
            omega
           obtain ⟨g2, hg2, hgl, _⟩ := hn2 (by omega)
           subst hg2
           have hlk := (HI.out.drewN _).link HE.out (by rw [List.length_map, ← HR2.out, hrest]) rd2 HKB.out.1 HKB.out.2 hmap hi2 HLTI.out.1 0
           rw [List.length_map] at hlk
           obtain ⟨hii, hqq, L1, L2⟩ := hlk
           have d2' := rd2.cells.2.2.1
           have HRD2 := Lib.hid rd2
           have hln2 : (qs.length : Int) < (qs2.length : Int) := by omega
           have hlb := HE.out.2.2.2.2.1
           rw [List.length_map] at hlb
           clear rd2 hmap hrest d0 d1 d2 d3 d4 d5
           by_cases hl : last = -1
           ·subst hl
            clear hlb
            have HN := Lib.hid (show KdL B r (some ⟨g, 0, none⟩) c ps a0 e0 sz w (qs.map (·.1)) w.heap.size _ X.t.nm deep f R (w4.setCell ⟨g2, qs.length * 7 + 4, none⟩ (.int .i64 (qs1.length : Int))) i2 g2 cn2 _ T1.data.toList (qs1.length : Int) from L1 rfl)
            have key : iOf r (w4.setCell ⟨g2, qs.length * 7 + 4, none⟩ (.int .i64 (qs1.length : Int))) = i2 := HN.out.rd.iOf
            obtain ⟨o1, o2⟩ := own_there HRD2.out.row.own (j := qs.length * 7 + 4) (by rw [fl_len (k := 7) (fun _ => rfl)]; omega)
            clear L1 L2
            go_wp2
            refine ⟨⟨i2, g2, cn2, _, T1, (qs1.length : Int), rfl, rfl, HN⟩, ?_⟩
            rw [key, HM.out]
            omega
           ·have hlo : (qs.length : Int) ≤ last ∧ last < (qs1.length : Int) := by
             rcases hlb with h | h
             ·exact absurd h hl
             ·exact h
            obtain ⟨ln, rfl⟩ : ∃ n : Nat, last = (n : Int) := ⟨last.toNat, by omega⟩
            have hl0 : ¬ (ln : Int) < 0 := by omega
            have hlq : (ln : Int) < (qs2.length : Int) := by omega
            have hlz := hl
            clear hlb hl
            have HN := Lib.hid (show KdL B r (some ⟨g, 0, none⟩) c ps a0 e0 sz w (qs.map (·.1)) w.heap.size _ X.t.nm deep f R (w4.setCell ⟨g2, ln * 7 + 5, none⟩ (.int .i64 (qs1.length : Int))) i2 g2 cn2 _ T1.data.toList (qs1.length : Int) from L2 hlz)
            have key : iOf r (w4.setCell ⟨g2, ln * 7 + 5, none⟩ (.int .i64 (qs1.length : Int))) = i2 := HN.out.rd.iOf
            obtain ⟨o1, o2⟩ := own_there HRD2.out.row.own (j := ln * 7 + 5) (by rw [fl_len (k := 7) (fun _ => rfl)]; omega)
            clear L1 L2
            go_wp2
            refine ⟨⟨i2, g2, cn2, _, T1, (qs1.length : Int), rfl, rfl, HN⟩, ?_⟩
            rw [key, HM.out]
            omega
       ·have hlt' : ¬ (i1 : Int) < (ps.length : Int) := by omega
        have hltd : decide ((i1 : Int) < (ps.length : Int)) = false := decide_eq_false hlt'
        have hltn : decide (i1 < ps.length) = false := decide_eq_false hlt
        have heq : i1 = ps.length := by omega
        have heqd : ((i1 : Int) == (ps.length : Int)) = true := by rw [heq]; simp
        have heqd2 : decide ((i1 : Int) = (ps.length : Int)) = true := by rw [heq]; simp
        have HRR := Lib.hid (HI.out.nomore (by omega))
        have HAT0 := Lib.hid (show atOf ps i1 sz = (sz : Int) from by unfold atOf; rw [List.getElem?_eq_none (by omega)]; rfl)
        clear heq
        go_wp2_with fail
        go_quiet (fail)
        go_wp2_with fail
        go_quiet (fail)
        go_wp2_with fail
        refine (fails_any B r _ _ c ps i1 _ qs1 a0 e0 sz (HI.out.drewN _).rd 50 (by omega) (by omega)).mono ?_
        rintro e w8 ⟨rfl, h1, h2, h3⟩
        go_wp2
        go_ret
        rw [HRR.out]
        rw [HAT0.out] at h1
        exact ⟨⟨rfl, i1, _, qs1, h1⟩, (HI.out.drewN _).kr.trans h2, (HI.out.drewN _).below.trans h3⟩
    ·try simp only [List.getElem_toArray, List.getElem_cons_succ, List.getElem_cons_zero]
     go_simp
     have e2a := (World.cell?_alloc_lt _ (.cells #[.string N, .slice Av na cv, .string ⟨#[]⟩, .int .i64 pa, .int .i64 (-1), .int .i64 (-1), .int .i64 X.t.p] 83) ⟨r, 2, none⟩ HW3.out.2.2.blk.lt).trans e2
     refine hK.out _ _ ⟨(World.cell?_alloc_lt _ _ _ hxl).trans b1, (World.cell?_alloc_lt _ _ _ hxl).trans b4⟩ (fun hHeld => ?_)
     clear hK K
     try simp only [Act.put, List.getElem_toArray, List.getElem_cons_succ, List.getElem_cons_zero, List.setIfInBounds_toArray, List.set_cons_zero, List.set_cons_succ]
     refine wpAnyH_ready (rs := [5]) (by kernel_rfl) (by simp) ?_
     refine AllReadyH.cons rfl (fun K hK => ?_) AllReadyH.nil
     try simp only [List.getElem_toArray, List.getElem_cons_succ, List.getElem_cons_zero]
     go_simp
     refine hK.out _ _ hHeld (fun hHeld => ?_)
     clear hK K e2a
     try simp only [Act.put, List.getElem_toArray, List.getElem_cons_succ, List.getElem_cons_zero, List.setIfInBounds_toArray, List.set_cons_zero, List.set_cons_succ]
     refine wpAnyH_ready (rs := [14]) (by kernel_rfl) (by simp) ?_
     refine AllReadyH.cons rfl (fun K hK => ?_) AllReadyH.nil
     refine step_append_lies _ (by rfl) _ _ _ (by rfl) B 83 i0 _ 7 88 Tryz.underlying23 hi hz0 hz1 hz2 rfl (by omega) (.slice An qs.length cn) qs.length (qs.flatMap rndV) (by rfl) (by exact World.ownsRow.alloc hown _) _ 1 _ [.string N, .slice Av na cv, .string ⟨#[]⟩, .int .i64 pa, .int .i64 (-1), .int .i64 (-1), .int .i64 X.t.p] (by rfl) rfl (by intro j u hu; exact news_at _ _ _ _ (by simp) j u hu) (by intro u hu; simp at hu; rcases hu with rfl | rfl | rfl | rfl | rfl | rfl | rfl <;> rfl) (by omega) hbig (by omega) (by simp; omega) _ rfl ?_
     intro g9 cap9 w9 hown9 hgr9 hat9 hlt9
     have HA9 := Lib.hid (HAPP.out _ w9 g9 cap9 (by first | exact ((Below.refl _ _).alloc (Nat.le_refl _) _).drew | exact ((Below.refl _ _).drew).alloc (Nat.le_refl _) _ | exact (Below.refl _ _).alloc (Nat.le_refl _) _) hgr9 hown9)
     clear hown9 hgr9 hat9 hlt9
     refine hK.out _ _ ⟨HA9.out.1, HA9.out.2.1⟩ (fun hHeld => ?_)
     clear hK K
     try simp only [Act.put, List.getElem_toArray, List.getElem_cons_succ, List.getElem_cons_zero, List.setIfInBounds_toArray, List.set_cons_zero, List.set_cons_succ]
     refine wpAnyH_take (i := 15) (v := .pointer (some ⟨r,0,none⟩)) rfl (by kernel_rfl) (by kernel_rfl) (by kernel_rfl) (fun _ _ _ h => h) (Or.inl ⟨by rfl, by (intro w hS; try (obtain ⟨s0, s1⟩ := hS); go_simp)⟩) hHeld ?_
     try simp only [Act.put, List.getElem_toArray, List.getElem_cons_succ, List.getElem_cons_zero, List.setIfInBounds_toArray, List.set_cons_zero, List.set_cons_succ]
     refine wpAnyH_take (i := 16) (v := .pointer (some ⟨r,2,none⟩)) rfl (by kernel_rfl) (by kernel_rfl) (by kernel_rfl) (fun _ _ _ h => h) (Or.inl ⟨by rfl, by (intro w hS; try (obtain ⟨s0, s1⟩ := hS); go_simp)⟩) hHeld ?_
     try simp only [Act.put, List.getElem_toArray, List.getElem_cons_succ, List.getElem_cons_zero, List.setIfInBounds_toArray, List.set_cons_zero, List.set_cons_succ]
     refine wpAnyH_take (i := 17) (v := .pointer (some ⟨r,2,none⟩)) rfl (by kernel_rfl) (by kernel_rfl) (by kernel_rfl) (fun _ _ _ h => h) (Or.inl ⟨by rfl, by (intro w hS; try (obtain ⟨s0, s1⟩ := hS); go_simp)⟩) hHeld ?_
     try simp only [Act.put, List.getElem_toArray, List.getElem_cons_succ, List.getElem_cons_zero, List.setIfInBounds_toArray, List.set_cons_zero, List.set_cons_succ]
     have y2 := HA9.out.2.2.1
     have yf := HA9.out.2.2.2.1
     refine wpAnyH_ready (rs := [18]) (by kernel_rfl) (by simp) ?_
     refine AllReadyH.cons rfl (fun K hK => ?_) AllReadyH.nil
     try simp only [List.getElem_toArray, List.getElem_cons_succ, List.getElem_cons_zero]
     go_simp
     refine hK.out _ _ ⟨HA9.out.2.2.2.2.2.2.1.at_ 1, HA9.out.2.2.2.2.2.2.1.at_ 4⟩ (fun hHeld => ?_)
     clear hK K hHeld y2 yf
     try simp only [Act.put, List.getElem_toArray, List.getElem_cons_succ, List.getElem_cons_zero, List.setIfInBounds_toArray, List.set_cons_zero, List.set_cons_succ]
     refine wpAnyH_done (by kernel_rfl) ?_ _
     obtain ⟨qs', hqs'⟩ : ∃ q, q = qs ++ [((⟨X.t.nm, Tr.srt X.t.as, [], pa, -1, -1, X.t.p⟩ : Tr.N), Value.slice Av na cv)] := ⟨_, rfl⟩
     have HQS := Lib.hid hqs'
     have hql : qs.length + 1 = qs'.length := by rw [hqs', List.length_append]; rfl
     have HW4 := Lib.hid (show RD B r (w9.setCell ⟨r, 2, none⟩ (.slice (some ⟨g9, 0, none⟩) (qs.length + 1) cap9)) (some ⟨g, 0, none⟩) c ps i (.slice (some ⟨g9, 0, none⟩) qs'.length cap9) qs' a0 e0 sz ∧ Kr w (w9.setCell ⟨r, 2, none⟩ (.slice (some ⟨g9, 0, none⟩) (qs.length + 1) cap9)) ∧ Below B w (w9.setCell ⟨r, 2, none⟩ (.slice (some ⟨g9, 0, none⟩) (qs.length + 1) cap9)) ∧ IsBlk (w9.setCell ⟨r, 2, none⟩ (.slice (some ⟨g9, 0, none⟩) (qs.length + 1) cap9)) w.heap.size 64 #[.int .u8 X.t.k, .string N, .slice Ax X.al.length cx, .string T, .int .i64 X.t.p] from
      ⟨by rw [← hql, hqs']; exact HA9.out.2.2.2.2.1, HB3.out.1.trans HA9.out.2.2.2.2.2.1, HB3.out.2.trans HA9.out.2.2.2.2.2.2.2, HA9.out.2.2.2.2.2.2.1⟩)
     generalize w9.setCell ⟨r, 2, none⟩ (.slice (some ⟨g9, 0, none⟩) (qs.length + 1) cap9) = W4 at *
     clear hqs' HA9 HAPP hown b1 b4 hrl hxl hi hz0 hz1 hz2 hbig e2 hn1 hn2 hn3 hql h4b h4c hq4
     obtain ⟨d0, d1, d2, d3, d4, d5⟩ := HW4.out.1.cells
     have x0 : W4.cell? ⟨w.heap.size, 0, none⟩ = some (.int .u8 X.t.k) := HW4.out.2.2.2.at_ 0
     have f1 : W4.frozen? ⟨r, 1, none⟩ = false := HW4.out.1.blk.fz 1
     have HD1 := Lib.hid (show qs'.map (·.1) = qs.map (·.1) ++ [Tr.nodeAt X.t pa] from by rw [HQS.out, List.map_append]; rfl)
     have HXL := Lib.hid (List.getElem?_eq_some_iff.1 HXI.out).1
     by_cases hk3 : X.t.k = 3
     ·have HRR := Lib.hid (show R = .ok ((ps.map (·.t)).drop (i + 1)) [Tr.nodeAt X.t pa] by rw [HR3.out, if_pos hk3])
      rw [hk3] at x0
      have HN := Lib.hid (HW4.out.1.seti (i + 1))
      have HNK := Lib.hid (rd_set HW4.out.1 1 (.int .i64 ((i + 1 : Nat) : Int)))
      clear hk3
      go_wp2_with fail
      go_ret
      rw [HRR.out]
      exact ⟨⟨rfl, i + 1, _, qs', HXL.out, rfl, HD1.out, HN.out⟩, HW4.out.2.1.trans HNK.out.2.2.1, HW4.out.2.2.1.trans HNK.out.2.2.2⟩
     ·have hk3b : (X.t.k == 3) = false := by simpa using hk3
      have HR4 := Lib.hid (show R = Tr.kdP f sz X.t.nm qs.length deep ((ps.map (·.t)).drop (i + 1)) [Tr.nodeAt X.t pa] [] (-1) by rw [HR3.out, if_neg hk3])
      have HW5 := Lib.hid (show RD B r (W4.setCell ⟨r, 1, none⟩ (.int .i64 ((i + 1 : Nat) : Int))) (some ⟨g, 0, none⟩) c ps (i + 1) (.slice (some ⟨g9, 0, none⟩) qs'.length cap9) qs' a0 e0 sz ∧ Kr w (W4.setCell ⟨r, 1, none⟩ (.int .i64 ((i + 1 : Nat) : Int))) ∧ Below B w (W4.setCell ⟨r, 1, none⟩ (.int .i64 ((i + 1 : Nat) : Int))) ∧ IsBlk (W4.setCell ⟨r, 1, none⟩ (.int .i64 ((i + 1 : Nat) : Int))) w.heap.size 64 #[.int .u8 X.t.k, .string N, .slice Ax X.al.length cx, .string T, .int .i64 X.t.p] from
       have hs := rd_set HW4.out.1 1 (.int .i64 ((i + 1 : Nat) : Int))
       ⟨HW4.out.1.seti (i + 1), HW4.out.2.1.trans hs.2.2.1, HW4.out.2.2.1.trans hs.2.2.2, hs.2.2.1.blk HW4.out.2.2.2 (by decide) (by decide)⟩)
      clear hk3
      obtain ⟨W6, hW6⟩ : ∃ W6, W6 = W4.setCell ⟨r, 1, none⟩ (.int .i64 ((i : Int) + 1)) := ⟨_, rfl⟩
      have HDP := Lib.hid (show deep ≤ 64 from by omega)
      have HK0 := Lib.hid (show KdL B r (some ⟨g, 0, none⟩) c ps a0 e0 sz w (qs.map (·.1)) w.heap.size #[.int .u8 X.t.k, .string N, .slice Ax X.al.length cx, .string T, .int .i64 X.t.p] X.t.nm deep f R W6 (i + 1) g9 cap9 qs' (ByteArray.mk #[]).data.toList (-1) from by
       rw [hW6]
       refine ⟨HW5.out.1, HW5.out.2.1, HW5.out.2.2.1, HW5.out.2.2.2, HXL.out, ?_, ?_, f, [Tr.nodeAt X.t pa], Nat.le_refl _, ?_, HD1.out, by simp, by rw [HR4.out, List.length_map], Or.inl rfl⟩
       ·have := HQ2.out; rw [HQS.out, List.length_append]; simp; omega
       ·have h1 := ok.tx
        have h2 : Tk.txs ((ps.map (·.t)).drop (i + 1)) ≤ Tk.txs (ps.map (·.t)) := by
         generalize ps.map (·.t) = l
         conv => rhs; rw [← List.take_append_drop (i + 1) l]
         unfold Tk.txs
         rw [List.map_append, List.sum_append]
         omega
        show 0 + _ ≤ _
        omega
       ·have h1 := HF.out; have h2 := HXL.out; omega)
      go_wp2_with fail
      rw [← hW6]
      clear hW6
      go_loopw [11, 12] (fun tv lv wr => ∃ (i1 g1 cn1 : Nat) (qs1 : List (Tr.N × Value)) (T1 : ByteArray) (last : Int), tv = .string T1 ∧ lv = .int .i64 last ∧ Hid (KdL B r (some ⟨g, 0, none⟩) c ps a0 e0 sz w (qs.map (·.1)) w.heap.size #[.int .u8 X.t.k, .string N, .slice Ax X.al.length cx, .string T, .int .i64 X.t.p] X.t.nm deep f R wr i1 g1 cn1 qs1 T1.data.toList last)) (fun _ _ wr => ps.length - iOf r wr)
      case atStart => exact ⟨i + 1, g9, cap9, qs', _, -1, rfl, rfl, HK0⟩
      case round =>
       obtain ⟨i1, g1, cn1, qs1, T1, last, rfl, rfl, HI⟩ := hrel
       clear HK0 HW4 HW5 x0 f1
       have HM := Lib.hid HI.out.rd.iOf
       obtain ⟨d0, d1, d2, d3, d4, d5⟩ := HI.out.rd.cells
       have x1 : wr.cell? ⟨w.heap.size, 1, none⟩ = some (.string N) := HI.out.box.at_ 1
       have f1 : wr.frozen? ⟨r, 1, none⟩ = false := HI.out.rd.blk.fz 1
       have hi1 := HI.out.hi
       have hq1 := HI.out.q
       by_cases hlt : i1 < ps.length
       ·have hlt' : (i1 : Int) < (ps.length : Int) := by omega
        have hltd : decide ((i1 : Int) < (ps.length : Int)) = true := decide_eq_true hlt'
        have hltn : decide (i1 < ps.length) = true := decide_eq_true hlt
        have HLT := Lib.hid hlt
        obtain ⟨gg, hA, hgc1, t0, t1, t2, t3, t4⟩ := HI.out.rd.tcells hlt
        injection hA with hA
        injection hA with hA
        subst hA
        have HKD := Lib.hid (ok.kinds _ (List.getElem_mem hlt))
        have HTL := Lib.hid (show ps[i1].t.tx.length + T1.data.toList.length ≤ 400000 from by
         have h1 := HI.out.tx
         rw [txs_drop hlt] at h1
         omega)
        have HTX := Lib.hid (fun (h4 : ps[i1].t.k = 4) (n : Nat) => fun (wx : World) (hx : KdL B r (some ⟨g, 0, none⟩) c ps a0 e0 sz w (qs.map (·.1)) w.heap.size #[.int .u8 X.t.k, .string N, .slice Ax X.al.length cx, .string T, .int .i64 X.t.p] X.t.nm deep f R wx i1 g1 cn1 qs1 T1.data.toList last) => hx.more hlt h4 n)
        have HCL := Lib.hid (fun (h2 : ps[i1].t.k = 2) => HI.out.close hlt h2)
        have HKI := Lib.hid (fun (h2 : ps[i1].t.k ≠ 2) (h4 : ps[i1].t.k ≠ 4) => HI.out.kid hlt h2 h4)
        have HAT1 := Lib.hid (show atOf ps i1 sz = ((ps[i1].t.p : Nat) : Int) from by unfold atOf; rw [List.getElem?_eq_getElem hlt]; rfl)
        have HIH := Lib.hid (fun (hk : ps[i1].t.k = 1 ∨ ps[i1].t.k = 3) (f2 : Nat) (hf2 : f2 ≤ f) (hfl : 2 * (ps.length - i1) < f2) wx (hr : RD B r wx (some ⟨g, 0, none⟩) c ps i1 (.slice (some ⟨g1, 0, none⟩) qs1.length cn1) qs1 a0 e0 sz) => IH f2 hf2 wx i1 _ qs1 a0 e0 ((qs.length : Nat) : Int) (deep + 1) hr hlt hfl hq1 (by omega) hk)
        generalize ps[i1].t = Y at *
        obtain ⟨YN, hYN⟩ : ∃ N : ByteArray, N = ⟨Y.nm.toArray⟩ := ⟨_, rfl⟩
        obtain ⟨YT, hYT⟩ : ∃ N : ByteArray, N = ⟨Y.tx.toArray⟩ := ⟨_, rfl⟩
        rw [← hYN] at t1
        rw [← hYT] at t3
        have HYN := Lib.hid hYN
        have HYT := Lib.hid (show YT.data.toList = Y.tx by rw [hYT])
        have hltn2 : ((i1 : Int) == (ps.length : Int)) = false := beq_eq_false_iff_ne.2 (by omega)
        have HLTI := Lib.hid (show i1 < ps.length ∧ i1 + 1 ≤ ps.length from ⟨hlt, hlt⟩)
        clear hYN hYT t2 hlt
        obtain ⟨K, hK⟩ : ∃ K, K = Y.k := ⟨_, rfl⟩
        rw [← hK] at t0 HTX HCL HKI HKD HIH
        by_cases k2 : K = 2
        ·subst k2
         have q2 : ((2 : Int) != 2) = false := rfl
         have q2b : decide ((2 : Int) = 2) = true := rfl
         obtain ⟨M, hM1, hM2, hM3⟩ := HCL.out rfl
         have HM1 := Lib.hid hM1
         have HM3 := Lib.hid hM3
         clear hM1 hM2 hM3 HTX HKI HIH HKD
         by_cases hnm : Y.nm = X.t.nm
         ·have hYNN : YN = N := by rw [HYN.out, HNT.out.1, hnm]
          rw [hYNN] at t1
          have HRR := Lib.hid (show R = .ok ((ps.map (·.t)).drop (i1 + 1)) (if Tk.allB T1.data.toList = true then M else M.modify 0 (fun x => { x with tx := T1.data.toList })) by rw [HM3.out, if_neg (by rw [hnm]; simp)])
          have n1 : (N.toList != N.toList) = false := by simp
          have n2 : (!(N.toList == N.toList)) = false := by simp
          clear hnm hYNN HM3
          have HBL := Lib.hid (fun w0 => rBlank_any T1 w0 (by have h1 := HTL.out; rw [← Lib.size_eq] at h1; unfold maxLen; omega))
          cases hb : Tk.allB T1.data.toList with
          | true =>
           rw [hb] at HBL
           have HR5 := Lib.hid (show R = .ok ((ps.map (·.t)).drop (i1 + 1)) M by rw [HRR.out, if_pos hb])
           clear hb HRR
           go_wp2_with fail
           go_quiet (fail)
           go_wp2_with fail
           go_quiet (fail)
           go_wp2_with fail
           refine (HBL.out _).mono ?_
           rintro e w8 ⟨rfl, rfl⟩
           go_wp2
           go_ret
           rw [HR5.out]
           have HQR := fun n => rd_next HI.out.rd HI.out.kr HI.out.below n (i1 + 1)
           exact ⟨⟨rfl, i1 + 1, _, qs1, HLTI.out.2, rfl, HM1.out, (HQR _).1⟩, (HQR _).2.1, (HQR _).2.2⟩
          | false =>
           rw [hb] at HBL
           have HR5 := Lib.hid (show R = .ok ((ps.map (·.t)).drop (i1 + 1)) (M.modify 0 (fun x => { x with tx := T1.data.toList })) by rw [HRR.out, if_neg (by rw [hb]; decide)])
           have hln := HI.out.len
           rw [List.length_map] at hln
           have hln' : (qs.length : Int) < (qs1.length : Int) := by omega
           clear hb HRR
           go_wp2_with fail
           go_quiet (fail)
           go_wp2_with fail
           go_quiet (fail)
           go_wp2_with fail
           refine (HBL.out _).mono ?_
           rintro e w8 ⟨rfl, hw8⟩
           obtain ⟨nn, hw9⟩ : ∃ n, w8 = (wr.drewN n).setCell ⟨r, 1, none⟩ (.int .i64 ((i1 : Int) + 1)) := ⟨_, hw8.symm⟩
           have HFN := Lib.hid (HI.out.fin HM1.out nn (i1 + 1))
           have rd8 : RD B r w8 (some ⟨g, 0, none⟩) c ps (i1 + 1) (.slice (some ⟨g1, 0, none⟩) qs1.length cn1) qs1 a0 e0 sz := by
            rw [hw9]; exact (rd_next HI.out.rd HI.out.kr HI.out.below nn (i1 + 1)).1
           obtain ⟨o1, o2⟩ := own_there rd8.row.own (j := qs.length * 7 + 2) (by rw [fl_len (k := 7) (fun _ => rfl)]; omega)
           have d2' := rd8.cells.2.2.1
           have HFM := Lib.hid (show (RD B r (w8.setCell ⟨g1, qs.length * 7 + 2, none⟩ (.string T1)) (some ⟨g, 0, none⟩) c ps (i1 + 1) (.slice (some ⟨g1, 0, none⟩) (qs1.modify qs.length (G2 T1.data.toList)).length cn1) (qs1.modify qs.length (G2 T1.data.toList)) a0 e0 sz ∧ Kr w (w8.setCell ⟨g1, qs.length * 7 + 2, none⟩ (.string T1)) ∧ Below B w (w8.setCell ⟨g1, qs.length * 7 + 2, none⟩ (.string T1))) ∧ (qs1.modify qs.length (G2 T1.data.toList)).map (·.1) = qs.map (·.1) ++ M.modify 0 (fun x => { x with tx := T1.data.toList }) from by
            have h9 := HFN.out
            rw [List.length_map, show (⟨T1.data.toList.toArray⟩ : ByteArray) = T1 from by cases T1; rfl] at h9
            rw [hw9]
            exact h9)
           clear hw8 hw9 rd8 HFN d0 d1 d2 d3 d4 d5
           go_wp2
           go_ret
           rw [HR5.out]
           exact ⟨⟨rfl, i1 + 1, _, _, HLTI.out.2, rfl, HFM.out.2, HFM.out.1.1⟩, HFM.out.1.2.1, HFM.out.1.2.2⟩
         ·have HRR := Lib.hid (show R = .bad Y.p 50 by rw [HM3.out, if_pos hnm])
          have hne : YN.toList ≠ N.toList := fun e => hnm (by
           rw [Lib.toList_data, Lib.toList_data, HYN.out, HNT.out.1] at e
           simpa using e)
          have n1 : (YN.toList != N.toList) = true := by simpa using hne
          have n2 : (YN.toList == N.toList) = false := by simpa using hne
          clear hnm hne HM3
          go_wp2_with fail
          go_quiet (fail)
          go_wp2_with fail
          go_quiet (fail)
          go_wp2_with fail
          refine (fails_any B r _ _ c ps i1 _ qs1 a0 e0 sz (HI.out.drewN _).rd 50 (by omega) (by omega)).mono ?_
          rintro e w8 ⟨rfl, h1, h2, h3⟩
          go_wp2
          go_ret
          rw [HRR.out]
          rw [HAT1.out] at h1
          exact ⟨⟨rfl, i1, _, qs1, h1⟩, (HI.out.drewN _).kr.trans h2, (HI.out.drewN _).below.trans h3⟩
        ·have q2 : ((K : Int) != 2) = true := by simpa using k2
         by_cases k4 : K = 4
         ·subst k4
          have HTX2 := Lib.hid (HTX.out rfl)
          clear HTX
          have HTE := Lib.hid (show (T1 ++ YT).data.toList = T1.data.toList ++ Y.tx by rw [← HYT.out]; simp)
          have hcat : T1.size + YT.size ≤ 9223372036854775807 := by
           have h1 := HTL.out
           have h2 := HYT.out
           rw [← h2, ← Lib.size_eq, ← Lib.size_eq] at h1
           omega
          go_wp2_with fail
          go_quiet (fail)
          go_wp2_with fail
          go_quiet (fail)
          go_wp2_with fail
          go_quiet (fail)
          go_wp2
          have key : ∀ n, iOf r ((wr.drewN n).setCell ⟨r, 1, none⟩ (.int .i64 ((i1 : Int) + 1))) = i1 + 1 := fun n => (HTX2.out n wr HI.out).rd.iOf
          refine ⟨⟨i1 + 1, g1, cn1, qs1, _, last, rfl, rfl, Lib.hid (by rw [HTE.out]; exact HTX2.out _ wr HI.out)⟩, ?_⟩
          rw [key, HM.out]
          have := HLTI.out.1
          omega
         ·have q4 : ((K : Int) == 4) = false := by simpa using k4
          obtain ⟨f2, M, hE⟩ := HKI.out k2 k4
          have hk13 : K = 1 ∨ K = 3 := by have := HKD.out; omega
          have hlx := HLTI.out.1
          obtain ⟨R2, hR2⟩ : ∃ R2, R2 = Tr.elP f2 sz ((ps.map (·.t)).drop i1) qs1.length ((qs.length : Nat) : Int) (deep + 1) := ⟨_, rfl⟩
          have hCL := fun n => HIH.out hk13 f2 (by have := hE.1; omega) hE.2.1 (wr.drewN n) (HI.out.drewN n).rd
          rw [← hR2] at hCL
          have HCL2 := Lib.hid hCL
          have HE := Lib.hid hE
          have HR2 := Lib.hid hR2
          clear hCL hE hR2 hk13 hlx HKI HIH HTX HCL k2 k4 hK HKD
          go_wp2_with fail
          go_quiet (fail)
          go_wp2_with fail
          go_quiet (fail)
          go_wp2_with fail
          refine (HCL2.out _).mono ?_
          rintro e w4 ⟨hm, kr4, bl4⟩
          have HKB := Lib.hid (And.intro kr4 bl4)
          clear kr4 bl4
          cases R2 with
          | bad a er =>
           obtain ⟨rfl, i2, nv2, qs2, rd2⟩ := hm
           have HRR := Lib.hid (show R = .bad a er by rw [HE.out.2.2.2.2.2, List.length_map, ← HR2.out])
           have HRD2 := Lib.hid rd2
           clear rd2
           go_wp2
           go_ret
           rw [HRR.out]
           exact ⟨⟨rfl, i2, nv2, qs2, HRD2.out⟩, (HI.out.drewN _).kr.trans HKB.out.1, (HI.out.drewN _).below.trans HKB.out.2⟩
          | ok rest K2 =>
           obtain ⟨rfl, i2, nv2, qs2, hi2, hrest, hmap, rd2⟩ := hm
           obtain ⟨An2, cn2, hnv2, hc2a, hc2b, hn2⟩ := own_sliced rd2.row.own
           subst hnv2
           have hln := HI.out.len
           rw [List.length_map] at hln
           have hl2 : qs1.length ≤ qs2.length := by
            have := congrArg List.length hmap
            rw [List.length_map, List.length_append, List.length_map] at this
            omega
           obtain ⟨g2, hg2, hgl, _⟩ := hn2 (by omega)
           subst hg2
           have hlk := (HI.out.drewN _).link HE.out (by rw [List.length_map, ← HR2.out, hrest]) rd2 HKB.out.1 HKB.out.2 hmap hi2 HLTI.out.1 0
           rw [List.length_map] at hlk
           obtain ⟨hii, hqq, L1, L2⟩ := hlk
           have d2' := rd2.cells.2.2.1
           have HRD2 := Lib.hid rd2
           have hln2 : (qs.length : Int) < (qs2.length : Int) := by omega
           have hlb := HE.out.2.2.2.2.1
           rw [List.length_map] at hlb
           clear rd2 hmap hrest d0 d1 d2 d3 d4 d5
           by_cases hl : last = -1
           ·subst hl
            clear hlb
            have HN := Lib.hid (show KdL B r (some ⟨g, 0, none⟩) c ps a0 e0 sz w (qs.map (·.1)) w.heap.size _ X.t.nm deep f R (w4.setCell ⟨g2, qs.length * 7 + 4, none⟩ (.int .i64 (qs1.length : Int))) i2 g2 cn2 _ T1.data.toList (qs1.length : Int) from L1 rfl)
            have key : iOf r (w4.setCell ⟨g2, qs.length * 7 + 4, none⟩ (.int .i64 (qs1.length : Int))) = i2 := HN.out.rd.iOf
            obtain ⟨o1, o2⟩ := own_there HRD2.out.row.own (j := qs.length * 7 + 4) (by rw [fl_len (k := 7) (fun _ => rfl)]; omega)
            clear L1 L2
            go_wp2
            refine ⟨⟨i2, g2, cn2, _, T1, (qs1.length : Int), rfl, rfl, HN⟩, ?_⟩
            rw [key, HM.out]
            omega
           ·have hlo : (qs.length : Int) ≤ last ∧ last < (qs1.length : Int) := by
             rcases hlb with h | h
             ·exact absurd h hl
             ·exact h
            obtain ⟨ln, rfl⟩ : ∃ n : Nat, last = (n : Int) := ⟨last.toNat, by omega⟩
            have hl0 : ¬ (ln : Int) < 0 := by omega
            have hlq : (ln : Int) < (qs2.length : Int) := by omega
            have hlz := hl
            clear hlb hl
            have HN := Lib.hid (show KdL B r (some ⟨g, 0, none⟩) c ps a0 e0 sz w (qs.map (·.1)) w.heap.size _ X.t.nm deep f R (w4.setCell ⟨g2, ln * 7 + 5, none⟩ (.int .i64 (qs1.length : Int))) i2 g2 cn2 _ T1.data.toList (qs1.length : Int) from L2 hlz)
            have key : iOf r (w4.setCell ⟨g2, ln * 7 + 5, none⟩ (.int .i64 (qs1.length : Int))) = i2 := HN.out.rd.iOf
            obtain ⟨o1, o2⟩ := own_there HRD2.out.row.own (j := ln * 7 + 5) (by rw [fl_len (k := 7) (fun _ => rfl)]; omega)
            clear L1 L2
            go_wp2
            refine ⟨⟨i2, g2, cn2, _, T1, (qs1.length : Int), rfl, rfl, HN⟩, ?_⟩
            rw [key, HM.out]
            omega
       ·have hlt' : ¬ (i1 : Int) < (ps.length : Int) := by omega
        have hltd : decide ((i1 : Int) < (ps.length : Int)) = false := decide_eq_false hlt'
        have hltn : decide (i1 < ps.length) = false := decide_eq_false hlt
        have heq : i1 = ps.length := by omega
        have heqd : ((i1 : Int) == (ps.length : Int)) = true := by rw [heq]; simp
        have heqd2 : decide ((i1 : Int) = (ps.length : Int)) = true := by rw [heq]; simp
        have HRR := Lib.hid (HI.out.nomore (by omega))
        have HAT0 := Lib.hid (show atOf ps i1 sz = (sz : Int) from by unfold atOf; rw [List.getElem?_eq_none (by omega)]; rfl)
        clear heq
        go_wp2_with fail
        go_quiet (fail)
        go_wp2_with fail
        go_quiet (fail)
        go_wp2_with fail
        refine (fails_any B r _ _ c ps i1 _ qs1 a0 e0 sz (HI.out.drewN _).rd 50 (by omega) (by omega)).mono ?_
        rintro e w8 ⟨rfl, h1, h2, h3⟩
        go_wp2
        go_ret
        rw [HRR.out]
        rw [HAT0.out] at h1
        exact ⟨⟨rfl, i1, _, qs1, h1⟩, (HI.out.drewN _).kr.trans h2, (HI.out.drewN _).below.trans h3⟩
end Go.Proofs.YteadfpkihhaadaaGreatDoor
