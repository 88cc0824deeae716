/- Facts and walks for the statement. -/
import Derived.Test.YtdcjpinbflmikaaGreatDoorPzW18
namespace Go.Proofs.YtdcjpinbflmikaaGreatDoor
open Go.RowKit Ex
set_option maxHeartbeats 2000000 in
set_option maxRecDepth 100000 in
theorem worth13 {w : World} {A : Option Addr} {l : List Nd} {c mb m pb : Nat} {bs : List Ev.Bd} (E : EvC w A l c mb m pb bs) {i : Nat} {num : Int} {nm : List UInt8} {na nb nc : Int} (hn : l[i]? = some ⟨13, num, nm, na, nb, nc⟩) {RA RB : Ev.Rz} (hA : WoC (rkA A l.length c mb pb) w na RA) (hB : WoC (rkA A l.length c mb pb) w nb RB) (hFA : Ev.Fine RA) (hFB : Ev.Fine RB) :
    WoC (rkA A l.length c mb pb) w i (Ev.two 13 RA RB) := by
  intro w' hb'
  obtain ⟨g, o, N, W1, W3, rfl, hN, hW1, hW3, z0, z1, z2, z3, z4, z5, hi', hc', hx, hb3, hE3⟩ := pre3 E hn hb'
  obtain ⟨⟨x0, x1, x2⟩, y0, y1, y2, y3, y4, y5⟩ := hx.cells
  have HX := Lib.hid hx
  have HB3 := Lib.hid hb3
  have HE3 := Lib.hid hE3
  have hbw := hb'.trans (hb3.mono hb'.size)
  have HT := Lib.hid (fun w0 (h0 : Below W3.heap.size W3 w0) => evnumber_any (some ⟨g, o, none⟩) l.length c mb pb w na RA hA w0 (hbw.trans (h0.mono hbw.size))); have HT2 := Lib.hid (fun w0 (h0 : Below W3.heap.size W3 w0) => evnumber_any (some ⟨g, o, none⟩) l.length c mb pb w nb RB hB w0 (hbw.trans (h0.mono hbw.size)))
  rw [hW1] at z0 z1 z2 z3 z4 z5 hW3
  rw [hW3] at x0 x1 x2 y0 y1 y2 y3 y4 y5
  have HW3 := Lib.hid hW3
  unfold rkA at *
  clear hW1 hb3 hx hW3 hb' hE3 E hn hbw hN hA hB
  have e1 : Ev.two 13 RA RB = Ev.thn (Ev.prt RA 1) fun v => Ev.thn (Ev.prt RB 1) fun u => Ev.pair 13 v.n u.n := rfl
  rw [e1]
  clear e1
  have hF := Ev.fine_prt (k := 1) hFA
  have hG := Ev.fine_prt (k := 1) hFB
  clear hFA hFB
  generalize Ev.prt RA 1 = Q at *
  generalize Ev.prt RB 1 = Q2 at *
  have hlk := look13 pb W3 HE3.out.pa
  rw [HW3.out] at hlk
  have HY := Lib.hid (HX.out.below (Below.refl _ _).drew).s5
  have HBD := Lib.hid (fun w0 (h0 : Below W3.heap.size W3 w0) => HB3.out.trans (h0.mono HB3.out.size))
  cases Q
  case' er z =>
    simp only [endN, pan] at HT
    rw [thn_er]
    simp only [endZ, pan]
    clear hF hG
  case' ok v =>
    obtain ⟨vk, vn, vb⟩ := v
    simp only [endN] at HT
    rw [thn_ok]
    cases Q2
    case' er z =>
      simp only [endN, pan] at HT2
      rw [thn_er]
      simp only [endZ, pan]
      clear hF hG
    case' ok u =>
      obtain ⟨uk, un, ub⟩ := u
      simp only [endN] at HT2
      rw [thn_ok]
      simp only
      have HR := Lib.hid (fun w0 => pair7_any vn un w0 )
      clear hF hG
      generalize Ev.pair 13 vn un = R at *
      cases R
      case' er y =>
        simp only [endZ, pan] at HR
        simp only [endZ, pan]
      case' ok r =>
        obtain ⟨rk, rn, rb⟩ := r
        simp only [endZ, vlA] at HR
  all_goals
    go_enter Tryz.func139, Tryz.ntmps139
    go_wp2_with fail
    rw [← HW3.out]
    refine wp_region_held_drew (S := S5 w' (some ⟨g, o, none⟩) l.length c mb pb na nb) (by kernel_rfl) HY.out (fun hHeld => ?_)
    refine wpAnyH_take (i := 0) (v := .func (.func 135) #[] #[]) rfl (by kernel_rfl) (by kernel_rfl) (by kernel_rfl) (fun _ _ _ h => h) (Or.inl ⟨by rfl, by (intro w hS; try (obtain ⟨⟨s0, s1, s2⟩, s3, s4⟩ := hS); go_simp)⟩) hHeld ?_
    try simp only [Act.put, List.getElem_toArray, List.getElem_cons_zero, List.setIfInBounds_toArray, List.set_cons_zero, List.set_cons_succ]
    refine wpAnyH_take (i := 1) (v := .agg #[.slice (some ⟨g, o, none⟩) l.length c, .map (some mb), .map (some pb)]) rfl (by kernel_rfl) (by kernel_rfl) (by kernel_rfl) (fun _ _ _ h => h) (Or.inl ⟨by rfl, by (intro w hS; try (obtain ⟨⟨s0, s1, s2⟩, s3, s4⟩ := hS); go_simp)⟩) hHeld ?_
    try simp only [Act.put, List.getElem_toArray, List.getElem_cons_succ, List.getElem_cons_zero, List.setIfInBounds_toArray, List.set_cons_zero, List.set_cons_succ]
    refine wpAnyH_take (i := 2) (v := .pointer (some ⟨w'.heap.size + 1 + 1, 3, none⟩)) rfl (by kernel_rfl) (by kernel_rfl) (by kernel_rfl) (fun _ _ _ h => h) (Or.inl ⟨by rfl, by (intro w hS; try (obtain ⟨⟨s0, s1, s2⟩, s3, s4⟩ := hS); go_simp)⟩) hHeld ?_
    try simp only [Act.put, List.getElem_toArray, List.getElem_cons_succ, List.getElem_cons_zero, List.setIfInBounds_toArray, List.set_cons_zero, List.set_cons_succ]
    refine wpAnyH_take (i := 3) (v := .int .i64 na) rfl (by kernel_rfl) (by kernel_rfl) (by kernel_rfl) (fun _ _ _ h => h) (Or.inl ⟨by rfl, by (intro w hS; try (obtain ⟨⟨s0, s1, s2⟩, s3, s4⟩ := hS); go_simp)⟩) hHeld ?_
    try simp only [Act.put, List.getElem_toArray, List.getElem_cons_succ, List.getElem_cons_zero, List.setIfInBounds_toArray, List.set_cons_zero, List.set_cons_succ]
    refine wpAnyH_take (i := 5) (v := .agg #[.slice (some ⟨g, o, none⟩) l.length c, .map (some mb), .map (some pb)]) rfl (by kernel_rfl) (by kernel_rfl) (by kernel_rfl) (fun _ _ _ h => h) (Or.inl ⟨by rfl, by (intro w hS; try (obtain ⟨⟨s0, s1, s2⟩, s3, s4⟩ := hS); go_simp)⟩) hHeld ?_
    try simp only [Act.put, List.getElem_toArray, List.getElem_cons_succ, List.getElem_cons_zero, List.setIfInBounds_toArray, List.set_cons_zero, List.set_cons_succ]
    refine wpAnyH_take (i := 6) (v := .pointer (some ⟨w'.heap.size + 1 + 1, 4, none⟩)) rfl (by kernel_rfl) (by kernel_rfl) (by kernel_rfl) (fun _ _ _ h => h) (Or.inl ⟨by rfl, by (intro w hS; try (obtain ⟨⟨s0, s1, s2⟩, s3, s4⟩ := hS); go_simp)⟩) hHeld ?_
    try simp only [Act.put, List.getElem_toArray, List.getElem_cons_succ, List.getElem_cons_zero, List.setIfInBounds_toArray, List.set_cons_zero, List.set_cons_succ]
    refine wpAnyH_take (i := 7) (v := .int .i64 nb) rfl (by kernel_rfl) (by kernel_rfl) (by kernel_rfl) (fun _ _ _ h => h) (Or.inl ⟨by rfl, by (intro w hS; try (obtain ⟨⟨s0, s1, s2⟩, s3, s4⟩ := hS); go_simp)⟩) hHeld ?_
    try simp only [Act.put, List.getElem_toArray, List.getElem_cons_succ, List.getElem_cons_zero, List.setIfInBounds_toArray, List.set_cons_zero, List.set_cons_succ]
    refine wpAnyH_ready (rs := [4]) (by kernel_rfl) (by simp) ?_
    refine AllReadyH.cons rfl (fun K hK => ?_) AllReadyH.nil
    go_simp
    refine (HT.out _ (Below.refl _ _).drew).mono ?_
    rintro e w5 ⟨rfl, hb5⟩
  rotate_right
  · exact ⟨rfl, rfl, HBD.out _ ((Below.refl _ _).drew.trans hb5)⟩
  all_goals
    have HB5 := Lib.hid ((Below.refl W3.heap.size W3).drew.trans hb5)
    clear hb5
    refine hK _ _ (HX.out.below HB5.out).s5 (fun hHeld => ?_)
    clear hK K
    try simp only [Act.put, List.getElem_toArray, List.getElem_cons_succ, List.getElem_cons_zero, List.setIfInBounds_toArray, List.set_cons_zero, List.set_cons_succ]
    refine wpAnyH_ready (rs := [8]) (by kernel_rfl) (by simp) ?_
    refine AllReadyH.cons rfl (fun K hK => ?_) AllReadyH.nil
    go_simp
    refine (HT2.out _ HB5.out).mono ?_
    rintro e w6 ⟨rfl, hb6⟩
    have HB6 := Lib.hid (HB5.out.trans (hb6.mono HB5.out.size))
    clear hb6
  rotate_right
  · exact ⟨rfl, rfl, HBD.out _ HB6.out⟩
  all_goals
    refine hK _ _ (HX.out.below HB6.out).s5 (fun hHeld => ?_)
    clear hK K
    try simp only [Act.put, List.getElem_toArray, List.getElem_cons_succ, List.getElem_cons_zero, List.setIfInBounds_toArray, List.set_cons_zero, List.set_cons_succ]
    refine wpAnyH_ready (rs := [9]) (by kernel_rfl) (by simp) ?_
    refine AllReadyH.cons rfl (fun K hK => ?_) AllReadyH.nil
    go_simp
    refine (HR.out _).mono ?_
    rintro e w7 ⟨rfl, hb7⟩
    have HB7 := Lib.hid (HB6.out.trans (hb7.mono HB6.out.size))
    clear hb7
  rotate_right
  · exact ⟨rfl, rfl, HBD.out _ HB7.out⟩
  have hx7 := HX.out.below HB7.out
  have kz := hx7.vl
  have k0 := kz.at_ 0
  have k1 := kz.at_ 1
  have k2 := kz.at_ 2
  have f0 := kz.fz 0
  have f1 := kz.fz 1
  have f2 := kz.fz 2
  simp only [List.getElem?_toArray, List.getElem?_cons_zero, List.getElem?_cons_succ] at k0 k1 k2
  have HX7 := Lib.hid hx7
  have HBF := Lib.hid ((((HBD.out _ HB7.out).setCell (p := ⟨w'.heap.size + 1, 0, none⟩) (Nat.le_succ _) (.int .u8 (rk : Nat))).setCell (p := ⟨w'.heap.size + 1, 1, none⟩) (Nat.le_succ _) (.int .i64 rn)).setCell (p := ⟨w'.heap.size + 1, 2, none⟩) (Nat.le_succ _) (.bool rb))
  clear kz hx7
  refine hK _ _ HX7.out.s5 (fun hHeld => ?_)
  clear hK K
  try simp only [Act.put, List.getElem_toArray, List.getElem_cons_succ, List.getElem_cons_zero, List.setIfInBounds_toArray, List.set_cons_zero, List.set_cons_succ]
  refine wpAnyH_ready (rs := [10]) (by kernel_rfl) (by simp) ?_
  refine AllReadyH.cons rfl (fun K hK => ?_) AllReadyH.nil
  go_simp
  refine hK _ _ (by
    have q1 := HX7.out.rk.far3 (g := w'.heap.size + 1) (by omega) (.int .u8 (rk : Nat)) (.int .i64 rn) (.bool rb)
    have q2 := HX7.out.nd.far3 (g := w'.heap.size + 1) (by omega) (.int .u8 (rk : Nat)) (.int .i64 rn) (.bool rb)
    exact ⟨⟨q1.at_ 0, q1.at_ 1, q1.at_ 2⟩, q2.at_ 3, q2.at_ 4⟩) (fun hHeld => ?_)
  clear hK K
  refine wpAnyH_done (by kernel_rfl) ?_ _
  go_wp2
  refine bodyPost_ret (v := vlA ⟨rk, rn, rb⟩) (by simp [results, Tryz.results139, go_sem, vlA, k0, k1, k2]) rfl ?_
  exact ⟨rfl, HBF.out⟩
set_option maxHeartbeats 2000000 in
set_option maxRecDepth 100000 in
theorem worth14 {w : World} {A : Option Addr} {l : List Nd} {c mb m pb : Nat} {bs : List Ev.Bd} (E : EvC w A l c mb m pb bs) {i : Nat} {num : Int} {nm : List UInt8} {na nb nc : Int} (hn : l[i]? = some ⟨14, num, nm, na, nb, nc⟩) {RA RB : Ev.Rz} (hA : WoC (rkA A l.length c mb pb) w na RA) (hB : WoC (rkA A l.length c mb pb) w nb RB) (hFA : Ev.Fine RA) (hFB : Ev.Fine RB) :
    WoC (rkA A l.length c mb pb) w i (Ev.two 14 RA RB) := by
  intro w' hb'
  obtain ⟨g, o, N, W1, W3, rfl, hN, hW1, hW3, z0, z1, z2, z3, z4, z5, hi', hc', hx, hb3, hE3⟩ := pre3 E hn hb'
  obtain ⟨⟨x0, x1, x2⟩, y0, y1, y2, y3, y4, y5⟩ := hx.cells
  have HX := Lib.hid hx
  have HB3 := Lib.hid hb3
  have HE3 := Lib.hid hE3
  have hbw := hb'.trans (hb3.mono hb'.size)
  have HT := Lib.hid (fun w0 (h0 : Below W3.heap.size W3 w0) => evnumber_any (some ⟨g, o, none⟩) l.length c mb pb w na RA hA w0 (hbw.trans (h0.mono hbw.size))); have HT2 := Lib.hid (fun w0 (h0 : Below W3.heap.size W3 w0) => evnumber_any (some ⟨g, o, none⟩) l.length c mb pb w nb RB hB w0 (hbw.trans (h0.mono hbw.size)))
  rw [hW1] at z0 z1 z2 z3 z4 z5 hW3
  rw [hW3] at x0 x1 x2 y0 y1 y2 y3 y4 y5
  have HW3 := Lib.hid hW3
  unfold rkA at *
  clear hW1 hb3 hx hW3 hb' hE3 E hn hbw hN hA hB
  have e1 : Ev.two 14 RA RB = Ev.thn (Ev.prt RA 1) fun v => Ev.thn (Ev.prt RB 1) fun u => Ev.pair 14 v.n u.n := rfl
  rw [e1]
  clear e1
  have hF := Ev.fine_prt (k := 1) hFA
  have hG := Ev.fine_prt (k := 1) hFB
  clear hFA hFB
  generalize Ev.prt RA 1 = Q at *
  generalize Ev.prt RB 1 = Q2 at *
  have hlk := look14 pb W3 HE3.out.pa
  rw [HW3.out] at hlk
  have HY := Lib.hid (HX.out.below (Below.refl _ _).drew).s5
  have HBD := Lib.hid (fun w0 (h0 : Below W3.heap.size W3 w0) => HB3.out.trans (h0.mono HB3.out.size))
  cases Q
  case' er z =>
    simp only [endN, pan] at HT
    rw [thn_er]
    simp only [endZ, pan]
    clear hF hG
  case' ok v =>
    obtain ⟨vk, vn, vb⟩ := v
    simp only [endN] at HT
    rw [thn_ok]
    cases Q2
    case' er z =>
      simp only [endN, pan] at HT2
      rw [thn_er]
      simp only [endZ, pan]
      clear hF hG
    case' ok u =>
      obtain ⟨uk, un, ub⟩ := u
      simp only [endN] at HT2
      rw [thn_ok]
      simp only
      have HR := Lib.hid (fun w0 => pair8_any vn un w0 )
      clear hF hG
      generalize Ev.pair 14 vn un = R at *
      cases R
      case' er y =>
        simp only [endZ, pan] at HR
        simp only [endZ, pan]
      case' ok r =>
        obtain ⟨rk, rn, rb⟩ := r
        simp only [endZ, vlA] at HR
  all_goals
    go_enter Tryz.func139, Tryz.ntmps139
    go_wp2_with fail
    rw [← HW3.out]
    refine wp_region_held_drew (S := S5 w' (some ⟨g, o, none⟩) l.length c mb pb na nb) (by kernel_rfl) HY.out (fun hHeld => ?_)
    refine wpAnyH_take (i := 0) (v := .func (.func 136) #[] #[]) rfl (by kernel_rfl) (by kernel_rfl) (by kernel_rfl) (fun _ _ _ h => h) (Or.inl ⟨by rfl, by (intro w hS; try (obtain ⟨⟨s0, s1, s2⟩, s3, s4⟩ := hS); go_simp)⟩) hHeld ?_
    try simp only [Act.put, List.getElem_toArray, List.getElem_cons_zero, List.setIfInBounds_toArray, List.set_cons_zero, List.set_cons_succ]
    refine wpAnyH_take (i := 1) (v := .agg #[.slice (some ⟨g, o, none⟩) l.length c, .map (some mb), .map (some pb)]) rfl (by kernel_rfl) (by kernel_rfl) (by kernel_rfl) (fun _ _ _ h => h) (Or.inl ⟨by rfl, by (intro w hS; try (obtain ⟨⟨s0, s1, s2⟩, s3, s4⟩ := hS); go_simp)⟩) hHeld ?_
    try simp only [Act.put, List.getElem_toArray, List.getElem_cons_succ, List.getElem_cons_zero, List.setIfInBounds_toArray, List.set_cons_zero, List.set_cons_succ]
    refine wpAnyH_take (i := 2) (v := .pointer (some ⟨w'.heap.size + 1 + 1, 3, none⟩)) rfl (by kernel_rfl) (by kernel_rfl) (by kernel_rfl) (fun _ _ _ h => h) (Or.inl ⟨by rfl, by (intro w hS; try (obtain ⟨⟨s0, s1, s2⟩, s3, s4⟩ := hS); go_simp)⟩) hHeld ?_
    try simp only [Act.put, List.getElem_toArray, List.getElem_cons_succ, List.getElem_cons_zero, List.setIfInBounds_toArray, List.set_cons_zero, List.set_cons_succ]
    refine wpAnyH_take (i := 3) (v := .int .i64 na) rfl (by kernel_rfl) (by kernel_rfl) (by kernel_rfl) (fun _ _ _ h => h) (Or.inl ⟨by rfl, by (intro w hS; try (obtain ⟨⟨s0, s1, s2⟩, s3, s4⟩ := hS); go_simp)⟩) hHeld ?_
    try simp only [Act.put, List.getElem_toArray, List.getElem_cons_succ, List.getElem_cons_zero, List.setIfInBounds_toArray, List.set_cons_zero, List.set_cons_succ]
    refine wpAnyH_take (i := 5) (v := .agg #[.slice (some ⟨g, o, none⟩) l.length c, .map (some mb), .map (some pb)]) rfl (by kernel_rfl) (by kernel_rfl) (by kernel_rfl) (fun _ _ _ h => h) (Or.inl ⟨by rfl, by (intro w hS; try (obtain ⟨⟨s0, s1, s2⟩, s3, s4⟩ := hS); go_simp)⟩) hHeld ?_
    try simp only [Act.put, List.getElem_toArray, List.getElem_cons_succ, List.getElem_cons_zero, List.setIfInBounds_toArray, List.set_cons_zero, List.set_cons_succ]
    refine wpAnyH_take (i := 6) (v := .pointer (some ⟨w'.heap.size + 1 + 1, 4, none⟩)) rfl (by kernel_rfl) (by kernel_rfl) (by kernel_rfl) (fun _ _ _ h => h) (Or.inl ⟨by rfl, by (intro w hS; try (obtain ⟨⟨s0, s1, s2⟩, s3, s4⟩ := hS); go_simp)⟩) hHeld ?_
    try simp only [Act.put, List.getElem_toArray, List.getElem_cons_succ, List.getElem_cons_zero, List.setIfInBounds_toArray, List.set_cons_zero, List.set_cons_succ]
    refine wpAnyH_take (i := 7) (v := .int .i64 nb) rfl (by kernel_rfl) (by kernel_rfl) (by kernel_rfl) (fun _ _ _ h => h) (Or.inl ⟨by rfl, by (intro w hS; try (obtain ⟨⟨s0, s1, s2⟩, s3, s4⟩ := hS); go_simp)⟩) hHeld ?_
    try simp only [Act.put, List.getElem_toArray, List.getElem_cons_succ, List.getElem_cons_zero, List.setIfInBounds_toArray, List.set_cons_zero, List.set_cons_succ]
    refine wpAnyH_ready (rs := [4]) (by kernel_rfl) (by simp) ?_
    refine AllReadyH.cons rfl (fun K hK => ?_) AllReadyH.nil
    go_simp
    refine (HT.out _ (Below.refl _ _).drew).mono ?_
    rintro e w5 ⟨rfl, hb5⟩
  rotate_right
  · exact ⟨rfl, rfl, HBD.out _ ((Below.refl _ _).drew.trans hb5)⟩
  all_goals
    have HB5 := Lib.hid ((Below.refl W3.heap.size W3).drew.trans hb5)
    clear hb5
    refine hK _ _ (HX.out.below HB5.out).s5 (fun hHeld => ?_)
    clear hK K
    try simp only [Act.put, List.getElem_toArray, List.getElem_cons_succ, List.getElem_cons_zero, List.setIfInBounds_toArray, List.set_cons_zero, List.set_cons_succ]
    refine wpAnyH_ready (rs := [8]) (by kernel_rfl) (by simp) ?_
    refine AllReadyH.cons rfl (fun K hK => ?_) AllReadyH.nil
    go_simp
    refine (HT2.out _ HB5.out).mono ?_
    rintro e w6 ⟨rfl, hb6⟩
    have HB6 := Lib.hid (HB5.out.trans (hb6.mono HB5.out.size))
    clear hb6
  rotate_right
  · exact ⟨rfl, rfl, HBD.out _ HB6.out⟩
  all_goals
    refine hK _ _ (HX.out.below HB6.out).s5 (fun hHeld => ?_)
    clear hK K
    try simp only [Act.put, List.getElem_toArray, List.getElem_cons_succ, List.getElem_cons_zero, List.setIfInBounds_toArray, List.set_cons_zero, List.set_cons_succ]
    refine wpAnyH_ready (rs := [9]) (by kernel_rfl) (by simp) ?_
    refine AllReadyH.cons rfl (fun K hK => ?_) AllReadyH.nil
    go_simp
    refine (HR.out _).mono ?_
    rintro e w7 ⟨rfl, hb7⟩
    have HB7 := Lib.hid (HB6.out.trans (hb7.mono HB6.out.size))
    clear hb7
  rotate_right
  · exact ⟨rfl, rfl, HBD.out _ HB7.out⟩
  have hx7 := HX.out.below HB7.out
  have kz := hx7.vl
  have k0 := kz.at_ 0
  have k1 := kz.at_ 1
  have k2 := kz.at_ 2
  have f0 := kz.fz 0
  have f1 := kz.fz 1
  have f2 := kz.fz 2
  simp only [List.getElem?_toArray, List.getElem?_cons_zero, List.getElem?_cons_succ] at k0 k1 k2
  have HX7 := Lib.hid hx7
  have HBF := Lib.hid ((((HBD.out _ HB7.out).setCell (p := ⟨w'.heap.size + 1, 0, none⟩) (Nat.le_succ _) (.int .u8 (rk : Nat))).setCell (p := ⟨w'.heap.size + 1, 1, none⟩) (Nat.le_succ _) (.int .i64 rn)).setCell (p := ⟨w'.heap.size + 1, 2, none⟩) (Nat.le_succ _) (.bool rb))
  clear kz hx7
  refine hK _ _ HX7.out.s5 (fun hHeld => ?_)
  clear hK K
  try simp only [Act.put, List.getElem_toArray, List.getElem_cons_succ, List.getElem_cons_zero, List.setIfInBounds_toArray, List.set_cons_zero, List.set_cons_succ]
  refine wpAnyH_ready (rs := [10]) (by kernel_rfl) (by simp) ?_
  refine AllReadyH.cons rfl (fun K hK => ?_) AllReadyH.nil
  go_simp
  refine hK _ _ (by
    have q1 := HX7.out.rk.far3 (g := w'.heap.size + 1) (by omega) (.int .u8 (rk : Nat)) (.int .i64 rn) (.bool rb)
    have q2 := HX7.out.nd.far3 (g := w'.heap.size + 1) (by omega) (.int .u8 (rk : Nat)) (.int .i64 rn) (.bool rb)
    exact ⟨⟨q1.at_ 0, q1.at_ 1, q1.at_ 2⟩, q2.at_ 3, q2.at_ 4⟩) (fun hHeld => ?_)
  clear hK K
  refine wpAnyH_done (by kernel_rfl) ?_ _
  go_wp2
  refine bodyPost_ret (v := vlA ⟨rk, rn, rb⟩) (by simp [results, Tryz.results139, go_sem, vlA, k0, k1, k2]) rfl ?_
  exact ⟨rfl, HBF.out⟩
set_option maxHeartbeats 2000000 in
set_option maxRecDepth 100000 in
theorem worth15 {w : World} {A : Option Addr} {l : List Nd} {c mb m pb : Nat} {bs : List Ev.Bd} (E : EvC w A l c mb m pb bs) {i : Nat} {num : Int} {nm : List UInt8} {na nb nc : Int} (hn : l[i]? = some ⟨15, num, nm, na, nb, nc⟩) {RA RB : Ev.Rz} (hA : WoC (rkA A l.length c mb pb) w na RA) (hB : WoC (rkA A l.length c mb pb) w nb RB) (hFA : Ev.Fine RA) (hFB : Ev.Fine RB) :
    WoC (rkA A l.length c mb pb) w i (Ev.two 15 RA RB) := by
  intro w' hb'
  obtain ⟨g, o, N, W1, W3, rfl, hN, hW1, hW3, z0, z1, z2, z3, z4, z5, hi', hc', hx, hb3, hE3⟩ := pre3 E hn hb'
  obtain ⟨⟨x0, x1, x2⟩, y0, y1, y2, y3, y4, y5⟩ := hx.cells
  have HX := Lib.hid hx
  have HB3 := Lib.hid hb3
  have HE3 := Lib.hid hE3
  have hbw := hb'.trans (hb3.mono hb'.size)
  have HT := Lib.hid (fun w0 (h0 : Below W3.heap.size W3 w0) => evnumber_any (some ⟨g, o, none⟩) l.length c mb pb w na RA hA w0 (hbw.trans (h0.mono hbw.size))); have HT2 := Lib.hid (fun w0 (h0 : Below W3.heap.size W3 w0) => evnumber_any (some ⟨g, o, none⟩) l.length c mb pb w nb RB hB w0 (hbw.trans (h0.mono hbw.size)))
  rw [hW1] at z0 z1 z2 z3 z4 z5 hW3
  rw [hW3] at x0 x1 x2 y0 y1 y2 y3 y4 y5
  have HW3 := Lib.hid hW3
  unfold rkA at *
  clear hW1 hb3 hx hW3 hb' hE3 E hn hbw hN hA hB
  have e1 : Ev.two 15 RA RB = Ev.thn (Ev.prt RA 1) fun v => Ev.thn (Ev.prt RB 1) fun u => Ev.pair 15 v.n u.n := rfl
  rw [e1]
  clear e1
  have hF := Ev.fine_prt (k := 1) hFA
  have hG := Ev.fine_prt (k := 1) hFB
  clear hFA hFB
  generalize Ev.prt RA 1 = Q at *
  generalize Ev.prt RB 1 = Q2 at *
  have hlk := look15 pb W3 HE3.out.pa
  rw [HW3.out] at hlk
  have HY := Lib.hid (HX.out.below (Below.refl _ _).drew).s5
  have HBD := Lib.hid (fun w0 (h0 : Below W3.heap.size W3 w0) => HB3.out.trans (h0.mono HB3.out.size))
  cases Q
  case' er z =>
    simp only [endN, pan] at HT
    rw [thn_er]
    simp only [endZ, pan]
    clear hF hG
  case' ok v =>
    obtain ⟨vk, vn, vb⟩ := v
    simp only [endN] at HT
    rw [thn_ok]
    cases Q2
    case' er z =>
      simp only [endN, pan] at HT2
      rw [thn_er]
      simp only [endZ, pan]
      clear hF hG
    case' ok u =>
      obtain ⟨uk, un, ub⟩ := u
      simp only [endN] at HT2
      rw [thn_ok]
      simp only
      have HR := Lib.hid (fun w0 => pair9_any vn un w0 )
      clear hF hG
      generalize Ev.pair 15 vn un = R at *
      cases R
      case' er y =>
        simp only [endZ, pan] at HR
        simp only [endZ, pan]
      case' ok r =>
        obtain ⟨rk, rn, rb⟩ := r
        simp only [endZ, vlA] at HR
  all_goals
    go_enter Tryz.func139, Tryz.ntmps139
    go_wp2_with fail
    rw [← HW3.out]
    refine wp_region_held_drew (S := S5 w' (some ⟨g, o, none⟩) l.length c mb pb na nb) (by kernel_rfl) HY.out (fun hHeld => ?_)
    refine wpAnyH_take (i := 0) (v := .func (.func 137) #[] #[]) rfl (by kernel_rfl) (by kernel_rfl) (by kernel_rfl) (fun _ _ _ h => h) (Or.inl ⟨by rfl, by (intro w hS; try (obtain ⟨⟨s0, s1, s2⟩, s3, s4⟩ := hS); go_simp)⟩) hHeld ?_
    try simp only [Act.put, List.getElem_toArray, List.getElem_cons_zero, List.setIfInBounds_toArray, List.set_cons_zero, List.set_cons_succ]
    refine wpAnyH_take (i := 1) (v := .agg #[.slice (some ⟨g, o, none⟩) l.length c, .map (some mb), .map (some pb)]) rfl (by kernel_rfl) (by kernel_rfl) (by kernel_rfl) (fun _ _ _ h => h) (Or.inl ⟨by rfl, by (intro w hS; try (obtain ⟨⟨s0, s1, s2⟩, s3, s4⟩ := hS); go_simp)⟩) hHeld ?_
    try simp only [Act.put, List.getElem_toArray, List.getElem_cons_succ, List.getElem_cons_zero, List.setIfInBounds_toArray, List.set_cons_zero, List.set_cons_succ]
    refine wpAnyH_take (i := 2) (v := .pointer (some ⟨w'.heap.size + 1 + 1, 3, none⟩)) rfl (by kernel_rfl) (by kernel_rfl) (by kernel_rfl) (fun _ _ _ h => h) (Or.inl ⟨by rfl, by (intro w hS; try (obtain ⟨⟨s0, s1, s2⟩, s3, s4⟩ := hS); go_simp)⟩) hHeld ?_
    try simp only [Act.put, List.getElem_toArray, List.getElem_cons_succ, List.getElem_cons_zero, List.setIfInBounds_toArray, List.set_cons_zero, List.set_cons_succ]
    refine wpAnyH_take (i := 3) (v := .int .i64 na) rfl (by kernel_rfl) (by kernel_rfl) (by kernel_rfl) (fun _ _ _ h => h) (Or.inl ⟨by rfl, by (intro w hS; try (obtain ⟨⟨s0, s1, s2⟩, s3, s4⟩ := hS); go_simp)⟩) hHeld ?_
    try simp only [Act.put, List.getElem_toArray, List.getElem_cons_succ, List.getElem_cons_zero, List.setIfInBounds_toArray, List.set_cons_zero, List.set_cons_succ]
    refine wpAnyH_take (i := 5) (v := .agg #[.slice (some ⟨g, o, none⟩) l.length c, .map (some mb), .map (some pb)]) rfl (by kernel_rfl) (by kernel_rfl) (by kernel_rfl) (fun _ _ _ h => h) (Or.inl ⟨by rfl, by (intro w hS; try (obtain ⟨⟨s0, s1, s2⟩, s3, s4⟩ := hS); go_simp)⟩) hHeld ?_
    try simp only [Act.put, List.getElem_toArray, List.getElem_cons_succ, List.getElem_cons_zero, List.setIfInBounds_toArray, List.set_cons_zero, List.set_cons_succ]
    refine wpAnyH_take (i := 6) (v := .pointer (some ⟨w'.heap.size + 1 + 1, 4, none⟩)) rfl (by kernel_rfl) (by kernel_rfl) (by kernel_rfl) (fun _ _ _ h => h) (Or.inl ⟨by rfl, by (intro w hS; try (obtain ⟨⟨s0, s1, s2⟩, s3, s4⟩ := hS); go_simp)⟩) hHeld ?_
    try simp only [Act.put, List.getElem_toArray, List.getElem_cons_succ, List.getElem_cons_zero, List.setIfInBounds_toArray, List.set_cons_zero, List.set_cons_succ]
    refine wpAnyH_take (i := 7) (v := .int .i64 nb) rfl (by kernel_rfl) (by kernel_rfl) (by kernel_rfl) (fun _ _ _ h => h) (Or.inl ⟨by rfl, by (intro w hS; try (obtain ⟨⟨s0, s1, s2⟩, s3, s4⟩ := hS); go_simp)⟩) hHeld ?_
    try simp only [Act.put, List.getElem_toArray, List.getElem_cons_succ, List.getElem_cons_zero, List.setIfInBounds_toArray, List.set_cons_zero, List.set_cons_succ]
    refine wpAnyH_ready (rs := [4]) (by kernel_rfl) (by simp) ?_
    refine AllReadyH.cons rfl (fun K hK => ?_) AllReadyH.nil
    go_simp
    refine (HT.out _ (Below.refl _ _).drew).mono ?_
    rintro e w5 ⟨rfl, hb5⟩
  rotate_right
  · exact ⟨rfl, rfl, HBD.out _ ((Below.refl _ _).drew.trans hb5)⟩
  all_goals
    have HB5 := Lib.hid ((Below.refl W3.heap.size W3).drew.trans hb5)
    clear hb5
    refine hK _ _ (HX.out.below HB5.out).s5 (fun hHeld => ?_)
    clear hK K
    try simp only [Act.put, List.getElem_toArray, List.getElem_cons_succ, List.getElem_cons_zero, List.setIfInBounds_toArray, List.set_cons_zero, List.set_cons_succ]
    refine wpAnyH_ready (rs := [8]) (by kernel_rfl) (by simp) ?_
    refine AllReadyH.cons rfl (fun K hK => ?_) AllReadyH.nil
    go_simp
    refine (HT2.out _ HB5.out).mono ?_
    rintro e w6 ⟨rfl, hb6⟩
    have HB6 := Lib.hid (HB5.out.trans (hb6.mono HB5.out.size))
    clear hb6
  rotate_right
  · exact ⟨rfl, rfl, HBD.out _ HB6.out⟩
  all_goals
    refine hK _ _ (HX.out.below HB6.out).s5 (fun hHeld => ?_)
    clear hK K
    try simp only [Act.put, List.getElem_toArray, List.getElem_cons_succ, List.getElem_cons_zero, List.setIfInBounds_toArray, List.set_cons_zero, List.set_cons_succ]
    refine wpAnyH_ready (rs := [9]) (by kernel_rfl) (by simp) ?_
    refine AllReadyH.cons rfl (fun K hK => ?_) AllReadyH.nil
    go_simp
    refine (HR.out _).mono ?_
    rintro e w7 ⟨rfl, hb7⟩
    have HB7 := Lib.hid (HB6.out.trans (hb7.mono HB6.out.size))
    clear hb7
  rotate_right
  · exact ⟨rfl, rfl, HBD.out _ HB7.out⟩
  have hx7 := HX.out.below HB7.out
  have kz := hx7.vl
  have k0 := kz.at_ 0
  have k1 := kz.at_ 1
  have k2 := kz.at_ 2
  have f0 := kz.fz 0
  have f1 := kz.fz 1
  have f2 := kz.fz 2
  simp only [List.getElem?_toArray, List.getElem?_cons_zero, List.getElem?_cons_succ] at k0 k1 k2
  have HX7 := Lib.hid hx7
  have HBF := Lib.hid ((((HBD.out _ HB7.out).setCell (p := ⟨w'.heap.size + 1, 0, none⟩) (Nat.le_succ _) (.int .u8 (rk : Nat))).setCell (p := ⟨w'.heap.size + 1, 1, none⟩) (Nat.le_succ _) (.int .i64 rn)).setCell (p := ⟨w'.heap.size + 1, 2, none⟩) (Nat.le_succ _) (.bool rb))
  clear kz hx7
  refine hK _ _ HX7.out.s5 (fun hHeld => ?_)
  clear hK K
  try simp only [Act.put, List.getElem_toArray, List.getElem_cons_succ, List.getElem_cons_zero, List.setIfInBounds_toArray, List.set_cons_zero, List.set_cons_succ]
  refine wpAnyH_ready (rs := [10]) (by kernel_rfl) (by simp) ?_
  refine AllReadyH.cons rfl (fun K hK => ?_) AllReadyH.nil
  go_simp
  refine hK _ _ (by
    have q1 := HX7.out.rk.far3 (g := w'.heap.size + 1) (by omega) (.int .u8 (rk : Nat)) (.int .i64 rn) (.bool rb)
    have q2 := HX7.out.nd.far3 (g := w'.heap.size + 1) (by omega) (.int .u8 (rk : Nat)) (.int .i64 rn) (.bool rb)
    exact ⟨⟨q1.at_ 0, q1.at_ 1, q1.at_ 2⟩, q2.at_ 3, q2.at_ 4⟩) (fun hHeld => ?_)
  clear hK K
  refine wpAnyH_done (by kernel_rfl) ?_ _
  go_wp2
  refine bodyPost_ret (v := vlA ⟨rk, rn, rb⟩) (by simp [results, Tryz.results139, go_sem, vlA, k0, k1, k2]) rfl ?_
  exact ⟨rfl, HBF.out⟩
end Go.Proofs.YtdcjpinbflmikaaGreatDoor
