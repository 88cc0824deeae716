/- Facts and walks for the statement. -/
import Derived.Test.YtdcjpinbflmikaaGreatDoorPzW26
import Derived.Deep.RegionHeld3
namespace Go.Proofs.YtdcjpinbflmikaaGreatDoor
open Go.RowKit Ex
theorem run_eqlR (k1 k2 : Nat) (n1 n2 : Int) (b1 b2 : Bool) (w : World) : (binOp BinOp.eql 70 (.agg #[.int .u8 (k1 : Nat), .int .i64 n1, .bool b1]) (.agg #[.int .u8 (k2 : Nat), .int .i64 n2, .bool b2])).run Tryz.prog w = .ok (.bool (decide (k1 = k2) && (decide (n1 = n2) && decide (b1 = b2)))) w := by
  simp [go_sem, Tryz.underlying70]
  by_cases e1 : k1 = k2
  · by_cases e2 : n1 = n2
    · by_cases e3 : b1 = b2
      · simp [e1, e2, e3]
      · simp [e1, e2, e3]
    · simp [e1, e2]
  · rw [if_neg (by omega)]; simp [e1]
def S6 (p q g : Nat) (k1 : Nat) (n1 : Int) (b1 : Bool) (k2 : Nat) (n2 : Int) (b2 : Bool) (o : Int) (w0 : World) : Prop := (w0.cell? ⟨p, 0, none⟩ = some (.int .u8 (k1 : Nat)) ∧ w0.cell? ⟨p, 1, none⟩ = some (.int .i64 n1) ∧ w0.cell? ⟨p, 2, none⟩ = some (.bool b1)) ∧ (w0.cell? ⟨q, 0, none⟩ = some (.int .u8 (k2 : Nat)) ∧ w0.cell? ⟨q, 1, none⟩ = some (.int .i64 n2) ∧ w0.cell? ⟨q, 2, none⟩ = some (.bool b2)) ∧ w0.cell? ⟨g, 0, none⟩ = some (.int .u8 o)
set_option maxHeartbeats 4000000 in
set_option maxRecDepth 100000 in
theorem r10ali16 (A : Option Addr) (n c : Nat) (A2 : Option Addr) (m c2 : Nat) (w : World) (num : Int) (N : ByteArray) (na nb nc : Int) (RA RB : Ev.Rz) (hFA : Ev.Fine RA) (hFB : Ev.Fine RB) (hA : RwC (lkA A n c A2 m c2) w na RA) (hB : RwC (lkA A n c A2 m c2) w nb RB) (w' : World) (hb' : Below w.heap.size w w') :
    Calls Tryz.prog 144 #[lkA A n c A2 m c2, ndX 16 num N na nb nc] w' fun e w'' => e = outZ (resZ (Ev.two 16 RA RB)) ∧ Below w'.heap.size w' w'' := by
  obtain ⟨W2, hW2⟩ : ∃ W2, W2 = ((w'.alloc (.cells #[.slice A n c, .slice A2 m c2] 155)).alloc (.cells #[.int .u8 16, .int .i64 num, .string N, .int .i64 na, .int .i64 nb, .int .i64 nc] 114)).alloc (.cells #[.int .u8 0, .int .i64 0, .bool false] 70) := ⟨_, rfl⟩
  have hb2 : Below w'.heap.size w' W2 := by rw [hW2]; exact (((Below.refl _ _).alloc (Nat.le_refl _) _).alloc (by simp) _).alloc (by simp; omega) _
  have hx : Bx4 W2 w'.heap.size A n c A2 m c2 16 num N na nb nc := by rw [hW2]; exact Bx4.new _ _ _ _ _ _ _ _ _ _ _ _ _
  have hbw := hb'.trans (hb2.mono hb'.size)
  have HTA := Lib.hid (hA W2 hbw); have HTB := Lib.hid (fun w0 (h0 : Below W2.heap.size W2 w0) => hB w0 (hbw.trans (h0.mono hbw.size)))
  obtain ⟨⟨x0, x1⟩, ⟨y0, y3, y4⟩, -⟩ := hx.cells
  have HX := Lib.hid hx
  have HB2 := Lib.hid hb2
  have HW2 := Lib.hid hW2
  rw [hW2] at x0 x1 y0 y3 y4
  unfold lkA at *
  unfold ndX
  clear hb2 hx hb' hW2 hbw hA hB
  have e1 : Ev.two 16 RA RB = Ev.thn RA fun v => Ev.thn (Ev.prt RB v.k) fun u => .ok (Ev.vb (decide (v = u) == true)) := rfl
  rw [e1]
  clear e1
  cases RA with
  | er z =>
    have hz := fine_nz hFA z rfl
    have hz1 : (z == 0) = false := by simpa using hz
    have hz2 : (z != 0) = true := by simp [bne, hz1]
    rw [thn_er]
    have HTA : Hid (Calls _ _ _ _ fun e w'' => e = .returned (.tuple #[.agg #[.int .u8 0, .int .i64 0, .bool false], .int .i64 z]) ∧ _) := HTA
    show Calls _ _ _ _ fun e w'' => e = .returned (.tuple #[.agg #[.int .u8 0, .int .i64 0, .bool false], .int .i64 z]) ∧ _
    clear hFA hFB hz HTB
    go_enter Tryz.func144, Tryz.ntmps144
    go_wp2_with fail
    rw [← HW2.out]
    refine HTA.out.mono ?_
    rintro e w1 ⟨rfl, hb⟩
    have hb := hb.alloc hb.size (.cells #[.int .u8 0, .int .i64 0, .bool false] 70)
    obtain ⟨-, -, ⟨k0, k1, k2⟩, f0, f1, f2⟩ := (HX.out.below hb).cells
    have HBF := Lib.hid ((((HB2.out.trans (hb.mono HB2.out.size)).setCell (p := ⟨w'.heap.size + 1 + 1, 0, none⟩) (Nat.le_trans (Nat.le_succ _) (Nat.le_succ _)) (.int .u8 0)).setCell (p := ⟨w'.heap.size + 1 + 1, 1, none⟩) (Nat.le_trans (Nat.le_succ _) (Nat.le_succ _)) (.int .i64 0)).setCell (p := ⟨w'.heap.size + 1 + 1, 2, none⟩) (Nat.le_trans (Nat.le_succ _) (Nat.le_succ _)) (.bool false))
    clear hb
    go_wp2
    refine bodyPost_ret (v := .tuple #[.agg #[.int .u8 0, .int .i64 0, .bool false], .int .i64 z]) (by simp [results, Tryz.results144, go_sem, k0, k1, k2]) rfl ?_
    exact ⟨rfl, HBF.out⟩
  | ok v =>
    obtain ⟨vk, vn, vb⟩ := v
    have HTA : Hid (Calls _ _ _ _ fun e w'' => e = .returned (.tuple #[.agg #[.int .u8 (vk : Nat), .int .i64 vn, .bool vb], .int .i64 0]) ∧ _) := HTA
    rw [thn_ok]
    simp only
    cases RB with
    | er z =>
      have hz := fine_nz hFB z rfl
      have hz1 : (z == 0) = false := by simpa using hz
      have hz2 : (z != 0) = true := by simp [bne, hz1]
      rw [prt_er, thn_er]
      have HTB : Hid (∀ w0, Below W2.heap.size W2 w0 → Calls _ _ _ w0 fun e w'' => e = .returned (.tuple #[.agg #[.int .u8 0, .int .i64 0, .bool false], .int .i64 z]) ∧ Below w0.heap.size w0 w'') := HTB
      show Calls _ _ _ _ fun e w'' => e = .returned (.tuple #[.agg #[.int .u8 0, .int .i64 0, .bool false], .int .i64 z]) ∧ _
      clear hFA hFB hz
      go_enter Tryz.func144, Tryz.ntmps144
      go_wp2_with fail
      rw [← HW2.out]
      refine HTA.out.mono ?_
      rintro e w1 ⟨rfl, hb⟩
      have hb1 := hb.alloc hb.size (.cells #[.int .u8 (vk : Nat), .int .i64 vn, .bool vb] 70)
      obtain ⟨⟨x0, x1⟩, ⟨y0, y3, y4⟩, -⟩ := (HX.out.below hb1).cells
      have HB1 := Lib.hid hb1
      have HT2 := Lib.hid (HTB.out _ hb1)
      clear hb hb1 HTB
      go_wp2_with fail
      refine HT2.out.mono ?_
      rintro e w2 ⟨rfl, hb⟩
      have hb := HB1.out.trans ((hb.alloc hb.size (.cells #[.int .u8 0, .int .i64 0, .bool false] 70)).mono HB1.out.size)
      obtain ⟨-, -, ⟨k0, k1, k2⟩, f0, f1, f2⟩ := (HX.out.below hb).cells
      have HBF := Lib.hid ((((HB2.out.trans (hb.mono HB2.out.size)).setCell (p := ⟨w'.heap.size + 1 + 1, 0, none⟩) (Nat.le_trans (Nat.le_succ _) (Nat.le_succ _)) (.int .u8 0)).setCell (p := ⟨w'.heap.size + 1 + 1, 1, none⟩) (Nat.le_trans (Nat.le_succ _) (Nat.le_succ _)) (.int .i64 0)).setCell (p := ⟨w'.heap.size + 1 + 1, 2, none⟩) (Nat.le_trans (Nat.le_succ _) (Nat.le_succ _)) (.bool false))
      clear hb
      go_wp2
      refine bodyPost_ret (v := .tuple #[.agg #[.int .u8 0, .int .i64 0, .bool false], .int .i64 z]) (by simp [results, Tryz.results144, go_sem, k0, k1, k2]) rfl ?_
      exact ⟨rfl, HBF.out⟩
    | ok u =>
      obtain ⟨uk, un, ub⟩ := u
      have HTB : Hid (∀ w0, Below W2.heap.size W2 w0 → Calls _ _ _ w0 fun e w'' => e = .returned (.tuple #[.agg #[.int .u8 (uk : Nat), .int .i64 un, .bool ub], .int .i64 0]) ∧ Below w0.heap.size w0 w'') := HTB
      rw [prt_ok]
      clear hFA hFB
      by_cases hk : uk = vk
      · subst hk
        rw [if_pos rfl, thn_ok, eqV]
        have hk1 : ((uk : Int) != (uk : Int)) = false := by simp [bne]
        have hk2 : ((uk : Int) == (uk : Int)) = true := beq_self_eq_true _
        obtain ⟨r, hr⟩ : ∃ r, r = ((decide (uk = uk) && (decide (vn = un) && decide (vb = ub)))) := ⟨_, rfl⟩
        have heq := run_eqlR uk uk vn un vb ub
        rw [← hr] at heq ⊢
        have e3 : (r == true) = r := by cases r <;> rfl
        rw [e3]
        have HK := Lib.hid (fun w0 => rtold_any (r) 0 w0)
        have HK : Hid (∀ w0, Calls _ _ _ w0 fun e w'' => e = .returned (.tuple #[.agg #[.int .u8 2, .int .i64 0, .bool (r)], .int .i64 0]) ∧ Below w0.heap.size w0 w'') := HK
        show Calls _ _ _ _ fun e w'' => e = .returned (.tuple #[.agg #[.int .u8 2, .int .i64 0, .bool (r)], .int .i64 0]) ∧ _
        clear hr e3
        go_enter Tryz.func144, Tryz.ntmps144
        go_wp2_with fail
        rw [← HW2.out]
        refine HTA.out.mono ?_
        rintro e w1 ⟨rfl, hb⟩
        have hb1 := hb.alloc hb.size (.cells #[.int .u8 (uk : Nat), .int .i64 vn, .bool vb] 70)
        obtain ⟨⟨x0, x1⟩, ⟨y0, y3, y4⟩, -⟩ := (HX.out.below hb1).cells
        have HB1 := Lib.hid hb1
        have HT2 := Lib.hid (HTB.out _ hb1)
        have KB := Lib.hid (IsBlk.new w1 70 #[.int .u8 (uk : Nat), .int .i64 vn, .bool vb])
        have hlt := Lib.hid HX.out.vl.lt
        have hsz1 := Lib.hid hb.size
        clear hb hb1 HTB
        go_wp2_with fail
        refine HT2.out.mono ?_
        rintro e w2 ⟨rfl, hb⟩
        obtain ⟨W5, hW5⟩ : ∃ W5, W5 = w2.alloc (.cells #[.int .u8 (uk : Nat), .int .i64 un, .bool ub] 70) := ⟨_, rfl⟩
        have hb5 := hb.alloc hb.size (.cells #[.int .u8 (uk : Nat), .int .i64 un, .bool ub] 70)
        rw [← hW5] at hb5
        have KC : Hid (IsBlk W5 w2.heap.size 70 #[.int .u8 (uk : Nat), .int .i64 un, .bool ub]) := Lib.hid (by rw [hW5]; exact IsBlk.new _ _ _)
        have KB5 := Lib.hid (KB.out.below hb5 KB.out.lt)
        have HB5 := Lib.hid (HB1.out.trans (hb5.mono HB1.out.size))
        have hsz2 := Lib.hid hb.size
        have HW5 := Lib.hid hW5
        have HS := Lib.hid (fun w0 (h0 : Below W5.heap.size W5 w0) => (show S6 w1.heap.size w2.heap.size (w'.heap.size + 1) uk vn vb uk un ub 16 w0 from by
          have q1 := KB5.out.below h0 KB5.out.lt
          have q2 := KC.out.below h0 KC.out.lt
          have q3 := (HX.out.below HB5.out).below h0
          exact ⟨⟨q1.at_ 0, q1.at_ 1, q1.at_ 2⟩, ⟨q2.at_ 0, q2.at_ 1, q2.at_ 2⟩, q3.nd.at_ 0⟩))
        have HSF := Lib.hid (fun w0 (h0 : Below W5.heap.size W5 w0) (v0 v1 v2 : Value) => (show S6 w1.heap.size w2.heap.size (w'.heap.size + 1) uk vn vb uk un ub 16 (((w0.setCell ⟨w'.heap.size + 1 + 1, 0, none⟩ v0).setCell ⟨w'.heap.size + 1 + 1, 1, none⟩ v1).setCell ⟨w'.heap.size + 1 + 1, 2, none⟩ v2) from by
          have l1 := hlt.out
          have l2 := hsz1.out
          have l3 := hsz2.out
          have l4 : (w1.alloc (.cells #[.int .u8 (uk : Nat), .int .i64 vn, .bool vb] 70)).heap.size = w1.heap.size + 1 := by simp
          have q1 := (KB5.out.below h0 KB5.out.lt).far3 (g := w'.heap.size + 1 + 1) (by omega) v0 v1 v2
          have q2 := (KC.out.below h0 KC.out.lt).far3 (g := w'.heap.size + 1 + 1) (by omega) v0 v1 v2
          have q3 := ((HX.out.below HB5.out).below h0).nd.far3 (g := w'.heap.size + 1 + 1) (by omega) v0 v1 v2
          exact ⟨⟨q1.at_ 0, q1.at_ 1, q1.at_ 2⟩, ⟨q2.at_ 0, q2.at_ 1, q2.at_ 2⟩, q3.at_ 0⟩))
        have hy := HS.out W5 (Below.refl _ _)
        rw [HW5.out] at hy
        obtain ⟨⟨a0, a1, a2⟩, ⟨b0, b1, b2⟩, y0⟩ := hy
        have HY := Lib.hid (HS.out W5.drew (Below.refl _ _).drew)
        clear hb hb5 hW5 HT2
        go_wp2_with fail
        rw [← HW5.out]
        clear a0 a1 a2 b0 b1 b2 y0
        refine wp_region_held_drew (S := S6 w1.heap.size w2.heap.size (w'.heap.size + 1) uk vn vb uk un ub 16) (by kernel_rfl) HY.out (fun hHeld => ?_)
        refine wpAnyH_take (i := 0) (v := .agg #[.int .u8 (uk : Nat), .int .i64 vn, .bool vb]) rfl (by kernel_rfl) (by kernel_rfl) (by kernel_rfl) (fun _ _ _ h => h) (Or.inl ⟨by rfl, by (intro w hS; try (obtain ⟨⟨s0, s1, s2⟩, ⟨s3, s4, s5⟩, s6⟩ := hS); go_simp)⟩) hHeld ?_
        try simp only [Act.put, List.getElem_toArray, List.getElem_cons_zero, List.setIfInBounds_toArray, List.set_cons_zero, List.set_cons_succ]
        refine wpAnyH_take (i := 1) (v := .agg #[.int .u8 (uk : Nat), .int .i64 un, .bool ub]) rfl (by kernel_rfl) (by kernel_rfl) (by kernel_rfl) (fun _ _ _ h => h) (Or.inl ⟨by rfl, by (intro w hS; try (obtain ⟨⟨s0, s1, s2⟩, ⟨s3, s4, s5⟩, s6⟩ := hS); go_simp)⟩) hHeld ?_
        try simp only [Act.put, List.getElem_toArray, List.getElem_cons_succ, List.getElem_cons_zero, List.setIfInBounds_toArray, List.set_cons_zero, List.set_cons_succ]
        refine wpAnyH_take (i := 2) (v := .bool r) rfl (by kernel_rfl) (by kernel_rfl) (by kernel_rfl) (fun _ _ _ h => h) (Or.inl ⟨by rfl, by (intro w hS; try (obtain ⟨⟨s0, s1, s2⟩, ⟨s3, s4, s5⟩, s6⟩ := hS); go_simp)⟩) hHeld ?_
        try simp only [Act.put, List.getElem_toArray, List.getElem_cons_succ, List.getElem_cons_zero, List.setIfInBounds_toArray, List.set_cons_zero, List.set_cons_succ]
        refine wpAnyH_take (i := 3) (v := .pointer (some ⟨w'.heap.size + 1, 0, none⟩)) rfl (by kernel_rfl) (by kernel_rfl) (by kernel_rfl) (fun _ _ _ h => h) (Or.inl ⟨by rfl, by (intro w hS; try (obtain ⟨⟨s0, s1, s2⟩, ⟨s3, s4, s5⟩, s6⟩ := hS); go_simp)⟩) hHeld ?_
        try simp only [Act.put, List.getElem_toArray, List.getElem_cons_succ, List.getElem_cons_zero, List.setIfInBounds_toArray, List.set_cons_zero, List.set_cons_succ]
        refine wpAnyH_take (i := 4) (v := .int .u8 16) rfl (by kernel_rfl) (by kernel_rfl) (by kernel_rfl) (fun _ _ _ h => h) (Or.inl ⟨by rfl, by (intro w hS; try (obtain ⟨⟨s0, s1, s2⟩, ⟨s3, s4, s5⟩, s6⟩ := hS); go_simp)⟩) hHeld ?_
        try simp only [Act.put, List.getElem_toArray, List.getElem_cons_succ, List.getElem_cons_zero, List.setIfInBounds_toArray, List.set_cons_zero, List.set_cons_succ]
        refine wpAnyH_take (i := 5) (v := .bool true) rfl (by kernel_rfl) (by kernel_rfl) (by kernel_rfl) (fun _ _ _ h => h) (Or.inl ⟨by rfl, by (intro w hS; try (obtain ⟨⟨s0, s1, s2⟩, ⟨s3, s4, s5⟩, s6⟩ := hS); go_simp)⟩) hHeld ?_
        try simp only [Act.put, List.getElem_toArray, List.getElem_cons_succ, List.getElem_cons_zero, List.setIfInBounds_toArray, List.set_cons_zero, List.set_cons_succ]
        refine wpAnyH_take (i := 6) (v := .bool r) rfl (by kernel_rfl) (by kernel_rfl) (by kernel_rfl) (fun _ _ _ h => h) (Or.inl ⟨by rfl, by (intro w hS; try (obtain ⟨⟨s0, s1, s2⟩, ⟨s3, s4, s5⟩, s6⟩ := hS); go_simp)⟩) hHeld ?_
        try simp only [Act.put, List.getElem_toArray, List.getElem_cons_succ, List.getElem_cons_zero, List.setIfInBounds_toArray, List.set_cons_zero, List.set_cons_succ]
        refine wpAnyH_ready (rs := [7]) (by kernel_rfl) (by simp) ?_
        refine AllReadyH.cons rfl (fun K hK => ?_) AllReadyH.nil
        go_simp
        refine (HK.out _).mono ?_
        rintro e w5 ⟨rfl, hb5⟩
        have HQ5 := Lib.hid ((Below.refl W5.heap.size W5).drew.trans hb5)
        have hb := HB5.out.trans (HQ5.out.mono HB5.out.size)
        obtain ⟨-, -, ⟨k0, k1, k2⟩, f0, f1, f2⟩ := (HX.out.below hb).cells
        have HBF := Lib.hid ((((HB2.out.trans (hb.mono HB2.out.size)).setCell (p := ⟨w'.heap.size + 1 + 1, 0, none⟩) (Nat.le_trans (Nat.le_succ _) (Nat.le_succ _)) (.int .u8 2)).setCell (p := ⟨w'.heap.size + 1 + 1, 1, none⟩) (Nat.le_trans (Nat.le_succ _) (Nat.le_succ _)) (.int .i64 0)).setCell (p := ⟨w'.heap.size + 1 + 1, 2, none⟩) (Nat.le_trans (Nat.le_succ _) (Nat.le_succ _)) (.bool (r)))
        clear hb hb5
        refine hK _ _ (HS.out _ HQ5.out) (fun hHeld => ?_)
        clear hK K
        try simp only [Act.put, List.getElem_toArray, List.getElem_cons_succ, List.getElem_cons_zero, List.setIfInBounds_toArray, List.set_cons_zero, List.set_cons_succ]
        refine wpAnyH_take (i := 8) (v := .agg #[.int .u8 2, .int .i64 0, .bool r]) rfl (by kernel_rfl) (by kernel_rfl) (by kernel_rfl) (fun _ _ _ h => h) (Or.inl ⟨by rfl, by (intro w hS; try (obtain ⟨⟨s0, s1, s2⟩, ⟨s3, s4, s5⟩, s6⟩ := hS); go_simp)⟩) hHeld ?_
        try simp only [Act.put, List.getElem_toArray, List.getElem_cons_succ, List.getElem_cons_zero, List.setIfInBounds_toArray, List.set_cons_zero, List.set_cons_succ]
        refine wpAnyH_take (i := 9) (v := .int .i64 0) rfl (by kernel_rfl) (by kernel_rfl) (by kernel_rfl) (fun _ _ _ h => h) (Or.inl ⟨by rfl, by (intro w hS; try (obtain ⟨⟨s0, s1, s2⟩, ⟨s3, s4, s5⟩, s6⟩ := hS); go_simp)⟩) hHeld ?_
        try simp only [Act.put, List.getElem_toArray, List.getElem_cons_succ, List.getElem_cons_zero, List.setIfInBounds_toArray, List.set_cons_zero, List.set_cons_succ]
        refine wpAnyH_ready (rs := [10]) (by kernel_rfl) (by simp) ?_
        refine AllReadyH.cons rfl (fun K hK => ?_) AllReadyH.nil
        go_simp
        refine hK _ _ (HSF.out _ HQ5.out _ _ _) (fun hHeld => ?_)
        clear hK K
        refine wpAnyH_take (i := 11) (v := .int .i64 0) rfl (by kernel_rfl) (by kernel_rfl) (by kernel_rfl) (fun _ _ _ h => h) (Or.inl ⟨by rfl, by (intro w hS; try (obtain ⟨⟨s0, s1, s2⟩, ⟨s3, s4, s5⟩, s6⟩ := hS); go_simp)⟩) hHeld ?_
        try simp only [Act.put, List.getElem_toArray, List.getElem_cons_succ, List.getElem_cons_zero, List.setIfInBounds_toArray, List.set_cons_zero, List.set_cons_succ]
        refine wpAnyH_done (by kernel_rfl) ?_ _
        go_wp2
        refine bodyPost_ret (v := .tuple #[.agg #[.int .u8 2, .int .i64 0, .bool (r)], .int .i64 0]) (by simp [results, Tryz.results144, go_sem, k0, k1, k2]) rfl ?_
        exact ⟨rfl, HBF.out⟩
      · have hk1 : ((vk : Int) != (uk : Int)) = true := bne_iff_ne.2 (by omega)
        have hk2 : ((vk : Int) == (uk : Int)) = false := beq_eq_false_iff_ne.2 (by omega)
        rw [if_neg hk, thn_er]
        show Calls _ _ _ _ fun e w'' => e = .returned (.tuple #[.agg #[.int .u8 0, .int .i64 0, .bool false], .int .i64 90]) ∧ _
        clear hk
        go_enter Tryz.func144, Tryz.ntmps144
        go_wp2_with fail
        rw [← HW2.out]
        refine HTA.out.mono ?_
        rintro e w1 ⟨rfl, hb⟩
        have hb1 := hb.alloc hb.size (.cells #[.int .u8 (vk : Nat), .int .i64 vn, .bool vb] 70)
        obtain ⟨⟨x0, x1⟩, ⟨y0, y3, y4⟩, -⟩ := (HX.out.below hb1).cells
        have HB1 := Lib.hid hb1
        have HT2 := Lib.hid (HTB.out _ hb1)
        have KB := Lib.hid (IsBlk.new w1 70 #[.int .u8 (vk : Nat), .int .i64 vn, .bool vb])
        clear hb hb1 HTB
        go_wp2_with fail
        refine HT2.out.mono ?_
        rintro e w2 ⟨rfl, hb⟩
        have hbx := hb.alloc hb.size (.cells #[.int .u8 (uk : Nat), .int .i64 un, .bool ub] 70)
        have a0 := (KB.out.below hbx KB.out.lt).at_ 0
        simp only [List.getElem?_toArray, List.getElem?_cons_zero] at a0
        have hb := HB1.out.trans (hbx.mono HB1.out.size)
        clear hbx
        obtain ⟨-, -, ⟨k0, k1, k2⟩, f0, f1, f2⟩ := (HX.out.below hb).cells
        have HBF := Lib.hid ((((HB2.out.trans (hb.mono HB2.out.size)).setCell (p := ⟨w'.heap.size + 1 + 1, 0, none⟩) (Nat.le_trans (Nat.le_succ _) (Nat.le_succ _)) (.int .u8 0)).setCell (p := ⟨w'.heap.size + 1 + 1, 1, none⟩) (Nat.le_trans (Nat.le_succ _) (Nat.le_succ _)) (.int .i64 0)).setCell (p := ⟨w'.heap.size + 1 + 1, 2, none⟩) (Nat.le_trans (Nat.le_succ _) (Nat.le_succ _)) (.bool false))
        clear hb
        go_wp2
        refine bodyPost_ret (v := .tuple #[.agg #[.int .u8 0, .int .i64 0, .bool false], .int .i64 90]) (by simp [results, Tryz.results144, go_sem, k0, k1, k2]) rfl ?_
        exact ⟨rfl, HBF.out⟩
set_option maxHeartbeats 4000000 in
set_option maxRecDepth 100000 in
theorem r10ali17 (A : Option Addr) (n c : Nat) (A2 : Option Addr) (m c2 : Nat) (w : World) (num : Int) (N : ByteArray) (na nb nc : Int) (RA RB : Ev.Rz) (hFA : Ev.Fine RA) (hFB : Ev.Fine RB) (hA : RwC (lkA A n c A2 m c2) w na RA) (hB : RwC (lkA A n c A2 m c2) w nb RB) (w' : World) (hb' : Below w.heap.size w w') :
    Calls Tryz.prog 144 #[lkA A n c A2 m c2, ndX 17 num N na nb nc] w' fun e w'' => e = outZ (resZ (Ev.two 17 RA RB)) ∧ Below w'.heap.size w' w'' := by
  obtain ⟨W2, hW2⟩ : ∃ W2, W2 = ((w'.alloc (.cells #[.slice A n c, .slice A2 m c2] 155)).alloc (.cells #[.int .u8 17, .int .i64 num, .string N, .int .i64 na, .int .i64 nb, .int .i64 nc] 114)).alloc (.cells #[.int .u8 0, .int .i64 0, .bool false] 70) := ⟨_, rfl⟩
  have hb2 : Below w'.heap.size w' W2 := by rw [hW2]; exact (((Below.refl _ _).alloc (Nat.le_refl _) _).alloc (by simp) _).alloc (by simp; omega) _
  have hx : Bx4 W2 w'.heap.size A n c A2 m c2 17 num N na nb nc := by rw [hW2]; exact Bx4.new _ _ _ _ _ _ _ _ _ _ _ _ _
  have hbw := hb'.trans (hb2.mono hb'.size)
  have HTA := Lib.hid (hA W2 hbw); have HTB := Lib.hid (fun w0 (h0 : Below W2.heap.size W2 w0) => hB w0 (hbw.trans (h0.mono hbw.size)))
  obtain ⟨⟨x0, x1⟩, ⟨y0, y3, y4⟩, -⟩ := hx.cells
  have HX := Lib.hid hx
  have HB2 := Lib.hid hb2
  have HW2 := Lib.hid hW2
  rw [hW2] at x0 x1 y0 y3 y4
  unfold lkA at *
  unfold ndX
  clear hb2 hx hb' hW2 hbw hA hB
  have e1 : Ev.two 17 RA RB = Ev.thn RA fun v => Ev.thn (Ev.prt RB v.k) fun u => .ok (Ev.vb (decide (v = u) == false)) := rfl
  rw [e1]
  clear e1
  cases RA with
  | er z =>
    have hz := fine_nz hFA z rfl
    have hz1 : (z == 0) = false := by simpa using hz
    have hz2 : (z != 0) = true := by simp [bne, hz1]
    rw [thn_er]
    have HTA : Hid (Calls _ _ _ _ fun e w'' => e = .returned (.tuple #[.agg #[.int .u8 0, .int .i64 0, .bool false], .int .i64 z]) ∧ _) := HTA
    show Calls _ _ _ _ fun e w'' => e = .returned (.tuple #[.agg #[.int .u8 0, .int .i64 0, .bool false], .int .i64 z]) ∧ _
    clear hFA hFB hz HTB
    go_enter Tryz.func144, Tryz.ntmps144
    go_wp2_with fail
    rw [← HW2.out]
    refine HTA.out.mono ?_
    rintro e w1 ⟨rfl, hb⟩
    have hb := hb.alloc hb.size (.cells #[.int .u8 0, .int .i64 0, .bool false] 70)
    obtain ⟨-, -, ⟨k0, k1, k2⟩, f0, f1, f2⟩ := (HX.out.below hb).cells
    have HBF := Lib.hid ((((HB2.out.trans (hb.mono HB2.out.size)).setCell (p := ⟨w'.heap.size + 1 + 1, 0, none⟩) (Nat.le_trans (Nat.le_succ _) (Nat.le_succ _)) (.int .u8 0)).setCell (p := ⟨w'.heap.size + 1 + 1, 1, none⟩) (Nat.le_trans (Nat.le_succ _) (Nat.le_succ _)) (.int .i64 0)).setCell (p := ⟨w'.heap.size + 1 + 1, 2, none⟩) (Nat.le_trans (Nat.le_succ _) (Nat.le_succ _)) (.bool false))
    clear hb
    go_wp2
    refine bodyPost_ret (v := .tuple #[.agg #[.int .u8 0, .int .i64 0, .bool false], .int .i64 z]) (by simp [results, Tryz.results144, go_sem, k0, k1, k2]) rfl ?_
    exact ⟨rfl, HBF.out⟩
  | ok v =>
    obtain ⟨vk, vn, vb⟩ := v
    have HTA : Hid (Calls _ _ _ _ fun e w'' => e = .returned (.tuple #[.agg #[.int .u8 (vk : Nat), .int .i64 vn, .bool vb], .int .i64 0]) ∧ _) := HTA
    rw [thn_ok]
    simp only
    cases RB with
    | er z =>
      have hz := fine_nz hFB z rfl
      have hz1 : (z == 0) = false := by simpa using hz
      have hz2 : (z != 0) = true := by simp [bne, hz1]
      rw [prt_er, thn_er]
      have HTB : Hid (∀ w0, Below W2.heap.size W2 w0 → Calls _ _ _ w0 fun e w'' => e = .returned (.tuple #[.agg #[.int .u8 0, .int .i64 0, .bool false], .int .i64 z]) ∧ Below w0.heap.size w0 w'') := HTB
      show Calls _ _ _ _ fun e w'' => e = .returned (.tuple #[.agg #[.int .u8 0, .int .i64 0, .bool false], .int .i64 z]) ∧ _
      clear hFA hFB hz
      go_enter Tryz.func144, Tryz.ntmps144
      go_wp2_with fail
      rw [← HW2.out]
      refine HTA.out.mono ?_
      rintro e w1 ⟨rfl, hb⟩
      have hb1 := hb.alloc hb.size (.cells #[.int .u8 (vk : Nat), .int .i64 vn, .bool vb] 70)
      obtain ⟨⟨x0, x1⟩, ⟨y0, y3, y4⟩, -⟩ := (HX.out.below hb1).cells
      have HB1 := Lib.hid hb1
      have HT2 := Lib.hid (HTB.out _ hb1)
      clear hb hb1 HTB
      go_wp2_with fail
      refine HT2.out.mono ?_
      rintro e w2 ⟨rfl, hb⟩
      have hb := HB1.out.trans ((hb.alloc hb.size (.cells #[.int .u8 0, .int .i64 0, .bool false] 70)).mono HB1.out.size)
      obtain ⟨-, -, ⟨k0, k1, k2⟩, f0, f1, f2⟩ := (HX.out.below hb).cells
      have HBF := Lib.hid ((((HB2.out.trans (hb.mono HB2.out.size)).setCell (p := ⟨w'.heap.size + 1 + 1, 0, none⟩) (Nat.le_trans (Nat.le_succ _) (Nat.le_succ _)) (.int .u8 0)).setCell (p := ⟨w'.heap.size + 1 + 1, 1, none⟩) (Nat.le_trans (Nat.le_succ _) (Nat.le_succ _)) (.int .i64 0)).setCell (p := ⟨w'.heap.size + 1 + 1, 2, none⟩) (Nat.le_trans (Nat.le_succ _) (Nat.le_succ _)) (.bool false))
      clear hb
      go_wp2
      refine bodyPost_ret (v := .tuple #[.agg #[.int .u8 0, .int .i64 0, .bool false], .int .i64 z]) (by simp [results, Tryz.results144, go_sem, k0, k1, k2]) rfl ?_
      exact ⟨rfl, HBF.out⟩
    | ok u =>
      obtain ⟨uk, un, ub⟩ := u
      have HTB : Hid (∀ w0, Below W2.heap.size W2 w0 → Calls _ _ _ w0 fun e w'' => e = .returned (.tuple #[.agg #[.int .u8 (uk : Nat), .int .i64 un, .bool ub], .int .i64 0]) ∧ Below w0.heap.size w0 w'') := HTB
      rw [prt_ok]
      clear hFA hFB
      by_cases hk : uk = vk
      · subst hk
        rw [if_pos rfl, thn_ok, eqV]
        have hk1 : ((uk : Int) != (uk : Int)) = false := by simp [bne]
        have hk2 : ((uk : Int) == (uk : Int)) = true := beq_self_eq_true _
        obtain ⟨r, hr⟩ : ∃ r, r = ((decide (uk = uk) && (decide (vn = un) && decide (vb = ub)))) := ⟨_, rfl⟩
        have heq := run_eqlR uk uk vn un vb ub
        rw [← hr] at heq ⊢
        have e3 : (r == false) = (!r) := by cases r <;> rfl
        rw [e3]
        have HK := Lib.hid (fun w0 => rtold_any ((!r)) 0 w0)
        have HK : Hid (∀ w0, Calls _ _ _ w0 fun e w'' => e = .returned (.tuple #[.agg #[.int .u8 2, .int .i64 0, .bool ((!r))], .int .i64 0]) ∧ Below w0.heap.size w0 w'') := HK
        show Calls _ _ _ _ fun e w'' => e = .returned (.tuple #[.agg #[.int .u8 2, .int .i64 0, .bool ((!r))], .int .i64 0]) ∧ _
        clear hr e3
        go_enter Tryz.func144, Tryz.ntmps144
        go_wp2_with fail
        rw [← HW2.out]
        refine HTA.out.mono ?_
        rintro e w1 ⟨rfl, hb⟩
        have hb1 := hb.alloc hb.size (.cells #[.int .u8 (uk : Nat), .int .i64 vn, .bool vb] 70)
        obtain ⟨⟨x0, x1⟩, ⟨y0, y3, y4⟩, -⟩ := (HX.out.below hb1).cells
        have HB1 := Lib.hid hb1
        have HT2 := Lib.hid (HTB.out _ hb1)
        have KB := Lib.hid (IsBlk.new w1 70 #[.int .u8 (uk : Nat), .int .i64 vn, .bool vb])
        have hlt := Lib.hid HX.out.vl.lt
        have hsz1 := Lib.hid hb.size
        clear hb hb1 HTB
        go_wp2_with fail
        refine HT2.out.mono ?_
        rintro e w2 ⟨rfl, hb⟩
        obtain ⟨W5, hW5⟩ : ∃ W5, W5 = w2.alloc (.cells #[.int .u8 (uk : Nat), .int .i64 un, .bool ub] 70) := ⟨_, rfl⟩
        have hb5 := hb.alloc hb.size (.cells #[.int .u8 (uk : Nat), .int .i64 un, .bool ub] 70)
        rw [← hW5] at hb5
        have KC : Hid (IsBlk W5 w2.heap.size 70 #[.int .u8 (uk : Nat), .int .i64 un, .bool ub]) := Lib.hid (by rw [hW5]; exact IsBlk.new _ _ _)
        have KB5 := Lib.hid (KB.out.below hb5 KB.out.lt)
        have HB5 := Lib.hid (HB1.out.trans (hb5.mono HB1.out.size))
        have hsz2 := Lib.hid hb.size
        have HW5 := Lib.hid hW5
        have HS := Lib.hid (fun w0 (h0 : Below W5.heap.size W5 w0) => (show S6 w1.heap.size w2.heap.size (w'.heap.size + 1) uk vn vb uk un ub 17 w0 from by
          have q1 := KB5.out.below h0 KB5.out.lt
          have q2 := KC.out.below h0 KC.out.lt
          have q3 := (HX.out.below HB5.out).below h0
          exact ⟨⟨q1.at_ 0, q1.at_ 1, q1.at_ 2⟩, ⟨q2.at_ 0, q2.at_ 1, q2.at_ 2⟩, q3.nd.at_ 0⟩))
        have HSF := Lib.hid (fun w0 (h0 : Below W5.heap.size W5 w0) (v0 v1 v2 : Value) => (show S6 w1.heap.size w2.heap.size (w'.heap.size + 1) uk vn vb uk un ub 17 (((w0.setCell ⟨w'.heap.size + 1 + 1, 0, none⟩ v0).setCell ⟨w'.heap.size + 1 + 1, 1, none⟩ v1).setCell ⟨w'.heap.size + 1 + 1, 2, none⟩ v2) from by
          have l1 := hlt.out
          have l2 := hsz1.out
          have l3 := hsz2.out
          have l4 : (w1.alloc (.cells #[.int .u8 (uk : Nat), .int .i64 vn, .bool vb] 70)).heap.size = w1.heap.size + 1 := by simp
          have q1 := (KB5.out.below h0 KB5.out.lt).far3 (g := w'.heap.size + 1 + 1) (by omega) v0 v1 v2
          have q2 := (KC.out.below h0 KC.out.lt).far3 (g := w'.heap.size + 1 + 1) (by omega) v0 v1 v2
          have q3 := ((HX.out.below HB5.out).below h0).nd.far3 (g := w'.heap.size + 1 + 1) (by omega) v0 v1 v2
          exact ⟨⟨q1.at_ 0, q1.at_ 1, q1.at_ 2⟩, ⟨q2.at_ 0, q2.at_ 1, q2.at_ 2⟩, q3.at_ 0⟩))
        have hy := HS.out W5 (Below.refl _ _)
        rw [HW5.out] at hy
        obtain ⟨⟨a0, a1, a2⟩, ⟨b0, b1, b2⟩, y0⟩ := hy
        have HY := Lib.hid (HS.out W5.drew (Below.refl _ _).drew)
        clear hb hb5 hW5 HT2
        go_wp2_with fail
        rw [← HW5.out]
        clear a0 a1 a2 b0 b1 b2 y0
        refine wp_region_held_drew (S := S6 w1.heap.size w2.heap.size (w'.heap.size + 1) uk vn vb uk un ub 17) (by kernel_rfl) HY.out (fun hHeld => ?_)
        refine wpAnyH_take (i := 0) (v := .agg #[.int .u8 (uk : Nat), .int .i64 vn, .bool vb]) rfl (by kernel_rfl) (by kernel_rfl) (by kernel_rfl) (fun _ _ _ h => h) (Or.inl ⟨by rfl, by (intro w hS; try (obtain ⟨⟨s0, s1, s2⟩, ⟨s3, s4, s5⟩, s6⟩ := hS); go_simp)⟩) hHeld ?_
        try simp only [Act.put, List.getElem_toArray, List.getElem_cons_zero, List.setIfInBounds_toArray, List.set_cons_zero, List.set_cons_succ]
        refine wpAnyH_take (i := 1) (v := .agg #[.int .u8 (uk : Nat), .int .i64 un, .bool ub]) rfl (by kernel_rfl) (by kernel_rfl) (by kernel_rfl) (fun _ _ _ h => h) (Or.inl ⟨by rfl, by (intro w hS; try (obtain ⟨⟨s0, s1, s2⟩, ⟨s3, s4, s5⟩, s6⟩ := hS); go_simp)⟩) hHeld ?_
        try simp only [Act.put, List.getElem_toArray, List.getElem_cons_succ, List.getElem_cons_zero, List.setIfInBounds_toArray, List.set_cons_zero, List.set_cons_succ]
        refine wpAnyH_take (i := 2) (v := .bool r) rfl (by kernel_rfl) (by kernel_rfl) (by kernel_rfl) (fun _ _ _ h => h) (Or.inl ⟨by rfl, by (intro w hS; try (obtain ⟨⟨s0, s1, s2⟩, ⟨s3, s4, s5⟩, s6⟩ := hS); go_simp)⟩) hHeld ?_
        try simp only [Act.put, List.getElem_toArray, List.getElem_cons_succ, List.getElem_cons_zero, List.setIfInBounds_toArray, List.set_cons_zero, List.set_cons_succ]
        refine wpAnyH_take (i := 3) (v := .pointer (some ⟨w'.heap.size + 1, 0, none⟩)) rfl (by kernel_rfl) (by kernel_rfl) (by kernel_rfl) (fun _ _ _ h => h) (Or.inl ⟨by rfl, by (intro w hS; try (obtain ⟨⟨s0, s1, s2⟩, ⟨s3, s4, s5⟩, s6⟩ := hS); go_simp)⟩) hHeld ?_
        try simp only [Act.put, List.getElem_toArray, List.getElem_cons_succ, List.getElem_cons_zero, List.setIfInBounds_toArray, List.set_cons_zero, List.set_cons_succ]
        refine wpAnyH_take (i := 4) (v := .int .u8 17) rfl (by kernel_rfl) (by kernel_rfl) (by kernel_rfl) (fun _ _ _ h => h) (Or.inl ⟨by rfl, by (intro w hS; try (obtain ⟨⟨s0, s1, s2⟩, ⟨s3, s4, s5⟩, s6⟩ := hS); go_simp)⟩) hHeld ?_
        try simp only [Act.put, List.getElem_toArray, List.getElem_cons_succ, List.getElem_cons_zero, List.setIfInBounds_toArray, List.set_cons_zero, List.set_cons_succ]
        refine wpAnyH_take (i := 5) (v := .bool false) rfl (by kernel_rfl) (by kernel_rfl) (by kernel_rfl) (fun _ _ _ h => h) (Or.inl ⟨by rfl, by (intro w hS; try (obtain ⟨⟨s0, s1, s2⟩, ⟨s3, s4, s5⟩, s6⟩ := hS); go_simp)⟩) hHeld ?_
        try simp only [Act.put, List.getElem_toArray, List.getElem_cons_succ, List.getElem_cons_zero, List.setIfInBounds_toArray, List.set_cons_zero, List.set_cons_succ]
        refine wpAnyH_take (i := 6) (v := .bool (!r)) rfl (by kernel_rfl) (by kernel_rfl) (by kernel_rfl) (fun _ _ _ h => h) (Or.inl ⟨by rfl, by (intro w hS; try (obtain ⟨⟨s0, s1, s2⟩, ⟨s3, s4, s5⟩, s6⟩ := hS); go_simp)⟩) hHeld ?_
        try simp only [Act.put, List.getElem_toArray, List.getElem_cons_succ, List.getElem_cons_zero, List.setIfInBounds_toArray, List.set_cons_zero, List.set_cons_succ]
        refine wpAnyH_ready (rs := [7]) (by kernel_rfl) (by simp) ?_
        refine AllReadyH.cons rfl (fun K hK => ?_) AllReadyH.nil
        go_simp
        refine (HK.out _).mono ?_
        rintro e w5 ⟨rfl, hb5⟩
        have HQ5 := Lib.hid ((Below.refl W5.heap.size W5).drew.trans hb5)
        have hb := HB5.out.trans (HQ5.out.mono HB5.out.size)
        obtain ⟨-, -, ⟨k0, k1, k2⟩, f0, f1, f2⟩ := (HX.out.below hb).cells
        have HBF := Lib.hid ((((HB2.out.trans (hb.mono HB2.out.size)).setCell (p := ⟨w'.heap.size + 1 + 1, 0, none⟩) (Nat.le_trans (Nat.le_succ _) (Nat.le_succ _)) (.int .u8 2)).setCell (p := ⟨w'.heap.size + 1 + 1, 1, none⟩) (Nat.le_trans (Nat.le_succ _) (Nat.le_succ _)) (.int .i64 0)).setCell (p := ⟨w'.heap.size + 1 + 1, 2, none⟩) (Nat.le_trans (Nat.le_succ _) (Nat.le_succ _)) (.bool ((!r))))
        clear hb hb5
        refine hK _ _ (HS.out _ HQ5.out) (fun hHeld => ?_)
        clear hK K
        try simp only [Act.put, List.getElem_toArray, List.getElem_cons_succ, List.getElem_cons_zero, List.setIfInBounds_toArray, List.set_cons_zero, List.set_cons_succ]
        refine wpAnyH_take (i := 8) (v := .agg #[.int .u8 2, .int .i64 0, .bool (!r)]) rfl (by kernel_rfl) (by kernel_rfl) (by kernel_rfl) (fun _ _ _ h => h) (Or.inl ⟨by rfl, by (intro w hS; try (obtain ⟨⟨s0, s1, s2⟩, ⟨s3, s4, s5⟩, s6⟩ := hS); go_simp)⟩) hHeld ?_
        try simp only [Act.put, List.getElem_toArray, List.getElem_cons_succ, List.getElem_cons_zero, List.setIfInBounds_toArray, List.set_cons_zero, List.set_cons_succ]
        refine wpAnyH_take (i := 9) (v := .int .i64 0) rfl (by kernel_rfl) (by kernel_rfl) (by kernel_rfl) (fun _ _ _ h => h) (Or.inl ⟨by rfl, by (intro w hS; try (obtain ⟨⟨s0, s1, s2⟩, ⟨s3, s4, s5⟩, s6⟩ := hS); go_simp)⟩) hHeld ?_
        try simp only [Act.put, List.getElem_toArray, List.getElem_cons_succ, List.getElem_cons_zero, List.setIfInBounds_toArray, List.set_cons_zero, List.set_cons_succ]
        refine wpAnyH_ready (rs := [10]) (by kernel_rfl) (by simp) ?_
        refine AllReadyH.cons rfl (fun K hK => ?_) AllReadyH.nil
        go_simp
        refine hK _ _ (HSF.out _ HQ5.out _ _ _) (fun hHeld => ?_)
        clear hK K
        refine wpAnyH_take (i := 11) (v := .int .i64 0) rfl (by kernel_rfl) (by kernel_rfl) (by kernel_rfl) (fun _ _ _ h => h) (Or.inl ⟨by rfl, by (intro w hS; try (obtain ⟨⟨s0, s1, s2⟩, ⟨s3, s4, s5⟩, s6⟩ := hS); go_simp)⟩) hHeld ?_
        try simp only [Act.put, List.getElem_toArray, List.getElem_cons_succ, List.getElem_cons_zero, List.setIfInBounds_toArray, List.set_cons_zero, List.set_cons_succ]
        refine wpAnyH_done (by kernel_rfl) ?_ _
        go_wp2
        refine bodyPost_ret (v := .tuple #[.agg #[.int .u8 2, .int .i64 0, .bool ((!r))], .int .i64 0]) (by simp [results, Tryz.results144, go_sem, k0, k1, k2]) rfl ?_
        exact ⟨rfl, HBF.out⟩
      · have hk1 : ((vk : Int) != (uk : Int)) = true := bne_iff_ne.2 (by omega)
        have hk2 : ((vk : Int) == (uk : Int)) = false := beq_eq_false_iff_ne.2 (by omega)
        rw [if_neg hk, thn_er]
        show Calls _ _ _ _ fun e w'' => e = .returned (.tuple #[.agg #[.int .u8 0, .int .i64 0, .bool false], .int .i64 90]) ∧ _
        clear hk
        go_enter Tryz.func144, Tryz.ntmps144
        go_wp2_with fail
        rw [← HW2.out]
        refine HTA.out.mono ?_
        rintro e w1 ⟨rfl, hb⟩
        have hb1 := hb.alloc hb.size (.cells #[.int .u8 (vk : Nat), .int .i64 vn, .bool vb] 70)
        obtain ⟨⟨x0, x1⟩, ⟨y0, y3, y4⟩, -⟩ := (HX.out.below hb1).cells
        have HB1 := Lib.hid hb1
        have HT2 := Lib.hid (HTB.out _ hb1)
        have KB := Lib.hid (IsBlk.new w1 70 #[.int .u8 (vk : Nat), .int .i64 vn, .bool vb])
        clear hb hb1 HTB
        go_wp2_with fail
        refine HT2.out.mono ?_
        rintro e w2 ⟨rfl, hb⟩
        have hbx := hb.alloc hb.size (.cells #[.int .u8 (uk : Nat), .int .i64 un, .bool ub] 70)
        have a0 := (KB.out.below hbx KB.out.lt).at_ 0
        simp only [List.getElem?_toArray, List.getElem?_cons_zero] at a0
        have hb := HB1.out.trans (hbx.mono HB1.out.size)
        clear hbx
        obtain ⟨-, -, ⟨k0, k1, k2⟩, f0, f1, f2⟩ := (HX.out.below hb).cells
        have HBF := Lib.hid ((((HB2.out.trans (hb.mono HB2.out.size)).setCell (p := ⟨w'.heap.size + 1 + 1, 0, none⟩) (Nat.le_trans (Nat.le_succ _) (Nat.le_succ _)) (.int .u8 0)).setCell (p := ⟨w'.heap.size + 1 + 1, 1, none⟩) (Nat.le_trans (Nat.le_succ _) (Nat.le_succ _)) (.int .i64 0)).setCell (p := ⟨w'.heap.size + 1 + 1, 2, none⟩) (Nat.le_trans (Nat.le_succ _) (Nat.le_succ _)) (.bool false))
        clear hb
        go_wp2
        refine bodyPost_ret (v := .tuple #[.agg #[.int .u8 0, .int .i64 0, .bool false], .int .i64 90]) (by simp [results, Tryz.results144, go_sem, k0, k1, k2]) rfl ?_
        exact ⟨rfl, HBF.out⟩
end Go.Proofs.YtdcjpinbflmikaaGreatDoor
