/- Facts and walks for the statement. -/
import Derived.Test.YtdcjpinbflmikaaGreatDoorPzW26
namespace Go.Proofs.YtdcjpinbflmikaaGreatDoor
open Go.RowKit Ex
set_option maxHeartbeats 2000000 in
set_option maxRecDepth 100000 in
theorem r10two12 (A : Option Addr) (n c : Nat) (A2 : Option Addr) (m c2 : Nat) (w : World) (num : Int) (N : ByteArray) (na nb nc : Int) (RA RB : Ev.Rz) (hFA : Ev.Fine RA) (hFB : Ev.Fine RB) (hA : RwC (lkA A n c A2 m c2) w na RA) (hB : RwC (lkA A n c A2 m c2) w nb RB) (w' : World) (hb' : Below w.heap.size w w') :
    Calls Tryz.prog 143 #[lkA A n c A2 m c2, ndX 12 num N na nb nc] w' fun e w'' => e = outZ (resZ (Ev.two 12 RA RB)) ∧ Below w'.heap.size w' w'' := by
  obtain ⟨W2, hW2⟩ : ∃ W2, W2 = ((w'.alloc (.cells #[.slice A n c, .slice A2 m c2] 155)).alloc (.cells #[.int .u8 12, .int .i64 num, .string N, .int .i64 na, .int .i64 nb, .int .i64 nc] 114)).alloc (.cells #[.int .u8 0, .int .i64 0, .bool false] 70) := ⟨_, rfl⟩
  have hb2 : Below w'.heap.size w' W2 := by rw [hW2]; exact (((Below.refl _ _).alloc (Nat.le_refl _) _).alloc (by simp) _).alloc (by simp; omega) _
  have hx : Bx4 W2 w'.heap.size A n c A2 m c2 12 num N na nb nc := by rw [hW2]; exact Bx4.new _ _ _ _ _ _ _ _ _ _ _ _ _
  have hbw := hb'.trans (hb2.mono hb'.size)
  have HTA := Lib.hid (r10number_any A n c A2 m c2 w na RA hFA hA W2 hbw); have HTB := Lib.hid (fun w0 (h0 : Below W2.heap.size W2 w0) => r10number_any A n c A2 m c2 w nb RB hFB hB w0 (hbw.trans (h0.mono hbw.size)))
  obtain ⟨⟨x0, x1⟩, ⟨y0, y3, y4⟩, -⟩ := hx.cells
  have HX := Lib.hid hx
  have HB2 := Lib.hid hb2
  have HW2 := Lib.hid hW2
  rw [hW2] at x0 x1 y0 y3 y4
  unfold lkA at *
  unfold ndX
  clear hb2 hx hb' hW2 hbw hA hB
  have e1 : Ev.two 12 RA RB = Ev.thn (Ev.prt RA 1) fun v => Ev.thn (Ev.prt RB 1) fun u => Ev.pair 12 v.n u.n := rfl
  rw [e1]
  clear e1
  have hF := Ev.fine_prt (k := 1) hFA
  have hG := Ev.fine_prt (k := 1) hFB
  clear hFA hFB
  generalize Ev.prt RA 1 = Q at *
  generalize Ev.prt RB 1 = Q2 at *
  cases Q with
  | er z =>
    have hz := fine_nz hF z rfl
    have hz1 : (z == 0) = false := by simpa using hz
    have hz2 : (z != 0) = true := by simp [bne, hz1]
    rw [thn_er]
    have HTA : Hid (Calls _ _ _ _ fun e w'' => e = .returned (.tuple #[.int .i64 0, .int .i64 z]) ∧ _) := HTA
    show Calls _ _ _ _ fun e w'' => e = .returned (.tuple #[.agg #[.int .u8 0, .int .i64 0, .bool false], .int .i64 z]) ∧ _
    clear hF hG hz
    go_enter Tryz.func143, Tryz.ntmps143
    go_wp2_with fail
    rw [← HW2.out]
    refine HTA.out.mono ?_
    rintro e w1 ⟨rfl, hb⟩
    obtain ⟨⟨x0, x1⟩, ⟨y0, y3, y4⟩, ⟨k0, k1, k2⟩, f0, f1, f2⟩ := (HX.out.below hb).cells
    have HBF := Lib.hid ((((HB2.out.trans (hb.mono HB2.out.size)).setCell (p := ⟨w'.heap.size + 1 + 1, 0, none⟩) (Nat.le_trans (Nat.le_succ _) (Nat.le_succ _)) (.int .u8 0)).setCell (p := ⟨w'.heap.size + 1 + 1, 1, none⟩) (Nat.le_trans (Nat.le_succ _) (Nat.le_succ _)) (.int .i64 0)).setCell (p := ⟨w'.heap.size + 1 + 1, 2, none⟩) (Nat.le_trans (Nat.le_succ _) (Nat.le_succ _)) (.bool false))
    clear hb
    go_wp2
    refine bodyPost_ret (v := .tuple #[.agg #[.int .u8 0, .int .i64 0, .bool false], .int .i64 z]) (by simp [results, Tryz.results143, go_sem, k0, k1, k2]) rfl ?_
    exact ⟨rfl, HBF.out⟩
  | ok v =>
    obtain ⟨vk, vn, vb⟩ := v
    have HTA : Hid (Calls _ _ _ _ fun e w'' => e = .returned (.tuple #[.int .i64 vn, .int .i64 0]) ∧ _) := HTA
    rw [thn_ok]
    cases Q2 with
    | er z =>
      have hz := fine_nz hG z rfl
      have hz1 : (z == 0) = false := by simpa using hz
      have hz2 : (z != 0) = true := by simp [bne, hz1]
      rw [thn_er]
      have HTB : Hid (∀ w0, Below W2.heap.size W2 w0 → Calls _ _ _ w0 fun e w'' => e = .returned (.tuple #[.int .i64 0, .int .i64 z]) ∧ Below w0.heap.size w0 w'') := HTB
      show Calls _ _ _ _ fun e w'' => e = .returned (.tuple #[.agg #[.int .u8 0, .int .i64 0, .bool false], .int .i64 z]) ∧ _
      clear hF hG hz
      go_enter Tryz.func143, Tryz.ntmps143
      go_wp2_with fail
      rw [← HW2.out]
      refine HTA.out.mono ?_
      rintro e w1 ⟨rfl, hb⟩
      obtain ⟨⟨x0, x1⟩, ⟨y0, y3, y4⟩, ⟨k0, k1, k2⟩, f0, f1, f2⟩ := (HX.out.below hb).cells
      have HT2 := Lib.hid (HTB.out w1 hb)
      have HB1 := Lib.hid hb
      clear hb HTB
      go_wp2_with fail
      refine HT2.out.mono ?_
      rintro e w2 ⟨rfl, hb⟩
      have hb := HB1.out.trans (hb.mono HB1.out.size)
      clear k0 k1 k2 f0 f1 f2 x0 x1 y0 y3 y4
      obtain ⟨⟨x0, x1⟩, ⟨y0, y3, y4⟩, ⟨k0, k1, k2⟩, f0, f1, f2⟩ := (HX.out.below hb).cells
      have HBF := Lib.hid ((((HB2.out.trans (hb.mono HB2.out.size)).setCell (p := ⟨w'.heap.size + 1 + 1, 0, none⟩) (Nat.le_trans (Nat.le_succ _) (Nat.le_succ _)) (.int .u8 0)).setCell (p := ⟨w'.heap.size + 1 + 1, 1, none⟩) (Nat.le_trans (Nat.le_succ _) (Nat.le_succ _)) (.int .i64 0)).setCell (p := ⟨w'.heap.size + 1 + 1, 2, none⟩) (Nat.le_trans (Nat.le_succ _) (Nat.le_succ _)) (.bool false))
      clear hb
      go_wp2
      refine bodyPost_ret (v := .tuple #[.agg #[.int .u8 0, .int .i64 0, .bool false], .int .i64 z]) (by simp [results, Tryz.results143, go_sem, k0, k1, k2]) rfl ?_
      exact ⟨rfl, HBF.out⟩
    | ok u =>
      obtain ⟨uk, un, ub⟩ := u
      have HTB : Hid (∀ w0, Below W2.heap.size W2 w0 → Calls _ _ _ w0 fun e w'' => e = .returned (.tuple #[.int .i64 un, .int .i64 0]) ∧ Below w0.heap.size w0 w'') := HTB
      rw [thn_ok]
      simp only
      have e2 : Ev.pair 12 vn un = toldR (decide (vn < un)) 0 := rfl
      rw [e2]
      clear e2
      have HK := Lib.hid (fun w0 => rtold_any (decide (vn < un)) 0 w0)
      have HK : Hid (∀ w0, Calls _ _ _ w0 fun e w'' => e = .returned (.tuple #[.agg #[.int .u8 2, .int .i64 0, .bool (decide (vn < un))], .int .i64 0]) ∧ Below w0.heap.size w0 w'') := HK
      show Calls _ _ _ _ fun e w'' => e = .returned (.tuple #[.agg #[.int .u8 2, .int .i64 0, .bool (decide (vn < un))], .int .i64 0]) ∧ _
      clear hF hG
      go_enter Tryz.func143, Tryz.ntmps143
      go_wp2_with fail
      rw [← HW2.out]
      refine HTA.out.mono ?_
      rintro e w1 ⟨rfl, hb⟩
      obtain ⟨⟨x0, x1⟩, ⟨y0, y3, y4⟩, ⟨k0, k1, k2⟩, f0, f1, f2⟩ := (HX.out.below hb).cells
      have HT2 := Lib.hid (HTB.out w1 hb)
      have HB1 := Lib.hid hb
      clear hb HTB
      go_wp2_with fail
      refine HT2.out.mono ?_
      rintro e w2 ⟨rfl, hb⟩
      have hb := HB1.out.trans (hb.mono HB1.out.size)
      clear k0 k1 k2 f0 f1 f2 x0 x1 y0 y3 y4
      obtain ⟨⟨x0, x1⟩, ⟨y0, y3, y4⟩, ⟨k0, k1, k2⟩, f0, f1, f2⟩ := (HX.out.below hb).cells
      have HB9 := Lib.hid hb
      clear hb k0 k1 k2 f0 f1 f2
      go_wp2_with fail
      refine (HK.out _).mono ?_
      rintro e w4 ⟨rfl, hb4⟩
      have hb := HB9.out.trans (hb4.mono HB9.out.size)
      clear hb4
      obtain ⟨-, -, ⟨k0, k1, k2⟩, f0, f1, f2⟩ := (HX.out.below hb).cells
      have HBF := Lib.hid ((((HB2.out.trans (hb.mono HB2.out.size)).setCell (p := ⟨w'.heap.size + 1 + 1, 0, none⟩) (Nat.le_trans (Nat.le_succ _) (Nat.le_succ _)) (.int .u8 2)).setCell (p := ⟨w'.heap.size + 1 + 1, 1, none⟩) (Nat.le_trans (Nat.le_succ _) (Nat.le_succ _)) (.int .i64 0)).setCell (p := ⟨w'.heap.size + 1 + 1, 2, none⟩) (Nat.le_trans (Nat.le_succ _) (Nat.le_succ _)) (.bool (decide (vn < un))))
      clear hb
      go_wp2
      refine bodyPost_ret (v := .tuple #[.agg #[.int .u8 2, .int .i64 0, .bool (decide (vn < un))], .int .i64 0]) (by simp [results, Tryz.results143, go_sem, k0, k1, k2]) rfl ?_
      exact ⟨rfl, HBF.out⟩
set_option maxHeartbeats 2000000 in
set_option maxRecDepth 100000 in
theorem r10two13 (A : Option Addr) (n c : Nat) (A2 : Option Addr) (m c2 : Nat) (w : World) (num : Int) (N : ByteArray) (na nb nc : Int) (RA RB : Ev.Rz) (hFA : Ev.Fine RA) (hFB : Ev.Fine RB) (hA : RwC (lkA A n c A2 m c2) w na RA) (hB : RwC (lkA A n c A2 m c2) w nb RB) (w' : World) (hb' : Below w.heap.size w w') :
    Calls Tryz.prog 143 #[lkA A n c A2 m c2, ndX 13 num N na nb nc] w' fun e w'' => e = outZ (resZ (Ev.two 13 RA RB)) ∧ Below w'.heap.size w' w'' := by
  obtain ⟨W2, hW2⟩ : ∃ W2, W2 = ((w'.alloc (.cells #[.slice A n c, .slice A2 m c2] 155)).alloc (.cells #[.int .u8 13, .int .i64 num, .string N, .int .i64 na, .int .i64 nb, .int .i64 nc] 114)).alloc (.cells #[.int .u8 0, .int .i64 0, .bool false] 70) := ⟨_, rfl⟩
  have hb2 : Below w'.heap.size w' W2 := by rw [hW2]; exact (((Below.refl _ _).alloc (Nat.le_refl _) _).alloc (by simp) _).alloc (by simp; omega) _
  have hx : Bx4 W2 w'.heap.size A n c A2 m c2 13 num N na nb nc := by rw [hW2]; exact Bx4.new _ _ _ _ _ _ _ _ _ _ _ _ _
  have hbw := hb'.trans (hb2.mono hb'.size)
  have HTA := Lib.hid (r10number_any A n c A2 m c2 w na RA hFA hA W2 hbw); have HTB := Lib.hid (fun w0 (h0 : Below W2.heap.size W2 w0) => r10number_any A n c A2 m c2 w nb RB hFB hB w0 (hbw.trans (h0.mono hbw.size)))
  obtain ⟨⟨x0, x1⟩, ⟨y0, y3, y4⟩, -⟩ := hx.cells
  have HX := Lib.hid hx
  have HB2 := Lib.hid hb2
  have HW2 := Lib.hid hW2
  rw [hW2] at x0 x1 y0 y3 y4
  unfold lkA at *
  unfold ndX
  clear hb2 hx hb' hW2 hbw hA hB
  have e1 : Ev.two 13 RA RB = Ev.thn (Ev.prt RA 1) fun v => Ev.thn (Ev.prt RB 1) fun u => Ev.pair 13 v.n u.n := rfl
  rw [e1]
  clear e1
  have hF := Ev.fine_prt (k := 1) hFA
  have hG := Ev.fine_prt (k := 1) hFB
  clear hFA hFB
  generalize Ev.prt RA 1 = Q at *
  generalize Ev.prt RB 1 = Q2 at *
  cases Q with
  | er z =>
    have hz := fine_nz hF z rfl
    have hz1 : (z == 0) = false := by simpa using hz
    have hz2 : (z != 0) = true := by simp [bne, hz1]
    rw [thn_er]
    have HTA : Hid (Calls _ _ _ _ fun e w'' => e = .returned (.tuple #[.int .i64 0, .int .i64 z]) ∧ _) := HTA
    show Calls _ _ _ _ fun e w'' => e = .returned (.tuple #[.agg #[.int .u8 0, .int .i64 0, .bool false], .int .i64 z]) ∧ _
    clear hF hG hz
    go_enter Tryz.func143, Tryz.ntmps143
    go_wp2_with fail
    rw [← HW2.out]
    refine HTA.out.mono ?_
    rintro e w1 ⟨rfl, hb⟩
    obtain ⟨⟨x0, x1⟩, ⟨y0, y3, y4⟩, ⟨k0, k1, k2⟩, f0, f1, f2⟩ := (HX.out.below hb).cells
    have HBF := Lib.hid ((((HB2.out.trans (hb.mono HB2.out.size)).setCell (p := ⟨w'.heap.size + 1 + 1, 0, none⟩) (Nat.le_trans (Nat.le_succ _) (Nat.le_succ _)) (.int .u8 0)).setCell (p := ⟨w'.heap.size + 1 + 1, 1, none⟩) (Nat.le_trans (Nat.le_succ _) (Nat.le_succ _)) (.int .i64 0)).setCell (p := ⟨w'.heap.size + 1 + 1, 2, none⟩) (Nat.le_trans (Nat.le_succ _) (Nat.le_succ _)) (.bool false))
    clear hb
    go_wp2
    refine bodyPost_ret (v := .tuple #[.agg #[.int .u8 0, .int .i64 0, .bool false], .int .i64 z]) (by simp [results, Tryz.results143, go_sem, k0, k1, k2]) rfl ?_
    exact ⟨rfl, HBF.out⟩
  | ok v =>
    obtain ⟨vk, vn, vb⟩ := v
    have HTA : Hid (Calls _ _ _ _ fun e w'' => e = .returned (.tuple #[.int .i64 vn, .int .i64 0]) ∧ _) := HTA
    rw [thn_ok]
    cases Q2 with
    | er z =>
      have hz := fine_nz hG z rfl
      have hz1 : (z == 0) = false := by simpa using hz
      have hz2 : (z != 0) = true := by simp [bne, hz1]
      rw [thn_er]
      have HTB : Hid (∀ w0, Below W2.heap.size W2 w0 → Calls _ _ _ w0 fun e w'' => e = .returned (.tuple #[.int .i64 0, .int .i64 z]) ∧ Below w0.heap.size w0 w'') := HTB
      show Calls _ _ _ _ fun e w'' => e = .returned (.tuple #[.agg #[.int .u8 0, .int .i64 0, .bool false], .int .i64 z]) ∧ _
      clear hF hG hz
      go_enter Tryz.func143, Tryz.ntmps143
      go_wp2_with fail
      rw [← HW2.out]
      refine HTA.out.mono ?_
      rintro e w1 ⟨rfl, hb⟩
      obtain ⟨⟨x0, x1⟩, ⟨y0, y3, y4⟩, ⟨k0, k1, k2⟩, f0, f1, f2⟩ := (HX.out.below hb).cells
      have HT2 := Lib.hid (HTB.out w1 hb)
      have HB1 := Lib.hid hb
      clear hb HTB
      go_wp2_with fail
      refine HT2.out.mono ?_
      rintro e w2 ⟨rfl, hb⟩
      have hb := HB1.out.trans (hb.mono HB1.out.size)
      clear k0 k1 k2 f0 f1 f2 x0 x1 y0 y3 y4
      obtain ⟨⟨x0, x1⟩, ⟨y0, y3, y4⟩, ⟨k0, k1, k2⟩, f0, f1, f2⟩ := (HX.out.below hb).cells
      have HBF := Lib.hid ((((HB2.out.trans (hb.mono HB2.out.size)).setCell (p := ⟨w'.heap.size + 1 + 1, 0, none⟩) (Nat.le_trans (Nat.le_succ _) (Nat.le_succ _)) (.int .u8 0)).setCell (p := ⟨w'.heap.size + 1 + 1, 1, none⟩) (Nat.le_trans (Nat.le_succ _) (Nat.le_succ _)) (.int .i64 0)).setCell (p := ⟨w'.heap.size + 1 + 1, 2, none⟩) (Nat.le_trans (Nat.le_succ _) (Nat.le_succ _)) (.bool false))
      clear hb
      go_wp2
      refine bodyPost_ret (v := .tuple #[.agg #[.int .u8 0, .int .i64 0, .bool false], .int .i64 z]) (by simp [results, Tryz.results143, go_sem, k0, k1, k2]) rfl ?_
      exact ⟨rfl, HBF.out⟩
    | ok u =>
      obtain ⟨uk, un, ub⟩ := u
      have HTB : Hid (∀ w0, Below W2.heap.size W2 w0 → Calls _ _ _ w0 fun e w'' => e = .returned (.tuple #[.int .i64 un, .int .i64 0]) ∧ Below w0.heap.size w0 w'') := HTB
      rw [thn_ok]
      simp only
      have e2 : Ev.pair 13 vn un = toldR (decide (vn ≤ un)) 0 := rfl
      rw [e2]
      clear e2
      have HK := Lib.hid (fun w0 => rtold_any (decide (vn ≤ un)) 0 w0)
      have HK : Hid (∀ w0, Calls _ _ _ w0 fun e w'' => e = .returned (.tuple #[.agg #[.int .u8 2, .int .i64 0, .bool (decide (vn ≤ un))], .int .i64 0]) ∧ Below w0.heap.size w0 w'') := HK
      show Calls _ _ _ _ fun e w'' => e = .returned (.tuple #[.agg #[.int .u8 2, .int .i64 0, .bool (decide (vn ≤ un))], .int .i64 0]) ∧ _
      clear hF hG
      go_enter Tryz.func143, Tryz.ntmps143
      go_wp2_with fail
      rw [← HW2.out]
      refine HTA.out.mono ?_
      rintro e w1 ⟨rfl, hb⟩
      obtain ⟨⟨x0, x1⟩, ⟨y0, y3, y4⟩, ⟨k0, k1, k2⟩, f0, f1, f2⟩ := (HX.out.below hb).cells
      have HT2 := Lib.hid (HTB.out w1 hb)
      have HB1 := Lib.hid hb
      clear hb HTB
      go_wp2_with fail
      refine HT2.out.mono ?_
      rintro e w2 ⟨rfl, hb⟩
      have hb := HB1.out.trans (hb.mono HB1.out.size)
      clear k0 k1 k2 f0 f1 f2 x0 x1 y0 y3 y4
      obtain ⟨⟨x0, x1⟩, ⟨y0, y3, y4⟩, ⟨k0, k1, k2⟩, f0, f1, f2⟩ := (HX.out.below hb).cells
      have HB9 := Lib.hid hb
      clear hb k0 k1 k2 f0 f1 f2
      go_wp2_with fail
      refine (HK.out _).mono ?_
      rintro e w4 ⟨rfl, hb4⟩
      have hb := HB9.out.trans (hb4.mono HB9.out.size)
      clear hb4
      obtain ⟨-, -, ⟨k0, k1, k2⟩, f0, f1, f2⟩ := (HX.out.below hb).cells
      have HBF := Lib.hid ((((HB2.out.trans (hb.mono HB2.out.size)).setCell (p := ⟨w'.heap.size + 1 + 1, 0, none⟩) (Nat.le_trans (Nat.le_succ _) (Nat.le_succ _)) (.int .u8 2)).setCell (p := ⟨w'.heap.size + 1 + 1, 1, none⟩) (Nat.le_trans (Nat.le_succ _) (Nat.le_succ _)) (.int .i64 0)).setCell (p := ⟨w'.heap.size + 1 + 1, 2, none⟩) (Nat.le_trans (Nat.le_succ _) (Nat.le_succ _)) (.bool (decide (vn ≤ un))))
      clear hb
      go_wp2
      refine bodyPost_ret (v := .tuple #[.agg #[.int .u8 2, .int .i64 0, .bool (decide (vn ≤ un))], .int .i64 0]) (by simp [results, Tryz.results143, go_sem, k0, k1, k2]) rfl ?_
      exact ⟨rfl, HBF.out⟩
set_option maxHeartbeats 2000000 in
set_option maxRecDepth 100000 in
theorem r10two14 (A : Option Addr) (n c : Nat) (A2 : Option Addr) (m c2 : Nat) (w : World) (num : Int) (N : ByteArray) (na nb nc : Int) (RA RB : Ev.Rz) (hFA : Ev.Fine RA) (hFB : Ev.Fine RB) (hA : RwC (lkA A n c A2 m c2) w na RA) (hB : RwC (lkA A n c A2 m c2) w nb RB) (w' : World) (hb' : Below w.heap.size w w') :
    Calls Tryz.prog 143 #[lkA A n c A2 m c2, ndX 14 num N na nb nc] w' fun e w'' => e = outZ (resZ (Ev.two 14 RA RB)) ∧ Below w'.heap.size w' w'' := by
  obtain ⟨W2, hW2⟩ : ∃ W2, W2 = ((w'.alloc (.cells #[.slice A n c, .slice A2 m c2] 155)).alloc (.cells #[.int .u8 14, .int .i64 num, .string N, .int .i64 na, .int .i64 nb, .int .i64 nc] 114)).alloc (.cells #[.int .u8 0, .int .i64 0, .bool false] 70) := ⟨_, rfl⟩
  have hb2 : Below w'.heap.size w' W2 := by rw [hW2]; exact (((Below.refl _ _).alloc (Nat.le_refl _) _).alloc (by simp) _).alloc (by simp; omega) _
  have hx : Bx4 W2 w'.heap.size A n c A2 m c2 14 num N na nb nc := by rw [hW2]; exact Bx4.new _ _ _ _ _ _ _ _ _ _ _ _ _
  have hbw := hb'.trans (hb2.mono hb'.size)
  have HTA := Lib.hid (r10number_any A n c A2 m c2 w na RA hFA hA W2 hbw); have HTB := Lib.hid (fun w0 (h0 : Below W2.heap.size W2 w0) => r10number_any A n c A2 m c2 w nb RB hFB hB w0 (hbw.trans (h0.mono hbw.size)))
  obtain ⟨⟨x0, x1⟩, ⟨y0, y3, y4⟩, -⟩ := hx.cells
  have HX := Lib.hid hx
  have HB2 := Lib.hid hb2
  have HW2 := Lib.hid hW2
  rw [hW2] at x0 x1 y0 y3 y4
  unfold lkA at *
  unfold ndX
  clear hb2 hx hb' hW2 hbw hA hB
  have e1 : Ev.two 14 RA RB = Ev.thn (Ev.prt RA 1) fun v => Ev.thn (Ev.prt RB 1) fun u => Ev.pair 14 v.n u.n := rfl
  rw [e1]
  clear e1
  have hF := Ev.fine_prt (k := 1) hFA
  have hG := Ev.fine_prt (k := 1) hFB
  clear hFA hFB
  generalize Ev.prt RA 1 = Q at *
  generalize Ev.prt RB 1 = Q2 at *
  cases Q with
  | er z =>
    have hz := fine_nz hF z rfl
    have hz1 : (z == 0) = false := by simpa using hz
    have hz2 : (z != 0) = true := by simp [bne, hz1]
    rw [thn_er]
    have HTA : Hid (Calls _ _ _ _ fun e w'' => e = .returned (.tuple #[.int .i64 0, .int .i64 z]) ∧ _) := HTA
    show Calls _ _ _ _ fun e w'' => e = .returned (.tuple #[.agg #[.int .u8 0, .int .i64 0, .bool false], .int .i64 z]) ∧ _
    clear hF hG hz
    go_enter Tryz.func143, Tryz.ntmps143
    go_wp2_with fail
    rw [← HW2.out]
    refine HTA.out.mono ?_
    rintro e w1 ⟨rfl, hb⟩
    obtain ⟨⟨x0, x1⟩, ⟨y0, y3, y4⟩, ⟨k0, k1, k2⟩, f0, f1, f2⟩ := (HX.out.below hb).cells
    have HBF := Lib.hid ((((HB2.out.trans (hb.mono HB2.out.size)).setCell (p := ⟨w'.heap.size + 1 + 1, 0, none⟩) (Nat.le_trans (Nat.le_succ _) (Nat.le_succ _)) (.int .u8 0)).setCell (p := ⟨w'.heap.size + 1 + 1, 1, none⟩) (Nat.le_trans (Nat.le_succ _) (Nat.le_succ _)) (.int .i64 0)).setCell (p := ⟨w'.heap.size + 1 + 1, 2, none⟩) (Nat.le_trans (Nat.le_succ _) (Nat.le_succ _)) (.bool false))
    clear hb
    go_wp2
    refine bodyPost_ret (v := .tuple #[.agg #[.int .u8 0, .int .i64 0, .bool false], .int .i64 z]) (by simp [results, Tryz.results143, go_sem, k0, k1, k2]) rfl ?_
    exact ⟨rfl, HBF.out⟩
  | ok v =>
    obtain ⟨vk, vn, vb⟩ := v
    have HTA : Hid (Calls _ _ _ _ fun e w'' => e = .returned (.tuple #[.int .i64 vn, .int .i64 0]) ∧ _) := HTA
    rw [thn_ok]
    cases Q2 with
    | er z =>
      have hz := fine_nz hG z rfl
      have hz1 : (z == 0) = false := by simpa using hz
      have hz2 : (z != 0) = true := by simp [bne, hz1]
      rw [thn_er]
      have HTB : Hid (∀ w0, Below W2.heap.size W2 w0 → Calls _ _ _ w0 fun e w'' => e = .returned (.tuple #[.int .i64 0, .int .i64 z]) ∧ Below w0.heap.size w0 w'') := HTB
      show Calls _ _ _ _ fun e w'' => e = .returned (.tuple #[.agg #[.int .u8 0, .int .i64 0, .bool false], .int .i64 z]) ∧ _
      clear hF hG hz
      go_enter Tryz.func143, Tryz.ntmps143
      go_wp2_with fail
      rw [← HW2.out]
      refine HTA.out.mono ?_
      rintro e w1 ⟨rfl, hb⟩
      obtain ⟨⟨x0, x1⟩, ⟨y0, y3, y4⟩, ⟨k0, k1, k2⟩, f0, f1, f2⟩ := (HX.out.below hb).cells
      have HT2 := Lib.hid (HTB.out w1 hb)
      have HB1 := Lib.hid hb
      clear hb HTB
      go_wp2_with fail
      refine HT2.out.mono ?_
      rintro e w2 ⟨rfl, hb⟩
      have hb := HB1.out.trans (hb.mono HB1.out.size)
      clear k0 k1 k2 f0 f1 f2 x0 x1 y0 y3 y4
      obtain ⟨⟨x0, x1⟩, ⟨y0, y3, y4⟩, ⟨k0, k1, k2⟩, f0, f1, f2⟩ := (HX.out.below hb).cells
      have HBF := Lib.hid ((((HB2.out.trans (hb.mono HB2.out.size)).setCell (p := ⟨w'.heap.size + 1 + 1, 0, none⟩) (Nat.le_trans (Nat.le_succ _) (Nat.le_succ _)) (.int .u8 0)).setCell (p := ⟨w'.heap.size + 1 + 1, 1, none⟩) (Nat.le_trans (Nat.le_succ _) (Nat.le_succ _)) (.int .i64 0)).setCell (p := ⟨w'.heap.size + 1 + 1, 2, none⟩) (Nat.le_trans (Nat.le_succ _) (Nat.le_succ _)) (.bool false))
      clear hb
      go_wp2
      refine bodyPost_ret (v := .tuple #[.agg #[.int .u8 0, .int .i64 0, .bool false], .int .i64 z]) (by simp [results, Tryz.results143, go_sem, k0, k1, k2]) rfl ?_
      exact ⟨rfl, HBF.out⟩
    | ok u =>
      obtain ⟨uk, un, ub⟩ := u
      have HTB : Hid (∀ w0, Below W2.heap.size W2 w0 → Calls _ _ _ w0 fun e w'' => e = .returned (.tuple #[.int .i64 un, .int .i64 0]) ∧ Below w0.heap.size w0 w'') := HTB
      rw [thn_ok]
      simp only
      have e2 : Ev.pair 14 vn un = toldR (decide (vn > un)) 0 := rfl
      rw [e2]
      clear e2
      have HK := Lib.hid (fun w0 => rtold_any (decide (vn > un)) 0 w0)
      have HK : Hid (∀ w0, Calls _ _ _ w0 fun e w'' => e = .returned (.tuple #[.agg #[.int .u8 2, .int .i64 0, .bool (decide (vn > un))], .int .i64 0]) ∧ Below w0.heap.size w0 w'') := HK
      show Calls _ _ _ _ fun e w'' => e = .returned (.tuple #[.agg #[.int .u8 2, .int .i64 0, .bool (decide (vn > un))], .int .i64 0]) ∧ _
      clear hF hG
      go_enter Tryz.func143, Tryz.ntmps143
      go_wp2_with fail
      rw [← HW2.out]
      refine HTA.out.mono ?_
      rintro e w1 ⟨rfl, hb⟩
      obtain ⟨⟨x0, x1⟩, ⟨y0, y3, y4⟩, ⟨k0, k1, k2⟩, f0, f1, f2⟩ := (HX.out.below hb).cells
      have HT2 := Lib.hid (HTB.out w1 hb)
      have HB1 := Lib.hid hb
      clear hb HTB
      go_wp2_with fail
      refine HT2.out.mono ?_
      rintro e w2 ⟨rfl, hb⟩
      have hb := HB1.out.trans (hb.mono HB1.out.size)
      clear k0 k1 k2 f0 f1 f2 x0 x1 y0 y3 y4
      obtain ⟨⟨x0, x1⟩, ⟨y0, y3, y4⟩, ⟨k0, k1, k2⟩, f0, f1, f2⟩ := (HX.out.below hb).cells
      have HB9 := Lib.hid hb
      clear hb k0 k1 k2 f0 f1 f2
      go_wp2_with fail
      refine (HK.out _).mono ?_
      rintro e w4 ⟨rfl, hb4⟩
      have hb := HB9.out.trans (hb4.mono HB9.out.size)
      clear hb4
      obtain ⟨-, -, ⟨k0, k1, k2⟩, f0, f1, f2⟩ := (HX.out.below hb).cells
      have HBF := Lib.hid ((((HB2.out.trans (hb.mono HB2.out.size)).setCell (p := ⟨w'.heap.size + 1 + 1, 0, none⟩) (Nat.le_trans (Nat.le_succ _) (Nat.le_succ _)) (.int .u8 2)).setCell (p := ⟨w'.heap.size + 1 + 1, 1, none⟩) (Nat.le_trans (Nat.le_succ _) (Nat.le_succ _)) (.int .i64 0)).setCell (p := ⟨w'.heap.size + 1 + 1, 2, none⟩) (Nat.le_trans (Nat.le_succ _) (Nat.le_succ _)) (.bool (decide (vn > un))))
      clear hb
      go_wp2
      refine bodyPost_ret (v := .tuple #[.agg #[.int .u8 2, .int .i64 0, .bool (decide (vn > un))], .int .i64 0]) (by simp [results, Tryz.results143, go_sem, k0, k1, k2]) rfl ?_
      exact ⟨rfl, HBF.out⟩
set_option maxHeartbeats 2000000 in
set_option maxRecDepth 100000 in
theorem r10two15 (A : Option Addr) (n c : Nat) (A2 : Option Addr) (m c2 : Nat) (w : World) (num : Int) (N : ByteArray) (na nb nc : Int) (RA RB : Ev.Rz) (hFA : Ev.Fine RA) (hFB : Ev.Fine RB) (hA : RwC (lkA A n c A2 m c2) w na RA) (hB : RwC (lkA A n c A2 m c2) w nb RB) (w' : World) (hb' : Below w.heap.size w w') :
    Calls Tryz.prog 143 #[lkA A n c A2 m c2, ndX 15 num N na nb nc] w' fun e w'' => e = outZ (resZ (Ev.two 15 RA RB)) ∧ Below w'.heap.size w' w'' := by
  obtain ⟨W2, hW2⟩ : ∃ W2, W2 = ((w'.alloc (.cells #[.slice A n c, .slice A2 m c2] 155)).alloc (.cells #[.int .u8 15, .int .i64 num, .string N, .int .i64 na, .int .i64 nb, .int .i64 nc] 114)).alloc (.cells #[.int .u8 0, .int .i64 0, .bool false] 70) := ⟨_, rfl⟩
  have hb2 : Below w'.heap.size w' W2 := by rw [hW2]; exact (((Below.refl _ _).alloc (Nat.le_refl _) _).alloc (by simp) _).alloc (by simp; omega) _
  have hx : Bx4 W2 w'.heap.size A n c A2 m c2 15 num N na nb nc := by rw [hW2]; exact Bx4.new _ _ _ _ _ _ _ _ _ _ _ _ _
  have hbw := hb'.trans (hb2.mono hb'.size)
  have HTA := Lib.hid (r10number_any A n c A2 m c2 w na RA hFA hA W2 hbw); have HTB := Lib.hid (fun w0 (h0 : Below W2.heap.size W2 w0) => r10number_any A n c A2 m c2 w nb RB hFB hB w0 (hbw.trans (h0.mono hbw.size)))
  obtain ⟨⟨x0, x1⟩, ⟨y0, y3, y4⟩, -⟩ := hx.cells
  have HX := Lib.hid hx
  have HB2 := Lib.hid hb2
  have HW2 := Lib.hid hW2
  rw [hW2] at x0 x1 y0 y3 y4
  unfold lkA at *
  unfold ndX
  clear hb2 hx hb' hW2 hbw hA hB
  have e1 : Ev.two 15 RA RB = Ev.thn (Ev.prt RA 1) fun v => Ev.thn (Ev.prt RB 1) fun u => Ev.pair 15 v.n u.n := rfl
  rw [e1]
  clear e1
  have hF := Ev.fine_prt (k := 1) hFA
  have hG := Ev.fine_prt (k := 1) hFB
  clear hFA hFB
  generalize Ev.prt RA 1 = Q at *
  generalize Ev.prt RB 1 = Q2 at *
  cases Q with
  | er z =>
    have hz := fine_nz hF z rfl
    have hz1 : (z == 0) = false := by simpa using hz
    have hz2 : (z != 0) = true := by simp [bne, hz1]
    rw [thn_er]
    have HTA : Hid (Calls _ _ _ _ fun e w'' => e = .returned (.tuple #[.int .i64 0, .int .i64 z]) ∧ _) := HTA
    show Calls _ _ _ _ fun e w'' => e = .returned (.tuple #[.agg #[.int .u8 0, .int .i64 0, .bool false], .int .i64 z]) ∧ _
    clear hF hG hz
    go_enter Tryz.func143, Tryz.ntmps143
    go_wp2_with fail
    rw [← HW2.out]
    refine HTA.out.mono ?_
    rintro e w1 ⟨rfl, hb⟩
    obtain ⟨⟨x0, x1⟩, ⟨y0, y3, y4⟩, ⟨k0, k1, k2⟩, f0, f1, f2⟩ := (HX.out.below hb).cells
    have HBF := Lib.hid ((((HB2.out.trans (hb.mono HB2.out.size)).setCell (p := ⟨w'.heap.size + 1 + 1, 0, none⟩) (Nat.le_trans (Nat.le_succ _) (Nat.le_succ _)) (.int .u8 0)).setCell (p := ⟨w'.heap.size + 1 + 1, 1, none⟩) (Nat.le_trans (Nat.le_succ _) (Nat.le_succ _)) (.int .i64 0)).setCell (p := ⟨w'.heap.size + 1 + 1, 2, none⟩) (Nat.le_trans (Nat.le_succ _) (Nat.le_succ _)) (.bool false))
    clear hb
    go_wp2
    refine bodyPost_ret (v := .tuple #[.agg #[.int .u8 0, .int .i64 0, .bool false], .int .i64 z]) (by simp [results, Tryz.results143, go_sem, k0, k1, k2]) rfl ?_
    exact ⟨rfl, HBF.out⟩
  | ok v =>
    obtain ⟨vk, vn, vb⟩ := v
    have HTA : Hid (Calls _ _ _ _ fun e w'' => e = .returned (.tuple #[.int .i64 vn, .int .i64 0]) ∧ _) := HTA
    rw [thn_ok]
    cases Q2 with
    | er z =>
      have hz := fine_nz hG z rfl
      have hz1 : (z == 0) = false := by simpa using hz
      have hz2 : (z != 0) = true := by simp [bne, hz1]
      rw [thn_er]
      have HTB : Hid (∀ w0, Below W2.heap.size W2 w0 → Calls _ _ _ w0 fun e w'' => e = .returned (.tuple #[.int .i64 0, .int .i64 z]) ∧ Below w0.heap.size w0 w'') := HTB
      show Calls _ _ _ _ fun e w'' => e = .returned (.tuple #[.agg #[.int .u8 0, .int .i64 0, .bool false], .int .i64 z]) ∧ _
      clear hF hG hz
      go_enter Tryz.func143, Tryz.ntmps143
      go_wp2_with fail
      rw [← HW2.out]
      refine HTA.out.mono ?_
      rintro e w1 ⟨rfl, hb⟩
      obtain ⟨⟨x0, x1⟩, ⟨y0, y3, y4⟩, ⟨k0, k1, k2⟩, f0, f1, f2⟩ := (HX.out.below hb).cells
      have HT2 := Lib.hid (HTB.out w1 hb)
      have HB1 := Lib.hid hb
      clear hb HTB
      go_wp2_with fail
      refine HT2.out.mono ?_
      rintro e w2 ⟨rfl, hb⟩
      have hb := HB1.out.trans (hb.mono HB1.out.size)
      clear k0 k1 k2 f0 f1 f2 x0 x1 y0 y3 y4
      obtain ⟨⟨x0, x1⟩, ⟨y0, y3, y4⟩, ⟨k0, k1, k2⟩, f0, f1, f2⟩ := (HX.out.below hb).cells
      have HBF := Lib.hid ((((HB2.out.trans (hb.mono HB2.out.size)).setCell (p := ⟨w'.heap.size + 1 + 1, 0, none⟩) (Nat.le_trans (Nat.le_succ _) (Nat.le_succ _)) (.int .u8 0)).setCell (p := ⟨w'.heap.size + 1 + 1, 1, none⟩) (Nat.le_trans (Nat.le_succ _) (Nat.le_succ _)) (.int .i64 0)).setCell (p := ⟨w'.heap.size + 1 + 1, 2, none⟩) (Nat.le_trans (Nat.le_succ _) (Nat.le_succ _)) (.bool false))
      clear hb
      go_wp2
      refine bodyPost_ret (v := .tuple #[.agg #[.int .u8 0, .int .i64 0, .bool false], .int .i64 z]) (by simp [results, Tryz.results143, go_sem, k0, k1, k2]) rfl ?_
      exact ⟨rfl, HBF.out⟩
    | ok u =>
      obtain ⟨uk, un, ub⟩ := u
      have HTB : Hid (∀ w0, Below W2.heap.size W2 w0 → Calls _ _ _ w0 fun e w'' => e = .returned (.tuple #[.int .i64 un, .int .i64 0]) ∧ Below w0.heap.size w0 w'') := HTB
      rw [thn_ok]
      simp only
      have e2 : Ev.pair 15 vn un = toldR (decide (vn ≥ un)) 0 := rfl
      rw [e2]
      clear e2
      have HK := Lib.hid (fun w0 => rtold_any (decide (vn ≥ un)) 0 w0)
      have HK : Hid (∀ w0, Calls _ _ _ w0 fun e w'' => e = .returned (.tuple #[.agg #[.int .u8 2, .int .i64 0, .bool (decide (vn ≥ un))], .int .i64 0]) ∧ Below w0.heap.size w0 w'') := HK
      show Calls _ _ _ _ fun e w'' => e = .returned (.tuple #[.agg #[.int .u8 2, .int .i64 0, .bool (decide (vn ≥ un))], .int .i64 0]) ∧ _
      clear hF hG
      go_enter Tryz.func143, Tryz.ntmps143
      go_wp2_with fail
      rw [← HW2.out]
      refine HTA.out.mono ?_
      rintro e w1 ⟨rfl, hb⟩
      obtain ⟨⟨x0, x1⟩, ⟨y0, y3, y4⟩, ⟨k0, k1, k2⟩, f0, f1, f2⟩ := (HX.out.below hb).cells
      have HT2 := Lib.hid (HTB.out w1 hb)
      have HB1 := Lib.hid hb
      clear hb HTB
      go_wp2_with fail
      refine HT2.out.mono ?_
      rintro e w2 ⟨rfl, hb⟩
      have hb := HB1.out.trans (hb.mono HB1.out.size)
      clear k0 k1 k2 f0 f1 f2 x0 x1 y0 y3 y4
      obtain ⟨⟨x0, x1⟩, ⟨y0, y3, y4⟩, ⟨k0, k1, k2⟩, f0, f1, f2⟩ := (HX.out.below hb).cells
      have HB9 := Lib.hid hb
      clear hb k0 k1 k2 f0 f1 f2
      go_wp2_with fail
      refine (HK.out _).mono ?_
      rintro e w4 ⟨rfl, hb4⟩
      have hb := HB9.out.trans (hb4.mono HB9.out.size)
      clear hb4
      obtain ⟨-, -, ⟨k0, k1, k2⟩, f0, f1, f2⟩ := (HX.out.below hb).cells
      have HBF := Lib.hid ((((HB2.out.trans (hb.mono HB2.out.size)).setCell (p := ⟨w'.heap.size + 1 + 1, 0, none⟩) (Nat.le_trans (Nat.le_succ _) (Nat.le_succ _)) (.int .u8 2)).setCell (p := ⟨w'.heap.size + 1 + 1, 1, none⟩) (Nat.le_trans (Nat.le_succ _) (Nat.le_succ _)) (.int .i64 0)).setCell (p := ⟨w'.heap.size + 1 + 1, 2, none⟩) (Nat.le_trans (Nat.le_succ _) (Nat.le_succ _)) (.bool (decide (vn ≥ un))))
      clear hb
      go_wp2
      refine bodyPost_ret (v := .tuple #[.agg #[.int .u8 2, .int .i64 0, .bool (decide (vn ≥ un))], .int .i64 0]) (by simp [results, Tryz.results143, go_sem, k0, k1, k2]) rfl ?_
      exact ⟨rfl, HBF.out⟩
set_option maxHeartbeats 2000000 in
set_option maxRecDepth 100000 in
theorem r10log18 (A : Option Addr) (n c : Nat) (A2 : Option Addr) (m c2 : Nat) (w : World) (num : Int) (N : ByteArray) (na nb nc : Int) (RA RB : Ev.Rz) (hFA : Ev.Fine RA) (hFB : Ev.Fine RB) (hA : RwC (lkA A n c A2 m c2) w na RA) (hB : RwC (lkA A n c A2 m c2) w nb RB) (w' : World) (hb' : Below w.heap.size w w') :
    Calls Tryz.prog 145 #[lkA A n c A2 m c2, ndX 18 num N na nb nc] w' fun e w'' => e = outZ (resZ (Ev.two 18 RA RB)) ∧ Below w'.heap.size w' w'' := by
  obtain ⟨W2, hW2⟩ : ∃ W2, W2 = ((w'.alloc (.cells #[.slice A n c, .slice A2 m c2] 155)).alloc (.cells #[.int .u8 18, .int .i64 num, .string N, .int .i64 na, .int .i64 nb, .int .i64 nc] 114)).alloc (.cells #[.int .u8 0, .int .i64 0, .bool false] 70) := ⟨_, rfl⟩
  have hb2 : Below w'.heap.size w' W2 := by rw [hW2]; exact (((Below.refl _ _).alloc (Nat.le_refl _) _).alloc (by simp) _).alloc (by simp; omega) _
  have hx : Bx4 W2 w'.heap.size A n c A2 m c2 18 num N na nb nc := by rw [hW2]; exact Bx4.new _ _ _ _ _ _ _ _ _ _ _ _ _
  have hbw := hb'.trans (hb2.mono hb'.size)
  have HTA := Lib.hid (r10truth_any A n c A2 m c2 w na RA hFA hA W2 hbw); have HTB := Lib.hid (fun w0 (h0 : Below W2.heap.size W2 w0) => r10truth_any A n c A2 m c2 w nb RB hFB hB w0 (hbw.trans (h0.mono hbw.size)))
  obtain ⟨⟨x0, x1⟩, ⟨y0, y3, y4⟩, -⟩ := hx.cells
  have HX := Lib.hid hx
  have HB2 := Lib.hid hb2
  have HW2 := Lib.hid hW2
  rw [hW2] at x0 x1 y0 y3 y4
  unfold lkA at *
  unfold ndX
  clear hb2 hx hb' hW2 hbw hA hB
  have e1 : Ev.two 18 RA RB = Ev.thn (Ev.prt RA 2) fun v => if v.b = true then Ev.thn (Ev.prt RB 2) fun u => .ok (Ev.vb u.b) else .ok (Ev.vb false) := by
    unfold Ev.two
    refine congrArg (Ev.thn (Ev.prt RA 2)) (funext fun v => ?_)
    cases v.b <;> rfl
  rw [e1]
  clear e1
  have hF := Ev.fine_prt (k := 2) hFA
  have hG := Ev.fine_prt (k := 2) hFB
  clear hFA hFB
  generalize Ev.prt RA 2 = Q at *
  generalize Ev.prt RB 2 = Q2 at *
  cases Q with
  | er z =>
    have hz := fine_nz hF z rfl
    have hz1 : (z == 0) = false := by simpa using hz
    have hz2 : (z != 0) = true := by simp [bne, hz1]
    rw [thn_er]
    have HTA : Hid (Calls _ _ _ _ fun e w'' => e = .returned (.tuple #[.bool false, .int .i64 z]) ∧ _) := HTA
    show Calls _ _ _ _ fun e w'' => e = .returned (.tuple #[.agg #[.int .u8 0, .int .i64 0, .bool false], .int .i64 z]) ∧ _
    clear hF hG hz
    go_enter Tryz.func145, Tryz.ntmps145
    go_wp2_with fail
    rw [← HW2.out]
    refine HTA.out.mono ?_
    rintro e w1 ⟨rfl, hb⟩
    obtain ⟨⟨x0, x1⟩, ⟨y0, y3, y4⟩, ⟨k0, k1, k2⟩, f0, f1, f2⟩ := (HX.out.below hb).cells
    have HBF := Lib.hid ((((HB2.out.trans (hb.mono HB2.out.size)).setCell (p := ⟨w'.heap.size + 1 + 1, 0, none⟩) (Nat.le_trans (Nat.le_succ _) (Nat.le_succ _)) (.int .u8 0)).setCell (p := ⟨w'.heap.size + 1 + 1, 1, none⟩) (Nat.le_trans (Nat.le_succ _) (Nat.le_succ _)) (.int .i64 0)).setCell (p := ⟨w'.heap.size + 1 + 1, 2, none⟩) (Nat.le_trans (Nat.le_succ _) (Nat.le_succ _)) (.bool false))
    clear hb
    go_wp2
    refine bodyPost_ret (v := .tuple #[.agg #[.int .u8 0, .int .i64 0, .bool false], .int .i64 z]) (by simp [results, Tryz.results145, go_sem, k0, k1, k2]) rfl ?_
    exact ⟨rfl, HBF.out⟩
  | ok v =>
    obtain ⟨vk, vn, vb⟩ := v
    have HTA : Hid (Calls _ _ _ _ fun e w'' => e = .returned (.tuple #[.bool vb, .int .i64 0]) ∧ _) := HTA
    rw [thn_ok]
    by_cases hv : vb = true
    · subst hv
      rw [if_pos rfl]
      cases Q2 with
      | er z =>
        have hz := fine_nz hG z rfl
        have hz1 : (z == 0) = false := by simpa using hz
        have hz2 : (z != 0) = true := by simp [bne, hz1]
        rw [thn_er]
        have HK := Lib.hid (fun w0 => rtold_any (false) z w0)
        rw [show toldR (false) z = .er z from if_neg hz] at HK
        have HK : Hid (∀ w0, Calls _ _ _ w0 fun e w'' => e = .returned (.tuple #[.agg #[.int .u8 0, .int .i64 0, .bool false], .int .i64 z]) ∧ Below w0.heap.size w0 w'') := HK
        have HTB : Hid (∀ w0, Below W2.heap.size W2 w0 → Calls _ _ _ w0 fun e w'' => e = .returned (.tuple #[.bool false, .int .i64 z]) ∧ Below w0.heap.size w0 w'') := HTB
        show Calls _ _ _ _ fun e w'' => e = .returned (.tuple #[.agg #[.int .u8 0, .int .i64 0, .bool false], .int .i64 z]) ∧ _
        clear hF hG hz
        go_enter Tryz.func145, Tryz.ntmps145
        go_wp2_with fail
        rw [← HW2.out]
        refine HTA.out.mono ?_
        rintro e w1 ⟨rfl, hb⟩
        obtain ⟨⟨x0, x1⟩, ⟨y0, y3, y4⟩, ⟨k0, k1, k2⟩, f0, f1, f2⟩ := (HX.out.below hb).cells
        have HT2 := Lib.hid (HTB.out w1 hb)
        have HB1 := Lib.hid hb
        clear hb HTB
        go_wp2_with fail
        refine HT2.out.mono ?_
        rintro e w2 ⟨rfl, hb⟩
        have hb := HB1.out.trans (hb.mono HB1.out.size)
        clear k0 k1 k2 f0 f1 f2 x0 x1 y0 y3 y4
        obtain ⟨⟨x0, x1⟩, ⟨y0, y3, y4⟩, ⟨k0, k1, k2⟩, f0, f1, f2⟩ := (HX.out.below hb).cells
        have HB9 := Lib.hid hb
        clear hb k0 k1 k2 f0 f1 f2
        go_wp2_with fail
        refine (HK.out _).mono ?_
        rintro e w4 ⟨rfl, hb4⟩
        have hb := HB9.out.trans (hb4.mono HB9.out.size)
        clear hb4
        obtain ⟨-, -, ⟨k0, k1, k2⟩, f0, f1, f2⟩ := (HX.out.below hb).cells
        have HBF := Lib.hid ((((HB2.out.trans (hb.mono HB2.out.size)).setCell (p := ⟨w'.heap.size + 1 + 1, 0, none⟩) (Nat.le_trans (Nat.le_succ _) (Nat.le_succ _)) (.int .u8 0)).setCell (p := ⟨w'.heap.size + 1 + 1, 1, none⟩) (Nat.le_trans (Nat.le_succ _) (Nat.le_succ _)) (.int .i64 0)).setCell (p := ⟨w'.heap.size + 1 + 1, 2, none⟩) (Nat.le_trans (Nat.le_succ _) (Nat.le_succ _)) (.bool false))
        clear hb
        go_wp2
        refine bodyPost_ret (v := .tuple #[.agg #[.int .u8 0, .int .i64 0, .bool false], .int .i64 z]) (by simp [results, Tryz.results145, go_sem, k0, k1, k2]) rfl ?_
        exact ⟨rfl, HBF.out⟩
      | ok u =>
        obtain ⟨uk, un, ub⟩ := u
        have HTB : Hid (∀ w0, Below W2.heap.size W2 w0 → Calls _ _ _ w0 fun e w'' => e = .returned (.tuple #[.bool ub, .int .i64 0]) ∧ Below w0.heap.size w0 w'') := HTB
        rw [thn_ok]
        have HK := Lib.hid (fun w0 => rtold_any (ub) (0) w0)
        have HK : Hid (∀ w0, Calls _ _ _ w0 fun e w'' => e = .returned (.tuple #[.agg #[.int .u8 2, .int .i64 0, .bool (ub)], .int .i64 0]) ∧ Below w0.heap.size w0 w'') := HK
        show Calls _ _ _ _ fun e w'' => e = .returned (.tuple #[.agg #[.int .u8 2, .int .i64 0, .bool ub], .int .i64 0]) ∧ _
        clear hF hG
        go_enter Tryz.func145, Tryz.ntmps145
        go_wp2_with fail
        rw [← HW2.out]
        refine HTA.out.mono ?_
        rintro e w1 ⟨rfl, hb⟩
        obtain ⟨⟨x0, x1⟩, ⟨y0, y3, y4⟩, ⟨k0, k1, k2⟩, f0, f1, f2⟩ := (HX.out.below hb).cells
        have HT2 := Lib.hid (HTB.out w1 hb)
        have HB1 := Lib.hid hb
        clear hb HTB
        go_wp2_with fail
        refine HT2.out.mono ?_
        rintro e w2 ⟨rfl, hb⟩
        have hb := HB1.out.trans (hb.mono HB1.out.size)
        clear k0 k1 k2 f0 f1 f2 x0 x1 y0 y3 y4
        obtain ⟨⟨x0, x1⟩, ⟨y0, y3, y4⟩, ⟨k0, k1, k2⟩, f0, f1, f2⟩ := (HX.out.below hb).cells
        have HB9 := Lib.hid hb
        clear hb k0 k1 k2 f0 f1 f2
        go_wp2_with fail
        refine (HK.out _).mono ?_
        rintro e w4 ⟨rfl, hb4⟩
        have hb := HB9.out.trans (hb4.mono HB9.out.size)
        clear hb4
        obtain ⟨-, -, ⟨k0, k1, k2⟩, f0, f1, f2⟩ := (HX.out.below hb).cells
        have HBF := Lib.hid ((((HB2.out.trans (hb.mono HB2.out.size)).setCell (p := ⟨w'.heap.size + 1 + 1, 0, none⟩) (Nat.le_trans (Nat.le_succ _) (Nat.le_succ _)) (.int .u8 2)).setCell (p := ⟨w'.heap.size + 1 + 1, 1, none⟩) (Nat.le_trans (Nat.le_succ _) (Nat.le_succ _)) (.int .i64 0)).setCell (p := ⟨w'.heap.size + 1 + 1, 2, none⟩) (Nat.le_trans (Nat.le_succ _) (Nat.le_succ _)) (.bool ub))
        clear hb
        go_wp2
        refine bodyPost_ret (v := .tuple #[.agg #[.int .u8 2, .int .i64 0, .bool ub], .int .i64 0]) (by simp [results, Tryz.results145, go_sem, k0, k1, k2]) rfl ?_
        exact ⟨rfl, HBF.out⟩
    · have hv2 : vb = !true := by revert hv; cases vb <;> simp
      rw [if_neg hv]
      subst hv2
      clear hv
      have HK := Lib.hid (fun w0 => rtold_any (false) (0) w0)
      have HK : Hid (∀ w0, Calls _ _ _ w0 fun e w'' => e = .returned (.tuple #[.agg #[.int .u8 2, .int .i64 0, .bool (false)], .int .i64 0]) ∧ Below w0.heap.size w0 w'') := HK
      show Calls _ _ _ _ fun e w'' => e = .returned (.tuple #[.agg #[.int .u8 2, .int .i64 0, .bool false], .int .i64 0]) ∧ _
      clear hF hG HTB
      go_enter Tryz.func145, Tryz.ntmps145
      go_wp2_with fail
      rw [← HW2.out]
      refine HTA.out.mono ?_
      rintro e w1 ⟨rfl, hb⟩
      obtain ⟨⟨x0, x1⟩, ⟨y0, y3, y4⟩, ⟨k0, k1, k2⟩, f0, f1, f2⟩ := (HX.out.below hb).cells
      have HB9 := Lib.hid hb
      clear hb k0 k1 k2 f0 f1 f2
      go_wp2_with fail
      refine (HK.out _).mono ?_
      rintro e w4 ⟨rfl, hb4⟩
      have hb := HB9.out.trans (hb4.mono HB9.out.size)
      clear hb4
      obtain ⟨-, -, ⟨k0, k1, k2⟩, f0, f1, f2⟩ := (HX.out.below hb).cells
      have HBF := Lib.hid ((((HB2.out.trans (hb.mono HB2.out.size)).setCell (p := ⟨w'.heap.size + 1 + 1, 0, none⟩) (Nat.le_trans (Nat.le_succ _) (Nat.le_succ _)) (.int .u8 2)).setCell (p := ⟨w'.heap.size + 1 + 1, 1, none⟩) (Nat.le_trans (Nat.le_succ _) (Nat.le_succ _)) (.int .i64 0)).setCell (p := ⟨w'.heap.size + 1 + 1, 2, none⟩) (Nat.le_trans (Nat.le_succ _) (Nat.le_succ _)) (.bool false))
      clear hb
      go_wp2
      refine bodyPost_ret (v := .tuple #[.agg #[.int .u8 2, .int .i64 0, .bool false], .int .i64 0]) (by simp [results, Tryz.results145, go_sem, k0, k1, k2]) rfl ?_
      exact ⟨rfl, HBF.out⟩
set_option maxHeartbeats 2000000 in
set_option maxRecDepth 100000 in
theorem r10log19 (A : Option Addr) (n c : Nat) (A2 : Option Addr) (m c2 : Nat) (w : World) (num : Int) (N : ByteArray) (na nb nc : Int) (RA RB : Ev.Rz) (hFA : Ev.Fine RA) (hFB : Ev.Fine RB) (hA : RwC (lkA A n c A2 m c2) w na RA) (hB : RwC (lkA A n c A2 m c2) w nb RB) (w' : World) (hb' : Below w.heap.size w w') :
    Calls Tryz.prog 145 #[lkA A n c A2 m c2, ndX 19 num N na nb nc] w' fun e w'' => e = outZ (resZ (Ev.two 19 RA RB)) ∧ Below w'.heap.size w' w'' := by
  obtain ⟨W2, hW2⟩ : ∃ W2, W2 = ((w'.alloc (.cells #[.slice A n c, .slice A2 m c2] 155)).alloc (.cells #[.int .u8 19, .int .i64 num, .string N, .int .i64 na, .int .i64 nb, .int .i64 nc] 114)).alloc (.cells #[.int .u8 0, .int .i64 0, .bool false] 70) := ⟨_, rfl⟩
  have hb2 : Below w'.heap.size w' W2 := by rw [hW2]; exact (((Below.refl _ _).alloc (Nat.le_refl _) _).alloc (by simp) _).alloc (by simp; omega) _
  have hx : Bx4 W2 w'.heap.size A n c A2 m c2 19 num N na nb nc := by rw [hW2]; exact Bx4.new _ _ _ _ _ _ _ _ _ _ _ _ _
  have hbw := hb'.trans (hb2.mono hb'.size)
  have HTA := Lib.hid (r10truth_any A n c A2 m c2 w na RA hFA hA W2 hbw); have HTB := Lib.hid (fun w0 (h0 : Below W2.heap.size W2 w0) => r10truth_any A n c A2 m c2 w nb RB hFB hB w0 (hbw.trans (h0.mono hbw.size)))
  obtain ⟨⟨x0, x1⟩, ⟨y0, y3, y4⟩, -⟩ := hx.cells
  have HX := Lib.hid hx
  have HB2 := Lib.hid hb2
  have HW2 := Lib.hid hW2
  rw [hW2] at x0 x1 y0 y3 y4
  unfold lkA at *
  unfold ndX
  clear hb2 hx hb' hW2 hbw hA hB
  have e1 : Ev.two 19 RA RB = Ev.thn (Ev.prt RA 2) fun v => if v.b = false then Ev.thn (Ev.prt RB 2) fun u => .ok (Ev.vb u.b) else .ok (Ev.vb true) := by
    unfold Ev.two
    refine congrArg (Ev.thn (Ev.prt RA 2)) (funext fun v => ?_)
    cases v.b <;> rfl
  rw [e1]
  clear e1
  have hF := Ev.fine_prt (k := 2) hFA
  have hG := Ev.fine_prt (k := 2) hFB
  clear hFA hFB
  generalize Ev.prt RA 2 = Q at *
  generalize Ev.prt RB 2 = Q2 at *
  cases Q with
  | er z =>
    have hz := fine_nz hF z rfl
    have hz1 : (z == 0) = false := by simpa using hz
    have hz2 : (z != 0) = true := by simp [bne, hz1]
    rw [thn_er]
    have HTA : Hid (Calls _ _ _ _ fun e w'' => e = .returned (.tuple #[.bool false, .int .i64 z]) ∧ _) := HTA
    show Calls _ _ _ _ fun e w'' => e = .returned (.tuple #[.agg #[.int .u8 0, .int .i64 0, .bool false], .int .i64 z]) ∧ _
    clear hF hG hz
    go_enter Tryz.func145, Tryz.ntmps145
    go_wp2_with fail
    rw [← HW2.out]
    refine HTA.out.mono ?_
    rintro e w1 ⟨rfl, hb⟩
    obtain ⟨⟨x0, x1⟩, ⟨y0, y3, y4⟩, ⟨k0, k1, k2⟩, f0, f1, f2⟩ := (HX.out.below hb).cells
    have HBF := Lib.hid ((((HB2.out.trans (hb.mono HB2.out.size)).setCell (p := ⟨w'.heap.size + 1 + 1, 0, none⟩) (Nat.le_trans (Nat.le_succ _) (Nat.le_succ _)) (.int .u8 0)).setCell (p := ⟨w'.heap.size + 1 + 1, 1, none⟩) (Nat.le_trans (Nat.le_succ _) (Nat.le_succ _)) (.int .i64 0)).setCell (p := ⟨w'.heap.size + 1 + 1, 2, none⟩) (Nat.le_trans (Nat.le_succ _) (Nat.le_succ _)) (.bool false))
    clear hb
    go_wp2
    refine bodyPost_ret (v := .tuple #[.agg #[.int .u8 0, .int .i64 0, .bool false], .int .i64 z]) (by simp [results, Tryz.results145, go_sem, k0, k1, k2]) rfl ?_
    exact ⟨rfl, HBF.out⟩
  | ok v =>
    obtain ⟨vk, vn, vb⟩ := v
    have HTA : Hid (Calls _ _ _ _ fun e w'' => e = .returned (.tuple #[.bool vb, .int .i64 0]) ∧ _) := HTA
    rw [thn_ok]
    by_cases hv : vb = false
    · subst hv
      rw [if_pos rfl]
      cases Q2 with
      | er z =>
        have hz := fine_nz hG z rfl
        have hz1 : (z == 0) = false := by simpa using hz
        have hz2 : (z != 0) = true := by simp [bne, hz1]
        rw [thn_er]
        have HK := Lib.hid (fun w0 => rtold_any (false) z w0)
        rw [show toldR (false) z = .er z from if_neg hz] at HK
        have HK : Hid (∀ w0, Calls _ _ _ w0 fun e w'' => e = .returned (.tuple #[.agg #[.int .u8 0, .int .i64 0, .bool false], .int .i64 z]) ∧ Below w0.heap.size w0 w'') := HK
        have HTB : Hid (∀ w0, Below W2.heap.size W2 w0 → Calls _ _ _ w0 fun e w'' => e = .returned (.tuple #[.bool false, .int .i64 z]) ∧ Below w0.heap.size w0 w'') := HTB
        show Calls _ _ _ _ fun e w'' => e = .returned (.tuple #[.agg #[.int .u8 0, .int .i64 0, .bool false], .int .i64 z]) ∧ _
        clear hF hG hz
        go_enter Tryz.func145, Tryz.ntmps145
        go_wp2_with fail
        rw [← HW2.out]
        refine HTA.out.mono ?_
        rintro e w1 ⟨rfl, hb⟩
        obtain ⟨⟨x0, x1⟩, ⟨y0, y3, y4⟩, ⟨k0, k1, k2⟩, f0, f1, f2⟩ := (HX.out.below hb).cells
        have HT2 := Lib.hid (HTB.out w1 hb)
        have HB1 := Lib.hid hb
        clear hb HTB
        go_wp2_with fail
        refine HT2.out.mono ?_
        rintro e w2 ⟨rfl, hb⟩
        have hb := HB1.out.trans (hb.mono HB1.out.size)
        clear k0 k1 k2 f0 f1 f2 x0 x1 y0 y3 y4
        obtain ⟨⟨x0, x1⟩, ⟨y0, y3, y4⟩, ⟨k0, k1, k2⟩, f0, f1, f2⟩ := (HX.out.below hb).cells
        have HB9 := Lib.hid hb
        clear hb k0 k1 k2 f0 f1 f2
        go_wp2_with fail
        refine (HK.out _).mono ?_
        rintro e w4 ⟨rfl, hb4⟩
        have hb := HB9.out.trans (hb4.mono HB9.out.size)
        clear hb4
        obtain ⟨-, -, ⟨k0, k1, k2⟩, f0, f1, f2⟩ := (HX.out.below hb).cells
        have HBF := Lib.hid ((((HB2.out.trans (hb.mono HB2.out.size)).setCell (p := ⟨w'.heap.size + 1 + 1, 0, none⟩) (Nat.le_trans (Nat.le_succ _) (Nat.le_succ _)) (.int .u8 0)).setCell (p := ⟨w'.heap.size + 1 + 1, 1, none⟩) (Nat.le_trans (Nat.le_succ _) (Nat.le_succ _)) (.int .i64 0)).setCell (p := ⟨w'.heap.size + 1 + 1, 2, none⟩) (Nat.le_trans (Nat.le_succ _) (Nat.le_succ _)) (.bool false))
        clear hb
        go_wp2
        refine bodyPost_ret (v := .tuple #[.agg #[.int .u8 0, .int .i64 0, .bool false], .int .i64 z]) (by simp [results, Tryz.results145, go_sem, k0, k1, k2]) rfl ?_
        exact ⟨rfl, HBF.out⟩
      | ok u =>
        obtain ⟨uk, un, ub⟩ := u
        have HTB : Hid (∀ w0, Below W2.heap.size W2 w0 → Calls _ _ _ w0 fun e w'' => e = .returned (.tuple #[.bool ub, .int .i64 0]) ∧ Below w0.heap.size w0 w'') := HTB
        rw [thn_ok]
        have HK := Lib.hid (fun w0 => rtold_any (ub) (0) w0)
        have HK : Hid (∀ w0, Calls _ _ _ w0 fun e w'' => e = .returned (.tuple #[.agg #[.int .u8 2, .int .i64 0, .bool (ub)], .int .i64 0]) ∧ Below w0.heap.size w0 w'') := HK
        show Calls _ _ _ _ fun e w'' => e = .returned (.tuple #[.agg #[.int .u8 2, .int .i64 0, .bool ub], .int .i64 0]) ∧ _
        clear hF hG
        go_enter Tryz.func145, Tryz.ntmps145
        go_wp2_with fail
        rw [← HW2.out]
        refine HTA.out.mono ?_
        rintro e w1 ⟨rfl, hb⟩
        obtain ⟨⟨x0, x1⟩, ⟨y0, y3, y4⟩, ⟨k0, k1, k2⟩, f0, f1, f2⟩ := (HX.out.below hb).cells
        have HT2 := Lib.hid (HTB.out w1 hb)
        have HB1 := Lib.hid hb
        clear hb HTB
        go_wp2_with fail
        refine HT2.out.mono ?_
        rintro e w2 ⟨rfl, hb⟩
        have hb := HB1.out.trans (hb.mono HB1.out.size)
        clear k0 k1 k2 f0 f1 f2 x0 x1 y0 y3 y4
        obtain ⟨⟨x0, x1⟩, ⟨y0, y3, y4⟩, ⟨k0, k1, k2⟩, f0, f1, f2⟩ := (HX.out.below hb).cells
        have HB9 := Lib.hid hb
        clear hb k0 k1 k2 f0 f1 f2
        go_wp2_with fail
        refine (HK.out _).mono ?_
        rintro e w4 ⟨rfl, hb4⟩
        have hb := HB9.out.trans (hb4.mono HB9.out.size)
        clear hb4
        obtain ⟨-, -, ⟨k0, k1, k2⟩, f0, f1, f2⟩ := (HX.out.below hb).cells
        have HBF := Lib.hid ((((HB2.out.trans (hb.mono HB2.out.size)).setCell (p := ⟨w'.heap.size + 1 + 1, 0, none⟩) (Nat.le_trans (Nat.le_succ _) (Nat.le_succ _)) (.int .u8 2)).setCell (p := ⟨w'.heap.size + 1 + 1, 1, none⟩) (Nat.le_trans (Nat.le_succ _) (Nat.le_succ _)) (.int .i64 0)).setCell (p := ⟨w'.heap.size + 1 + 1, 2, none⟩) (Nat.le_trans (Nat.le_succ _) (Nat.le_succ _)) (.bool ub))
        clear hb
        go_wp2
        refine bodyPost_ret (v := .tuple #[.agg #[.int .u8 2, .int .i64 0, .bool ub], .int .i64 0]) (by simp [results, Tryz.results145, go_sem, k0, k1, k2]) rfl ?_
        exact ⟨rfl, HBF.out⟩
    · have hv2 : vb = !false := by revert hv; cases vb <;> simp
      rw [if_neg hv]
      subst hv2
      clear hv
      have HK := Lib.hid (fun w0 => rtold_any (true) (0) w0)
      have HK : Hid (∀ w0, Calls _ _ _ w0 fun e w'' => e = .returned (.tuple #[.agg #[.int .u8 2, .int .i64 0, .bool (true)], .int .i64 0]) ∧ Below w0.heap.size w0 w'') := HK
      show Calls _ _ _ _ fun e w'' => e = .returned (.tuple #[.agg #[.int .u8 2, .int .i64 0, .bool true], .int .i64 0]) ∧ _
      clear hF hG HTB
      go_enter Tryz.func145, Tryz.ntmps145
      go_wp2_with fail
      rw [← HW2.out]
      refine HTA.out.mono ?_
      rintro e w1 ⟨rfl, hb⟩
      obtain ⟨⟨x0, x1⟩, ⟨y0, y3, y4⟩, ⟨k0, k1, k2⟩, f0, f1, f2⟩ := (HX.out.below hb).cells
      have HB9 := Lib.hid hb
      clear hb k0 k1 k2 f0 f1 f2
      go_wp2_with fail
      refine (HK.out _).mono ?_
      rintro e w4 ⟨rfl, hb4⟩
      have hb := HB9.out.trans (hb4.mono HB9.out.size)
      clear hb4
      obtain ⟨-, -, ⟨k0, k1, k2⟩, f0, f1, f2⟩ := (HX.out.below hb).cells
      have HBF := Lib.hid ((((HB2.out.trans (hb.mono HB2.out.size)).setCell (p := ⟨w'.heap.size + 1 + 1, 0, none⟩) (Nat.le_trans (Nat.le_succ _) (Nat.le_succ _)) (.int .u8 2)).setCell (p := ⟨w'.heap.size + 1 + 1, 1, none⟩) (Nat.le_trans (Nat.le_succ _) (Nat.le_succ _)) (.int .i64 0)).setCell (p := ⟨w'.heap.size + 1 + 1, 2, none⟩) (Nat.le_trans (Nat.le_succ _) (Nat.le_succ _)) (.bool true))
      clear hb
      go_wp2
      refine bodyPost_ret (v := .tuple #[.agg #[.int .u8 2, .int .i64 0, .bool true], .int .i64 0]) (by simp [results, Tryz.results145, go_sem, k0, k1, k2]) rfl ?_
      exact ⟨rfl, HBF.out⟩
set_option maxHeartbeats 2000000 in
set_option maxRecDepth 100000 in
theorem r10log21 (A : Option Addr) (n c : Nat) (A2 : Option Addr) (m c2 : Nat) (w : World) (num : Int) (N : ByteArray) (na nb nc : Int) (RA RB : Ev.Rz) (hFA : Ev.Fine RA) (hFB : Ev.Fine RB) (hA : RwC (lkA A n c A2 m c2) w na RA) (hB : RwC (lkA A n c A2 m c2) w nb RB) (w' : World) (hb' : Below w.heap.size w w') :
    Calls Tryz.prog 145 #[lkA A n c A2 m c2, ndX 21 num N na nb nc] w' fun e w'' => e = outZ (resZ (Ev.two 21 RA RB)) ∧ Below w'.heap.size w' w'' := by
  obtain ⟨W2, hW2⟩ : ∃ W2, W2 = ((w'.alloc (.cells #[.slice A n c, .slice A2 m c2] 155)).alloc (.cells #[.int .u8 21, .int .i64 num, .string N, .int .i64 na, .int .i64 nb, .int .i64 nc] 114)).alloc (.cells #[.int .u8 0, .int .i64 0, .bool false] 70) := ⟨_, rfl⟩
  have hb2 : Below w'.heap.size w' W2 := by rw [hW2]; exact (((Below.refl _ _).alloc (Nat.le_refl _) _).alloc (by simp) _).alloc (by simp; omega) _
  have hx : Bx4 W2 w'.heap.size A n c A2 m c2 21 num N na nb nc := by rw [hW2]; exact Bx4.new _ _ _ _ _ _ _ _ _ _ _ _ _
  have hbw := hb'.trans (hb2.mono hb'.size)
  have HTA := Lib.hid (r10truth_any A n c A2 m c2 w na RA hFA hA W2 hbw); have HTB := Lib.hid (fun w0 (h0 : Below W2.heap.size W2 w0) => r10truth_any A n c A2 m c2 w nb RB hFB hB w0 (hbw.trans (h0.mono hbw.size)))
  obtain ⟨⟨x0, x1⟩, ⟨y0, y3, y4⟩, -⟩ := hx.cells
  have HX := Lib.hid hx
  have HB2 := Lib.hid hb2
  have HW2 := Lib.hid hW2
  rw [hW2] at x0 x1 y0 y3 y4
  unfold lkA at *
  unfold ndX
  clear hb2 hx hb' hW2 hbw hA hB
  have e1 : Ev.two 21 RA RB = Ev.thn (Ev.prt RA 2) fun v => if v.b = true then Ev.thn (Ev.prt RB 2) fun u => .ok (Ev.vb u.b) else .ok (Ev.vb true) := by
    unfold Ev.two
    refine congrArg (Ev.thn (Ev.prt RA 2)) (funext fun v => ?_)
    cases v.b <;> rfl
  rw [e1]
  clear e1
  have hF := Ev.fine_prt (k := 2) hFA
  have hG := Ev.fine_prt (k := 2) hFB
  clear hFA hFB
  generalize Ev.prt RA 2 = Q at *
  generalize Ev.prt RB 2 = Q2 at *
  cases Q with
  | er z =>
    have hz := fine_nz hF z rfl
    have hz1 : (z == 0) = false := by simpa using hz
    have hz2 : (z != 0) = true := by simp [bne, hz1]
    rw [thn_er]
    have HTA : Hid (Calls _ _ _ _ fun e w'' => e = .returned (.tuple #[.bool false, .int .i64 z]) ∧ _) := HTA
    show Calls _ _ _ _ fun e w'' => e = .returned (.tuple #[.agg #[.int .u8 0, .int .i64 0, .bool false], .int .i64 z]) ∧ _
    clear hF hG hz
    go_enter Tryz.func145, Tryz.ntmps145
    go_wp2_with fail
    rw [← HW2.out]
    refine HTA.out.mono ?_
    rintro e w1 ⟨rfl, hb⟩
    obtain ⟨⟨x0, x1⟩, ⟨y0, y3, y4⟩, ⟨k0, k1, k2⟩, f0, f1, f2⟩ := (HX.out.below hb).cells
    have HBF := Lib.hid ((((HB2.out.trans (hb.mono HB2.out.size)).setCell (p := ⟨w'.heap.size + 1 + 1, 0, none⟩) (Nat.le_trans (Nat.le_succ _) (Nat.le_succ _)) (.int .u8 0)).setCell (p := ⟨w'.heap.size + 1 + 1, 1, none⟩) (Nat.le_trans (Nat.le_succ _) (Nat.le_succ _)) (.int .i64 0)).setCell (p := ⟨w'.heap.size + 1 + 1, 2, none⟩) (Nat.le_trans (Nat.le_succ _) (Nat.le_succ _)) (.bool false))
    clear hb
    go_wp2
    refine bodyPost_ret (v := .tuple #[.agg #[.int .u8 0, .int .i64 0, .bool false], .int .i64 z]) (by simp [results, Tryz.results145, go_sem, k0, k1, k2]) rfl ?_
    exact ⟨rfl, HBF.out⟩
  | ok v =>
    obtain ⟨vk, vn, vb⟩ := v
    have HTA : Hid (Calls _ _ _ _ fun e w'' => e = .returned (.tuple #[.bool vb, .int .i64 0]) ∧ _) := HTA
    rw [thn_ok]
    by_cases hv : vb = true
    · subst hv
      rw [if_pos rfl]
      cases Q2 with
      | er z =>
        have hz := fine_nz hG z rfl
        have hz1 : (z == 0) = false := by simpa using hz
        have hz2 : (z != 0) = true := by simp [bne, hz1]
        rw [thn_er]
        have HK := Lib.hid (fun w0 => rtold_any (false) z w0)
        rw [show toldR (false) z = .er z from if_neg hz] at HK
        have HK : Hid (∀ w0, Calls _ _ _ w0 fun e w'' => e = .returned (.tuple #[.agg #[.int .u8 0, .int .i64 0, .bool false], .int .i64 z]) ∧ Below w0.heap.size w0 w'') := HK
        have HTB : Hid (∀ w0, Below W2.heap.size W2 w0 → Calls _ _ _ w0 fun e w'' => e = .returned (.tuple #[.bool false, .int .i64 z]) ∧ Below w0.heap.size w0 w'') := HTB
        show Calls _ _ _ _ fun e w'' => e = .returned (.tuple #[.agg #[.int .u8 0, .int .i64 0, .bool false], .int .i64 z]) ∧ _
        clear hF hG hz
        go_enter Tryz.func145, Tryz.ntmps145
        go_wp2_with fail
        rw [← HW2.out]
        refine HTA.out.mono ?_
        rintro e w1 ⟨rfl, hb⟩
        obtain ⟨⟨x0, x1⟩, ⟨y0, y3, y4⟩, ⟨k0, k1, k2⟩, f0, f1, f2⟩ := (HX.out.below hb).cells
        have HT2 := Lib.hid (HTB.out w1 hb)
        have HB1 := Lib.hid hb
        clear hb HTB
        go_wp2_with fail
        refine HT2.out.mono ?_
        rintro e w2 ⟨rfl, hb⟩
        have hb := HB1.out.trans (hb.mono HB1.out.size)
        clear k0 k1 k2 f0 f1 f2 x0 x1 y0 y3 y4
        obtain ⟨⟨x0, x1⟩, ⟨y0, y3, y4⟩, ⟨k0, k1, k2⟩, f0, f1, f2⟩ := (HX.out.below hb).cells
        have HB9 := Lib.hid hb
        clear hb k0 k1 k2 f0 f1 f2
        go_wp2_with fail
        refine (HK.out _).mono ?_
        rintro e w4 ⟨rfl, hb4⟩
        have hb := HB9.out.trans (hb4.mono HB9.out.size)
        clear hb4
        obtain ⟨-, -, ⟨k0, k1, k2⟩, f0, f1, f2⟩ := (HX.out.below hb).cells
        have HBF := Lib.hid ((((HB2.out.trans (hb.mono HB2.out.size)).setCell (p := ⟨w'.heap.size + 1 + 1, 0, none⟩) (Nat.le_trans (Nat.le_succ _) (Nat.le_succ _)) (.int .u8 0)).setCell (p := ⟨w'.heap.size + 1 + 1, 1, none⟩) (Nat.le_trans (Nat.le_succ _) (Nat.le_succ _)) (.int .i64 0)).setCell (p := ⟨w'.heap.size + 1 + 1, 2, none⟩) (Nat.le_trans (Nat.le_succ _) (Nat.le_succ _)) (.bool false))
        clear hb
        go_wp2
        refine bodyPost_ret (v := .tuple #[.agg #[.int .u8 0, .int .i64 0, .bool false], .int .i64 z]) (by simp [results, Tryz.results145, go_sem, k0, k1, k2]) rfl ?_
        exact ⟨rfl, HBF.out⟩
      | ok u =>
        obtain ⟨uk, un, ub⟩ := u
        have HTB : Hid (∀ w0, Below W2.heap.size W2 w0 → Calls _ _ _ w0 fun e w'' => e = .returned (.tuple #[.bool ub, .int .i64 0]) ∧ Below w0.heap.size w0 w'') := HTB
        rw [thn_ok]
        have HK := Lib.hid (fun w0 => rtold_any (ub) (0) w0)
        have HK : Hid (∀ w0, Calls _ _ _ w0 fun e w'' => e = .returned (.tuple #[.agg #[.int .u8 2, .int .i64 0, .bool (ub)], .int .i64 0]) ∧ Below w0.heap.size w0 w'') := HK
        show Calls _ _ _ _ fun e w'' => e = .returned (.tuple #[.agg #[.int .u8 2, .int .i64 0, .bool ub], .int .i64 0]) ∧ _
        clear hF hG
        go_enter Tryz.func145, Tryz.ntmps145
        go_wp2_with fail
        rw [← HW2.out]
        refine HTA.out.mono ?_
        rintro e w1 ⟨rfl, hb⟩
        obtain ⟨⟨x0, x1⟩, ⟨y0, y3, y4⟩, ⟨k0, k1, k2⟩, f0, f1, f2⟩ := (HX.out.below hb).cells
        have HT2 := Lib.hid (HTB.out w1 hb)
        have HB1 := Lib.hid hb
        clear hb HTB
        go_wp2_with fail
        refine HT2.out.mono ?_
        rintro e w2 ⟨rfl, hb⟩
        have hb := HB1.out.trans (hb.mono HB1.out.size)
        clear k0 k1 k2 f0 f1 f2 x0 x1 y0 y3 y4
        obtain ⟨⟨x0, x1⟩, ⟨y0, y3, y4⟩, ⟨k0, k1, k2⟩, f0, f1, f2⟩ := (HX.out.below hb).cells
        have HB9 := Lib.hid hb
        clear hb k0 k1 k2 f0 f1 f2
        go_wp2_with fail
        refine (HK.out _).mono ?_
        rintro e w4 ⟨rfl, hb4⟩
        have hb := HB9.out.trans (hb4.mono HB9.out.size)
        clear hb4
        obtain ⟨-, -, ⟨k0, k1, k2⟩, f0, f1, f2⟩ := (HX.out.below hb).cells
        have HBF := Lib.hid ((((HB2.out.trans (hb.mono HB2.out.size)).setCell (p := ⟨w'.heap.size + 1 + 1, 0, none⟩) (Nat.le_trans (Nat.le_succ _) (Nat.le_succ _)) (.int .u8 2)).setCell (p := ⟨w'.heap.size + 1 + 1, 1, none⟩) (Nat.le_trans (Nat.le_succ _) (Nat.le_succ _)) (.int .i64 0)).setCell (p := ⟨w'.heap.size + 1 + 1, 2, none⟩) (Nat.le_trans (Nat.le_succ _) (Nat.le_succ _)) (.bool ub))
        clear hb
        go_wp2
        refine bodyPost_ret (v := .tuple #[.agg #[.int .u8 2, .int .i64 0, .bool ub], .int .i64 0]) (by simp [results, Tryz.results145, go_sem, k0, k1, k2]) rfl ?_
        exact ⟨rfl, HBF.out⟩
    · have hv2 : vb = !true := by revert hv; cases vb <;> simp
      rw [if_neg hv]
      subst hv2
      clear hv
      have HK := Lib.hid (fun w0 => rtold_any (true) (0) w0)
      have HK : Hid (∀ w0, Calls _ _ _ w0 fun e w'' => e = .returned (.tuple #[.agg #[.int .u8 2, .int .i64 0, .bool (true)], .int .i64 0]) ∧ Below w0.heap.size w0 w'') := HK
      show Calls _ _ _ _ fun e w'' => e = .returned (.tuple #[.agg #[.int .u8 2, .int .i64 0, .bool true], .int .i64 0]) ∧ _
      clear hF hG HTB
      go_enter Tryz.func145, Tryz.ntmps145
      go_wp2_with fail
      rw [← HW2.out]
      refine HTA.out.mono ?_
      rintro e w1 ⟨rfl, hb⟩
      obtain ⟨⟨x0, x1⟩, ⟨y0, y3, y4⟩, ⟨k0, k1, k2⟩, f0, f1, f2⟩ := (HX.out.below hb).cells
      have HB9 := Lib.hid hb
      clear hb k0 k1 k2 f0 f1 f2
      go_wp2_with fail
      refine (HK.out _).mono ?_
      rintro e w4 ⟨rfl, hb4⟩
      have hb := HB9.out.trans (hb4.mono HB9.out.size)
      clear hb4
      obtain ⟨-, -, ⟨k0, k1, k2⟩, f0, f1, f2⟩ := (HX.out.below hb).cells
      have HBF := Lib.hid ((((HB2.out.trans (hb.mono HB2.out.size)).setCell (p := ⟨w'.heap.size + 1 + 1, 0, none⟩) (Nat.le_trans (Nat.le_succ _) (Nat.le_succ _)) (.int .u8 2)).setCell (p := ⟨w'.heap.size + 1 + 1, 1, none⟩) (Nat.le_trans (Nat.le_succ _) (Nat.le_succ _)) (.int .i64 0)).setCell (p := ⟨w'.heap.size + 1 + 1, 2, none⟩) (Nat.le_trans (Nat.le_succ _) (Nat.le_succ _)) (.bool true))
      clear hb
      go_wp2
      refine bodyPost_ret (v := .tuple #[.agg #[.int .u8 2, .int .i64 0, .bool true], .int .i64 0]) (by simp [results, Tryz.results145, go_sem, k0, k1, k2]) rfl ?_
      exact ⟨rfl, HBF.out⟩
set_option maxHeartbeats 2000000 in
set_option maxRecDepth 100000 in
theorem r10log20 (A : Option Addr) (n c : Nat) (A2 : Option Addr) (m c2 : Nat) (w : World) (num : Int) (N : ByteArray) (na nb nc : Int) (RA RB : Ev.Rz) (hFA : Ev.Fine RA) (hFB : Ev.Fine RB) (hA : RwC (lkA A n c A2 m c2) w na RA) (hB : RwC (lkA A n c A2 m c2) w nb RB) (w' : World) (hb' : Below w.heap.size w w') :
    Calls Tryz.prog 145 #[lkA A n c A2 m c2, ndX 20 num N na nb nc] w' fun e w'' => e = outZ (resZ (Ev.two 20 RA RB)) ∧ Below w'.heap.size w' w'' := by
  obtain ⟨W2, hW2⟩ : ∃ W2, W2 = ((w'.alloc (.cells #[.slice A n c, .slice A2 m c2] 155)).alloc (.cells #[.int .u8 20, .int .i64 num, .string N, .int .i64 na, .int .i64 nb, .int .i64 nc] 114)).alloc (.cells #[.int .u8 0, .int .i64 0, .bool false] 70) := ⟨_, rfl⟩
  have hb2 : Below w'.heap.size w' W2 := by rw [hW2]; exact (((Below.refl _ _).alloc (Nat.le_refl _) _).alloc (by simp) _).alloc (by simp; omega) _
  have hx : Bx4 W2 w'.heap.size A n c A2 m c2 20 num N na nb nc := by rw [hW2]; exact Bx4.new _ _ _ _ _ _ _ _ _ _ _ _ _
  have hbw := hb'.trans (hb2.mono hb'.size)
  have HTA := Lib.hid (r10truth_any A n c A2 m c2 w na RA hFA hA W2 hbw); have HTB := Lib.hid (fun w0 (h0 : Below W2.heap.size W2 w0) => r10truth_any A n c A2 m c2 w nb RB hFB hB w0 (hbw.trans (h0.mono hbw.size)))
  obtain ⟨⟨x0, x1⟩, ⟨y0, y3, y4⟩, -⟩ := hx.cells
  have HX := Lib.hid hx
  have HB2 := Lib.hid hb2
  have HW2 := Lib.hid hW2
  rw [hW2] at x0 x1 y0 y3 y4
  unfold lkA at *
  unfold ndX
  clear hb2 hx hb' hW2 hbw hA hB
  have e1 : Ev.two 20 RA RB = Ev.thn (Ev.prt RA 2) fun v => Ev.thn (Ev.prt RB 2) fun u => .ok (Ev.vb (v.b != u.b)) := rfl
  rw [e1]
  clear e1
  have hF := Ev.fine_prt (k := 2) hFA
  have hG := Ev.fine_prt (k := 2) hFB
  clear hFA hFB
  generalize Ev.prt RA 2 = Q at *
  generalize Ev.prt RB 2 = Q2 at *
  cases Q with
  | er z =>
    have hz := fine_nz hF z rfl
    have hz1 : (z == 0) = false := by simpa using hz
    have hz2 : (z != 0) = true := by simp [bne, hz1]
    rw [thn_er]
    have HTA : Hid (Calls _ _ _ _ fun e w'' => e = .returned (.tuple #[.bool false, .int .i64 z]) ∧ _) := HTA
    show Calls _ _ _ _ fun e w'' => e = .returned (.tuple #[.agg #[.int .u8 0, .int .i64 0, .bool false], .int .i64 z]) ∧ _
    clear hF hG hz
    go_enter Tryz.func145, Tryz.ntmps145
    go_wp2_with fail
    rw [← HW2.out]
    refine HTA.out.mono ?_
    rintro e w1 ⟨rfl, hb⟩
    obtain ⟨⟨x0, x1⟩, ⟨y0, y3, y4⟩, ⟨k0, k1, k2⟩, f0, f1, f2⟩ := (HX.out.below hb).cells
    have HBF := Lib.hid ((((HB2.out.trans (hb.mono HB2.out.size)).setCell (p := ⟨w'.heap.size + 1 + 1, 0, none⟩) (Nat.le_trans (Nat.le_succ _) (Nat.le_succ _)) (.int .u8 0)).setCell (p := ⟨w'.heap.size + 1 + 1, 1, none⟩) (Nat.le_trans (Nat.le_succ _) (Nat.le_succ _)) (.int .i64 0)).setCell (p := ⟨w'.heap.size + 1 + 1, 2, none⟩) (Nat.le_trans (Nat.le_succ _) (Nat.le_succ _)) (.bool false))
    clear hb
    go_wp2
    refine bodyPost_ret (v := .tuple #[.agg #[.int .u8 0, .int .i64 0, .bool false], .int .i64 z]) (by simp [results, Tryz.results145, go_sem, k0, k1, k2]) rfl ?_
    exact ⟨rfl, HBF.out⟩
  | ok v =>
    obtain ⟨vk, vn, vb⟩ := v
    have HTA : Hid (Calls _ _ _ _ fun e w'' => e = .returned (.tuple #[.bool vb, .int .i64 0]) ∧ _) := HTA
    rw [thn_ok]
    cases Q2 with
    | er z =>
      have hz := fine_nz hG z rfl
      have hz1 : (z == 0) = false := by simpa using hz
      have hz2 : (z != 0) = true := by simp [bne, hz1]
      rw [thn_er]
      have HK := Lib.hid (fun w0 => rtold_any (vb != false) z w0)
      rw [show toldR (vb != false) z = .er z from if_neg hz] at HK
      have HK : Hid (∀ w0, Calls _ _ _ w0 fun e w'' => e = .returned (.tuple #[.agg #[.int .u8 0, .int .i64 0, .bool false], .int .i64 z]) ∧ Below w0.heap.size w0 w'') := HK
      have HTB : Hid (∀ w0, Below W2.heap.size W2 w0 → Calls _ _ _ w0 fun e w'' => e = .returned (.tuple #[.bool false, .int .i64 z]) ∧ Below w0.heap.size w0 w'') := HTB
      show Calls _ _ _ _ fun e w'' => e = .returned (.tuple #[.agg #[.int .u8 0, .int .i64 0, .bool false], .int .i64 z]) ∧ _
      clear hF hG hz
      cases vb with
      | true =>
        go_enter Tryz.func145, Tryz.ntmps145
        go_wp2_with fail
        rw [← HW2.out]
        refine HTA.out.mono ?_
        rintro e w1 ⟨rfl, hb⟩
        obtain ⟨⟨x0, x1⟩, ⟨y0, y3, y4⟩, ⟨k0, k1, k2⟩, f0, f1, f2⟩ := (HX.out.below hb).cells
        have HT2 := Lib.hid (HTB.out w1 hb)
        have HB1 := Lib.hid hb
        clear hb HTB
        go_wp2_with fail
        refine HT2.out.mono ?_
        rintro e w2 ⟨rfl, hb⟩
        have hb := HB1.out.trans (hb.mono HB1.out.size)
        clear k0 k1 k2 f0 f1 f2 x0 x1 y0 y3 y4
        obtain ⟨⟨x0, x1⟩, ⟨y0, y3, y4⟩, ⟨k0, k1, k2⟩, f0, f1, f2⟩ := (HX.out.below hb).cells
        have HB9 := Lib.hid hb
        clear hb k0 k1 k2 f0 f1 f2
        go_wp2_with fail
        refine (HK.out _).mono ?_
        rintro e w4 ⟨rfl, hb4⟩
        have hb := HB9.out.trans (hb4.mono HB9.out.size)
        clear hb4
        obtain ⟨-, -, ⟨k0, k1, k2⟩, f0, f1, f2⟩ := (HX.out.below hb).cells
        have HBF := Lib.hid ((((HB2.out.trans (hb.mono HB2.out.size)).setCell (p := ⟨w'.heap.size + 1 + 1, 0, none⟩) (Nat.le_trans (Nat.le_succ _) (Nat.le_succ _)) (.int .u8 0)).setCell (p := ⟨w'.heap.size + 1 + 1, 1, none⟩) (Nat.le_trans (Nat.le_succ _) (Nat.le_succ _)) (.int .i64 0)).setCell (p := ⟨w'.heap.size + 1 + 1, 2, none⟩) (Nat.le_trans (Nat.le_succ _) (Nat.le_succ _)) (.bool false))
        clear hb
        go_wp2
        refine bodyPost_ret (v := .tuple #[.agg #[.int .u8 0, .int .i64 0, .bool false], .int .i64 z]) (by simp [results, Tryz.results145, go_sem, k0, k1, k2]) rfl ?_
        exact ⟨rfl, HBF.out⟩
      | false =>
        go_enter Tryz.func145, Tryz.ntmps145
        go_wp2_with fail
        rw [← HW2.out]
        refine HTA.out.mono ?_
        rintro e w1 ⟨rfl, hb⟩
        obtain ⟨⟨x0, x1⟩, ⟨y0, y3, y4⟩, ⟨k0, k1, k2⟩, f0, f1, f2⟩ := (HX.out.below hb).cells
        have HT2 := Lib.hid (HTB.out w1 hb)
        have HB1 := Lib.hid hb
        clear hb HTB
        go_wp2_with fail
        refine HT2.out.mono ?_
        rintro e w2 ⟨rfl, hb⟩
        have hb := HB1.out.trans (hb.mono HB1.out.size)
        clear k0 k1 k2 f0 f1 f2 x0 x1 y0 y3 y4
        obtain ⟨⟨x0, x1⟩, ⟨y0, y3, y4⟩, ⟨k0, k1, k2⟩, f0, f1, f2⟩ := (HX.out.below hb).cells
        have HB9 := Lib.hid hb
        clear hb k0 k1 k2 f0 f1 f2
        go_wp2_with fail
        refine (HK.out _).mono ?_
        rintro e w4 ⟨rfl, hb4⟩
        have hb := HB9.out.trans (hb4.mono HB9.out.size)
        clear hb4
        obtain ⟨-, -, ⟨k0, k1, k2⟩, f0, f1, f2⟩ := (HX.out.below hb).cells
        have HBF := Lib.hid ((((HB2.out.trans (hb.mono HB2.out.size)).setCell (p := ⟨w'.heap.size + 1 + 1, 0, none⟩) (Nat.le_trans (Nat.le_succ _) (Nat.le_succ _)) (.int .u8 0)).setCell (p := ⟨w'.heap.size + 1 + 1, 1, none⟩) (Nat.le_trans (Nat.le_succ _) (Nat.le_succ _)) (.int .i64 0)).setCell (p := ⟨w'.heap.size + 1 + 1, 2, none⟩) (Nat.le_trans (Nat.le_succ _) (Nat.le_succ _)) (.bool false))
        clear hb
        go_wp2
        refine bodyPost_ret (v := .tuple #[.agg #[.int .u8 0, .int .i64 0, .bool false], .int .i64 z]) (by simp [results, Tryz.results145, go_sem, k0, k1, k2]) rfl ?_
        exact ⟨rfl, HBF.out⟩
    | ok u =>
      obtain ⟨uk, un, ub⟩ := u
      have HTB : Hid (∀ w0, Below W2.heap.size W2 w0 → Calls _ _ _ w0 fun e w'' => e = .returned (.tuple #[.bool ub, .int .i64 0]) ∧ Below w0.heap.size w0 w'') := HTB
      rw [thn_ok]
      have HK := Lib.hid (fun w0 => rtold_any (vb != ub) (0) w0)
      have HK : Hid (∀ w0, Calls _ _ _ w0 fun e w'' => e = .returned (.tuple #[.agg #[.int .u8 2, .int .i64 0, .bool (vb != ub)], .int .i64 0]) ∧ Below w0.heap.size w0 w'') := HK
      show Calls _ _ _ _ fun e w'' => e = .returned (.tuple #[.agg #[.int .u8 2, .int .i64 0, .bool (vb != ub)], .int .i64 0]) ∧ _
      clear hF hG
      go_enter Tryz.func145, Tryz.ntmps145
      go_wp2_with fail
      rw [← HW2.out]
      refine HTA.out.mono ?_
      rintro e w1 ⟨rfl, hb⟩
      obtain ⟨⟨x0, x1⟩, ⟨y0, y3, y4⟩, ⟨k0, k1, k2⟩, f0, f1, f2⟩ := (HX.out.below hb).cells
      have HT2 := Lib.hid (HTB.out w1 hb)
      have HB1 := Lib.hid hb
      clear hb HTB
      go_wp2_with fail
      refine HT2.out.mono ?_
      rintro e w2 ⟨rfl, hb⟩
      have hb := HB1.out.trans (hb.mono HB1.out.size)
      clear k0 k1 k2 f0 f1 f2 x0 x1 y0 y3 y4
      obtain ⟨⟨x0, x1⟩, ⟨y0, y3, y4⟩, ⟨k0, k1, k2⟩, f0, f1, f2⟩ := (HX.out.below hb).cells
      have HB9 := Lib.hid hb
      clear hb k0 k1 k2 f0 f1 f2
      go_wp2_with fail
      refine (HK.out _).mono ?_
      rintro e w4 ⟨rfl, hb4⟩
      have hb := HB9.out.trans (hb4.mono HB9.out.size)
      clear hb4
      obtain ⟨-, -, ⟨k0, k1, k2⟩, f0, f1, f2⟩ := (HX.out.below hb).cells
      have HBF := Lib.hid ((((HB2.out.trans (hb.mono HB2.out.size)).setCell (p := ⟨w'.heap.size + 1 + 1, 0, none⟩) (Nat.le_trans (Nat.le_succ _) (Nat.le_succ _)) (.int .u8 2)).setCell (p := ⟨w'.heap.size + 1 + 1, 1, none⟩) (Nat.le_trans (Nat.le_succ _) (Nat.le_succ _)) (.int .i64 0)).setCell (p := ⟨w'.heap.size + 1 + 1, 2, none⟩) (Nat.le_trans (Nat.le_succ _) (Nat.le_succ _)) (.bool (vb != ub)))
      clear hb
      go_wp2
      refine bodyPost_ret (v := .tuple #[.agg #[.int .u8 2, .int .i64 0, .bool (vb != ub)], .int .i64 0]) (by simp [results, Tryz.results145, go_sem, k0, k1, k2]) rfl ?_
      exact ⟨rfl, HBF.out⟩
end Go.Proofs.YtdcjpinbflmikaaGreatDoor
