/- Facts and walks for the statement. -/
import Derived.Test.YtdcjpinbflmikaaGreatDoorPzW24
import Derived.Test.YtdcjpinbflmikaaGreatDoorPzW25
namespace Go.Proofs.YtdcjpinbflmikaaGreatDoor
open Go.RowKit Ex
def ndX (o : Int) (num : Int) (N : ByteArray) (na nb nc : Int) : Value := .agg #[.int .u8 o, .int .i64 num, .string N, .int .i64 na, .int .i64 nb, .int .i64 nc]
structure Bx4 (w : World) (g : Nat) (A : Option Addr) (n c : Nat) (A2 : Option Addr) (m c2 : Nat) (o num : Int) (N : ByteArray) (na nb nc : Int) : Prop where
  lk : IsBlk w g 155 #[.slice A n c, .slice A2 m c2]
  nd : IsBlk w (g + 1) 114 #[.int .u8 o, .int .i64 num, .string N, .int .i64 na, .int .i64 nb, .int .i64 nc]
  vl : IsBlk w (g + 1 + 1) 70 #[.int .u8 0, .int .i64 0, .bool false]
theorem Bx4.below {w w' : World} {g : Nat} {A : Option Addr} {n c : Nat} {A2 : Option Addr} {m c2 : Nat} {o num : Int} {N : ByteArray} {na nb nc : Int} (h : Bx4 w g A n c A2 m c2 o num N na nb nc) (hb : Below w.heap.size w w') : Bx4 w' g A n c A2 m c2 o num N na nb nc := ⟨h.lk.below hb h.lk.lt, h.nd.below hb h.nd.lt, h.vl.below hb h.vl.lt⟩
theorem Bx4.cells {w : World} {g : Nat} {A : Option Addr} {n c : Nat} {A2 : Option Addr} {m c2 : Nat} {o num : Int} {N : ByteArray} {na nb nc : Int} (h : Bx4 w g A n c A2 m c2 o num N na nb nc) :
    (w.cell? ⟨g, 0, none⟩ = some (.slice A n c) ∧ w.cell? ⟨g, 1, none⟩ = some (.slice A2 m c2)) ∧ (w.cell? ⟨g + 1, 0, none⟩ = some (.int .u8 o) ∧ w.cell? ⟨g + 1, 3, none⟩ = some (.int .i64 na) ∧ w.cell? ⟨g + 1, 4, none⟩ = some (.int .i64 nb)) ∧
    (w.cell? ⟨g + 1 + 1, 0, none⟩ = some (.int .u8 0) ∧ w.cell? ⟨g + 1 + 1, 1, none⟩ = some (.int .i64 0) ∧ w.cell? ⟨g + 1 + 1, 2, none⟩ = some (.bool false)) ∧ w.frozen? ⟨g + 1 + 1, 0, none⟩ = false ∧ w.frozen? ⟨g + 1 + 1, 1, none⟩ = false ∧ w.frozen? ⟨g + 1 + 1, 2, none⟩ = false :=
  ⟨⟨h.lk.at_ 0, h.lk.at_ 1⟩, ⟨h.nd.at_ 0, h.nd.at_ 3, h.nd.at_ 4⟩, ⟨h.vl.at_ 0, h.vl.at_ 1, h.vl.at_ 2⟩, h.vl.fz 0, h.vl.fz 1, h.vl.fz 2⟩
theorem Bx4.new (w : World) (A : Option Addr) (n c : Nat) (A2 : Option Addr) (m c2 : Nat) (o num : Int) (N : ByteArray) (na nb nc : Int) : Bx4 (((w.alloc (.cells #[.slice A n c, .slice A2 m c2] 155)).alloc (.cells #[.int .u8 o, .int .i64 num, .string N, .int .i64 na, .int .i64 nb, .int .i64 nc] 114)).alloc (.cells #[.int .u8 0, .int .i64 0, .bool false] 70)) w.heap.size A n c A2 m c2 o num N na nb nc := by
  obtain ⟨V1, hV1⟩ : ∃ V, V = w.alloc (.cells #[.slice A n c, .slice A2 m c2] 155) := ⟨_, rfl⟩
  obtain ⟨V2, hV2⟩ : ∃ V, V = V1.alloc (.cells #[.int .u8 o, .int .i64 num, .string N, .int .i64 na, .int .i64 nb, .int .i64 nc] 114) := ⟨_, rfl⟩
  obtain ⟨V3, hV3⟩ : ∃ V, V = V2.alloc (.cells #[.int .u8 0, .int .i64 0, .bool false] 70) := ⟨_, rfl⟩
  rw [← hV1, ← hV2, ← hV3]
  have a1 : ∀ (v : World) (o : Obj), Below v.heap.size v (v.alloc o) := fun v o => (Below.refl _ _).alloc (Nat.le_refl _) _
  have z1 : V1.heap.size = w.heap.size + 1 := by rw [hV1]; simp
  have z2 : V2.heap.size = w.heap.size + 1 + 1 := by rw [hV2]; simp [z1]
  have c2' : Below V1.heap.size V1 V2 := by rw [hV2]; exact a1 _ _
  have c3 : Below V2.heap.size V2 V3 := by rw [hV3]; exact a1 _ _
  have k1 : IsBlk V1 w.heap.size 155 #[.slice A n c, .slice A2 m c2] := by rw [hV1]; exact IsBlk.new _ _ _
  have k2 : IsBlk V2 (w.heap.size + 1) 114 #[.int .u8 o, .int .i64 num, .string N, .int .i64 na, .int .i64 nb, .int .i64 nc] := by rw [hV2, ← z1]; exact IsBlk.new _ _ _
  have k11 := k1.below c2' k1.lt
  exact ⟨k11.below c3 k11.lt, k2.below c3 k2.lt, by rw [hV3, ← z2]; exact IsBlk.new _ _ _⟩
theorem fine_nz {R : Ev.Rz} (h : Ev.Fine R) : ∀ z, R = .er z → z ≠ 0 := fun z e => by
  subst e
  rcases h with h | h | h <;> omega
set_option maxHeartbeats 2000000 in
set_option maxRecDepth 100000 in
theorem r10two7 (A : Option Addr) (n c : Nat) (A2 : Option Addr) (m c2 : Nat) (w : World) (num : Int) (N : ByteArray) (na nb nc : Int) (RA RB : Ev.Rz) (hFA : Ev.Fine RA) (hFB : Ev.Fine RB) (hA : RwC (lkA A n c A2 m c2) w na RA) (hB : RwC (lkA A n c A2 m c2) w nb RB) (w' : World) (hb' : Below w.heap.size w w') :
    Calls Tryz.prog 143 #[lkA A n c A2 m c2, ndX 7 num N na nb nc] w' fun e w'' => e = outZ (resZ (Ev.two 7 RA RB)) ∧ Below w'.heap.size w' w'' := by
  obtain ⟨W2, hW2⟩ : ∃ W2, W2 = ((w'.alloc (.cells #[.slice A n c, .slice A2 m c2] 155)).alloc (.cells #[.int .u8 7, .int .i64 num, .string N, .int .i64 na, .int .i64 nb, .int .i64 nc] 114)).alloc (.cells #[.int .u8 0, .int .i64 0, .bool false] 70) := ⟨_, rfl⟩
  have hb2 : Below w'.heap.size w' W2 := by rw [hW2]; exact (((Below.refl _ _).alloc (Nat.le_refl _) _).alloc (by simp) _).alloc (by simp; omega) _
  have hx : Bx4 W2 w'.heap.size A n c A2 m c2 7 num N na nb nc := by rw [hW2]; exact Bx4.new _ _ _ _ _ _ _ _ _ _ _ _ _
  have hbw := hb'.trans (hb2.mono hb'.size)
  have HTA := Lib.hid (r10number_any A n c A2 m c2 w na RA hFA hA W2 hbw); have HTB := Lib.hid (fun w0 (h0 : Below W2.heap.size W2 w0) => r10number_any A n c A2 m c2 w nb RB hFB hB w0 (hbw.trans (h0.mono hbw.size)))
  obtain ⟨⟨x0, x1⟩, ⟨y0, y3, y4⟩, -⟩ := hx.cells
  have HX := Lib.hid hx
  have HB2 := Lib.hid hb2
  have HW2 := Lib.hid hW2
  rw [hW2] at x0 x1 y0 y3 y4
  unfold lkA at *
  unfold ndX
  clear hb2 hx hb' hW2 hbw hA hB
  have e1 : Ev.two 7 RA RB = Ev.thn (Ev.prt RA 1) fun v => Ev.thn (Ev.prt RB 1) fun u => Ev.pair 7 v.n u.n := rfl
  rw [e1]
  clear e1
  have hF := Ev.fine_prt (k := 1) hFA
  have hG := Ev.fine_prt (k := 1) hFB
  clear hFA hFB
  generalize Ev.prt RA 1 = Q at *
  generalize Ev.prt RB 1 = Q2 at *
  cases Q with
  | er z =>
    have hz := fine_nz hF z rfl
    have hz1 : (z == 0) = false := by simpa using hz
    have hz2 : (z != 0) = true := by simp [bne, hz1]
    rw [thn_er]
    have HTA : Hid (Calls _ _ _ _ fun e w'' => e = .returned (.tuple #[.int .i64 0, .int .i64 z]) ∧ _) := HTA
    show Calls _ _ _ _ fun e w'' => e = .returned (.tuple #[.agg #[.int .u8 0, .int .i64 0, .bool false], .int .i64 z]) ∧ _
    clear hF hG hz
    go_enter Tryz.func143, Tryz.ntmps143
    go_wp2_with fail
    rw [← HW2.out]
    refine HTA.out.mono ?_
    rintro e w1 ⟨rfl, hb⟩
    obtain ⟨⟨x0, x1⟩, ⟨y0, y3, y4⟩, ⟨k0, k1, k2⟩, f0, f1, f2⟩ := (HX.out.below hb).cells
    have HBF := Lib.hid ((((HB2.out.trans (hb.mono HB2.out.size)).setCell (p := ⟨w'.heap.size + 1 + 1, 0, none⟩) (Nat.le_trans (Nat.le_succ _) (Nat.le_succ _)) (.int .u8 0)).setCell (p := ⟨w'.heap.size + 1 + 1, 1, none⟩) (Nat.le_trans (Nat.le_succ _) (Nat.le_succ _)) (.int .i64 0)).setCell (p := ⟨w'.heap.size + 1 + 1, 2, none⟩) (Nat.le_trans (Nat.le_succ _) (Nat.le_succ _)) (.bool false))
    clear hb
    go_wp2
    refine bodyPost_ret (v := .tuple #[.agg #[.int .u8 0, .int .i64 0, .bool false], .int .i64 z]) (by simp [results, Tryz.results143, go_sem, k0, k1, k2]) rfl ?_
    exact ⟨rfl, HBF.out⟩
  | ok v =>
    obtain ⟨vk, vn, vb⟩ := v
    have HTA : Hid (Calls _ _ _ _ fun e w'' => e = .returned (.tuple #[.int .i64 vn, .int .i64 0]) ∧ _) := HTA
    rw [thn_ok]
    cases Q2 with
    | er z =>
      have hz := fine_nz hG z rfl
      have hz1 : (z == 0) = false := by simpa using hz
      have hz2 : (z != 0) = true := by simp [bne, hz1]
      rw [thn_er]
      have HTB : Hid (∀ w0, Below W2.heap.size W2 w0 → Calls _ _ _ w0 fun e w'' => e = .returned (.tuple #[.int .i64 0, .int .i64 z]) ∧ Below w0.heap.size w0 w'') := HTB
      show Calls _ _ _ _ fun e w'' => e = .returned (.tuple #[.agg #[.int .u8 0, .int .i64 0, .bool false], .int .i64 z]) ∧ _
      clear hF hG hz
      go_enter Tryz.func143, Tryz.ntmps143
      go_wp2_with fail
      rw [← HW2.out]
      refine HTA.out.mono ?_
      rintro e w1 ⟨rfl, hb⟩
      obtain ⟨⟨x0, x1⟩, ⟨y0, y3, y4⟩, ⟨k0, k1, k2⟩, f0, f1, f2⟩ := (HX.out.below hb).cells
      have HT2 := Lib.hid (HTB.out w1 hb)
      have HB1 := Lib.hid hb
      clear hb HTB
      go_wp2_with fail
      refine HT2.out.mono ?_
      rintro e w2 ⟨rfl, hb⟩
      have hb := HB1.out.trans (hb.mono HB1.out.size)
      clear k0 k1 k2 f0 f1 f2 x0 x1 y0 y3 y4
      obtain ⟨⟨x0, x1⟩, ⟨y0, y3, y4⟩, ⟨k0, k1, k2⟩, f0, f1, f2⟩ := (HX.out.below hb).cells
      have HBF := Lib.hid ((((HB2.out.trans (hb.mono HB2.out.size)).setCell (p := ⟨w'.heap.size + 1 + 1, 0, none⟩) (Nat.le_trans (Nat.le_succ _) (Nat.le_succ _)) (.int .u8 0)).setCell (p := ⟨w'.heap.size + 1 + 1, 1, none⟩) (Nat.le_trans (Nat.le_succ _) (Nat.le_succ _)) (.int .i64 0)).setCell (p := ⟨w'.heap.size + 1 + 1, 2, none⟩) (Nat.le_trans (Nat.le_succ _) (Nat.le_succ _)) (.bool false))
      clear hb
      go_wp2
      refine bodyPost_ret (v := .tuple #[.agg #[.int .u8 0, .int .i64 0, .bool false], .int .i64 z]) (by simp [results, Tryz.results143, go_sem, k0, k1, k2]) rfl ?_
      exact ⟨rfl, HBF.out⟩
    | ok u =>
      obtain ⟨uk, un, ub⟩ := u
      have HTB : Hid (∀ w0, Below W2.heap.size W2 w0 → Calls _ _ _ w0 fun e w'' => e = .returned (.tuple #[.int .i64 un, .int .i64 0]) ∧ Below w0.heap.size w0 w'') := HTB
      rw [thn_ok]
      simp only
      have e2 : Ev.pair 7 vn un = Ev.rk (Nu.tell (vn * un)) := rfl
      rw [e2]
      clear e2
      have HM : Hid (∀ w0, Calls Tryz.prog 197 #[.int .i64 vn, .int .i64 un] w0 fun e w'' => e = .returned (tv (Nu.tell (vn * un))) ∧ Below w0.heap.size w0 w'') := Lib.hid (fun w0 => rmul_any vn un w0 hF.1 hG.1)
      have HK0 := Lib.hid (fun x z w0 => rcounted_any x z w0)
      generalize Nu.tell (vn * un) = p at *
      obtain ⟨x, z⟩ := p
      have HK := Lib.hid (HK0.out x z)
      clear HK0 hF hG
      generalize resZ (Ev.rk (x, z)) = Z at *
      obtain ⟨⟨zk, zn, zb⟩, ze⟩ := Z
      unfold tv at HM
      unfold outZ vlA at HK ⊢
      simp only at HM HK ⊢
      go_enter Tryz.func143, Tryz.ntmps143
      go_wp2_with fail
      rw [← HW2.out]
      refine HTA.out.mono ?_
      rintro e w1 ⟨rfl, hb⟩
      obtain ⟨⟨x0, x1⟩, ⟨y0, y3, y4⟩, ⟨k0, k1, k2⟩, f0, f1, f2⟩ := (HX.out.below hb).cells
      have HT2 := Lib.hid (HTB.out w1 hb)
      have HB1 := Lib.hid hb
      clear hb HTB
      go_wp2_with fail
      refine HT2.out.mono ?_
      rintro e w2 ⟨rfl, hb⟩
      have hb := HB1.out.trans (hb.mono HB1.out.size)
      clear k0 k1 k2 f0 f1 f2 x0 x1 y0 y3 y4
      obtain ⟨⟨x0, x1⟩, ⟨y0, y3, y4⟩, ⟨k0, k1, k2⟩, f0, f1, f2⟩ := (HX.out.below hb).cells
      have HB9 := Lib.hid hb
      clear hb k0 k1 k2 f0 f1 f2
      go_wp2_with fail
      refine (HM.out _).mono ?_
      rintro e w3 ⟨rfl, hb3⟩
      go_wp2_with fail
      refine (HK.out _).mono ?_
      rintro e w4 ⟨rfl, hb4⟩
      have hb := HB9.out.trans ((hb3.trans (hb4.mono hb3.size)).mono HB9.out.size)
      clear hb3 hb4
      obtain ⟨-, -, ⟨k0, k1, k2⟩, f0, f1, f2⟩ := (HX.out.below hb).cells
      have HBF := Lib.hid ((((HB2.out.trans (hb.mono HB2.out.size)).setCell (p := ⟨w'.heap.size + 1 + 1, 0, none⟩) (Nat.le_trans (Nat.le_succ _) (Nat.le_succ _)) (.int .u8 (zk : Nat))).setCell (p := ⟨w'.heap.size + 1 + 1, 1, none⟩) (Nat.le_trans (Nat.le_succ _) (Nat.le_succ _)) (.int .i64 zn)).setCell (p := ⟨w'.heap.size + 1 + 1, 2, none⟩) (Nat.le_trans (Nat.le_succ _) (Nat.le_succ _)) (.bool zb))
      clear hb
      go_wp2
      refine bodyPost_ret (v := .tuple #[.agg #[.int .u8 (zk : Nat), .int .i64 zn, .bool zb], .int .i64 ze]) (by simp [results, Tryz.results143, go_sem, k0, k1, k2]) rfl ?_
      exact ⟨rfl, HBF.out⟩
set_option maxHeartbeats 2000000 in
set_option maxRecDepth 100000 in
theorem r10two8 (A : Option Addr) (n c : Nat) (A2 : Option Addr) (m c2 : Nat) (w : World) (num : Int) (N : ByteArray) (na nb nc : Int) (RA RB : Ev.Rz) (hFA : Ev.Fine RA) (hFB : Ev.Fine RB) (hA : RwC (lkA A n c A2 m c2) w na RA) (hB : RwC (lkA A n c A2 m c2) w nb RB) (w' : World) (hb' : Below w.heap.size w w') :
    Calls Tryz.prog 143 #[lkA A n c A2 m c2, ndX 8 num N na nb nc] w' fun e w'' => e = outZ (resZ (Ev.two 8 RA RB)) ∧ Below w'.heap.size w' w'' := by
  obtain ⟨W2, hW2⟩ : ∃ W2, W2 = ((w'.alloc (.cells #[.slice A n c, .slice A2 m c2] 155)).alloc (.cells #[.int .u8 8, .int .i64 num, .string N, .int .i64 na, .int .i64 nb, .int .i64 nc] 114)).alloc (.cells #[.int .u8 0, .int .i64 0, .bool false] 70) := ⟨_, rfl⟩
  have hb2 : Below w'.heap.size w' W2 := by rw [hW2]; exact (((Below.refl _ _).alloc (Nat.le_refl _) _).alloc (by simp) _).alloc (by simp; omega) _
  have hx : Bx4 W2 w'.heap.size A n c A2 m c2 8 num N na nb nc := by rw [hW2]; exact Bx4.new _ _ _ _ _ _ _ _ _ _ _ _ _
  have hbw := hb'.trans (hb2.mono hb'.size)
  have HTA := Lib.hid (r10number_any A n c A2 m c2 w na RA hFA hA W2 hbw); have HTB := Lib.hid (fun w0 (h0 : Below W2.heap.size W2 w0) => r10number_any A n c A2 m c2 w nb RB hFB hB w0 (hbw.trans (h0.mono hbw.size)))
  obtain ⟨⟨x0, x1⟩, ⟨y0, y3, y4⟩, -⟩ := hx.cells
  have HX := Lib.hid hx
  have HB2 := Lib.hid hb2
  have HW2 := Lib.hid hW2
  rw [hW2] at x0 x1 y0 y3 y4
  unfold lkA at *
  unfold ndX
  clear hb2 hx hb' hW2 hbw hA hB
  have e1 : Ev.two 8 RA RB = Ev.thn (Ev.prt RA 1) fun v => Ev.thn (Ev.prt RB 1) fun u => Ev.pair 8 v.n u.n := rfl
  rw [e1]
  clear e1
  have hF := Ev.fine_prt (k := 1) hFA
  have hG := Ev.fine_prt (k := 1) hFB
  clear hFA hFB
  generalize Ev.prt RA 1 = Q at *
  generalize Ev.prt RB 1 = Q2 at *
  cases Q with
  | er z =>
    have hz := fine_nz hF z rfl
    have hz1 : (z == 0) = false := by simpa using hz
    have hz2 : (z != 0) = true := by simp [bne, hz1]
    rw [thn_er]
    have HTA : Hid (Calls _ _ _ _ fun e w'' => e = .returned (.tuple #[.int .i64 0, .int .i64 z]) ∧ _) := HTA
    show Calls _ _ _ _ fun e w'' => e = .returned (.tuple #[.agg #[.int .u8 0, .int .i64 0, .bool false], .int .i64 z]) ∧ _
    clear hF hG hz
    go_enter Tryz.func143, Tryz.ntmps143
    go_wp2_with fail
    rw [← HW2.out]
    refine HTA.out.mono ?_
    rintro e w1 ⟨rfl, hb⟩
    obtain ⟨⟨x0, x1⟩, ⟨y0, y3, y4⟩, ⟨k0, k1, k2⟩, f0, f1, f2⟩ := (HX.out.below hb).cells
    have HBF := Lib.hid ((((HB2.out.trans (hb.mono HB2.out.size)).setCell (p := ⟨w'.heap.size + 1 + 1, 0, none⟩) (Nat.le_trans (Nat.le_succ _) (Nat.le_succ _)) (.int .u8 0)).setCell (p := ⟨w'.heap.size + 1 + 1, 1, none⟩) (Nat.le_trans (Nat.le_succ _) (Nat.le_succ _)) (.int .i64 0)).setCell (p := ⟨w'.heap.size + 1 + 1, 2, none⟩) (Nat.le_trans (Nat.le_succ _) (Nat.le_succ _)) (.bool false))
    clear hb
    go_wp2
    refine bodyPost_ret (v := .tuple #[.agg #[.int .u8 0, .int .i64 0, .bool false], .int .i64 z]) (by simp [results, Tryz.results143, go_sem, k0, k1, k2]) rfl ?_
    exact ⟨rfl, HBF.out⟩
  | ok v =>
    obtain ⟨vk, vn, vb⟩ := v
    have HTA : Hid (Calls _ _ _ _ fun e w'' => e = .returned (.tuple #[.int .i64 vn, .int .i64 0]) ∧ _) := HTA
    rw [thn_ok]
    cases Q2 with
    | er z =>
      have hz := fine_nz hG z rfl
      have hz1 : (z == 0) = false := by simpa using hz
      have hz2 : (z != 0) = true := by simp [bne, hz1]
      rw [thn_er]
      have HTB : Hid (∀ w0, Below W2.heap.size W2 w0 → Calls _ _ _ w0 fun e w'' => e = .returned (.tuple #[.int .i64 0, .int .i64 z]) ∧ Below w0.heap.size w0 w'') := HTB
      show Calls _ _ _ _ fun e w'' => e = .returned (.tuple #[.agg #[.int .u8 0, .int .i64 0, .bool false], .int .i64 z]) ∧ _
      clear hF hG hz
      go_enter Tryz.func143, Tryz.ntmps143
      go_wp2_with fail
      rw [← HW2.out]
      refine HTA.out.mono ?_
      rintro e w1 ⟨rfl, hb⟩
      obtain ⟨⟨x0, x1⟩, ⟨y0, y3, y4⟩, ⟨k0, k1, k2⟩, f0, f1, f2⟩ := (HX.out.below hb).cells
      have HT2 := Lib.hid (HTB.out w1 hb)
      have HB1 := Lib.hid hb
      clear hb HTB
      go_wp2_with fail
      refine HT2.out.mono ?_
      rintro e w2 ⟨rfl, hb⟩
      have hb := HB1.out.trans (hb.mono HB1.out.size)
      clear k0 k1 k2 f0 f1 f2 x0 x1 y0 y3 y4
      obtain ⟨⟨x0, x1⟩, ⟨y0, y3, y4⟩, ⟨k0, k1, k2⟩, f0, f1, f2⟩ := (HX.out.below hb).cells
      have HBF := Lib.hid ((((HB2.out.trans (hb.mono HB2.out.size)).setCell (p := ⟨w'.heap.size + 1 + 1, 0, none⟩) (Nat.le_trans (Nat.le_succ _) (Nat.le_succ _)) (.int .u8 0)).setCell (p := ⟨w'.heap.size + 1 + 1, 1, none⟩) (Nat.le_trans (Nat.le_succ _) (Nat.le_succ _)) (.int .i64 0)).setCell (p := ⟨w'.heap.size + 1 + 1, 2, none⟩) (Nat.le_trans (Nat.le_succ _) (Nat.le_succ _)) (.bool false))
      clear hb
      go_wp2
      refine bodyPost_ret (v := .tuple #[.agg #[.int .u8 0, .int .i64 0, .bool false], .int .i64 z]) (by simp [results, Tryz.results143, go_sem, k0, k1, k2]) rfl ?_
      exact ⟨rfl, HBF.out⟩
    | ok u =>
      obtain ⟨uk, un, ub⟩ := u
      have HTB : Hid (∀ w0, Below W2.heap.size W2 w0 → Calls _ _ _ w0 fun e w'' => e = .returned (.tuple #[.int .i64 un, .int .i64 0]) ∧ Below w0.heap.size w0 w'') := HTB
      rw [thn_ok]
      simp only
      have e2 : Ev.pair 8 vn un = Ev.rk (Ev.divv vn un) := rfl
      rw [e2]
      clear e2
      have HM : Hid (∀ w0, Calls Tryz.prog 198 #[.int .i64 vn, .int .i64 un] w0 fun e w'' => e = .returned (tv (Ev.divv vn un)) ∧ Below w0.heap.size w0 w'') := Lib.hid (fun w0 => rdiv_any vn un w0 hF.1 hG.1)
      have HK0 := Lib.hid (fun x z w0 => rcounted_any x z w0)
      generalize Ev.divv vn un = p at *
      obtain ⟨x, z⟩ := p
      have HK := Lib.hid (HK0.out x z)
      clear HK0 hF hG
      generalize resZ (Ev.rk (x, z)) = Z at *
      obtain ⟨⟨zk, zn, zb⟩, ze⟩ := Z
      unfold tv at HM
      unfold outZ vlA at HK ⊢
      simp only at HM HK ⊢
      go_enter Tryz.func143, Tryz.ntmps143
      go_wp2_with fail
      rw [← HW2.out]
      refine HTA.out.mono ?_
      rintro e w1 ⟨rfl, hb⟩
      obtain ⟨⟨x0, x1⟩, ⟨y0, y3, y4⟩, ⟨k0, k1, k2⟩, f0, f1, f2⟩ := (HX.out.below hb).cells
      have HT2 := Lib.hid (HTB.out w1 hb)
      have HB1 := Lib.hid hb
      clear hb HTB
      go_wp2_with fail
      refine HT2.out.mono ?_
      rintro e w2 ⟨rfl, hb⟩
      have hb := HB1.out.trans (hb.mono HB1.out.size)
      clear k0 k1 k2 f0 f1 f2 x0 x1 y0 y3 y4
      obtain ⟨⟨x0, x1⟩, ⟨y0, y3, y4⟩, ⟨k0, k1, k2⟩, f0, f1, f2⟩ := (HX.out.below hb).cells
      have HB9 := Lib.hid hb
      clear hb k0 k1 k2 f0 f1 f2
      go_wp2_with fail
      refine (HM.out _).mono ?_
      rintro e w3 ⟨rfl, hb3⟩
      go_wp2_with fail
      refine (HK.out _).mono ?_
      rintro e w4 ⟨rfl, hb4⟩
      have hb := HB9.out.trans ((hb3.trans (hb4.mono hb3.size)).mono HB9.out.size)
      clear hb3 hb4
      obtain ⟨-, -, ⟨k0, k1, k2⟩, f0, f1, f2⟩ := (HX.out.below hb).cells
      have HBF := Lib.hid ((((HB2.out.trans (hb.mono HB2.out.size)).setCell (p := ⟨w'.heap.size + 1 + 1, 0, none⟩) (Nat.le_trans (Nat.le_succ _) (Nat.le_succ _)) (.int .u8 (zk : Nat))).setCell (p := ⟨w'.heap.size + 1 + 1, 1, none⟩) (Nat.le_trans (Nat.le_succ _) (Nat.le_succ _)) (.int .i64 zn)).setCell (p := ⟨w'.heap.size + 1 + 1, 2, none⟩) (Nat.le_trans (Nat.le_succ _) (Nat.le_succ _)) (.bool zb))
      clear hb
      go_wp2
      refine bodyPost_ret (v := .tuple #[.agg #[.int .u8 (zk : Nat), .int .i64 zn, .bool zb], .int .i64 ze]) (by simp [results, Tryz.results143, go_sem, k0, k1, k2]) rfl ?_
      exact ⟨rfl, HBF.out⟩
set_option maxHeartbeats 2000000 in
set_option maxRecDepth 100000 in
theorem r10two9 (A : Option Addr) (n c : Nat) (A2 : Option Addr) (m c2 : Nat) (w : World) (num : Int) (N : ByteArray) (na nb nc : Int) (RA RB : Ev.Rz) (hFA : Ev.Fine RA) (hFB : Ev.Fine RB) (hA : RwC (lkA A n c A2 m c2) w na RA) (hB : RwC (lkA A n c A2 m c2) w nb RB) (w' : World) (hb' : Below w.heap.size w w') :
    Calls Tryz.prog 143 #[lkA A n c A2 m c2, ndX 9 num N na nb nc] w' fun e w'' => e = outZ (resZ (Ev.two 9 RA RB)) ∧ Below w'.heap.size w' w'' := by
  obtain ⟨W2, hW2⟩ : ∃ W2, W2 = ((w'.alloc (.cells #[.slice A n c, .slice A2 m c2] 155)).alloc (.cells #[.int .u8 9, .int .i64 num, .string N, .int .i64 na, .int .i64 nb, .int .i64 nc] 114)).alloc (.cells #[.int .u8 0, .int .i64 0, .bool false] 70) := ⟨_, rfl⟩
  have hb2 : Below w'.heap.size w' W2 := by rw [hW2]; exact (((Below.refl _ _).alloc (Nat.le_refl _) _).alloc (by simp) _).alloc (by simp; omega) _
  have hx : Bx4 W2 w'.heap.size A n c A2 m c2 9 num N na nb nc := by rw [hW2]; exact Bx4.new _ _ _ _ _ _ _ _ _ _ _ _ _
  have hbw := hb'.trans (hb2.mono hb'.size)
  have HTA := Lib.hid (r10number_any A n c A2 m c2 w na RA hFA hA W2 hbw); have HTB := Lib.hid (fun w0 (h0 : Below W2.heap.size W2 w0) => r10number_any A n c A2 m c2 w nb RB hFB hB w0 (hbw.trans (h0.mono hbw.size)))
  obtain ⟨⟨x0, x1⟩, ⟨y0, y3, y4⟩, -⟩ := hx.cells
  have HX := Lib.hid hx
  have HB2 := Lib.hid hb2
  have HW2 := Lib.hid hW2
  rw [hW2] at x0 x1 y0 y3 y4
  unfold lkA at *
  unfold ndX
  clear hb2 hx hb' hW2 hbw hA hB
  have e1 : Ev.two 9 RA RB = Ev.thn (Ev.prt RA 1) fun v => Ev.thn (Ev.prt RB 1) fun u => Ev.pair 9 v.n u.n := rfl
  rw [e1]
  clear e1
  have hF := Ev.fine_prt (k := 1) hFA
  have hG := Ev.fine_prt (k := 1) hFB
  clear hFA hFB
  generalize Ev.prt RA 1 = Q at *
  generalize Ev.prt RB 1 = Q2 at *
  cases Q with
  | er z =>
    have hz := fine_nz hF z rfl
    have hz1 : (z == 0) = false := by simpa using hz
    have hz2 : (z != 0) = true := by simp [bne, hz1]
    rw [thn_er]
    have HTA : Hid (Calls _ _ _ _ fun e w'' => e = .returned (.tuple #[.int .i64 0, .int .i64 z]) ∧ _) := HTA
    show Calls _ _ _ _ fun e w'' => e = .returned (.tuple #[.agg #[.int .u8 0, .int .i64 0, .bool false], .int .i64 z]) ∧ _
    clear hF hG hz
    go_enter Tryz.func143, Tryz.ntmps143
    go_wp2_with fail
    rw [← HW2.out]
    refine HTA.out.mono ?_
    rintro e w1 ⟨rfl, hb⟩
    obtain ⟨⟨x0, x1⟩, ⟨y0, y3, y4⟩, ⟨k0, k1, k2⟩, f0, f1, f2⟩ := (HX.out.below hb).cells
    have HBF := Lib.hid ((((HB2.out.trans (hb.mono HB2.out.size)).setCell (p := ⟨w'.heap.size + 1 + 1, 0, none⟩) (Nat.le_trans (Nat.le_succ _) (Nat.le_succ _)) (.int .u8 0)).setCell (p := ⟨w'.heap.size + 1 + 1, 1, none⟩) (Nat.le_trans (Nat.le_succ _) (Nat.le_succ _)) (.int .i64 0)).setCell (p := ⟨w'.heap.size + 1 + 1, 2, none⟩) (Nat.le_trans (Nat.le_succ _) (Nat.le_succ _)) (.bool false))
    clear hb
    go_wp2
    refine bodyPost_ret (v := .tuple #[.agg #[.int .u8 0, .int .i64 0, .bool false], .int .i64 z]) (by simp [results, Tryz.results143, go_sem, k0, k1, k2]) rfl ?_
    exact ⟨rfl, HBF.out⟩
  | ok v =>
    obtain ⟨vk, vn, vb⟩ := v
    have HTA : Hid (Calls _ _ _ _ fun e w'' => e = .returned (.tuple #[.int .i64 vn, .int .i64 0]) ∧ _) := HTA
    rw [thn_ok]
    cases Q2 with
    | er z =>
      have hz := fine_nz hG z rfl
      have hz1 : (z == 0) = false := by simpa using hz
      have hz2 : (z != 0) = true := by simp [bne, hz1]
      rw [thn_er]
      have HTB : Hid (∀ w0, Below W2.heap.size W2 w0 → Calls _ _ _ w0 fun e w'' => e = .returned (.tuple #[.int .i64 0, .int .i64 z]) ∧ Below w0.heap.size w0 w'') := HTB
      show Calls _ _ _ _ fun e w'' => e = .returned (.tuple #[.agg #[.int .u8 0, .int .i64 0, .bool false], .int .i64 z]) ∧ _
      clear hF hG hz
      go_enter Tryz.func143, Tryz.ntmps143
      go_wp2_with fail
      rw [← HW2.out]
      refine HTA.out.mono ?_
      rintro e w1 ⟨rfl, hb⟩
      obtain ⟨⟨x0, x1⟩, ⟨y0, y3, y4⟩, ⟨k0, k1, k2⟩, f0, f1, f2⟩ := (HX.out.below hb).cells
      have HT2 := Lib.hid (HTB.out w1 hb)
      have HB1 := Lib.hid hb
      clear hb HTB
      go_wp2_with fail
      refine HT2.out.mono ?_
      rintro e w2 ⟨rfl, hb⟩
      have hb := HB1.out.trans (hb.mono HB1.out.size)
      clear k0 k1 k2 f0 f1 f2 x0 x1 y0 y3 y4
      obtain ⟨⟨x0, x1⟩, ⟨y0, y3, y4⟩, ⟨k0, k1, k2⟩, f0, f1, f2⟩ := (HX.out.below hb).cells
      have HBF := Lib.hid ((((HB2.out.trans (hb.mono HB2.out.size)).setCell (p := ⟨w'.heap.size + 1 + 1, 0, none⟩) (Nat.le_trans (Nat.le_succ _) (Nat.le_succ _)) (.int .u8 0)).setCell (p := ⟨w'.heap.size + 1 + 1, 1, none⟩) (Nat.le_trans (Nat.le_succ _) (Nat.le_succ _)) (.int .i64 0)).setCell (p := ⟨w'.heap.size + 1 + 1, 2, none⟩) (Nat.le_trans (Nat.le_succ _) (Nat.le_succ _)) (.bool false))
      clear hb
      go_wp2
      refine bodyPost_ret (v := .tuple #[.agg #[.int .u8 0, .int .i64 0, .bool false], .int .i64 z]) (by simp [results, Tryz.results143, go_sem, k0, k1, k2]) rfl ?_
      exact ⟨rfl, HBF.out⟩
    | ok u =>
      obtain ⟨uk, un, ub⟩ := u
      have HTB : Hid (∀ w0, Below W2.heap.size W2 w0 → Calls _ _ _ w0 fun e w'' => e = .returned (.tuple #[.int .i64 un, .int .i64 0]) ∧ Below w0.heap.size w0 w'') := HTB
      rw [thn_ok]
      simp only
      have e2 : Ev.pair 9 vn un = Ev.rk (Ev.modv vn un) := rfl
      rw [e2]
      clear e2
      have HM : Hid (∀ w0, Calls Tryz.prog 199 #[.int .i64 vn, .int .i64 un] w0 fun e w'' => e = .returned (tv (Ev.modv vn un)) ∧ Below w0.heap.size w0 w'') := Lib.hid (fun w0 => rmod_any vn un w0 hF.1 hG.1)
      have HK0 := Lib.hid (fun x z w0 => rcounted_any x z w0)
      generalize Ev.modv vn un = p at *
      obtain ⟨x, z⟩ := p
      have HK := Lib.hid (HK0.out x z)
      clear HK0 hF hG
      generalize resZ (Ev.rk (x, z)) = Z at *
      obtain ⟨⟨zk, zn, zb⟩, ze⟩ := Z
      unfold tv at HM
      unfold outZ vlA at HK ⊢
      simp only at HM HK ⊢
      go_enter Tryz.func143, Tryz.ntmps143
      go_wp2_with fail
      rw [← HW2.out]
      refine HTA.out.mono ?_
      rintro e w1 ⟨rfl, hb⟩
      obtain ⟨⟨x0, x1⟩, ⟨y0, y3, y4⟩, ⟨k0, k1, k2⟩, f0, f1, f2⟩ := (HX.out.below hb).cells
      have HT2 := Lib.hid (HTB.out w1 hb)
      have HB1 := Lib.hid hb
      clear hb HTB
      go_wp2_with fail
      refine HT2.out.mono ?_
      rintro e w2 ⟨rfl, hb⟩
      have hb := HB1.out.trans (hb.mono HB1.out.size)
      clear k0 k1 k2 f0 f1 f2 x0 x1 y0 y3 y4
      obtain ⟨⟨x0, x1⟩, ⟨y0, y3, y4⟩, ⟨k0, k1, k2⟩, f0, f1, f2⟩ := (HX.out.below hb).cells
      have HB9 := Lib.hid hb
      clear hb k0 k1 k2 f0 f1 f2
      go_wp2_with fail
      refine (HM.out _).mono ?_
      rintro e w3 ⟨rfl, hb3⟩
      go_wp2_with fail
      refine (HK.out _).mono ?_
      rintro e w4 ⟨rfl, hb4⟩
      have hb := HB9.out.trans ((hb3.trans (hb4.mono hb3.size)).mono HB9.out.size)
      clear hb3 hb4
      obtain ⟨-, -, ⟨k0, k1, k2⟩, f0, f1, f2⟩ := (HX.out.below hb).cells
      have HBF := Lib.hid ((((HB2.out.trans (hb.mono HB2.out.size)).setCell (p := ⟨w'.heap.size + 1 + 1, 0, none⟩) (Nat.le_trans (Nat.le_succ _) (Nat.le_succ _)) (.int .u8 (zk : Nat))).setCell (p := ⟨w'.heap.size + 1 + 1, 1, none⟩) (Nat.le_trans (Nat.le_succ _) (Nat.le_succ _)) (.int .i64 zn)).setCell (p := ⟨w'.heap.size + 1 + 1, 2, none⟩) (Nat.le_trans (Nat.le_succ _) (Nat.le_succ _)) (.bool zb))
      clear hb
      go_wp2
      refine bodyPost_ret (v := .tuple #[.agg #[.int .u8 (zk : Nat), .int .i64 zn, .bool zb], .int .i64 ze]) (by simp [results, Tryz.results143, go_sem, k0, k1, k2]) rfl ?_
      exact ⟨rfl, HBF.out⟩
set_option maxHeartbeats 2000000 in
set_option maxRecDepth 100000 in
theorem r10two10 (A : Option Addr) (n c : Nat) (A2 : Option Addr) (m c2 : Nat) (w : World) (num : Int) (N : ByteArray) (na nb nc : Int) (RA RB : Ev.Rz) (hFA : Ev.Fine RA) (hFB : Ev.Fine RB) (hA : RwC (lkA A n c A2 m c2) w na RA) (hB : RwC (lkA A n c A2 m c2) w nb RB) (w' : World) (hb' : Below w.heap.size w w') :
    Calls Tryz.prog 143 #[lkA A n c A2 m c2, ndX 10 num N na nb nc] w' fun e w'' => e = outZ (resZ (Ev.two 10 RA RB)) ∧ Below w'.heap.size w' w'' := by
  obtain ⟨W2, hW2⟩ : ∃ W2, W2 = ((w'.alloc (.cells #[.slice A n c, .slice A2 m c2] 155)).alloc (.cells #[.int .u8 10, .int .i64 num, .string N, .int .i64 na, .int .i64 nb, .int .i64 nc] 114)).alloc (.cells #[.int .u8 0, .int .i64 0, .bool false] 70) := ⟨_, rfl⟩
  have hb2 : Below w'.heap.size w' W2 := by rw [hW2]; exact (((Below.refl _ _).alloc (Nat.le_refl _) _).alloc (by simp) _).alloc (by simp; omega) _
  have hx : Bx4 W2 w'.heap.size A n c A2 m c2 10 num N na nb nc := by rw [hW2]; exact Bx4.new _ _ _ _ _ _ _ _ _ _ _ _ _
  have hbw := hb'.trans (hb2.mono hb'.size)
  have HTA := Lib.hid (r10number_any A n c A2 m c2 w na RA hFA hA W2 hbw); have HTB := Lib.hid (fun w0 (h0 : Below W2.heap.size W2 w0) => r10number_any A n c A2 m c2 w nb RB hFB hB w0 (hbw.trans (h0.mono hbw.size)))
  obtain ⟨⟨x0, x1⟩, ⟨y0, y3, y4⟩, -⟩ := hx.cells
  have HX := Lib.hid hx
  have HB2 := Lib.hid hb2
  have HW2 := Lib.hid hW2
  rw [hW2] at x0 x1 y0 y3 y4
  unfold lkA at *
  unfold ndX
  clear hb2 hx hb' hW2 hbw hA hB
  have e1 : Ev.two 10 RA RB = Ev.thn (Ev.prt RA 1) fun v => Ev.thn (Ev.prt RB 1) fun u => Ev.pair 10 v.n u.n := rfl
  rw [e1]
  clear e1
  have hF := Ev.fine_prt (k := 1) hFA
  have hG := Ev.fine_prt (k := 1) hFB
  clear hFA hFB
  generalize Ev.prt RA 1 = Q at *
  generalize Ev.prt RB 1 = Q2 at *
  cases Q with
  | er z =>
    have hz := fine_nz hF z rfl
    have hz1 : (z == 0) = false := by simpa using hz
    have hz2 : (z != 0) = true := by simp [bne, hz1]
    rw [thn_er]
    have HTA : Hid (Calls _ _ _ _ fun e w'' => e = .returned (.tuple #[.int .i64 0, .int .i64 z]) ∧ _) := HTA
    show Calls _ _ _ _ fun e w'' => e = .returned (.tuple #[.agg #[.int .u8 0, .int .i64 0, .bool false], .int .i64 z]) ∧ _
    clear hF hG hz
    go_enter Tryz.func143, Tryz.ntmps143
    go_wp2_with fail
    rw [← HW2.out]
    refine HTA.out.mono ?_
    rintro e w1 ⟨rfl, hb⟩
    obtain ⟨⟨x0, x1⟩, ⟨y0, y3, y4⟩, ⟨k0, k1, k2⟩, f0, f1, f2⟩ := (HX.out.below hb).cells
    have HBF := Lib.hid ((((HB2.out.trans (hb.mono HB2.out.size)).setCell (p := ⟨w'.heap.size + 1 + 1, 0, none⟩) (Nat.le_trans (Nat.le_succ _) (Nat.le_succ _)) (.int .u8 0)).setCell (p := ⟨w'.heap.size + 1 + 1, 1, none⟩) (Nat.le_trans (Nat.le_succ _) (Nat.le_succ _)) (.int .i64 0)).setCell (p := ⟨w'.heap.size + 1 + 1, 2, none⟩) (Nat.le_trans (Nat.le_succ _) (Nat.le_succ _)) (.bool false))
    clear hb
    go_wp2
    refine bodyPost_ret (v := .tuple #[.agg #[.int .u8 0, .int .i64 0, .bool false], .int .i64 z]) (by simp [results, Tryz.results143, go_sem, k0, k1, k2]) rfl ?_
    exact ⟨rfl, HBF.out⟩
  | ok v =>
    obtain ⟨vk, vn, vb⟩ := v
    have HTA : Hid (Calls _ _ _ _ fun e w'' => e = .returned (.tuple #[.int .i64 vn, .int .i64 0]) ∧ _) := HTA
    rw [thn_ok]
    cases Q2 with
    | er z =>
      have hz := fine_nz hG z rfl
      have hz1 : (z == 0) = false := by simpa using hz
      have hz2 : (z != 0) = true := by simp [bne, hz1]
      rw [thn_er]
      have HTB : Hid (∀ w0, Below W2.heap.size W2 w0 → Calls _ _ _ w0 fun e w'' => e = .returned (.tuple #[.int .i64 0, .int .i64 z]) ∧ Below w0.heap.size w0 w'') := HTB
      show Calls _ _ _ _ fun e w'' => e = .returned (.tuple #[.agg #[.int .u8 0, .int .i64 0, .bool false], .int .i64 z]) ∧ _
      clear hF hG hz
      go_enter Tryz.func143, Tryz.ntmps143
      go_wp2_with fail
      rw [← HW2.out]
      refine HTA.out.mono ?_
      rintro e w1 ⟨rfl, hb⟩
      obtain ⟨⟨x0, x1⟩, ⟨y0, y3, y4⟩, ⟨k0, k1, k2⟩, f0, f1, f2⟩ := (HX.out.below hb).cells
      have HT2 := Lib.hid (HTB.out w1 hb)
      have HB1 := Lib.hid hb
      clear hb HTB
      go_wp2_with fail
      refine HT2.out.mono ?_
      rintro e w2 ⟨rfl, hb⟩
      have hb := HB1.out.trans (hb.mono HB1.out.size)
      clear k0 k1 k2 f0 f1 f2 x0 x1 y0 y3 y4
      obtain ⟨⟨x0, x1⟩, ⟨y0, y3, y4⟩, ⟨k0, k1, k2⟩, f0, f1, f2⟩ := (HX.out.below hb).cells
      have HBF := Lib.hid ((((HB2.out.trans (hb.mono HB2.out.size)).setCell (p := ⟨w'.heap.size + 1 + 1, 0, none⟩) (Nat.le_trans (Nat.le_succ _) (Nat.le_succ _)) (.int .u8 0)).setCell (p := ⟨w'.heap.size + 1 + 1, 1, none⟩) (Nat.le_trans (Nat.le_succ _) (Nat.le_succ _)) (.int .i64 0)).setCell (p := ⟨w'.heap.size + 1 + 1, 2, none⟩) (Nat.le_trans (Nat.le_succ _) (Nat.le_succ _)) (.bool false))
      clear hb
      go_wp2
      refine bodyPost_ret (v := .tuple #[.agg #[.int .u8 0, .int .i64 0, .bool false], .int .i64 z]) (by simp [results, Tryz.results143, go_sem, k0, k1, k2]) rfl ?_
      exact ⟨rfl, HBF.out⟩
    | ok u =>
      obtain ⟨uk, un, ub⟩ := u
      have HTB : Hid (∀ w0, Below W2.heap.size W2 w0 → Calls _ _ _ w0 fun e w'' => e = .returned (.tuple #[.int .i64 un, .int .i64 0]) ∧ Below w0.heap.size w0 w'') := HTB
      rw [thn_ok]
      simp only
      have e2 : Ev.pair 10 vn un = Ev.rk (Nu.tell (vn + un)) := rfl
      rw [e2]
      clear e2
      have HM : Hid (∀ w0, Calls Tryz.prog 200 #[.int .i64 vn, .int .i64 un] w0 fun e w'' => e = .returned (tv (Nu.tell (vn + un))) ∧ Below w0.heap.size w0 w'') := Lib.hid (fun w0 => radd_any vn un w0 hF.1 hG.1)
      have HK0 := Lib.hid (fun x z w0 => rcounted_any x z w0)
      generalize Nu.tell (vn + un) = p at *
      obtain ⟨x, z⟩ := p
      have HK := Lib.hid (HK0.out x z)
      clear HK0 hF hG
      generalize resZ (Ev.rk (x, z)) = Z at *
      obtain ⟨⟨zk, zn, zb⟩, ze⟩ := Z
      unfold tv at HM
      unfold outZ vlA at HK ⊢
      simp only at HM HK ⊢
      go_enter Tryz.func143, Tryz.ntmps143
      go_wp2_with fail
      rw [← HW2.out]
      refine HTA.out.mono ?_
      rintro e w1 ⟨rfl, hb⟩
      obtain ⟨⟨x0, x1⟩, ⟨y0, y3, y4⟩, ⟨k0, k1, k2⟩, f0, f1, f2⟩ := (HX.out.below hb).cells
      have HT2 := Lib.hid (HTB.out w1 hb)
      have HB1 := Lib.hid hb
      clear hb HTB
      go_wp2_with fail
      refine HT2.out.mono ?_
      rintro e w2 ⟨rfl, hb⟩
      have hb := HB1.out.trans (hb.mono HB1.out.size)
      clear k0 k1 k2 f0 f1 f2 x0 x1 y0 y3 y4
      obtain ⟨⟨x0, x1⟩, ⟨y0, y3, y4⟩, ⟨k0, k1, k2⟩, f0, f1, f2⟩ := (HX.out.below hb).cells
      have HB9 := Lib.hid hb
      clear hb k0 k1 k2 f0 f1 f2
      go_wp2_with fail
      refine (HM.out _).mono ?_
      rintro e w3 ⟨rfl, hb3⟩
      go_wp2_with fail
      refine (HK.out _).mono ?_
      rintro e w4 ⟨rfl, hb4⟩
      have hb := HB9.out.trans ((hb3.trans (hb4.mono hb3.size)).mono HB9.out.size)
      clear hb3 hb4
      obtain ⟨-, -, ⟨k0, k1, k2⟩, f0, f1, f2⟩ := (HX.out.below hb).cells
      have HBF := Lib.hid ((((HB2.out.trans (hb.mono HB2.out.size)).setCell (p := ⟨w'.heap.size + 1 + 1, 0, none⟩) (Nat.le_trans (Nat.le_succ _) (Nat.le_succ _)) (.int .u8 (zk : Nat))).setCell (p := ⟨w'.heap.size + 1 + 1, 1, none⟩) (Nat.le_trans (Nat.le_succ _) (Nat.le_succ _)) (.int .i64 zn)).setCell (p := ⟨w'.heap.size + 1 + 1, 2, none⟩) (Nat.le_trans (Nat.le_succ _) (Nat.le_succ _)) (.bool zb))
      clear hb
      go_wp2
      refine bodyPost_ret (v := .tuple #[.agg #[.int .u8 (zk : Nat), .int .i64 zn, .bool zb], .int .i64 ze]) (by simp [results, Tryz.results143, go_sem, k0, k1, k2]) rfl ?_
      exact ⟨rfl, HBF.out⟩
set_option maxHeartbeats 2000000 in
set_option maxRecDepth 100000 in
theorem r10two11 (A : Option Addr) (n c : Nat) (A2 : Option Addr) (m c2 : Nat) (w : World) (num : Int) (N : ByteArray) (na nb nc : Int) (RA RB : Ev.Rz) (hFA : Ev.Fine RA) (hFB : Ev.Fine RB) (hA : RwC (lkA A n c A2 m c2) w na RA) (hB : RwC (lkA A n c A2 m c2) w nb RB) (w' : World) (hb' : Below w.heap.size w w') :
    Calls Tryz.prog 143 #[lkA A n c A2 m c2, ndX 11 num N na nb nc] w' fun e w'' => e = outZ (resZ (Ev.two 11 RA RB)) ∧ Below w'.heap.size w' w'' := by
  obtain ⟨W2, hW2⟩ : ∃ W2, W2 = ((w'.alloc (.cells #[.slice A n c, .slice A2 m c2] 155)).alloc (.cells #[.int .u8 11, .int .i64 num, .string N, .int .i64 na, .int .i64 nb, .int .i64 nc] 114)).alloc (.cells #[.int .u8 0, .int .i64 0, .bool false] 70) := ⟨_, rfl⟩
  have hb2 : Below w'.heap.size w' W2 := by rw [hW2]; exact (((Below.refl _ _).alloc (Nat.le_refl _) _).alloc (by simp) _).alloc (by simp; omega) _
  have hx : Bx4 W2 w'.heap.size A n c A2 m c2 11 num N na nb nc := by rw [hW2]; exact Bx4.new _ _ _ _ _ _ _ _ _ _ _ _ _
  have hbw := hb'.trans (hb2.mono hb'.size)
  have HTA := Lib.hid (r10number_any A n c A2 m c2 w na RA hFA hA W2 hbw); have HTB := Lib.hid (fun w0 (h0 : Below W2.heap.size W2 w0) => r10number_any A n c A2 m c2 w nb RB hFB hB w0 (hbw.trans (h0.mono hbw.size)))
  obtain ⟨⟨x0, x1⟩, ⟨y0, y3, y4⟩, -⟩ := hx.cells
  have HX := Lib.hid hx
  have HB2 := Lib.hid hb2
  have HW2 := Lib.hid hW2
  rw [hW2] at x0 x1 y0 y3 y4
  unfold lkA at *
  unfold ndX
  clear hb2 hx hb' hW2 hbw hA hB
  have e1 : Ev.two 11 RA RB = Ev.thn (Ev.prt RA 1) fun v => Ev.thn (Ev.prt RB 1) fun u => Ev.pair 11 v.n u.n := rfl
  rw [e1]
  clear e1
  have hF := Ev.fine_prt (k := 1) hFA
  have hG := Ev.fine_prt (k := 1) hFB
  clear hFA hFB
  generalize Ev.prt RA 1 = Q at *
  generalize Ev.prt RB 1 = Q2 at *
  cases Q with
  | er z =>
    have hz := fine_nz hF z rfl
    have hz1 : (z == 0) = false := by simpa using hz
    have hz2 : (z != 0) = true := by simp [bne, hz1]
    rw [thn_er]
    have HTA : Hid (Calls _ _ _ _ fun e w'' => e = .returned (.tuple #[.int .i64 0, .int .i64 z]) ∧ _) := HTA
    show Calls _ _ _ _ fun e w'' => e = .returned (.tuple #[.agg #[.int .u8 0, .int .i64 0, .bool false], .int .i64 z]) ∧ _
    clear hF hG hz
    go_enter Tryz.func143, Tryz.ntmps143
    go_wp2_with fail
    rw [← HW2.out]
    refine HTA.out.mono ?_
    rintro e w1 ⟨rfl, hb⟩
    obtain ⟨⟨x0, x1⟩, ⟨y0, y3, y4⟩, ⟨k0, k1, k2⟩, f0, f1, f2⟩ := (HX.out.below hb).cells
    have HBF := Lib.hid ((((HB2.out.trans (hb.mono HB2.out.size)).setCell (p := ⟨w'.heap.size + 1 + 1, 0, none⟩) (Nat.le_trans (Nat.le_succ _) (Nat.le_succ _)) (.int .u8 0)).setCell (p := ⟨w'.heap.size + 1 + 1, 1, none⟩) (Nat.le_trans (Nat.le_succ _) (Nat.le_succ _)) (.int .i64 0)).setCell (p := ⟨w'.heap.size + 1 + 1, 2, none⟩) (Nat.le_trans (Nat.le_succ _) (Nat.le_succ _)) (.bool false))
    clear hb
    go_wp2
    refine bodyPost_ret (v := .tuple #[.agg #[.int .u8 0, .int .i64 0, .bool false], .int .i64 z]) (by simp [results, Tryz.results143, go_sem, k0, k1, k2]) rfl ?_
    exact ⟨rfl, HBF.out⟩
  | ok v =>
    obtain ⟨vk, vn, vb⟩ := v
    have HTA : Hid (Calls _ _ _ _ fun e w'' => e = .returned (.tuple #[.int .i64 vn, .int .i64 0]) ∧ _) := HTA
    rw [thn_ok]
    cases Q2 with
    | er z =>
      have hz := fine_nz hG z rfl
      have hz1 : (z == 0) = false := by simpa using hz
      have hz2 : (z != 0) = true := by simp [bne, hz1]
      rw [thn_er]
      have HTB : Hid (∀ w0, Below W2.heap.size W2 w0 → Calls _ _ _ w0 fun e w'' => e = .returned (.tuple #[.int .i64 0, .int .i64 z]) ∧ Below w0.heap.size w0 w'') := HTB
      show Calls _ _ _ _ fun e w'' => e = .returned (.tuple #[.agg #[.int .u8 0, .int .i64 0, .bool false], .int .i64 z]) ∧ _
      clear hF hG hz
      go_enter Tryz.func143, Tryz.ntmps143
      go_wp2_with fail
      rw [← HW2.out]
      refine HTA.out.mono ?_
      rintro e w1 ⟨rfl, hb⟩
      obtain ⟨⟨x0, x1⟩, ⟨y0, y3, y4⟩, ⟨k0, k1, k2⟩, f0, f1, f2⟩ := (HX.out.below hb).cells
      have HT2 := Lib.hid (HTB.out w1 hb)
      have HB1 := Lib.hid hb
      clear hb HTB
      go_wp2_with fail
      refine HT2.out.mono ?_
      rintro e w2 ⟨rfl, hb⟩
      have hb := HB1.out.trans (hb.mono HB1.out.size)
      clear k0 k1 k2 f0 f1 f2 x0 x1 y0 y3 y4
      obtain ⟨⟨x0, x1⟩, ⟨y0, y3, y4⟩, ⟨k0, k1, k2⟩, f0, f1, f2⟩ := (HX.out.below hb).cells
      have HBF := Lib.hid ((((HB2.out.trans (hb.mono HB2.out.size)).setCell (p := ⟨w'.heap.size + 1 + 1, 0, none⟩) (Nat.le_trans (Nat.le_succ _) (Nat.le_succ _)) (.int .u8 0)).setCell (p := ⟨w'.heap.size + 1 + 1, 1, none⟩) (Nat.le_trans (Nat.le_succ _) (Nat.le_succ _)) (.int .i64 0)).setCell (p := ⟨w'.heap.size + 1 + 1, 2, none⟩) (Nat.le_trans (Nat.le_succ _) (Nat.le_succ _)) (.bool false))
      clear hb
      go_wp2
      refine bodyPost_ret (v := .tuple #[.agg #[.int .u8 0, .int .i64 0, .bool false], .int .i64 z]) (by simp [results, Tryz.results143, go_sem, k0, k1, k2]) rfl ?_
      exact ⟨rfl, HBF.out⟩
    | ok u =>
      obtain ⟨uk, un, ub⟩ := u
      have HTB : Hid (∀ w0, Below W2.heap.size W2 w0 → Calls _ _ _ w0 fun e w'' => e = .returned (.tuple #[.int .i64 un, .int .i64 0]) ∧ Below w0.heap.size w0 w'') := HTB
      rw [thn_ok]
      simp only
      have e2 : Ev.pair 11 vn un = Ev.rk (Nu.tell (vn - un)) := rfl
      rw [e2]
      clear e2
      have HM : Hid (∀ w0, Calls Tryz.prog 201 #[.int .i64 vn, .int .i64 un] w0 fun e w'' => e = .returned (tv (Nu.tell (vn - un))) ∧ Below w0.heap.size w0 w'') := Lib.hid (fun w0 => rsub_any vn un w0 hF.1 hG.1)
      have HK0 := Lib.hid (fun x z w0 => rcounted_any x z w0)
      generalize Nu.tell (vn - un) = p at *
      obtain ⟨x, z⟩ := p
      have HK := Lib.hid (HK0.out x z)
      clear HK0 hF hG
      generalize resZ (Ev.rk (x, z)) = Z at *
      obtain ⟨⟨zk, zn, zb⟩, ze⟩ := Z
      unfold tv at HM
      unfold outZ vlA at HK ⊢
      simp only at HM HK ⊢
      go_enter Tryz.func143, Tryz.ntmps143
      go_wp2_with fail
      rw [← HW2.out]
      refine HTA.out.mono ?_
      rintro e w1 ⟨rfl, hb⟩
      obtain ⟨⟨x0, x1⟩, ⟨y0, y3, y4⟩, ⟨k0, k1, k2⟩, f0, f1, f2⟩ := (HX.out.below hb).cells
      have HT2 := Lib.hid (HTB.out w1 hb)
      have HB1 := Lib.hid hb
      clear hb HTB
      go_wp2_with fail
      refine HT2.out.mono ?_
      rintro e w2 ⟨rfl, hb⟩
      have hb := HB1.out.trans (hb.mono HB1.out.size)
      clear k0 k1 k2 f0 f1 f2 x0 x1 y0 y3 y4
      obtain ⟨⟨x0, x1⟩, ⟨y0, y3, y4⟩, ⟨k0, k1, k2⟩, f0, f1, f2⟩ := (HX.out.below hb).cells
      have HB9 := Lib.hid hb
      clear hb k0 k1 k2 f0 f1 f2
      go_wp2_with fail
      refine (HM.out _).mono ?_
      rintro e w3 ⟨rfl, hb3⟩
      go_wp2_with fail
      refine (HK.out _).mono ?_
      rintro e w4 ⟨rfl, hb4⟩
      have hb := HB9.out.trans ((hb3.trans (hb4.mono hb3.size)).mono HB9.out.size)
      clear hb3 hb4
      obtain ⟨-, -, ⟨k0, k1, k2⟩, f0, f1, f2⟩ := (HX.out.below hb).cells
      have HBF := Lib.hid ((((HB2.out.trans (hb.mono HB2.out.size)).setCell (p := ⟨w'.heap.size + 1 + 1, 0, none⟩) (Nat.le_trans (Nat.le_succ _) (Nat.le_succ _)) (.int .u8 (zk : Nat))).setCell (p := ⟨w'.heap.size + 1 + 1, 1, none⟩) (Nat.le_trans (Nat.le_succ _) (Nat.le_succ _)) (.int .i64 zn)).setCell (p := ⟨w'.heap.size + 1 + 1, 2, none⟩) (Nat.le_trans (Nat.le_succ _) (Nat.le_succ _)) (.bool zb))
      clear hb
      go_wp2
      refine bodyPost_ret (v := .tuple #[.agg #[.int .u8 (zk : Nat), .int .i64 zn, .bool zb], .int .i64 ze]) (by simp [results, Tryz.results143, go_sem, k0, k1, k2]) rfl ?_
      exact ⟨rfl, HBF.out⟩
end Go.Proofs.YtdcjpinbflmikaaGreatDoor
