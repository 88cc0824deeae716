/- Facts and walks for the statement. -/
import Derived.Test.YtdcjpinbflmikaaGreatDoorPzW17
import Derived.Test.YtdcjpinbflmikaaGreatDoorPzW16
import Derived.Defers
import Derived.Recover
namespace Go.Proofs.YtdcjpinbflmikaaGreatDoor
open Go.RowKit Ex
set_option maxHeartbeats 2000000 in
set_option maxRecDepth 100000 in
theorem worth22 {w : World} {A : Option Addr} {l : List Nd} {c mb m pb : Nat} {bs : List Ev.Bd} (E : EvC w A l c mb m pb bs) {i : Nat} {num : Int} {nm : List UInt8} {na nb nc : Int} (hn : l[i]? = some ⟨22, num, nm, na, nb, nc⟩) {RA RB RC : Ev.Rz} (hA : WoC (rkA A l.length c mb pb) w na RA) (hB : WoC (rkA A l.length c mb pb) w nb RB) (hC : WoC (rkA A l.length c mb pb) w nc RC) :
    WoC (rkA A l.length c mb pb) w i (Ev.tri RA RB RC) := by
  intro w' hb'
  obtain ⟨g, o, N, W1, W3, rfl, hN, hW1, hW3, z0, z1, z2, z3, z4, z5, hi', hc', hx, hb3, hE3⟩ := pre3 E hn hb'
  obtain ⟨⟨x0, x1, x2⟩, y0, y1, y2, y3, y4, y5⟩ := hx.cells
  have HX := Lib.hid hx
  have HB3 := Lib.hid hb3
  have HE3 := Lib.hid hE3
  have hbw := hb'.trans (hb3.mono hb'.size)
  have HT := Lib.hid (evtruth_any (some ⟨g, o, none⟩) l.length c mb pb w na RA hA W3 hbw); have HBC := Lib.hid (fun w0 (h0 : Below W3.heap.size W3 w0) => And.intro (hB w0 (hbw.trans (h0.mono hbw.size))) (hC w0 (hbw.trans (h0.mono hbw.size))))
  rw [hW1] at z0 z1 z2 z3 z4 z5 hW3
  rw [hW3] at x0 x1 x2 y0 y1 y2 y3 y4 y5
  have HW3 := Lib.hid hW3
  unfold rkA at *
  clear hW1 hb3 hx hW3 hb' hE3 E hn hbw hN hA hB hC
  unfold Ev.tri
  generalize Ev.prt RA 2 = Q at *
  cases Q with
  | er z =>
    simp only [endB, pan] at HT
    rw [thn_er]
    simp only [endZ, pan]
    go_enter Tryz.func139, Tryz.ntmps139
    go_wp2_with fail
    rw [← HW3.out]
    refine HT.out.mono ?_
    rintro e w1 ⟨rfl, hb⟩
    have HB := Lib.hid (HB3.out.trans (hb.mono HB3.out.size))
    clear hb
    go_simp
    exact ⟨rfl, rfl, HB.out⟩
  | ok v =>
    obtain ⟨vk, vn, vb⟩ := v
    rw [thn_ok]
    cases vb with
    | true =>
      rw [if_pos rfl]
      have HU := Lib.hid (fun w0 (h0 : Below W3.heap.size W3 w0) => (HBC.out w0 h0).1)
      clear HBC
      simp only [endB] at HT
      generalize RB = R at *
      have HR := Lib.hid (fun w0 (h0 : Below W3.heap.size W3 w0) => HU.out w0 h0)
      clear HU
      cases R with
      | er y =>
        simp only [endZ, pan] at HR
        simp only [endZ, pan]
        go_enter Tryz.func139, Tryz.ntmps139
        go_wp2_with fail
        rw [← HW3.out]
        refine HT.out.mono ?_
        rintro e w1 ⟨rfl, hb1⟩
        obtain ⟨⟨x0, x1, x2⟩, -, -, -, y3, y4, y5⟩ := (HX.out.below hb1).cells
        have HR1 := Lib.hid (HR.out _ hb1)
        have HB1 := Lib.hid (HB3.out.trans (hb1.mono HB3.out.size))
        clear hb1 HR
        go_wp2_with fail
        refine HR1.out.mono ?_
        rintro e w2 ⟨rfl, hb2⟩
        have HB := Lib.hid (HB1.out.trans (hb2.mono HB1.out.size))
        clear hb2
        go_simp
        exact ⟨rfl, rfl, HB.out⟩
      | ok u =>
        obtain ⟨uk, un, ub⟩ := u
        simp only [endZ, vlA] at HR
        go_enter Tryz.func139, Tryz.ntmps139
        go_wp2_with fail
        rw [← HW3.out]
        refine HT.out.mono ?_
        rintro e w1 ⟨rfl, hb1⟩
        obtain ⟨⟨x0, x1, x2⟩, -, -, -, y3, y4, y5⟩ := (HX.out.below hb1).cells
        have HR1 := Lib.hid (HR.out _ hb1)
        have HB1 := Lib.hid hb1
        clear hb1 HR
        go_wp2_with fail
        refine HR1.out.mono ?_
        rintro e w2 ⟨rfl, hb2⟩
        have hb := HB1.out.trans (hb2.mono HB1.out.size)
        clear hb2
        have kz := (HX.out.below hb).vl
        have k0 := kz.at_ 0
        have k1 := kz.at_ 1
        have k2 := kz.at_ 2
        have f0 := kz.fz 0
        have f1 := kz.fz 1
        have f2 := kz.fz 2
        simp only [List.getElem?_toArray, List.getElem?_cons_zero, List.getElem?_cons_succ] at k0 k1 k2
        have HBF := Lib.hid ((((HB3.out.trans (hb.mono HB3.out.size)).setCell (p := ⟨w'.heap.size + 1, 0, none⟩) (Nat.le_succ _) (.int .u8 (uk : Nat))).setCell (p := ⟨w'.heap.size + 1, 1, none⟩) (Nat.le_succ _) (.int .i64 un)).setCell (p := ⟨w'.heap.size + 1, 2, none⟩) (Nat.le_succ _) (.bool ub))
        clear hb kz
        go_wp2
        refine bodyPost_ret (v := vlA ⟨uk, un, ub⟩) (by simp [results, Tryz.results139, go_sem, vlA, k0, k1, k2]) rfl ?_
        exact ⟨rfl, HBF.out⟩
    | false =>
      rw [if_neg (by simp)]
      have HU := Lib.hid (fun w0 (h0 : Below W3.heap.size W3 w0) => (HBC.out w0 h0).2)
      clear HBC
      generalize RC = RB at *
      simp only [endB] at HT
      generalize RB = R at *
      have HR := Lib.hid (fun w0 (h0 : Below W3.heap.size W3 w0) => HU.out w0 h0)
      clear HU
      cases R with
      | er y =>
        simp only [endZ, pan] at HR
        simp only [endZ, pan]
        go_enter Tryz.func139, Tryz.ntmps139
        go_wp2_with fail
        rw [← HW3.out]
        refine HT.out.mono ?_
        rintro e w1 ⟨rfl, hb1⟩
        obtain ⟨⟨x0, x1, x2⟩, -, -, -, y3, y4, y5⟩ := (HX.out.below hb1).cells
        have HR1 := Lib.hid (HR.out _ hb1)
        have HB1 := Lib.hid (HB3.out.trans (hb1.mono HB3.out.size))
        clear hb1 HR
        go_wp2_with fail
        refine HR1.out.mono ?_
        rintro e w2 ⟨rfl, hb2⟩
        have HB := Lib.hid (HB1.out.trans (hb2.mono HB1.out.size))
        clear hb2
        go_simp
        exact ⟨rfl, rfl, HB.out⟩
      | ok u =>
        obtain ⟨uk, un, ub⟩ := u
        simp only [endZ, vlA] at HR
        go_enter Tryz.func139, Tryz.ntmps139
        go_wp2_with fail
        rw [← HW3.out]
        refine HT.out.mono ?_
        rintro e w1 ⟨rfl, hb1⟩
        obtain ⟨⟨x0, x1, x2⟩, -, -, -, y3, y4, y5⟩ := (HX.out.below hb1).cells
        have HR1 := Lib.hid (HR.out _ hb1)
        have HB1 := Lib.hid hb1
        clear hb1 HR
        go_wp2_with fail
        refine HR1.out.mono ?_
        rintro e w2 ⟨rfl, hb2⟩
        have hb := HB1.out.trans (hb2.mono HB1.out.size)
        clear hb2
        have kz := (HX.out.below hb).vl
        have k0 := kz.at_ 0
        have k1 := kz.at_ 1
        have k2 := kz.at_ 2
        have f0 := kz.fz 0
        have f1 := kz.fz 1
        have f2 := kz.fz 2
        simp only [List.getElem?_toArray, List.getElem?_cons_zero, List.getElem?_cons_succ] at k0 k1 k2
        have HBF := Lib.hid ((((HB3.out.trans (hb.mono HB3.out.size)).setCell (p := ⟨w'.heap.size + 1, 0, none⟩) (Nat.le_succ _) (.int .u8 (uk : Nat))).setCell (p := ⟨w'.heap.size + 1, 1, none⟩) (Nat.le_succ _) (.int .i64 un)).setCell (p := ⟨w'.heap.size + 1, 2, none⟩) (Nat.le_succ _) (.bool ub))
        clear hb kz
        go_wp2
        refine bodyPost_ret (v := vlA ⟨uk, un, ub⟩) (by simp [results, Tryz.results139, go_sem, vlA, k0, k1, k2]) rfl ?_
        exact ⟨rfl, HBF.out⟩
theorem IsBlk.far3 {w : World} {g b : Nat} {t : TypeId} {cs : Array Value} (h : IsBlk w b t cs) (hne : b ≠ g) (v0 v1 v2 : Value) : IsBlk (((w.setCell ⟨g, 0, none⟩ v0).setCell ⟨g, 1, none⟩ v1).setCell ⟨g, 2, none⟩ v2) b t cs :=
  ((h.far (p := ⟨g, 0, none⟩) hne v0).far (p := ⟨g, 1, none⟩) hne v1).far (p := ⟨g, 2, none⟩) hne v2
def S5 (w' : World) (r : Option Addr) (n c mb pb : Nat) (na nb : Int) (w0 : World) : Prop := (w0.cell? ⟨w'.heap.size, 0, none⟩ = some (.slice r n c) ∧ w0.cell? ⟨w'.heap.size, 1, none⟩ = some (.map (some mb)) ∧ w0.cell? ⟨w'.heap.size, 2, none⟩ = some (.map (some pb))) ∧ w0.cell? ⟨w'.heap.size + 1 + 1, 3, none⟩ = some (.int .i64 na) ∧ w0.cell? ⟨w'.heap.size + 1 + 1, 4, none⟩ = some (.int .i64 nb)
theorem Bx3.s5 {w w' : World} {r : Option Addr} {n c mb pb : Nat} {o num : Int} {N : ByteArray} {na nb nc : Int} (h : Bx3 w w'.heap.size r n c mb pb o num N na nb nc) : S5 w' r n c mb pb na nb w := ⟨h.cells.1, h.nd.at_ 3, h.nd.at_ 4⟩
end Go.Proofs.YtdcjpinbflmikaaGreatDoor
namespace Go.Proofs.YtdcjpinbflmikaaGreatDoor
open Go.RowKit Ex
theorem assert_hit (z : Int) (w : World) : (Instr.typeAssert (.iface 24 (.int .i64 z)) 20 24 true).run Tryz.prog w = .ok (.tuple #[.int .i64 z, .bool true]) w := by kernel_rfl
theorem assert_nil (w : World) : (Instr.typeAssert .nilIface 20 24 true).run Tryz.prog w = .ok (.tuple #[.int .i64 0, .bool false]) w := by kernel_rfl
set_option maxHeartbeats 400000 in
set_option maxRecDepth 100000 in
theorem catch_with (p q : Nat) (z : Int) (a0 a1 a2 b0 : Value) (older : List PanicEntry) (w : World) (hp : IsBlk w p 67 #[a0, a1, a2]) (hq : IsBlk w q 24 #[b0]) (hpq : q ≠ p) (R : Ending → FrameMode → World → Prop)
    (hR : R (.returned (.tuple #[])) (.panicking ({ v := .iface 24 (.int .i64 z), recovered := true } :: older)) ((((w.setCell ⟨p, 0, none⟩ (.int .u8 0)).setCell ⟨p, 1, none⟩ (.int .i64 0)).setCell ⟨p, 2, none⟩ (.bool false)).setCell ⟨q, 0, none⟩ (.int .i64 z))) :
    CallsD Tryz.prog 138 #[.pointer (some ⟨p, 0, none⟩), .pointer (some ⟨q, 0, none⟩)] (.panicking ({ v := .iface 24 (.int .i64 z), recovered := false } :: older)) w R := by
  refine callsD_of_wpS Tryz.func138 rfl fun c₀ cs hu => ?_
  apply wpS_seq
  apply wpS_region
  simp [wpOpsS, go_sem, recoverD, hu, Tryz.ntmps138, Exit.thenS, assert_hit]
  have y0 := hp.at_ 0
  have y1 := hp.at_ 1
  have y2 := hp.at_ 2
  have f0 := hp.fz 0
  have f1 := hp.fz 1
  have f2 := hp.fz 2
  have hq3 := ((hq.far (p := ⟨p, 0, none⟩) hpq (.int .u8 0)).far (p := ⟨p, 1, none⟩) hpq (.int .i64 0)).far (p := ⟨p, 2, none⟩) hpq (.bool false)
  have y3 := hq3.at_ 0
  have f3 := hq3.fz 0
  simp only [List.getElem?_toArray, List.getElem?_cons_zero, List.getElem?_cons_succ] at y0 y1 y2 y3
  have HR := Lib.hid hR
  clear hp hq hq3 hR hpq
  obtain ⟨cm, hcm⟩ : ∃ cm : Frame, cm = { fn := c₀.fn, tmps := c₀.tmps, todo := c₀.todo, defers := c₀.defers, mode := FrameMode.panicking ({ v := Value.iface 24 (Value.int IntKind.i64 z), recovered := true } :: older), kind := c₀.kind, roundOf := c₀.roundOf } := ⟨_, rfl⟩
  rw [← hcm]
  have HCM := Lib.hid hcm
  clear hcm
  simp only [← List.toArray_replicate, List.replicate, List.setIfInBounds_toArray, List.set_cons_zero, List.set_cons_succ, List.append_toArray, List.cons_append, List.nil_append]
  refine wpS_of_wp ?_
  go_wp2
  refine ⟨rfl, _, ?_, _, results_none (fn := Tryz.f138) rfl _ _ _, HR.out⟩
  rw [HCM.out]
set_option maxRecDepth 100000 in
theorem catch_idle (p q : Nat) (w : World) :
    CallsD Tryz.prog 138 #[.pointer (some ⟨p, 0, none⟩), .pointer (some ⟨q, 0, none⟩)] .returning w fun e u' w' => e = .returned (.tuple #[]) ∧ u' = .returning ∧ w' = w := by
  refine callsD_of_wpS Tryz.func138 rfl fun c₀ cs hu => ?_
  apply wpS_seq
  apply wpS_region
  simp [wpOpsS, go_sem, recoverD, hu, Tryz.ntmps138, Exit.thenS, assert_nil]
  show Code.wpS _ _ _ { tmps := #[.pointer (some ⟨p, 0, none⟩), .pointer (some ⟨q, 0, none⟩), .int .i64 0, .bool false, .tuple #[.int .i64 0, .bool false], .nilIface, .tuple #[.int .i64 0, .bool false], .int .i64 0, .bool false, undef, undef, undef], defers := [] } _ _
  refine wpS_of_wp ?_
  go_wp2
  exact ⟨rfl, _, by rw [← hu], _, results_none (fn := Tryz.f138) rfl _ _ _, rfl, rfl, rfl⟩
def resZ : Ev.Rz → Ev.Vl × Int
  | .ok v => (v, 0)
  | .er z => (⟨0, 0, false⟩, z)
def outZ (X : Ev.Vl × Int) : Ending := .returned (.tuple #[vlA X.1, .int .i64 X.2])
set_option maxHeartbeats 2000000 in
set_option maxRecDepth 100000 in
theorem evwhole_any (A : Option Addr) (n c mb pb : Nat) (w : World) (R : Ev.Rz) (hn : 1 ≤ n) (hn2 : n ≤ 1000000) (h : WoC (rkA A n c mb pb) w ((n : Int) - 1) R) :
    Calls Tryz.prog 80 #[rkA A n c mb pb] w fun e w' => e = outZ (resZ R) ∧ Below w.heap.size w w' := by
  obtain ⟨W1, hW1⟩ : ∃ W1, W1 = (w.alloc (.cells #[.slice A n c, .map (some mb), .map (some pb)] 152)).alloc (.cells #[.int .u8 0, .int .i64 0, .bool false] 67) := ⟨_, rfl⟩
  have hb1 : Below w.heap.size w W1 := by rw [hW1]; exact ((Below.refl _ _).alloc (Nat.le_refl _) _).alloc (by simp) _
  have hs1 : W1.heap.size = w.heap.size + 1 + 1 := by rw [hW1]; simp
  obtain ⟨W2, hW2⟩ : ∃ W2, W2 = W1.alloc (.cells #[.int .i64 0] 24) := ⟨_, rfl⟩
  have h12 : Below W1.heap.size W1 W2 := by rw [hW2]; exact (Below.refl _ _).alloc (Nat.le_refl _) _
  have hb2 : Below w.heap.size w W2 := hb1.trans (h12.mono hb1.size)
  have kv : IsBlk W2 (w.heap.size + 1) 67 #[.int .u8 0, .int .i64 0, .bool false] := by
    have q : IsBlk W1 (w.heap.size + 1) 67 #[.int .u8 0, .int .i64 0, .bool false] := by
      rw [hW1, show w.heap.size + 1 = (w.alloc (.cells #[.slice A n c, .map (some mb), .map (some pb)] 152)).heap.size by simp]; exact IsBlk.new _ _ _
    exact q.below h12 q.lt
  have ke : IsBlk W2 (w.heap.size + 1 + 1) 24 #[.int .i64 0] := by rw [hW2, ← hs1]; exact IsBlk.new _ _ _
  have HC := Lib.hid (h W2 hb2)
  have HB2 := Lib.hid hb2
  have HV := Lib.hid kv
  have HE := Lib.hid ke
  have hnI : (1 : Int) ≤ (n : Int) := by omega
  have hnJ : (n : Int) ≤ 1000000 := by omega
  rw [hW1] at hW2
  have HW2 := Lib.hid hW2
  unfold rkA at HC ⊢
  have hmf : ∀ (fn : Fn) (first cap : Array Value) (w : World), (Instr.makeFunc fn first cap).run Tryz.prog w = .ok (.func fn first cap) w := fun _ _ _ _ => rfl
  clear hW1 hW2 hb1 hs1 h12 hb2 kv ke h hn hn2
  cases R with
  | ok v =>
    obtain ⟨vk, vn, vb⟩ := v
    simp only [endZ, vlA] at HC
    go_enter_defers Tryz.func80, Tryz.ntmps80
    go_wp2_with fail
    rw [← HW2.out]
    refine HC.out.mono ?_
    rintro e w1 ⟨rfl, hb⟩
    have kv := HV.out.below hb HV.out.lt
    have ke := (HE.out.below hb HE.out.lt).far3 (g := w.heap.size + 1) (by omega) (.int .u8 (vk : Nat)) (.int .i64 vn) (.bool vb)
    have k0 := kv.at_ 0
    have k1 := kv.at_ 1
    have k2 := kv.at_ 2
    have f0 := kv.fz 0
    have f1 := kv.fz 1
    have f2 := kv.fz 2
    have k3 := ke.at_ 0
    have f3 := ke.fz 0
    simp only [List.getElem?_toArray, List.getElem?_cons_zero, List.getElem?_cons_succ] at k0 k1 k2 k3
    have HBA := Lib.hid (((((HB2.out.trans (hb.mono HB2.out.size)).setCell (p := ⟨w.heap.size + 1, 0, none⟩) (Nat.le_succ _) (.int .u8 (vk : Nat))).setCell (p := ⟨w.heap.size + 1, 1, none⟩) (Nat.le_succ _) (.int .i64 vn)).setCell (p := ⟨w.heap.size + 1, 2, none⟩) (Nat.le_succ _) (.bool vb)).setCell (p := ⟨w.heap.size + 1 + 1, 0, none⟩) (Nat.le_trans (Nat.le_succ _) (Nat.le_succ _)) (.int .i64 0))
    clear hb kv ke
    go_wp2
    refine leaves_cons (f := 138) (args := #[.pointer (some ⟨w.heap.size + 1, 0, none⟩), .pointer (some ⟨w.heap.size + 1 + 1, 0, none⟩)]) (by simp) (by simp [go_sem]) ?_
    refine (catch_idle (w.heap.size + 1) (w.heap.size + 1 + 1) _).mono ?_
    rintro e u' w'' ⟨rfl, rfl, rfl⟩
    exact ⟨.tuple #[vlA ⟨vk, vn, vb⟩, .int .i64 0], by simp [results, Tryz.results80, go_sem, vlA, k0, k1, k2, k3], rfl, HBA.out⟩
  | er z =>
    simp only [endZ, pan] at HC
    go_enter_defers Tryz.func80, Tryz.ntmps80
    go_wp2_with fail
    rw [← HW2.out]
    refine HC.out.mono ?_
    rintro e w1 ⟨rfl, hb⟩
    have kv := HV.out.below hb HV.out.lt
    have ke := HE.out.below hb HE.out.lt
    have HBA := Lib.hid (((((HB2.out.trans (hb.mono HB2.out.size)).setCell (p := ⟨w.heap.size + 1, 0, none⟩) (Nat.le_succ _) (.int .u8 0)).setCell (p := ⟨w.heap.size + 1, 1, none⟩) (Nat.le_succ _) (.int .i64 0)).setCell (p := ⟨w.heap.size + 1, 2, none⟩) (Nat.le_succ _) (.bool false)).setCell (p := ⟨w.heap.size + 1 + 1, 0, none⟩) (Nat.le_trans (Nat.le_succ _) (Nat.le_succ _)) (.int .i64 z))
    go_simp
    refine leaves_cons (f := 138) (args := #[.pointer (some ⟨w.heap.size + 1, 0, none⟩), .pointer (some ⟨w.heap.size + 1 + 1, 0, none⟩)]) (by simp) (by simp [go_sem]) ?_
    have k0 := kv.at_ 0
    have k1 := kv.at_ 1
    have k2 := kv.at_ 2
    have k3 := ke.at_ 0
    simp only [List.getElem?_toArray, List.getElem?_cons_zero, List.getElem?_cons_succ] at k0 k1 k2 k3
    refine catch_with (w.heap.size + 1) (w.heap.size + 1 + 1) z _ _ _ _ [] w1 kv ke (by omega) _ ?_
    exact ⟨.tuple #[vlA ⟨0, 0, false⟩, .int .i64 z], by simp [results, Tryz.results80, go_sem, vlA, k0, k1, k2, k3], rfl, HBA.out⟩
end Go.Proofs.YtdcjpinbflmikaaGreatDoor
namespace Go.Proofs.YtdcjpinbflmikaaGreatDoor
open Go.RowKit Ex
set_option maxHeartbeats 2000000 in
set_option maxRecDepth 100000 in
theorem worth7 {w : World} {A : Option Addr} {l : List Nd} {c mb m pb : Nat} {bs : List Ev.Bd} (E : EvC w A l c mb m pb bs) {i : Nat} {num : Int} {nm : List UInt8} {na nb nc : Int} (hn : l[i]? = some ⟨7, num, nm, na, nb, nc⟩) {RA RB : Ev.Rz} (hA : WoC (rkA A l.length c mb pb) w na RA) (hB : WoC (rkA A l.length c mb pb) w nb RB) (hFA : Ev.Fine RA) (hFB : Ev.Fine RB) :
    WoC (rkA A l.length c mb pb) w i (Ev.two 7 RA RB) := by
  intro w' hb'
  obtain ⟨g, o, N, W1, W3, rfl, hN, hW1, hW3, z0, z1, z2, z3, z4, z5, hi', hc', hx, hb3, hE3⟩ := pre3 E hn hb'
  obtain ⟨⟨x0, x1, x2⟩, y0, y1, y2, y3, y4, y5⟩ := hx.cells
  have HX := Lib.hid hx
  have HB3 := Lib.hid hb3
  have HE3 := Lib.hid hE3
  have hbw := hb'.trans (hb3.mono hb'.size)
  have HT := Lib.hid (fun w0 (h0 : Below W3.heap.size W3 w0) => evnumber_any (some ⟨g, o, none⟩) l.length c mb pb w na RA hA w0 (hbw.trans (h0.mono hbw.size))); have HT2 := Lib.hid (fun w0 (h0 : Below W3.heap.size W3 w0) => evnumber_any (some ⟨g, o, none⟩) l.length c mb pb w nb RB hB w0 (hbw.trans (h0.mono hbw.size)))
  rw [hW1] at z0 z1 z2 z3 z4 z5 hW3
  rw [hW3] at x0 x1 x2 y0 y1 y2 y3 y4 y5
  have HW3 := Lib.hid hW3
  unfold rkA at *
  clear hW1 hb3 hx hW3 hb' hE3 E hn hbw hN hA hB
  have e1 : Ev.two 7 RA RB = Ev.thn (Ev.prt RA 1) fun v => Ev.thn (Ev.prt RB 1) fun u => Ev.pair 7 v.n u.n := rfl
  rw [e1]
  clear e1
  have hF := Ev.fine_prt (k := 1) hFA
  have hG := Ev.fine_prt (k := 1) hFB
  clear hFA hFB
  generalize Ev.prt RA 1 = Q at *
  generalize Ev.prt RB 1 = Q2 at *
  have hlk := look7 pb W3 HE3.out.pa
  rw [HW3.out] at hlk
  have HY := Lib.hid (HX.out.below (Below.refl _ _).drew).s5
  have HBD := Lib.hid (fun w0 (h0 : Below W3.heap.size W3 w0) => HB3.out.trans (h0.mono HB3.out.size))
  cases Q
  case' er z =>
    simp only [endN, pan] at HT
    rw [thn_er]
    simp only [endZ, pan]
    clear hF hG
  case' ok v =>
    obtain ⟨vk, vn, vb⟩ := v
    simp only [endN] at HT
    rw [thn_ok]
    cases Q2
    case' er z =>
      simp only [endN, pan] at HT2
      rw [thn_er]
      simp only [endZ, pan]
      clear hF hG
    case' ok u =>
      obtain ⟨uk, un, ub⟩ := u
      simp only [endN] at HT2
      rw [thn_ok]
      simp only
      have HR := Lib.hid (fun w0 => pair1_any vn un w0 hF.1 hG.1)
      clear hF hG
      generalize Ev.pair 7 vn un = R at *
      cases R
      case' er y =>
        simp only [endZ, pan] at HR
        simp only [endZ, pan]
      case' ok r =>
        obtain ⟨rk, rn, rb⟩ := r
        simp only [endZ, vlA] at HR
  all_goals
    go_enter Tryz.func139, Tryz.ntmps139
    go_wp2_with fail
    rw [← HW3.out]
    refine wp_region_held_drew (S := S5 w' (some ⟨g, o, none⟩) l.length c mb pb na nb) (by kernel_rfl) HY.out (fun hHeld => ?_)
    refine wpAnyH_take (i := 0) (v := .func (.func 122) #[] #[]) rfl (by kernel_rfl) (by kernel_rfl) (by kernel_rfl) (fun _ _ _ h => h) (Or.inl ⟨by rfl, by (intro w hS; try (obtain ⟨⟨s0, s1, s2⟩, s3, s4⟩ := hS); go_simp)⟩) hHeld ?_
    try simp only [Act.put, List.getElem_toArray, List.getElem_cons_zero, List.setIfInBounds_toArray, List.set_cons_zero, List.set_cons_succ]
    refine wpAnyH_take (i := 1) (v := .agg #[.slice (some ⟨g, o, none⟩) l.length c, .map (some mb), .map (some pb)]) rfl (by kernel_rfl) (by kernel_rfl) (by kernel_rfl) (fun _ _ _ h => h) (Or.inl ⟨by rfl, by (intro w hS; try (obtain ⟨⟨s0, s1, s2⟩, s3, s4⟩ := hS); go_simp)⟩) hHeld ?_
    try simp only [Act.put, List.getElem_toArray, List.getElem_cons_succ, List.getElem_cons_zero, List.setIfInBounds_toArray, List.set_cons_zero, List.set_cons_succ]
    refine wpAnyH_take (i := 2) (v := .pointer (some ⟨w'.heap.size + 1 + 1, 3, none⟩)) rfl (by kernel_rfl) (by kernel_rfl) (by kernel_rfl) (fun _ _ _ h => h) (Or.inl ⟨by rfl, by (intro w hS; try (obtain ⟨⟨s0, s1, s2⟩, s3, s4⟩ := hS); go_simp)⟩) hHeld ?_
    try simp only [Act.put, List.getElem_toArray, List.getElem_cons_succ, List.getElem_cons_zero, List.setIfInBounds_toArray, List.set_cons_zero, List.set_cons_succ]
    refine wpAnyH_take (i := 3) (v := .int .i64 na) rfl (by kernel_rfl) (by kernel_rfl) (by kernel_rfl) (fun _ _ _ h => h) (Or.inl ⟨by rfl, by (intro w hS; try (obtain ⟨⟨s0, s1, s2⟩, s3, s4⟩ := hS); go_simp)⟩) hHeld ?_
    try simp only [Act.put, List.getElem_toArray, List.getElem_cons_succ, List.getElem_cons_zero, List.setIfInBounds_toArray, List.set_cons_zero, List.set_cons_succ]
    refine wpAnyH_take (i := 5) (v := .agg #[.slice (some ⟨g, o, none⟩) l.length c, .map (some mb), .map (some pb)]) rfl (by kernel_rfl) (by kernel_rfl) (by kernel_rfl) (fun _ _ _ h => h) (Or.inl ⟨by rfl, by (intro w hS; try (obtain ⟨⟨s0, s1, s2⟩, s3, s4⟩ := hS); go_simp)⟩) hHeld ?_
    try simp only [Act.put, List.getElem_toArray, List.getElem_cons_succ, List.getElem_cons_zero, List.setIfInBounds_toArray, List.set_cons_zero, List.set_cons_succ]
    refine wpAnyH_take (i := 6) (v := .pointer (some ⟨w'.heap.size + 1 + 1, 4, none⟩)) rfl (by kernel_rfl) (by kernel_rfl) (by kernel_rfl) (fun _ _ _ h => h) (Or.inl ⟨by rfl, by (intro w hS; try (obtain ⟨⟨s0, s1, s2⟩, s3, s4⟩ := hS); go_simp)⟩) hHeld ?_
    try simp only [Act.put, List.getElem_toArray, List.getElem_cons_succ, List.getElem_cons_zero, List.setIfInBounds_toArray, List.set_cons_zero, List.set_cons_succ]
    refine wpAnyH_take (i := 7) (v := .int .i64 nb) rfl (by kernel_rfl) (by kernel_rfl) (by kernel_rfl) (fun _ _ _ h => h) (Or.inl ⟨by rfl, by (intro w hS; try (obtain ⟨⟨s0, s1, s2⟩, s3, s4⟩ := hS); go_simp)⟩) hHeld ?_
    try simp only [Act.put, List.getElem_toArray, List.getElem_cons_succ, List.getElem_cons_zero, List.setIfInBounds_toArray, List.set_cons_zero, List.set_cons_succ]
    refine wpAnyH_ready (rs := [4]) (by kernel_rfl) (by simp) ?_
    refine AllReadyH.cons rfl (fun K hK => ?_) AllReadyH.nil
    go_simp
    refine (HT.out _ (Below.refl _ _).drew).mono ?_
    rintro e w5 ⟨rfl, hb5⟩
  rotate_right
  · exact ⟨rfl, rfl, HBD.out _ ((Below.refl _ _).drew.trans hb5)⟩
  all_goals
    have HB5 := Lib.hid ((Below.refl W3.heap.size W3).drew.trans hb5)
    clear hb5
    refine hK _ _ (HX.out.below HB5.out).s5 (fun hHeld => ?_)
    clear hK K
    try simp only [Act.put, List.getElem_toArray, List.getElem_cons_succ, List.getElem_cons_zero, List.setIfInBounds_toArray, List.set_cons_zero, List.set_cons_succ]
    refine wpAnyH_ready (rs := [8]) (by kernel_rfl) (by simp) ?_
    refine AllReadyH.cons rfl (fun K hK => ?_) AllReadyH.nil
    go_simp
    refine (HT2.out _ HB5.out).mono ?_
    rintro e w6 ⟨rfl, hb6⟩
    have HB6 := Lib.hid (HB5.out.trans (hb6.mono HB5.out.size))
    clear hb6
  rotate_right
  · exact ⟨rfl, rfl, HBD.out _ HB6.out⟩
  all_goals
    refine hK _ _ (HX.out.below HB6.out).s5 (fun hHeld => ?_)
    clear hK K
    try simp only [Act.put, List.getElem_toArray, List.getElem_cons_succ, List.getElem_cons_zero, List.setIfInBounds_toArray, List.set_cons_zero, List.set_cons_succ]
    refine wpAnyH_ready (rs := [9]) (by kernel_rfl) (by simp) ?_
    refine AllReadyH.cons rfl (fun K hK => ?_) AllReadyH.nil
    go_simp
    refine (HR.out _).mono ?_
    rintro e w7 ⟨rfl, hb7⟩
    have HB7 := Lib.hid (HB6.out.trans (hb7.mono HB6.out.size))
    clear hb7
  rotate_right
  · exact ⟨rfl, rfl, HBD.out _ HB7.out⟩
  have hx7 := HX.out.below HB7.out
  have kz := hx7.vl
  have k0 := kz.at_ 0
  have k1 := kz.at_ 1
  have k2 := kz.at_ 2
  have f0 := kz.fz 0
  have f1 := kz.fz 1
  have f2 := kz.fz 2
  simp only [List.getElem?_toArray, List.getElem?_cons_zero, List.getElem?_cons_succ] at k0 k1 k2
  have HX7 := Lib.hid hx7
  have HBF := Lib.hid ((((HBD.out _ HB7.out).setCell (p := ⟨w'.heap.size + 1, 0, none⟩) (Nat.le_succ _) (.int .u8 (rk : Nat))).setCell (p := ⟨w'.heap.size + 1, 1, none⟩) (Nat.le_succ _) (.int .i64 rn)).setCell (p := ⟨w'.heap.size + 1, 2, none⟩) (Nat.le_succ _) (.bool rb))
  clear kz hx7
  refine hK _ _ HX7.out.s5 (fun hHeld => ?_)
  clear hK K
  try simp only [Act.put, List.getElem_toArray, List.getElem_cons_succ, List.getElem_cons_zero, List.setIfInBounds_toArray, List.set_cons_zero, List.set_cons_succ]
  refine wpAnyH_ready (rs := [10]) (by kernel_rfl) (by simp) ?_
  refine AllReadyH.cons rfl (fun K hK => ?_) AllReadyH.nil
  go_simp
  refine hK _ _ (by
    have q1 := HX7.out.rk.far3 (g := w'.heap.size + 1) (by omega) (.int .u8 (rk : Nat)) (.int .i64 rn) (.bool rb)
    have q2 := HX7.out.nd.far3 (g := w'.heap.size + 1) (by omega) (.int .u8 (rk : Nat)) (.int .i64 rn) (.bool rb)
    exact ⟨⟨q1.at_ 0, q1.at_ 1, q1.at_ 2⟩, q2.at_ 3, q2.at_ 4⟩) (fun hHeld => ?_)
  clear hK K
  refine wpAnyH_done (by kernel_rfl) ?_ _
  go_wp2
  refine bodyPost_ret (v := vlA ⟨rk, rn, rb⟩) (by simp [results, Tryz.results139, go_sem, vlA, k0, k1, k2]) rfl ?_
  exact ⟨rfl, HBF.out⟩
set_option maxHeartbeats 2000000 in
set_option maxRecDepth 100000 in
theorem worth8 {w : World} {A : Option Addr} {l : List Nd} {c mb m pb : Nat} {bs : List Ev.Bd} (E : EvC w A l c mb m pb bs) {i : Nat} {num : Int} {nm : List UInt8} {na nb nc : Int} (hn : l[i]? = some ⟨8, num, nm, na, nb, nc⟩) {RA RB : Ev.Rz} (hA : WoC (rkA A l.length c mb pb) w na RA) (hB : WoC (rkA A l.length c mb pb) w nb RB) (hFA : Ev.Fine RA) (hFB : Ev.Fine RB) :
    WoC (rkA A l.length c mb pb) w i (Ev.two 8 RA RB) := by
  intro w' hb'
  obtain ⟨g, o, N, W1, W3, rfl, hN, hW1, hW3, z0, z1, z2, z3, z4, z5, hi', hc', hx, hb3, hE3⟩ := pre3 E hn hb'
  obtain ⟨⟨x0, x1, x2⟩, y0, y1, y2, y3, y4, y5⟩ := hx.cells
  have HX := Lib.hid hx
  have HB3 := Lib.hid hb3
  have HE3 := Lib.hid hE3
  have hbw := hb'.trans (hb3.mono hb'.size)
  have HT := Lib.hid (fun w0 (h0 : Below W3.heap.size W3 w0) => evnumber_any (some ⟨g, o, none⟩) l.length c mb pb w na RA hA w0 (hbw.trans (h0.mono hbw.size))); have HT2 := Lib.hid (fun w0 (h0 : Below W3.heap.size W3 w0) => evnumber_any (some ⟨g, o, none⟩) l.length c mb pb w nb RB hB w0 (hbw.trans (h0.mono hbw.size)))
  rw [hW1] at z0 z1 z2 z3 z4 z5 hW3
  rw [hW3] at x0 x1 x2 y0 y1 y2 y3 y4 y5
  have HW3 := Lib.hid hW3
  unfold rkA at *
  clear hW1 hb3 hx hW3 hb' hE3 E hn hbw hN hA hB
  have e1 : Ev.two 8 RA RB = Ev.thn (Ev.prt RA 1) fun v => Ev.thn (Ev.prt RB 1) fun u => Ev.pair 8 v.n u.n := rfl
  rw [e1]
  clear e1
  have hF := Ev.fine_prt (k := 1) hFA
  have hG := Ev.fine_prt (k := 1) hFB
  clear hFA hFB
  generalize Ev.prt RA 1 = Q at *
  generalize Ev.prt RB 1 = Q2 at *
  have hlk := look8 pb W3 HE3.out.pa
  rw [HW3.out] at hlk
  have HY := Lib.hid (HX.out.below (Below.refl _ _).drew).s5
  have HBD := Lib.hid (fun w0 (h0 : Below W3.heap.size W3 w0) => HB3.out.trans (h0.mono HB3.out.size))
  cases Q
  case' er z =>
    simp only [endN, pan] at HT
    rw [thn_er]
    simp only [endZ, pan]
    clear hF hG
  case' ok v =>
    obtain ⟨vk, vn, vb⟩ := v
    simp only [endN] at HT
    rw [thn_ok]
    cases Q2
    case' er z =>
      simp only [endN, pan] at HT2
      rw [thn_er]
      simp only [endZ, pan]
      clear hF hG
    case' ok u =>
      obtain ⟨uk, un, ub⟩ := u
      simp only [endN] at HT2
      rw [thn_ok]
      simp only
      have HR := Lib.hid (fun w0 => pair2_any vn un w0 hF.1 hG.1)
      clear hF hG
      generalize Ev.pair 8 vn un = R at *
      cases R
      case' er y =>
        simp only [endZ, pan] at HR
        simp only [endZ, pan]
      case' ok r =>
        obtain ⟨rk, rn, rb⟩ := r
        simp only [endZ, vlA] at HR
  all_goals
    go_enter Tryz.func139, Tryz.ntmps139
    go_wp2_with fail
    rw [← HW3.out]
    refine wp_region_held_drew (S := S5 w' (some ⟨g, o, none⟩) l.length c mb pb na nb) (by kernel_rfl) HY.out (fun hHeld => ?_)
    refine wpAnyH_take (i := 0) (v := .func (.func 125) #[] #[]) rfl (by kernel_rfl) (by kernel_rfl) (by kernel_rfl) (fun _ _ _ h => h) (Or.inl ⟨by rfl, by (intro w hS; try (obtain ⟨⟨s0, s1, s2⟩, s3, s4⟩ := hS); go_simp)⟩) hHeld ?_
    try simp only [Act.put, List.getElem_toArray, List.getElem_cons_zero, List.setIfInBounds_toArray, List.set_cons_zero, List.set_cons_succ]
    refine wpAnyH_take (i := 1) (v := .agg #[.slice (some ⟨g, o, none⟩) l.length c, .map (some mb), .map (some pb)]) rfl (by kernel_rfl) (by kernel_rfl) (by kernel_rfl) (fun _ _ _ h => h) (Or.inl ⟨by rfl, by (intro w hS; try (obtain ⟨⟨s0, s1, s2⟩, s3, s4⟩ := hS); go_simp)⟩) hHeld ?_
    try simp only [Act.put, List.getElem_toArray, List.getElem_cons_succ, List.getElem_cons_zero, List.setIfInBounds_toArray, List.set_cons_zero, List.set_cons_succ]
    refine wpAnyH_take (i := 2) (v := .pointer (some ⟨w'.heap.size + 1 + 1, 3, none⟩)) rfl (by kernel_rfl) (by kernel_rfl) (by kernel_rfl) (fun _ _ _ h => h) (Or.inl ⟨by rfl, by (intro w hS; try (obtain ⟨⟨s0, s1, s2⟩, s3, s4⟩ := hS); go_simp)⟩) hHeld ?_
    try simp only [Act.put, List.getElem_toArray, List.getElem_cons_succ, List.getElem_cons_zero, List.setIfInBounds_toArray, List.set_cons_zero, List.set_cons_succ]
    refine wpAnyH_take (i := 3) (v := .int .i64 na) rfl (by kernel_rfl) (by kernel_rfl) (by kernel_rfl) (fun _ _ _ h => h) (Or.inl ⟨by rfl, by (intro w hS; try (obtain ⟨⟨s0, s1, s2⟩, s3, s4⟩ := hS); go_simp)⟩) hHeld ?_
    try simp only [Act.put, List.getElem_toArray, List.getElem_cons_succ, List.getElem_cons_zero, List.setIfInBounds_toArray, List.set_cons_zero, List.set_cons_succ]
    refine wpAnyH_take (i := 5) (v := .agg #[.slice (some ⟨g, o, none⟩) l.length c, .map (some mb), .map (some pb)]) rfl (by kernel_rfl) (by kernel_rfl) (by kernel_rfl) (fun _ _ _ h => h) (Or.inl ⟨by rfl, by (intro w hS; try (obtain ⟨⟨s0, s1, s2⟩, s3, s4⟩ := hS); go_simp)⟩) hHeld ?_
    try simp only [Act.put, List.getElem_toArray, List.getElem_cons_succ, List.getElem_cons_zero, List.setIfInBounds_toArray, List.set_cons_zero, List.set_cons_succ]
    refine wpAnyH_take (i := 6) (v := .pointer (some ⟨w'.heap.size + 1 + 1, 4, none⟩)) rfl (by kernel_rfl) (by kernel_rfl) (by kernel_rfl) (fun _ _ _ h => h) (Or.inl ⟨by rfl, by (intro w hS; try (obtain ⟨⟨s0, s1, s2⟩, s3, s4⟩ := hS); go_simp)⟩) hHeld ?_
    try simp only [Act.put, List.getElem_toArray, List.getElem_cons_succ, List.getElem_cons_zero, List.setIfInBounds_toArray, List.set_cons_zero, List.set_cons_succ]
    refine wpAnyH_take (i := 7) (v := .int .i64 nb) rfl (by kernel_rfl) (by kernel_rfl) (by kernel_rfl) (fun _ _ _ h => h) (Or.inl ⟨by rfl, by (intro w hS; try (obtain ⟨⟨s0, s1, s2⟩, s3, s4⟩ := hS); go_simp)⟩) hHeld ?_
    try simp only [Act.put, List.getElem_toArray, List.getElem_cons_succ, List.getElem_cons_zero, List.setIfInBounds_toArray, List.set_cons_zero, List.set_cons_succ]
    refine wpAnyH_ready (rs := [4]) (by kernel_rfl) (by simp) ?_
    refine AllReadyH.cons rfl (fun K hK => ?_) AllReadyH.nil
    go_simp
    refine (HT.out _ (Below.refl _ _).drew).mono ?_
    rintro e w5 ⟨rfl, hb5⟩
  rotate_right
  · exact ⟨rfl, rfl, HBD.out _ ((Below.refl _ _).drew.trans hb5)⟩
  all_goals
    have HB5 := Lib.hid ((Below.refl W3.heap.size W3).drew.trans hb5)
    clear hb5
    refine hK _ _ (HX.out.below HB5.out).s5 (fun hHeld => ?_)
    clear hK K
    try simp only [Act.put, List.getElem_toArray, List.getElem_cons_succ, List.getElem_cons_zero, List.setIfInBounds_toArray, List.set_cons_zero, List.set_cons_succ]
    refine wpAnyH_ready (rs := [8]) (by kernel_rfl) (by simp) ?_
    refine AllReadyH.cons rfl (fun K hK => ?_) AllReadyH.nil
    go_simp
    refine (HT2.out _ HB5.out).mono ?_
    rintro e w6 ⟨rfl, hb6⟩
    have HB6 := Lib.hid (HB5.out.trans (hb6.mono HB5.out.size))
    clear hb6
  rotate_right
  · exact ⟨rfl, rfl, HBD.out _ HB6.out⟩
  all_goals
    refine hK _ _ (HX.out.below HB6.out).s5 (fun hHeld => ?_)
    clear hK K
    try simp only [Act.put, List.getElem_toArray, List.getElem_cons_succ, List.getElem_cons_zero, List.setIfInBounds_toArray, List.set_cons_zero, List.set_cons_succ]
    refine wpAnyH_ready (rs := [9]) (by kernel_rfl) (by simp) ?_
    refine AllReadyH.cons rfl (fun K hK => ?_) AllReadyH.nil
    go_simp
    refine (HR.out _).mono ?_
    rintro e w7 ⟨rfl, hb7⟩
    have HB7 := Lib.hid (HB6.out.trans (hb7.mono HB6.out.size))
    clear hb7
  rotate_right
  · exact ⟨rfl, rfl, HBD.out _ HB7.out⟩
  have hx7 := HX.out.below HB7.out
  have kz := hx7.vl
  have k0 := kz.at_ 0
  have k1 := kz.at_ 1
  have k2 := kz.at_ 2
  have f0 := kz.fz 0
  have f1 := kz.fz 1
  have f2 := kz.fz 2
  simp only [List.getElem?_toArray, List.getElem?_cons_zero, List.getElem?_cons_succ] at k0 k1 k2
  have HX7 := Lib.hid hx7
  have HBF := Lib.hid ((((HBD.out _ HB7.out).setCell (p := ⟨w'.heap.size + 1, 0, none⟩) (Nat.le_succ _) (.int .u8 (rk : Nat))).setCell (p := ⟨w'.heap.size + 1, 1, none⟩) (Nat.le_succ _) (.int .i64 rn)).setCell (p := ⟨w'.heap.size + 1, 2, none⟩) (Nat.le_succ _) (.bool rb))
  clear kz hx7
  refine hK _ _ HX7.out.s5 (fun hHeld => ?_)
  clear hK K
  try simp only [Act.put, List.getElem_toArray, List.getElem_cons_succ, List.getElem_cons_zero, List.setIfInBounds_toArray, List.set_cons_zero, List.set_cons_succ]
  refine wpAnyH_ready (rs := [10]) (by kernel_rfl) (by simp) ?_
  refine AllReadyH.cons rfl (fun K hK => ?_) AllReadyH.nil
  go_simp
  refine hK _ _ (by
    have q1 := HX7.out.rk.far3 (g := w'.heap.size + 1) (by omega) (.int .u8 (rk : Nat)) (.int .i64 rn) (.bool rb)
    have q2 := HX7.out.nd.far3 (g := w'.heap.size + 1) (by omega) (.int .u8 (rk : Nat)) (.int .i64 rn) (.bool rb)
    exact ⟨⟨q1.at_ 0, q1.at_ 1, q1.at_ 2⟩, q2.at_ 3, q2.at_ 4⟩) (fun hHeld => ?_)
  clear hK K
  refine wpAnyH_done (by kernel_rfl) ?_ _
  go_wp2
  refine bodyPost_ret (v := vlA ⟨rk, rn, rb⟩) (by simp [results, Tryz.results139, go_sem, vlA, k0, k1, k2]) rfl ?_
  exact ⟨rfl, HBF.out⟩
set_option maxHeartbeats 2000000 in
set_option maxRecDepth 100000 in
theorem worth9 {w : World} {A : Option Addr} {l : List Nd} {c mb m pb : Nat} {bs : List Ev.Bd} (E : EvC w A l c mb m pb bs) {i : Nat} {num : Int} {nm : List UInt8} {na nb nc : Int} (hn : l[i]? = some ⟨9, num, nm, na, nb, nc⟩) {RA RB : Ev.Rz} (hA : WoC (rkA A l.length c mb pb) w na RA) (hB : WoC (rkA A l.length c mb pb) w nb RB) (hFA : Ev.Fine RA) (hFB : Ev.Fine RB) :
    WoC (rkA A l.length c mb pb) w i (Ev.two 9 RA RB) := by
  intro w' hb'
  obtain ⟨g, o, N, W1, W3, rfl, hN, hW1, hW3, z0, z1, z2, z3, z4, z5, hi', hc', hx, hb3, hE3⟩ := pre3 E hn hb'
  obtain ⟨⟨x0, x1, x2⟩, y0, y1, y2, y3, y4, y5⟩ := hx.cells
  have HX := Lib.hid hx
  have HB3 := Lib.hid hb3
  have HE3 := Lib.hid hE3
  have hbw := hb'.trans (hb3.mono hb'.size)
  have HT := Lib.hid (fun w0 (h0 : Below W3.heap.size W3 w0) => evnumber_any (some ⟨g, o, none⟩) l.length c mb pb w na RA hA w0 (hbw.trans (h0.mono hbw.size))); have HT2 := Lib.hid (fun w0 (h0 : Below W3.heap.size W3 w0) => evnumber_any (some ⟨g, o, none⟩) l.length c mb pb w nb RB hB w0 (hbw.trans (h0.mono hbw.size)))
  rw [hW1] at z0 z1 z2 z3 z4 z5 hW3
  rw [hW3] at x0 x1 x2 y0 y1 y2 y3 y4 y5
  have HW3 := Lib.hid hW3
  unfold rkA at *
  clear hW1 hb3 hx hW3 hb' hE3 E hn hbw hN hA hB
  have e1 : Ev.two 9 RA RB = Ev.thn (Ev.prt RA 1) fun v => Ev.thn (Ev.prt RB 1) fun u => Ev.pair 9 v.n u.n := rfl
  rw [e1]
  clear e1
  have hF := Ev.fine_prt (k := 1) hFA
  have hG := Ev.fine_prt (k := 1) hFB
  clear hFA hFB
  generalize Ev.prt RA 1 = Q at *
  generalize Ev.prt RB 1 = Q2 at *
  have hlk := look9 pb W3 HE3.out.pa
  rw [HW3.out] at hlk
  have HY := Lib.hid (HX.out.below (Below.refl _ _).drew).s5
  have HBD := Lib.hid (fun w0 (h0 : Below W3.heap.size W3 w0) => HB3.out.trans (h0.mono HB3.out.size))
  cases Q
  case' er z =>
    simp only [endN, pan] at HT
    rw [thn_er]
    simp only [endZ, pan]
    clear hF hG
  case' ok v =>
    obtain ⟨vk, vn, vb⟩ := v
    simp only [endN] at HT
    rw [thn_ok]
    cases Q2
    case' er z =>
      simp only [endN, pan] at HT2
      rw [thn_er]
      simp only [endZ, pan]
      clear hF hG
    case' ok u =>
      obtain ⟨uk, un, ub⟩ := u
      simp only [endN] at HT2
      rw [thn_ok]
      simp only
      have HR := Lib.hid (fun w0 => pair3_any vn un w0 hF.1 hG.1)
      clear hF hG
      generalize Ev.pair 9 vn un = R at *
      cases R
      case' er y =>
        simp only [endZ, pan] at HR
        simp only [endZ, pan]
      case' ok r =>
        obtain ⟨rk, rn, rb⟩ := r
        simp only [endZ, vlA] at HR
  all_goals
    go_enter Tryz.func139, Tryz.ntmps139
    go_wp2_with fail
    rw [← HW3.out]
    refine wp_region_held_drew (S := S5 w' (some ⟨g, o, none⟩) l.length c mb pb na nb) (by kernel_rfl) HY.out (fun hHeld => ?_)
    refine wpAnyH_take (i := 0) (v := .func (.func 127) #[] #[]) rfl (by kernel_rfl) (by kernel_rfl) (by kernel_rfl) (fun _ _ _ h => h) (Or.inl ⟨by rfl, by (intro w hS; try (obtain ⟨⟨s0, s1, s2⟩, s3, s4⟩ := hS); go_simp)⟩) hHeld ?_
    try simp only [Act.put, List.getElem_toArray, List.getElem_cons_zero, List.setIfInBounds_toArray, List.set_cons_zero, List.set_cons_succ]
    refine wpAnyH_take (i := 1) (v := .agg #[.slice (some ⟨g, o, none⟩) l.length c, .map (some mb), .map (some pb)]) rfl (by kernel_rfl) (by kernel_rfl) (by kernel_rfl) (fun _ _ _ h => h) (Or.inl ⟨by rfl, by (intro w hS; try (obtain ⟨⟨s0, s1, s2⟩, s3, s4⟩ := hS); go_simp)⟩) hHeld ?_
    try simp only [Act.put, List.getElem_toArray, List.getElem_cons_succ, List.getElem_cons_zero, List.setIfInBounds_toArray, List.set_cons_zero, List.set_cons_succ]
    refine wpAnyH_take (i := 2) (v := .pointer (some ⟨w'.heap.size + 1 + 1, 3, none⟩)) rfl (by kernel_rfl) (by kernel_rfl) (by kernel_rfl) (fun _ _ _ h => h) (Or.inl ⟨by rfl, by (intro w hS; try (obtain ⟨⟨s0, s1, s2⟩, s3, s4⟩ := hS); go_simp)⟩) hHeld ?_
    try simp only [Act.put, List.getElem_toArray, List.getElem_cons_succ, List.getElem_cons_zero, List.setIfInBounds_toArray, List.set_cons_zero, List.set_cons_succ]
    refine wpAnyH_take (i := 3) (v := .int .i64 na) rfl (by kernel_rfl) (by kernel_rfl) (by kernel_rfl) (fun _ _ _ h => h) (Or.inl ⟨by rfl, by (intro w hS; try (obtain ⟨⟨s0, s1, s2⟩, s3, s4⟩ := hS); go_simp)⟩) hHeld ?_
    try simp only [Act.put, List.getElem_toArray, List.getElem_cons_succ, List.getElem_cons_zero, List.setIfInBounds_toArray, List.set_cons_zero, List.set_cons_succ]
    refine wpAnyH_take (i := 5) (v := .agg #[.slice (some ⟨g, o, none⟩) l.length c, .map (some mb), .map (some pb)]) rfl (by kernel_rfl) (by kernel_rfl) (by kernel_rfl) (fun _ _ _ h => h) (Or.inl ⟨by rfl, by (intro w hS; try (obtain ⟨⟨s0, s1, s2⟩, s3, s4⟩ := hS); go_simp)⟩) hHeld ?_
    try simp only [Act.put, List.getElem_toArray, List.getElem_cons_succ, List.getElem_cons_zero, List.setIfInBounds_toArray, List.set_cons_zero, List.set_cons_succ]
    refine wpAnyH_take (i := 6) (v := .pointer (some ⟨w'.heap.size + 1 + 1, 4, none⟩)) rfl (by kernel_rfl) (by kernel_rfl) (by kernel_rfl) (fun _ _ _ h => h) (Or.inl ⟨by rfl, by (intro w hS; try (obtain ⟨⟨s0, s1, s2⟩, s3, s4⟩ := hS); go_simp)⟩) hHeld ?_
    try simp only [Act.put, List.getElem_toArray, List.getElem_cons_succ, List.getElem_cons_zero, List.setIfInBounds_toArray, List.set_cons_zero, List.set_cons_succ]
    refine wpAnyH_take (i := 7) (v := .int .i64 nb) rfl (by kernel_rfl) (by kernel_rfl) (by kernel_rfl) (fun _ _ _ h => h) (Or.inl ⟨by rfl, by (intro w hS; try (obtain ⟨⟨s0, s1, s2⟩, s3, s4⟩ := hS); go_simp)⟩) hHeld ?_
    try simp only [Act.put, List.getElem_toArray, List.getElem_cons_succ, List.getElem_cons_zero, List.setIfInBounds_toArray, List.set_cons_zero, List.set_cons_succ]
    refine wpAnyH_ready (rs := [4]) (by kernel_rfl) (by simp) ?_
    refine AllReadyH.cons rfl (fun K hK => ?_) AllReadyH.nil
    go_simp
    refine (HT.out _ (Below.refl _ _).drew).mono ?_
    rintro e w5 ⟨rfl, hb5⟩
  rotate_right
  · exact ⟨rfl, rfl, HBD.out _ ((Below.refl _ _).drew.trans hb5)⟩
  all_goals
    have HB5 := Lib.hid ((Below.refl W3.heap.size W3).drew.trans hb5)
    clear hb5
    refine hK _ _ (HX.out.below HB5.out).s5 (fun hHeld => ?_)
    clear hK K
    try simp only [Act.put, List.getElem_toArray, List.getElem_cons_succ, List.getElem_cons_zero, List.setIfInBounds_toArray, List.set_cons_zero, List.set_cons_succ]
    refine wpAnyH_ready (rs := [8]) (by kernel_rfl) (by simp) ?_
    refine AllReadyH.cons rfl (fun K hK => ?_) AllReadyH.nil
    go_simp
    refine (HT2.out _ HB5.out).mono ?_
    rintro e w6 ⟨rfl, hb6⟩
    have HB6 := Lib.hid (HB5.out.trans (hb6.mono HB5.out.size))
    clear hb6
  rotate_right
  · exact ⟨rfl, rfl, HBD.out _ HB6.out⟩
  all_goals
    refine hK _ _ (HX.out.below HB6.out).s5 (fun hHeld => ?_)
    clear hK K
    try simp only [Act.put, List.getElem_toArray, List.getElem_cons_succ, List.getElem_cons_zero, List.setIfInBounds_toArray, List.set_cons_zero, List.set_cons_succ]
    refine wpAnyH_ready (rs := [9]) (by kernel_rfl) (by simp) ?_
    refine AllReadyH.cons rfl (fun K hK => ?_) AllReadyH.nil
    go_simp
    refine (HR.out _).mono ?_
    rintro e w7 ⟨rfl, hb7⟩
    have HB7 := Lib.hid (HB6.out.trans (hb7.mono HB6.out.size))
    clear hb7
  rotate_right
  · exact ⟨rfl, rfl, HBD.out _ HB7.out⟩
  have hx7 := HX.out.below HB7.out
  have kz := hx7.vl
  have k0 := kz.at_ 0
  have k1 := kz.at_ 1
  have k2 := kz.at_ 2
  have f0 := kz.fz 0
  have f1 := kz.fz 1
  have f2 := kz.fz 2
  simp only [List.getElem?_toArray, List.getElem?_cons_zero, List.getElem?_cons_succ] at k0 k1 k2
  have HX7 := Lib.hid hx7
  have HBF := Lib.hid ((((HBD.out _ HB7.out).setCell (p := ⟨w'.heap.size + 1, 0, none⟩) (Nat.le_succ _) (.int .u8 (rk : Nat))).setCell (p := ⟨w'.heap.size + 1, 1, none⟩) (Nat.le_succ _) (.int .i64 rn)).setCell (p := ⟨w'.heap.size + 1, 2, none⟩) (Nat.le_succ _) (.bool rb))
  clear kz hx7
  refine hK _ _ HX7.out.s5 (fun hHeld => ?_)
  clear hK K
  try simp only [Act.put, List.getElem_toArray, List.getElem_cons_succ, List.getElem_cons_zero, List.setIfInBounds_toArray, List.set_cons_zero, List.set_cons_succ]
  refine wpAnyH_ready (rs := [10]) (by kernel_rfl) (by simp) ?_
  refine AllReadyH.cons rfl (fun K hK => ?_) AllReadyH.nil
  go_simp
  refine hK _ _ (by
    have q1 := HX7.out.rk.far3 (g := w'.heap.size + 1) (by omega) (.int .u8 (rk : Nat)) (.int .i64 rn) (.bool rb)
    have q2 := HX7.out.nd.far3 (g := w'.heap.size + 1) (by omega) (.int .u8 (rk : Nat)) (.int .i64 rn) (.bool rb)
    exact ⟨⟨q1.at_ 0, q1.at_ 1, q1.at_ 2⟩, q2.at_ 3, q2.at_ 4⟩) (fun hHeld => ?_)
  clear hK K
  refine wpAnyH_done (by kernel_rfl) ?_ _
  go_wp2
  refine bodyPost_ret (v := vlA ⟨rk, rn, rb⟩) (by simp [results, Tryz.results139, go_sem, vlA, k0, k1, k2]) rfl ?_
  exact ⟨rfl, HBF.out⟩
end Go.Proofs.YtdcjpinbflmikaaGreatDoor
