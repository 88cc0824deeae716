/- Facts and walks for the statement. -/
import Derived.Test.YtkgoikdppikkpaaGreatDoorPzT17
import Derived.Test.YtkgoikdppikkpaaGreatDoorPzT16
import Derived.Defers
import Derived.Recover
namespace Go.Proofs.YtkgoikdppikkpaaGreatDoor
open Go.RowKit Ex
set_option maxHeartbeats 2000000 in
set_option maxRecDepth 100000 in
theorem worth22 {w : World} {A : Option Addr} {l : List Nd} {c mb m pb : Nat} {bs : List Ev.Bd} (E : EvC w A l c mb m pb bs) {i : Nat} {num : Int} {nm : List UInt8} {na nb nc : Int} (hn : l[i]? = some ⟨22, num, nm, na, nb, nc⟩) {RA RB RC : Ev.Rz} (hA : WoC (rkA A l.length c mb pb) w na RA) (hB : WoC (rkA A l.length c mb pb) w nb RB) (hC : WoC (rkA A l.length c mb pb) w nc RC) :
    WoC (rkA A l.length c mb pb) w i (Ev.tri RA RB RC) := by
  obtain ⟨hi, hn⟩ := List.getElem?_eq_some_iff.1 hn
  intro w' hb'
  have hE := E.on hb'
  obtain ⟨g, o, hAg, hg, q0, q1, q2, q3, q4, q5⟩ := hE.row i hi
  subst hAg
  rw [hn] at q0 q1 q2 q3 q4 q5
  obtain ⟨W1, hW1⟩ : ∃ W1, W1 = (w'.alloc (.cells #[.slice (some ⟨g, o, none⟩) l.length c, .map (some mb), .map (some pb)] 141)).alloc (.cells #[.int .u8 0, .int .i64 0, .bool false] 74) := ⟨_, rfl⟩
  have hb1 : Below w'.heap.size w' W1 := by rw [hW1]; exact ((Below.refl _ _).alloc (Nat.le_refl _) _).alloc (by simp) _
  have hs1 : W1.heap.size = w'.heap.size + 1 + 1 := by rw [hW1]; simp
  have z0 := (hb1.cell (p := ⟨g, _, none⟩) hg).trans q0
  have z1 := (hb1.cell (p := ⟨g, _, none⟩) hg).trans q1
  have z2 := (hb1.cell (p := ⟨g, _, none⟩) hg).trans q2
  have z3 := (hb1.cell (p := ⟨g, _, none⟩) hg).trans q3
  have z4 := (hb1.cell (p := ⟨g, _, none⟩) hg).trans q4
  have z5 := (hb1.cell (p := ⟨g, _, none⟩) hg).trans q5
  simp only at z0 z1 z2 z3 z4 z5
  obtain ⟨N, hN⟩ : ∃ N : ByteArray, N = ⟨nm.toArray⟩ := ⟨_, rfl⟩
  rw [← hN] at z2
  obtain ⟨W3, hW3⟩ : ∃ W3, W3 = W1.alloc (.cells #[.int .u8 22, .int .i64 num, .string N, .int .i64 na, .int .i64 nb, .int .i64 nc] 34) := ⟨_, rfl⟩
  have hb3 : Below w'.heap.size w' W3 := by rw [hW3]; exact hb1.alloc hb1.size _
  have hx : Bx3 W3 w'.heap.size (some ⟨g, o, none⟩) l.length c mb pb 22 num N na nb nc := by
    have h13 : Below W1.heap.size W1 W3 := by rw [hW3]; exact (Below.refl _ _).alloc (Nat.le_refl _) _
    have hv : IsBlk W1 (w'.heap.size + 1) 74 #[.int .u8 0, .int .i64 0, .bool false] := by
      rw [hW1, show w'.heap.size + 1 = (w'.alloc (.cells #[.slice (some ⟨g, o, none⟩) l.length c, .map (some mb), .map (some pb)] 141)).heap.size by simp]; exact IsBlk.new _ _ _
    have hr : IsBlk W1 w'.heap.size 141 #[.slice (some ⟨g, o, none⟩) l.length c, .map (some mb), .map (some pb)] := by
      rw [hW1]; exact (IsBlk.new _ _ _).below ((Below.refl _ _).alloc (Nat.le_refl _) _) (IsBlk.new w' _ _).lt
    exact ⟨hr.below h13 hr.lt, hv.below h13 hv.lt, by rw [hW3, ← hs1]; exact IsBlk.new _ _ _⟩
  obtain ⟨⟨x0, x1, x2⟩, y0, y1, y2, y3, y4, y5⟩ := hx.cells
  have hi' : (i : Int) < (l.length : Int) := by omega
  have hc' : (l.length : Int) ≤ (c : Int) := by have := E.cap; omega
  have HX := Lib.hid hx
  have HB3 := Lib.hid hb3
  have HE3 := Lib.hid (hE.on hb3)
  have hbw := hb'.trans (hb3.mono hb'.size)
  have HT := Lib.hid (evtruth_any (some ⟨g, o, none⟩) l.length c mb pb w na RA hA W3 hbw); have HBC := Lib.hid (fun w0 (h0 : Below W3.heap.size W3 w0) => And.intro (hB w0 (hbw.trans (h0.mono hbw.size))) (hC w0 (hbw.trans (h0.mono hbw.size))))
  rw [hW1] at z0 z1 z2 z3 z4 z5 hW3
  rw [hW3] at x0 x1 x2 y0 y1 y2 y3 y4 y5
  have HW3 := Lib.hid hW3
  unfold rkA at *
  clear q0 q1 q2 q3 q4 q5 hb1 hs1 hW1 hb3 hx hW3 hb' hE E hg hi hn hbw hN hA hB hC
  unfold Ev.tri
  generalize Ev.prt RA 2 = Q at *
  cases Q with
  | er z =>
    simp only [endB, pan] at HT
    rw [thn_er]
    simp only [endZ, pan]
    go_enter Tryz.func132, Tryz.ntmps132
    go_wp2_with fail
    rw [← HW3.out]
    refine HT.out.mono ?_
    rintro e w1 ⟨rfl, hb⟩
    have HB := Lib.hid (HB3.out.trans (hb.mono HB3.out.size))
    clear hb
    go_simp
    exact ⟨rfl, rfl, HB.out⟩
  | ok v =>
    obtain ⟨vk, vn, vb⟩ := v
    rw [thn_ok]
    cases vb with
    | true =>
      rw [if_pos rfl]
      have HU := Lib.hid (fun w0 (h0 : Below W3.heap.size W3 w0) => (HBC.out w0 h0).1)
      clear HBC
      simp only [endB] at HT
      generalize RB = R at *
      have HR := Lib.hid (fun w0 (h0 : Below W3.heap.size W3 w0) => HU.out w0 h0)
      clear HU
      cases R with
      | er y =>
        simp only [endZ, pan] at HR
        simp only [endZ, pan]
        go_enter Tryz.func132, Tryz.ntmps132
        go_wp2_with fail
        rw [← HW3.out]
        refine HT.out.mono ?_
        rintro e w1 ⟨rfl, hb1⟩
        obtain ⟨⟨x0, x1, x2⟩, -, -, -, y3, y4, y5⟩ := (HX.out.below hb1).cells
        have HR1 := Lib.hid (HR.out _ hb1)
        have HB1 := Lib.hid (HB3.out.trans (hb1.mono HB3.out.size))
        clear hb1 HR
        go_wp2_with fail
        refine HR1.out.mono ?_
        rintro e w2 ⟨rfl, hb2⟩
        have HB := Lib.hid (HB1.out.trans (hb2.mono HB1.out.size))
        clear hb2
        go_simp
        exact ⟨rfl, rfl, HB.out⟩
      | ok u =>
        obtain ⟨uk, un, ub⟩ := u
        simp only [endZ, vlA] at HR
        go_enter Tryz.func132, Tryz.ntmps132
        go_wp2_with fail
        rw [← HW3.out]
        refine HT.out.mono ?_
        rintro e w1 ⟨rfl, hb1⟩
        obtain ⟨⟨x0, x1, x2⟩, -, -, -, y3, y4, y5⟩ := (HX.out.below hb1).cells
        have HR1 := Lib.hid (HR.out _ hb1)
        have HB1 := Lib.hid hb1
        clear hb1 HR
        go_wp2_with fail
        refine HR1.out.mono ?_
        rintro e w2 ⟨rfl, hb2⟩
        have hb := HB1.out.trans (hb2.mono HB1.out.size)
        clear hb2
        have kz := (HX.out.below hb).vl
        have k0 := kz.at_ 0
        have k1 := kz.at_ 1
        have k2 := kz.at_ 2
        have f0 := kz.fz 0
        have f1 := kz.fz 1
        have f2 := kz.fz 2
        simp only [List.getElem?_toArray, List.getElem?_cons_zero, List.getElem?_cons_succ] at k0 k1 k2
        have HBF := Lib.hid ((((HB3.out.trans (hb.mono HB3.out.size)).setCell (p := ⟨w'.heap.size + 1, 0, none⟩) (Nat.le_succ _) (.int .u8 (uk : Nat))).setCell (p := ⟨w'.heap.size + 1, 1, none⟩) (Nat.le_succ _) (.int .i64 un)).setCell (p := ⟨w'.heap.size + 1, 2, none⟩) (Nat.le_succ _) (.bool ub))
        clear hb kz
        go_wp2
        refine bodyPost_ret (v := vlA ⟨uk, un, ub⟩) (by simp [results, Tryz.results132, go_sem, vlA, k0, k1, k2]) rfl ?_
        exact ⟨rfl, HBF.out⟩
    | false =>
      rw [if_neg (by simp)]
      have HU := Lib.hid (fun w0 (h0 : Below W3.heap.size W3 w0) => (HBC.out w0 h0).2)
      clear HBC
      generalize RC = RB at *
      simp only [endB] at HT
      generalize RB = R at *
      have HR := Lib.hid (fun w0 (h0 : Below W3.heap.size W3 w0) => HU.out w0 h0)
      clear HU
      cases R with
      | er y =>
        simp only [endZ, pan] at HR
        simp only [endZ, pan]
        go_enter Tryz.func132, Tryz.ntmps132
        go_wp2_with fail
        rw [← HW3.out]
        refine HT.out.mono ?_
        rintro e w1 ⟨rfl, hb1⟩
        obtain ⟨⟨x0, x1, x2⟩, -, -, -, y3, y4, y5⟩ := (HX.out.below hb1).cells
        have HR1 := Lib.hid (HR.out _ hb1)
        have HB1 := Lib.hid (HB3.out.trans (hb1.mono HB3.out.size))
        clear hb1 HR
        go_wp2_with fail
        refine HR1.out.mono ?_
        rintro e w2 ⟨rfl, hb2⟩
        have HB := Lib.hid (HB1.out.trans (hb2.mono HB1.out.size))
        clear hb2
        go_simp
        exact ⟨rfl, rfl, HB.out⟩
      | ok u =>
        obtain ⟨uk, un, ub⟩ := u
        simp only [endZ, vlA] at HR
        go_enter Tryz.func132, Tryz.ntmps132
        go_wp2_with fail
        rw [← HW3.out]
        refine HT.out.mono ?_
        rintro e w1 ⟨rfl, hb1⟩
        obtain ⟨⟨x0, x1, x2⟩, -, -, -, y3, y4, y5⟩ := (HX.out.below hb1).cells
        have HR1 := Lib.hid (HR.out _ hb1)
        have HB1 := Lib.hid hb1
        clear hb1 HR
        go_wp2_with fail
        refine HR1.out.mono ?_
        rintro e w2 ⟨rfl, hb2⟩
        have hb := HB1.out.trans (hb2.mono HB1.out.size)
        clear hb2
        have kz := (HX.out.below hb).vl
        have k0 := kz.at_ 0
        have k1 := kz.at_ 1
        have k2 := kz.at_ 2
        have f0 := kz.fz 0
        have f1 := kz.fz 1
        have f2 := kz.fz 2
        simp only [List.getElem?_toArray, List.getElem?_cons_zero, List.getElem?_cons_succ] at k0 k1 k2
        have HBF := Lib.hid ((((HB3.out.trans (hb.mono HB3.out.size)).setCell (p := ⟨w'.heap.size + 1, 0, none⟩) (Nat.le_succ _) (.int .u8 (uk : Nat))).setCell (p := ⟨w'.heap.size + 1, 1, none⟩) (Nat.le_succ _) (.int .i64 un)).setCell (p := ⟨w'.heap.size + 1, 2, none⟩) (Nat.le_succ _) (.bool ub))
        clear hb kz
        go_wp2
        refine bodyPost_ret (v := vlA ⟨uk, un, ub⟩) (by simp [results, Tryz.results132, go_sem, vlA, k0, k1, k2]) rfl ?_
        exact ⟨rfl, HBF.out⟩
theorem IsBlk.far3 {w : World} {g b : Nat} {t : TypeId} {cs : Array Value} (h : IsBlk w b t cs) (hne : b ≠ g) (v0 v1 v2 : Value) : IsBlk (((w.setCell ⟨g, 0, none⟩ v0).setCell ⟨g, 1, none⟩ v1).setCell ⟨g, 2, none⟩ v2) b t cs :=
  ((h.far (p := ⟨g, 0, none⟩) hne v0).far (p := ⟨g, 1, none⟩) hne v1).far (p := ⟨g, 2, none⟩) hne v2
def S5 (w' : World) (r : Option Addr) (n c mb pb : Nat) (na nb : Int) (w0 : World) : Prop := (w0.cell? ⟨w'.heap.size, 0, none⟩ = some (.slice r n c) ∧ w0.cell? ⟨w'.heap.size, 1, none⟩ = some (.map (some mb)) ∧ w0.cell? ⟨w'.heap.size, 2, none⟩ = some (.map (some pb))) ∧ w0.cell? ⟨w'.heap.size + 1 + 1, 3, none⟩ = some (.int .i64 na) ∧ w0.cell? ⟨w'.heap.size + 1 + 1, 4, none⟩ = some (.int .i64 nb)
theorem Bx3.s5 {w w' : World} {r : Option Addr} {n c mb pb : Nat} {o num : Int} {N : ByteArray} {na nb nc : Int} (h : Bx3 w w'.heap.size r n c mb pb o num N na nb nc) : S5 w' r n c mb pb na nb w := ⟨h.cells.1, h.nd.at_ 3, h.nd.at_ 4⟩
end Go.Proofs.YtkgoikdppikkpaaGreatDoor
namespace Go.Proofs.YtkgoikdppikkpaaGreatDoor
open Go.RowKit Ex
theorem assert_hit (z : Int) (w : World) : (Instr.typeAssert (.iface 24 (.int .i64 z)) 20 24 true).run Tryz.prog w = .ok (.tuple #[.int .i64 z, .bool true]) w := by kernel_rfl
theorem assert_nil (w : World) : (Instr.typeAssert .nilIface 20 24 true).run Tryz.prog w = .ok (.tuple #[.int .i64 0, .bool false]) w := by kernel_rfl
set_option maxHeartbeats 400000 in
set_option maxRecDepth 100000 in
theorem catch_with (p q : Nat) (z : Int) (a0 a1 a2 b0 : Value) (older : List PanicEntry) (w : World) (hp : IsBlk w p 74 #[a0, a1, a2]) (hq : IsBlk w q 24 #[b0]) (hpq : q ≠ p) (R : Ending → FrameMode → World → Prop)
    (hR : R (.returned (.tuple #[])) (.panicking ({ v := .iface 24 (.int .i64 z), recovered := true } :: older)) ((((w.setCell ⟨p, 0, none⟩ (.int .u8 0)).setCell ⟨p, 1, none⟩ (.int .i64 0)).setCell ⟨p, 2, none⟩ (.bool false)).setCell ⟨q, 0, none⟩ (.int .i64 z))) :
    CallsD Tryz.prog 131 #[.pointer (some ⟨p, 0, none⟩), .pointer (some ⟨q, 0, none⟩)] (.panicking ({ v := .iface 24 (.int .i64 z), recovered := false } :: older)) w R := by
  refine callsD_of_wpS Tryz.func131 rfl fun c₀ cs hu => ?_
  apply wpS_seq
  apply wpS_region
  simp [wpOpsS, go_sem, recoverD, hu, Tryz.ntmps131, Exit.thenS, assert_hit]
  have y0 := hp.at_ 0
  have y1 := hp.at_ 1
  have y2 := hp.at_ 2
  have f0 := hp.fz 0
  have f1 := hp.fz 1
  have f2 := hp.fz 2
  have hq3 := ((hq.far (p := ⟨p, 0, none⟩) hpq (.int .u8 0)).far (p := ⟨p, 1, none⟩) hpq (.int .i64 0)).far (p := ⟨p, 2, none⟩) hpq (.bool false)
  have y3 := hq3.at_ 0
  have f3 := hq3.fz 0
  simp only [List.getElem?_toArray, List.getElem?_cons_zero, List.getElem?_cons_succ] at y0 y1 y2 y3
  have HR := Lib.hid hR
  clear hp hq hq3 hR hpq
  obtain ⟨cm, hcm⟩ : ∃ cm : Frame, cm = { fn := c₀.fn, tmps := c₀.tmps, todo := c₀.todo, defers := c₀.defers, mode := FrameMode.panicking ({ v := Value.iface 24 (Value.int IntKind.i64 z), recovered := true } :: older), kind := c₀.kind, roundOf := c₀.roundOf } := ⟨_, rfl⟩
  rw [← hcm]
  have HCM := Lib.hid hcm
  clear hcm
  simp only [← List.toArray_replicate, List.replicate, List.setIfInBounds_toArray, List.set_cons_zero, List.set_cons_succ, List.append_toArray, List.cons_append, List.nil_append]
  refine wpS_of_wp ?_
  go_wp2
  refine ⟨rfl, _, ?_, _, results_none (fn := Tryz.f131) rfl _ _ _, HR.out⟩
  rw [HCM.out]
set_option maxRecDepth 100000 in
theorem catch_idle (p q : Nat) (w : World) :
    CallsD Tryz.prog 131 #[.pointer (some ⟨p, 0, none⟩), .pointer (some ⟨q, 0, none⟩)] .returning w fun e u' w' => e = .returned (.tuple #[]) ∧ u' = .returning ∧ w' = w := by
  refine callsD_of_wpS Tryz.func131 rfl fun c₀ cs hu => ?_
  apply wpS_seq
  apply wpS_region
  simp [wpOpsS, go_sem, recoverD, hu, Tryz.ntmps131, Exit.thenS, assert_nil]
  show Code.wpS _ _ _ { tmps := #[.pointer (some ⟨p, 0, none⟩), .pointer (some ⟨q, 0, none⟩), .int .i64 0, .bool false, .tuple #[.int .i64 0, .bool false], .nilIface, .tuple #[.int .i64 0, .bool false], .int .i64 0, .bool false, undef, undef, undef], defers := [] } _ _
  refine wpS_of_wp ?_
  go_wp2
  exact ⟨rfl, _, by rw [← hu], _, results_none (fn := Tryz.f131) rfl _ _ _, rfl, rfl, rfl⟩
def resZ : Ev.Rz → Ev.Vl × Int
  | .ok v => (v, 0)
  | .er z => (⟨0, 0, false⟩, z)
def outZ (X : Ev.Vl × Int) : Ending := .returned (.tuple #[vlA X.1, .int .i64 X.2])
set_option maxHeartbeats 2000000 in
set_option maxRecDepth 100000 in
theorem evwhole_any (A : Option Addr) (n c mb pb : Nat) (w : World) (R : Ev.Rz) (hn : 1 ≤ n) (hn2 : n ≤ 1000000) (h : WoC (rkA A n c mb pb) w ((n : Int) - 1) R) :
    Calls Tryz.prog 79 #[rkA A n c mb pb] w fun e w' => e = outZ (resZ R) ∧ Below w.heap.size w w' := by
  obtain ⟨W1, hW1⟩ : ∃ W1, W1 = (w.alloc (.cells #[.slice A n c, .map (some mb), .map (some pb)] 141)).alloc (.cells #[.int .u8 0, .int .i64 0, .bool false] 74) := ⟨_, rfl⟩
  have hb1 : Below w.heap.size w W1 := by rw [hW1]; exact ((Below.refl _ _).alloc (Nat.le_refl _) _).alloc (by simp) _
  have hs1 : W1.heap.size = w.heap.size + 1 + 1 := by rw [hW1]; simp
  obtain ⟨W2, hW2⟩ : ∃ W2, W2 = W1.alloc (.cells #[.int .i64 0] 24) := ⟨_, rfl⟩
  have h12 : Below W1.heap.size W1 W2 := by rw [hW2]; exact (Below.refl _ _).alloc (Nat.le_refl _) _
  have hb2 : Below w.heap.size w W2 := hb1.trans (h12.mono hb1.size)
  have kv : IsBlk W2 (w.heap.size + 1) 74 #[.int .u8 0, .int .i64 0, .bool false] := by
    have q : IsBlk W1 (w.heap.size + 1) 74 #[.int .u8 0, .int .i64 0, .bool false] := by
      rw [hW1, show w.heap.size + 1 = (w.alloc (.cells #[.slice A n c, .map (some mb), .map (some pb)] 141)).heap.size by simp]; exact IsBlk.new _ _ _
    exact q.below h12 q.lt
  have ke : IsBlk W2 (w.heap.size + 1 + 1) 24 #[.int .i64 0] := by rw [hW2, ← hs1]; exact IsBlk.new _ _ _
  have HC := Lib.hid (h W2 hb2)
  have HB2 := Lib.hid hb2
  have HV := Lib.hid kv
  have HE := Lib.hid ke
  have hnI : (1 : Int) ≤ (n : Int) := by omega
  have hnJ : (n : Int) ≤ 1000000 := by omega
  rw [hW1] at hW2
  have HW2 := Lib.hid hW2
  unfold rkA at HC ⊢
  have hmf : ∀ (fn : Fn) (first cap : Array Value) (w : World), (Instr.makeFunc fn first cap).run Tryz.prog w = .ok (.func fn first cap) w := fun _ _ _ _ => rfl
  clear hW1 hW2 hb1 hs1 h12 hb2 kv ke h hn hn2
  cases R with
  | ok v =>
    obtain ⟨vk, vn, vb⟩ := v
    simp only [endZ, vlA] at HC
    go_enter_defers Tryz.func79, Tryz.ntmps79
    go_wp2_with fail
    rw [← HW2.out]
    refine HC.out.mono ?_
    rintro e w1 ⟨rfl, hb⟩
    have kv := HV.out.below hb HV.out.lt
    have ke := (HE.out.below hb HE.out.lt).far3 (g := w.heap.size + 1) (by omega) (.int .u8 (vk : Nat)) (.int .i64 vn) (.bool vb)
    have k0 := kv.at_ 0
    have k1 := kv.at_ 1
    have k2 := kv.at_ 2
    have f0 := kv.fz 0
    have f1 := kv.fz 1
    have f2 := kv.fz 2
    have k3 := ke.at_ 0
    have f3 := ke.fz 0
    simp only [List.getElem?_toArray, List.getElem?_cons_zero, List.getElem?_cons_succ] at k0 k1 k2 k3
    have HBA := Lib.hid (((((HB2.out.trans (hb.mono HB2.out.size)).setCell (p := ⟨w.heap.size + 1, 0, none⟩) (Nat.le_succ _) (.int .u8 (vk : Nat))).setCell (p := ⟨w.heap.size + 1, 1, none⟩) (Nat.le_succ _) (.int .i64 vn)).setCell (p := ⟨w.heap.size + 1, 2, none⟩) (Nat.le_succ _) (.bool vb)).setCell (p := ⟨w.heap.size + 1 + 1, 0, none⟩) (Nat.le_trans (Nat.le_succ _) (Nat.le_succ _)) (.int .i64 0))
    clear hb kv ke
    go_wp2
    refine leaves_cons (f := 131) (args := #[.pointer (some ⟨w.heap.size + 1, 0, none⟩), .pointer (some ⟨w.heap.size + 1 + 1, 0, none⟩)]) (by simp) (by simp [go_sem]) ?_
    refine (catch_idle (w.heap.size + 1) (w.heap.size + 1 + 1) _).mono ?_
    rintro e u' w'' ⟨rfl, rfl, rfl⟩
    exact ⟨.tuple #[vlA ⟨vk, vn, vb⟩, .int .i64 0], by simp [results, Tryz.results79, go_sem, vlA, k0, k1, k2, k3], rfl, HBA.out⟩
  | er z =>
    simp only [endZ, pan] at HC
    go_enter_defers Tryz.func79, Tryz.ntmps79
    go_wp2_with fail
    rw [← HW2.out]
    refine HC.out.mono ?_
    rintro e w1 ⟨rfl, hb⟩
    have kv := HV.out.below hb HV.out.lt
    have ke := HE.out.below hb HE.out.lt
    have HBA := Lib.hid (((((HB2.out.trans (hb.mono HB2.out.size)).setCell (p := ⟨w.heap.size + 1, 0, none⟩) (Nat.le_succ _) (.int .u8 0)).setCell (p := ⟨w.heap.size + 1, 1, none⟩) (Nat.le_succ _) (.int .i64 0)).setCell (p := ⟨w.heap.size + 1, 2, none⟩) (Nat.le_succ _) (.bool false)).setCell (p := ⟨w.heap.size + 1 + 1, 0, none⟩) (Nat.le_trans (Nat.le_succ _) (Nat.le_succ _)) (.int .i64 z))
    go_simp
    refine leaves_cons (f := 131) (args := #[.pointer (some ⟨w.heap.size + 1, 0, none⟩), .pointer (some ⟨w.heap.size + 1 + 1, 0, none⟩)]) (by simp) (by simp [go_sem]) ?_
    have k0 := kv.at_ 0
    have k1 := kv.at_ 1
    have k2 := kv.at_ 2
    have k3 := ke.at_ 0
    simp only [List.getElem?_toArray, List.getElem?_cons_zero, List.getElem?_cons_succ] at k0 k1 k2 k3
    refine catch_with (w.heap.size + 1) (w.heap.size + 1 + 1) z _ _ _ _ [] w1 kv ke (by omega) _ ?_
    exact ⟨.tuple #[vlA ⟨0, 0, false⟩, .int .i64 z], by simp [results, Tryz.results79, go_sem, vlA, k0, k1, k2, k3], rfl, HBA.out⟩
end Go.Proofs.YtkgoikdppikkpaaGreatDoor
