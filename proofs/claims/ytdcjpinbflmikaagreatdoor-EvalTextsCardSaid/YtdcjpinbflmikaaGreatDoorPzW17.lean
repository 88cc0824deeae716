/- Facts and walks for the statement. -/
import Derived.Test.YtdcjpinbflmikaaGreatDoorPzW16
namespace Go.Proofs.YtdcjpinbflmikaaGreatDoor
open Go.RowKit Ex
structure EvC (w : World) (A : Option Addr) (l : List Nd) (c mb m pb : Nat) (bs : List Ev.Bd) : Prop where
  row : NdR w w.heap.size A l
  cap : l.length ≤ c
  nm : NmM w mb m bs
  pa : PaM w pb
  fit : FitB bs
theorem EvC.on {w w' : World} {A : Option Addr} {l : List Nd} {c mb m pb : Nat} {bs : List Ev.Bd} (h : EvC w A l c mb m pb bs) (hb : Below w.heap.size w w') : EvC w' A l c mb m pb bs :=
  ⟨(h.row.below hb).more hb.size, h.cap, h.nm.below hb, h.pa.below hb, h.fit⟩
structure Bx3 (w : World) (g : Nat) (A : Option Addr) (n c mb pb : Nat) (o : Int) (num : Int) (N : ByteArray) (na nb nc : Int) : Prop where
  rk : IsBlk w g 152 #[.slice A n c, .map (some mb), .map (some pb)]
  vl : IsBlk w (g + 1) 67 #[.int .u8 0, .int .i64 0, .bool false]
  nd : IsBlk w (g + 1 + 1) 34 #[.int .u8 o, .int .i64 num, .string N, .int .i64 na, .int .i64 nb, .int .i64 nc]
theorem Bx3.below {w w' : World} {g : Nat} {A : Option Addr} {n c mb pb : Nat} {o num : Int} {N : ByteArray} {na nb nc : Int} (h : Bx3 w g A n c mb pb o num N na nb nc) (hb : Below w.heap.size w w') : Bx3 w' g A n c mb pb o num N na nb nc := ⟨h.rk.below hb h.rk.lt, h.vl.below hb h.vl.lt, h.nd.below hb h.nd.lt⟩
theorem Bx3.cells {w : World} {g : Nat} {A : Option Addr} {n c mb pb : Nat} {o num : Int} {N : ByteArray} {na nb nc : Int} (h : Bx3 w g A n c mb pb o num N na nb nc) :
    (w.cell? ⟨g, 0, none⟩ = some (.slice A n c) ∧ w.cell? ⟨g, 1, none⟩ = some (.map (some mb)) ∧ w.cell? ⟨g, 2, none⟩ = some (.map (some pb))) ∧ w.cell? ⟨g + 1 + 1, 0, none⟩ = some (.int .u8 o) ∧ w.cell? ⟨g + 1 + 1, 1, none⟩ = some (.int .i64 num) ∧ w.cell? ⟨g + 1 + 1, 2, none⟩ = some (.string N) ∧ w.cell? ⟨g + 1 + 1, 3, none⟩ = some (.int .i64 na) ∧ w.cell? ⟨g + 1 + 1, 4, none⟩ = some (.int .i64 nb) ∧ w.cell? ⟨g + 1 + 1, 5, none⟩ = some (.int .i64 nc) :=
  ⟨⟨h.rk.at_ 0, h.rk.at_ 1, h.rk.at_ 2⟩, h.nd.at_ 0, h.nd.at_ 1, h.nd.at_ 2, h.nd.at_ 3, h.nd.at_ 4, h.nd.at_ 5⟩
theorem pre3 {w : World} {A : Option Addr} {l : List Nd} {c mb m pb : Nat} {bs : List Ev.Bd} (E : EvC w A l c mb m pb bs) {i : Nat} {op num : Int} {nm : List UInt8} {na nb nc : Int} (hn : l[i]? = some ⟨op, num, nm, na, nb, nc⟩) {w' : World} (hb' : Below w.heap.size w w') :
    ∃ (g o : Nat) (N : ByteArray) (W1 W3 : World), A = some ⟨g, o, none⟩ ∧ N = ⟨nm.toArray⟩ ∧ W1 = (w'.alloc (.cells #[.slice (some ⟨g, o, none⟩) l.length c, .map (some mb), .map (some pb)] 152)).alloc (.cells #[.int .u8 0, .int .i64 0, .bool false] 67) ∧ W3 = W1.alloc (.cells #[.int .u8 op, .int .i64 num, .string N, .int .i64 na, .int .i64 nb, .int .i64 nc] 34) ∧
      W1.cell? ⟨g, o + i * 6, none⟩ = some (.int .u8 op) ∧ W1.cell? ⟨g, o + i * 6 + 1, none⟩ = some (.int .i64 num) ∧ W1.cell? ⟨g, o + i * 6 + 2, none⟩ = some (.string N) ∧ W1.cell? ⟨g, o + i * 6 + 3, none⟩ = some (.int .i64 na) ∧ W1.cell? ⟨g, o + i * 6 + 4, none⟩ = some (.int .i64 nb) ∧ W1.cell? ⟨g, o + i * 6 + 5, none⟩ = some (.int .i64 nc) ∧
      (i : Int) < (l.length : Int) ∧ (l.length : Int) ≤ (c : Int) ∧ Bx3 W3 w'.heap.size (some ⟨g, o, none⟩) l.length c mb pb op num N na nb nc ∧ Below w'.heap.size w' W3 ∧ EvC W3 (some ⟨g, o, none⟩) l c mb m pb bs := by
  obtain ⟨hi, hn⟩ := List.getElem?_eq_some_iff.1 hn
  have hE := E.on hb'
  obtain ⟨g, o, hAg, hg, q0, q1, q2, q3, q4, q5⟩ := hE.row i hi
  subst hAg
  rw [hn] at q0 q1 q2 q3 q4 q5
  obtain ⟨W1, hW1⟩ : ∃ W1, W1 = (w'.alloc (.cells #[.slice (some ⟨g, o, none⟩) l.length c, .map (some mb), .map (some pb)] 152)).alloc (.cells #[.int .u8 0, .int .i64 0, .bool false] 67) := ⟨_, rfl⟩
  have hb1 : Below w'.heap.size w' W1 := by rw [hW1]; exact ((Below.refl _ _).alloc (Nat.le_refl _) _).alloc (by simp) _
  have hs1 : W1.heap.size = w'.heap.size + 1 + 1 := by rw [hW1]; simp
  obtain ⟨W3, hW3⟩ : ∃ W3, W3 = W1.alloc (.cells #[.int .u8 op, .int .i64 num, .string ⟨nm.toArray⟩, .int .i64 na, .int .i64 nb, .int .i64 nc] 34) := ⟨_, rfl⟩
  have hb3 : Below w'.heap.size w' W3 := by rw [hW3]; exact hb1.alloc hb1.size _
  have hx : Bx3 W3 w'.heap.size (some ⟨g, o, none⟩) l.length c mb pb op num ⟨nm.toArray⟩ na nb nc := by
    have h13 : Below W1.heap.size W1 W3 := by rw [hW3]; exact (Below.refl _ _).alloc (Nat.le_refl _) _
    have hv : IsBlk W1 (w'.heap.size + 1) 67 #[.int .u8 0, .int .i64 0, .bool false] := by
      rw [hW1, show w'.heap.size + 1 = (w'.alloc (.cells #[.slice (some ⟨g, o, none⟩) l.length c, .map (some mb), .map (some pb)] 152)).heap.size by simp]; exact IsBlk.new _ _ _
    have hr : IsBlk W1 w'.heap.size 152 #[.slice (some ⟨g, o, none⟩) l.length c, .map (some mb), .map (some pb)] := by
      rw [hW1]; exact (IsBlk.new _ _ _).below ((Below.refl _ _).alloc (Nat.le_refl _) _) (IsBlk.new w' _ _).lt
    exact ⟨hr.below h13 hr.lt, hv.below h13 hv.lt, by rw [hW3, ← hs1]; exact IsBlk.new _ _ _⟩
  exact ⟨g, o, _, W1, W3, rfl, rfl, hW1, hW3, (hb1.cell (p := ⟨g, _, none⟩) hg).trans q0, (hb1.cell (p := ⟨g, _, none⟩) hg).trans q1, (hb1.cell (p := ⟨g, _, none⟩) hg).trans q2, (hb1.cell (p := ⟨g, _, none⟩) hg).trans q3, (hb1.cell (p := ⟨g, _, none⟩) hg).trans q4, (hb1.cell (p := ⟨g, _, none⟩) hg).trans q5, by omega, by have := E.cap; omega, hx, hb3, hE.on hb3⟩
set_option maxHeartbeats 1000000 in
set_option maxRecDepth 100000 in
theorem worth1 {w : World} {A : Option Addr} {l : List Nd} {c mb m pb : Nat} {bs : List Ev.Bd} (E : EvC w A l c mb m pb bs) {i : Nat} {num : Int} {nm : List UInt8} {na nb nc : Int} (hn : l[i]? = some ⟨1, num, nm, na, nb, nc⟩) :
    WoC (rkA A l.length c mb pb) w i (.ok (Ev.vi num)) := by
  intro w' hb'
  obtain ⟨g, o, N, W1, W3, rfl, hN, hW1, hW3, z0, z1, z2, z3, z4, z5, hi', hc', hx, hb3, hE3⟩ := pre3 E hn hb'
  obtain ⟨⟨x0, x1, x2⟩, y0, y1, y2, y3, y4, y5⟩ := hx.cells
  have HX := Lib.hid hx
  have HB3 := Lib.hid hb3
  have HE3 := Lib.hid hE3
  have hbw := hb'.trans (hb3.mono hb'.size)
  have HO := Lib.hid (ofInt_any num W3)
  rw [hW1] at z0 z1 z2 z3 z4 z5 hW3
  rw [hW3] at x0 x1 x2 y0 y1 y2 y3 y4 y5
  have HW3 := Lib.hid hW3
  unfold rkA at *
  clear hW1 hb3 hx hW3 hb' hE3 E hn hbw hN
  unfold vlA Ev.vi at HO
  unfold Ev.vi
  go_enter Tryz.func139, Tryz.ntmps139
  go_wp2_with fail
  rw [← HW3.out]
  refine HO.out.mono ?_
  rintro e w1 ⟨rfl, hb⟩
  have kz := (HX.out.below hb).vl
  have k0 := kz.at_ 0
  have k1 := kz.at_ 1
  have k2 := kz.at_ 2
  have f0 := kz.fz 0
  have f1 := kz.fz 1
  have f2 := kz.fz 2
  simp only [List.getElem?_toArray, List.getElem?_cons_zero, List.getElem?_cons_succ] at k0 k1 k2
  have HBF := Lib.hid ((((HB3.out.trans (hb.mono HB3.out.size)).setCell (p := ⟨w'.heap.size + 1, 0, none⟩) (Nat.le_succ _) (.int .u8 (1 : Nat))).setCell (p := ⟨w'.heap.size + 1, 1, none⟩) (Nat.le_succ _) (.int .i64 num)).setCell (p := ⟨w'.heap.size + 1, 2, none⟩) (Nat.le_succ _) (.bool false))
  clear hb kz
  go_wp2
  refine bodyPost_ret (v := vlA ⟨1, num, false⟩) (by simp [results, Tryz.results139, go_sem, vlA, k0, k1, k2]) rfl ?_
  exact ⟨rfl, HBF.out⟩
set_option maxHeartbeats 1000000 in
set_option maxRecDepth 100000 in
theorem worth2 {w : World} {A : Option Addr} {l : List Nd} {c mb m pb : Nat} {bs : List Ev.Bd} (E : EvC w A l c mb m pb bs) {i : Nat} {num : Int} {nm : List UInt8} {na nb nc : Int} (hn : l[i]? = some ⟨2, num, nm, na, nb, nc⟩) (hnm : nm.length ≤ 1000000) :
    WoC (rkA A l.length c mb pb) w i (Ev.nmd (Ev.look bs nm)) := by
  intro w' hb'
  obtain ⟨g, o, N, W1, W3, rfl, hN, hW1, hW3, z0, z1, z2, z3, z4, z5, hi', hc', hx, hb3, hE3⟩ := pre3 E hn hb'
  obtain ⟨⟨x0, x1, x2⟩, y0, y1, y2, y3, y4, y5⟩ := hx.cells
  have HX := Lib.hid hx
  have HB3 := Lib.hid hb3
  have HE3 := Lib.hid hE3
  have hbw := hb'.trans (hb3.mono hb'.size)
  have HT := Lib.hid (named_any (some ⟨g, o, none⟩) l.length c mb pb W3 m bs HE3.out.nm nm hnm N hN)
  rw [hW1] at z0 z1 z2 z3 z4 z5 hW3
  rw [hW3] at x0 x1 x2 y0 y1 y2 y3 y4 y5
  have HW3 := Lib.hid hW3
  unfold rkA at *
  clear hW1 hb3 hx hW3 hb' hE3 E hn hbw hnm hN
  have HO := Lib.hid (fun x w0 => ofInt_any x w0)
  unfold vlA Ev.vi at HO
  cases hl : Ev.look bs nm with
  | none =>
    rw [hl] at HT
    have HT : Hid (Calls _ _ _ _ fun e w'' => e = endN (.er 90) ∧ _) := HT
    show Calls _ _ _ _ fun e w'' => e = endZ (.er 90) ∧ _
    simp only [endN, endZ, pan] at HT ⊢
    clear hl HO
    go_enter Tryz.func139, Tryz.ntmps139
    go_wp2_with fail
    rw [← HW3.out]
    refine HT.out.mono ?_
    rintro e w1 ⟨rfl, hb⟩
    have HB := Lib.hid (HB3.out.trans (hb.mono HB3.out.size))
    clear hb
    go_simp
    exact ⟨rfl, rfl, HB.out⟩
  | some x =>
    rw [hl] at HT
    have HT : Hid (Calls _ _ _ _ fun e w'' => e = endN (.ok (Ev.vi x)) ∧ _) := HT
    show Calls _ _ _ _ fun e w'' => e = endZ (.ok (Ev.vi x)) ∧ _
    simp only [endN, Ev.vi] at HT
    unfold Ev.vi
    clear hl
    go_enter Tryz.func139, Tryz.ntmps139
    go_wp2_with fail
    rw [← HW3.out]
    refine HT.out.mono ?_
    rintro e w1 ⟨rfl, hb1⟩
    go_wp2_with fail
    refine (HO.out _ _).mono ?_
    rintro e w2 ⟨rfl, hb2⟩
    have hb := hb1.trans (hb2.mono hb1.size)
    clear hb1 hb2
    have kz := (HX.out.below hb).vl
    have k0 := kz.at_ 0
    have k1 := kz.at_ 1
    have k2 := kz.at_ 2
    have f0 := kz.fz 0
    have f1 := kz.fz 1
    have f2 := kz.fz 2
    simp only [List.getElem?_toArray, List.getElem?_cons_zero, List.getElem?_cons_succ] at k0 k1 k2
    have HBF := Lib.hid ((((HB3.out.trans (hb.mono HB3.out.size)).setCell (p := ⟨w'.heap.size + 1, 0, none⟩) (Nat.le_succ _) (.int .u8 (1 : Nat))).setCell (p := ⟨w'.heap.size + 1, 1, none⟩) (Nat.le_succ _) (.int .i64 x)).setCell (p := ⟨w'.heap.size + 1, 2, none⟩) (Nat.le_succ _) (.bool false))
    clear hb kz
    go_wp2
    refine bodyPost_ret (v := vlA ⟨1, x, false⟩) (by simp [results, Tryz.results139, go_sem, vlA, k0, k1, k2]) rfl ?_
    exact ⟨rfl, HBF.out⟩
set_option maxHeartbeats 1000000 in
set_option maxRecDepth 100000 in
theorem worth5 {w : World} {A : Option Addr} {l : List Nd} {c mb m pb : Nat} {bs : List Ev.Bd} (E : EvC w A l c mb m pb bs) {i : Nat} {num : Int} {nm : List UInt8} {na nb nc : Int} (hn : l[i]? = some ⟨5, num, nm, na, nb, nc⟩) {RA : Ev.Rz} (hA : WoC (rkA A l.length c mb pb) w na RA) (hFA : Ev.Fine RA) :
    WoC (rkA A l.length c mb pb) w i (Ev.one 5 RA) := by
  intro w' hb'
  obtain ⟨g, o, N, W1, W3, rfl, hN, hW1, hW3, z0, z1, z2, z3, z4, z5, hi', hc', hx, hb3, hE3⟩ := pre3 E hn hb'
  obtain ⟨⟨x0, x1, x2⟩, y0, y1, y2, y3, y4, y5⟩ := hx.cells
  have HX := Lib.hid hx
  have HB3 := Lib.hid hb3
  have HE3 := Lib.hid hE3
  have hbw := hb'.trans (hb3.mono hb'.size)
  have HT := Lib.hid (evnumber_any (some ⟨g, o, none⟩) l.length c mb pb w na RA hA W3 hbw)
  rw [hW1] at z0 z1 z2 z3 z4 z5 hW3
  rw [hW3] at x0 x1 x2 y0 y1 y2 y3 y4 y5
  have HW3 := Lib.hid hW3
  unfold rkA at *
  clear hW1 hb3 hx hW3 hb' hE3 E hn hbw hA hN
  have e0 : Ev.one 5 RA = Ev.thn (Ev.prt RA 1) fun v => Ev.rk (Nu.tell (-v.n)) := rfl
  rw [e0]
  clear e0
  have hFQ := Ev.fine_prt (k := 1) hFA
  clear hFA
  generalize Ev.prt RA 1 = Q at *
  cases Q with
  | er z =>
    simp only [endN, pan] at HT
    rw [thn_er]
    simp only [endZ, pan]
    go_enter Tryz.func139, Tryz.ntmps139
    go_wp2_with fail
    rw [← HW3.out]
    refine HT.out.mono ?_
    rintro e w1 ⟨rfl, hb⟩
    have HB := Lib.hid (HB3.out.trans (hb.mono HB3.out.size))
    clear hb
    go_simp
    exact ⟨rfl, rfl, HB.out⟩
  | ok v =>
    obtain ⟨vk, vn, vb⟩ := v
    simp only [endN] at HT
    rw [thn_ok]
    simp only
    have HNG := Lib.hid (fun w0 => neg_any vn w0 hFQ.1)
    have HR0 := Lib.hid (fun x z w0 => reckoned_any x z w0)
    generalize Nu.tell (-vn) = p at *
    obtain ⟨x, z⟩ := p
    have HR := Lib.hid (HR0.out x z)
    clear HR0 hFQ
    generalize Ev.rk (x, z) = R at *
    unfold tv at HNG
    cases R with
    | er y =>
      simp only [endZ, pan] at HR
      simp only [endZ, pan]
      go_enter Tryz.func139, Tryz.ntmps139
      go_wp2_with fail
      rw [← HW3.out]
      refine HT.out.mono ?_
      rintro e w1 ⟨rfl, hb1⟩
      go_wp2_with fail
      refine (HNG.out _).mono ?_
      rintro e w2 ⟨rfl, rfl⟩
      go_wp2_with fail
      refine (HR.out _).mono ?_
      rintro e w2 ⟨rfl, hb2⟩
      have HB := Lib.hid (HB3.out.trans ((hb1.trans (hb2.mono hb1.size)).mono HB3.out.size))
      clear hb1 hb2
      go_simp
      exact ⟨rfl, rfl, HB.out⟩
    | ok u =>
      obtain ⟨uk, un, ub⟩ := u
      simp only [endZ, vlA] at HR
      go_enter Tryz.func139, Tryz.ntmps139
      go_wp2_with fail
      rw [← HW3.out]
      refine HT.out.mono ?_
      rintro e w1 ⟨rfl, hb1⟩
      go_wp2_with fail
      refine (HNG.out _).mono ?_
      rintro e w2 ⟨rfl, rfl⟩
      go_wp2_with fail
      refine (HR.out _).mono ?_
      rintro e w2 ⟨rfl, hb2⟩
      have hb := hb1.trans (hb2.mono hb1.size)
      clear hb1 hb2
      have kz := (HX.out.below hb).vl
      have k0 := kz.at_ 0
      have k1 := kz.at_ 1
      have k2 := kz.at_ 2
      have f0 := kz.fz 0
      have f1 := kz.fz 1
      have f2 := kz.fz 2
      simp only [List.getElem?_toArray, List.getElem?_cons_zero, List.getElem?_cons_succ] at k0 k1 k2
      have HBF := Lib.hid ((((HB3.out.trans (hb.mono HB3.out.size)).setCell (p := ⟨w'.heap.size + 1, 0, none⟩) (Nat.le_succ _) (.int .u8 (uk : Nat))).setCell (p := ⟨w'.heap.size + 1, 1, none⟩) (Nat.le_succ _) (.int .i64 un)).setCell (p := ⟨w'.heap.size + 1, 2, none⟩) (Nat.le_succ _) (.bool ub))
      clear hb kz
      go_wp2
      refine bodyPost_ret (v := vlA ⟨uk, un, ub⟩) (by simp [results, Tryz.results139, go_sem, vlA, k0, k1, k2]) rfl ?_
      exact ⟨rfl, HBF.out⟩
theorem thn_vb {R : Ev.Rz} {f : Ev.Vl → Ev.Rz} (hf : ∀ v u, f v = .ok u → u.k = 2 ∧ u.n = 0) : ∀ u, Ev.thn R f = .ok u → u.k = 2 ∧ u.n = 0 := fun u h => by
  cases R with
  | ok v => exact hf v u h
  | er z => cases h
theorem vb_of {b : Bool} {u : Ev.Vl} (h : Ev.Rz.ok (Ev.vb b) = .ok u) : u.k = 2 ∧ u.n = 0 := by injection h with h; subst h; exact ⟨rfl, rfl⟩
set_option maxHeartbeats 1000000 in
set_option maxRecDepth 100000 in
theorem worth3 {w : World} {A : Option Addr} {l : List Nd} {c mb m pb : Nat} {bs : List Ev.Bd} (E : EvC w A l c mb m pb bs) {i : Nat} {num : Int} {nm : List UInt8} {na nb nc : Int} (hn : l[i]? = some ⟨3, num, nm, na, nb, nc⟩) :
    WoC (rkA A l.length c mb pb) w i (.ok (Ev.vb true)) := by
  intro w' hb'
  obtain ⟨g, o, N, W1, W3, rfl, hN, hW1, hW3, z0, z1, z2, z3, z4, z5, hi', hc', hx, hb3, hE3⟩ := pre3 E hn hb'
  obtain ⟨⟨x0, x1, x2⟩, y0, y1, y2, y3, y4, y5⟩ := hx.cells
  have HX := Lib.hid hx
  have HB3 := Lib.hid hb3
  have HE3 := Lib.hid hE3
  have hbw := hb'.trans (hb3.mono hb'.size)
  have HT := Lib.hid (hold3_any (some ⟨g, o, none⟩) l.length c mb pb num N na nb nc (.er 0) (.er 0) W3)
  rw [hW1] at z0 z1 z2 z3 z4 z5 hW3
  rw [hW3] at x0 x1 x2 y0 y1 y2 y3 y4 y5
  have HW3 := Lib.hid hW3
  unfold rkA at *
  clear hW1 hb3 hx hW3 hb' hE3 E hn hbw hN
  have hqv : ∀ u, Ev.Rz.ok (Ev.vb true) = .ok u → u.k = 2 ∧ u.n = 0 := fun u h => vb_of h
  have HT : Hid (Calls _ _ _ _ fun e w'' => e = endB (.ok (Ev.vb true)) ∧ _) := HT
  generalize Ev.Rz.ok (Ev.vb true) = Q at *
  have HO := Lib.hid (fun x w0 => ofBool_any x w0)
  unfold vlA Ev.vb at HO
  have hlk := look3 pb W3 HE3.out.pa
  rw [HW3.out] at hlk
  unfold ndW at HT
  cases Q with
  | er z =>
    simp only [endB, pan] at HT
    simp only [endZ, pan]
    go_enter Tryz.func139, Tryz.ntmps139
    go_wp2_with fail
    rw [← HW3.out]
    refine HT.out.mono ?_
    rintro e w1 ⟨rfl, hb⟩
    have HB := Lib.hid (HB3.out.trans (hb.mono HB3.out.size))
    clear hb
    go_simp
    exact ⟨rfl, rfl, HB.out⟩
  | ok v =>
    obtain ⟨vk, vn, vb⟩ := v
    have hqv := hqv _ rfl
    simp only at hqv
    obtain ⟨rfl, rfl⟩ := hqv
    simp only [endB] at HT
    go_enter Tryz.func139, Tryz.ntmps139
    go_wp2_with fail
    rw [← HW3.out]
    refine HT.out.mono ?_
    rintro e w1 ⟨rfl, hb1⟩
    go_wp2_with fail
    refine (HO.out _ _).mono ?_
    rintro e w2 ⟨rfl, hb2⟩
    have hb := hb1.trans (hb2.mono hb1.size)
    clear hb1 hb2
    have kz := (HX.out.below hb).vl
    have k0 := kz.at_ 0
    have k1 := kz.at_ 1
    have k2 := kz.at_ 2
    have f0 := kz.fz 0
    have f1 := kz.fz 1
    have f2 := kz.fz 2
    simp only [List.getElem?_toArray, List.getElem?_cons_zero, List.getElem?_cons_succ] at k0 k1 k2
    have HBF := Lib.hid ((((HB3.out.trans (hb.mono HB3.out.size)).setCell (p := ⟨w'.heap.size + 1, 0, none⟩) (Nat.le_succ _) (.int .u8 (2 : Nat))).setCell (p := ⟨w'.heap.size + 1, 1, none⟩) (Nat.le_succ _) (.int .i64 0)).setCell (p := ⟨w'.heap.size + 1, 2, none⟩) (Nat.le_succ _) (.bool vb))
    clear hb kz
    go_wp2
    refine bodyPost_ret (v := vlA ⟨2, 0, vb⟩) (by simp [results, Tryz.results139, go_sem, vlA, k0, k1, k2]) rfl ?_
    exact ⟨rfl, HBF.out⟩
set_option maxHeartbeats 1000000 in
set_option maxRecDepth 100000 in
theorem worth4 {w : World} {A : Option Addr} {l : List Nd} {c mb m pb : Nat} {bs : List Ev.Bd} (E : EvC w A l c mb m pb bs) {i : Nat} {num : Int} {nm : List UInt8} {na nb nc : Int} (hn : l[i]? = some ⟨4, num, nm, na, nb, nc⟩) :
    WoC (rkA A l.length c mb pb) w i (.ok (Ev.vb false)) := by
  intro w' hb'
  obtain ⟨g, o, N, W1, W3, rfl, hN, hW1, hW3, z0, z1, z2, z3, z4, z5, hi', hc', hx, hb3, hE3⟩ := pre3 E hn hb'
  obtain ⟨⟨x0, x1, x2⟩, y0, y1, y2, y3, y4, y5⟩ := hx.cells
  have HX := Lib.hid hx
  have HB3 := Lib.hid hb3
  have HE3 := Lib.hid hE3
  have hbw := hb'.trans (hb3.mono hb'.size)
  have HT := Lib.hid (hold4_any (some ⟨g, o, none⟩) l.length c mb pb num N na nb nc (.er 0) (.er 0) W3)
  rw [hW1] at z0 z1 z2 z3 z4 z5 hW3
  rw [hW3] at x0 x1 x2 y0 y1 y2 y3 y4 y5
  have HW3 := Lib.hid hW3
  unfold rkA at *
  clear hW1 hb3 hx hW3 hb' hE3 E hn hbw hN
  have hqv : ∀ u, Ev.Rz.ok (Ev.vb false) = .ok u → u.k = 2 ∧ u.n = 0 := fun u h => vb_of h
  have HT : Hid (Calls _ _ _ _ fun e w'' => e = endB (.ok (Ev.vb false)) ∧ _) := HT
  generalize Ev.Rz.ok (Ev.vb false) = Q at *
  have HO := Lib.hid (fun x w0 => ofBool_any x w0)
  unfold vlA Ev.vb at HO
  have hlk := look4 pb W3 HE3.out.pa
  rw [HW3.out] at hlk
  unfold ndW at HT
  cases Q with
  | er z =>
    simp only [endB, pan] at HT
    simp only [endZ, pan]
    go_enter Tryz.func139, Tryz.ntmps139
    go_wp2_with fail
    rw [← HW3.out]
    refine HT.out.mono ?_
    rintro e w1 ⟨rfl, hb⟩
    have HB := Lib.hid (HB3.out.trans (hb.mono HB3.out.size))
    clear hb
    go_simp
    exact ⟨rfl, rfl, HB.out⟩
  | ok v =>
    obtain ⟨vk, vn, vb⟩ := v
    have hqv := hqv _ rfl
    simp only at hqv
    obtain ⟨rfl, rfl⟩ := hqv
    simp only [endB] at HT
    go_enter Tryz.func139, Tryz.ntmps139
    go_wp2_with fail
    rw [← HW3.out]
    refine HT.out.mono ?_
    rintro e w1 ⟨rfl, hb1⟩
    go_wp2_with fail
    refine (HO.out _ _).mono ?_
    rintro e w2 ⟨rfl, hb2⟩
    have hb := hb1.trans (hb2.mono hb1.size)
    clear hb1 hb2
    have kz := (HX.out.below hb).vl
    have k0 := kz.at_ 0
    have k1 := kz.at_ 1
    have k2 := kz.at_ 2
    have f0 := kz.fz 0
    have f1 := kz.fz 1
    have f2 := kz.fz 2
    simp only [List.getElem?_toArray, List.getElem?_cons_zero, List.getElem?_cons_succ] at k0 k1 k2
    have HBF := Lib.hid ((((HB3.out.trans (hb.mono HB3.out.size)).setCell (p := ⟨w'.heap.size + 1, 0, none⟩) (Nat.le_succ _) (.int .u8 (2 : Nat))).setCell (p := ⟨w'.heap.size + 1, 1, none⟩) (Nat.le_succ _) (.int .i64 0)).setCell (p := ⟨w'.heap.size + 1, 2, none⟩) (Nat.le_succ _) (.bool vb))
    clear hb kz
    go_wp2
    refine bodyPost_ret (v := vlA ⟨2, 0, vb⟩) (by simp [results, Tryz.results139, go_sem, vlA, k0, k1, k2]) rfl ?_
    exact ⟨rfl, HBF.out⟩
set_option maxHeartbeats 1000000 in
set_option maxRecDepth 100000 in
theorem worth6 {w : World} {A : Option Addr} {l : List Nd} {c mb m pb : Nat} {bs : List Ev.Bd} (E : EvC w A l c mb m pb bs) {i : Nat} {num : Int} {nm : List UInt8} {na nb nc : Int} (hn : l[i]? = some ⟨6, num, nm, na, nb, nc⟩) {RA : Ev.Rz} (hA : WoC (rkA A l.length c mb pb) w na RA) :
    WoC (rkA A l.length c mb pb) w i (Ev.one 6 RA) := by
  intro w' hb'
  obtain ⟨g, o, N, W1, W3, rfl, hN, hW1, hW3, z0, z1, z2, z3, z4, z5, hi', hc', hx, hb3, hE3⟩ := pre3 E hn hb'
  obtain ⟨⟨x0, x1, x2⟩, y0, y1, y2, y3, y4, y5⟩ := hx.cells
  have HX := Lib.hid hx
  have HB3 := Lib.hid hb3
  have HE3 := Lib.hid hE3
  have hbw := hb'.trans (hb3.mono hb'.size)
  have HT := Lib.hid (hold6_any (some ⟨g, o, none⟩) l.length c mb pb w num N na nb nc RA (.er 0) hA W3 hbw)
  rw [hW1] at z0 z1 z2 z3 z4 z5 hW3
  rw [hW3] at x0 x1 x2 y0 y1 y2 y3 y4 y5
  have HW3 := Lib.hid hW3
  unfold rkA at *
  clear hW1 hb3 hx hW3 hb' hE3 E hn hbw hN hA
  have e0 : holdR 6 RA (.er 0) = Ev.one 6 RA := rfl
  rw [e0] at HT
  have hqv : ∀ u, Ev.one 6 RA = .ok u → u.k = 2 ∧ u.n = 0 := thn_vb fun v u h => vb_of h
  clear e0
  generalize Ev.one 6 RA = Q at *
  have HO := Lib.hid (fun x w0 => ofBool_any x w0)
  unfold vlA Ev.vb at HO
  have hlk := look6 pb W3 HE3.out.pa
  rw [HW3.out] at hlk
  unfold ndW at HT
  cases Q with
  | er z =>
    simp only [endB, pan] at HT
    simp only [endZ, pan]
    go_enter Tryz.func139, Tryz.ntmps139
    go_wp2_with fail
    rw [← HW3.out]
    refine HT.out.mono ?_
    rintro e w1 ⟨rfl, hb⟩
    have HB := Lib.hid (HB3.out.trans (hb.mono HB3.out.size))
    clear hb
    go_simp
    exact ⟨rfl, rfl, HB.out⟩
  | ok v =>
    obtain ⟨vk, vn, vb⟩ := v
    have hqv := hqv _ rfl
    simp only at hqv
    obtain ⟨rfl, rfl⟩ := hqv
    simp only [endB] at HT
    go_enter Tryz.func139, Tryz.ntmps139
    go_wp2_with fail
    rw [← HW3.out]
    refine HT.out.mono ?_
    rintro e w1 ⟨rfl, hb1⟩
    go_wp2_with fail
    refine (HO.out _ _).mono ?_
    rintro e w2 ⟨rfl, hb2⟩
    have hb := hb1.trans (hb2.mono hb1.size)
    clear hb1 hb2
    have kz := (HX.out.below hb).vl
    have k0 := kz.at_ 0
    have k1 := kz.at_ 1
    have k2 := kz.at_ 2
    have f0 := kz.fz 0
    have f1 := kz.fz 1
    have f2 := kz.fz 2
    simp only [List.getElem?_toArray, List.getElem?_cons_zero, List.getElem?_cons_succ] at k0 k1 k2
    have HBF := Lib.hid ((((HB3.out.trans (hb.mono HB3.out.size)).setCell (p := ⟨w'.heap.size + 1, 0, none⟩) (Nat.le_succ _) (.int .u8 (2 : Nat))).setCell (p := ⟨w'.heap.size + 1, 1, none⟩) (Nat.le_succ _) (.int .i64 0)).setCell (p := ⟨w'.heap.size + 1, 2, none⟩) (Nat.le_succ _) (.bool vb))
    clear hb kz
    go_wp2
    refine bodyPost_ret (v := vlA ⟨2, 0, vb⟩) (by simp [results, Tryz.results139, go_sem, vlA, k0, k1, k2]) rfl ?_
    exact ⟨rfl, HBF.out⟩
theorem two16 (RA RB : Ev.Rz) : Ev.two 16 RA RB = sameR RA RB := by
  show Ev.thn RA _ = Ev.thn RA _
  refine congrArg (Ev.thn RA) (funext fun v => congrArg (Ev.thn (Ev.prt RB v.k)) (funext fun u => ?_))
  show Ev.Rz.ok (Ev.vb (decide (v = u) == true)) = _
  rw [beq_true]
theorem two17 (RA RB : Ev.Rz) : Ev.two 17 RA RB = Ev.thn (sameR RA RB) fun v => .ok (Ev.vb (!v.b)) := by
  show Ev.thn RA (fun v => Ev.thn (Ev.prt RB v.k) fun u => .ok (Ev.vb (decide (v = u) == false))) = _
  cases RA with
  | er z => rfl
  | ok v =>
    rw [thn_ok]
    show _ = Ev.thn (Ev.thn (Ev.prt RB v.k) _) _
    cases Ev.prt RB v.k with
    | er z => rfl
    | ok u =>
      show Ev.Rz.ok (Ev.vb (decide (v = u) == false)) = Ev.Rz.ok (Ev.vb (!decide (v = u)))
      rw [beq_false]
theorem hold_two {o : Nat} (ho : 16 ≤ o) (RA RB : Ev.Rz) : holdR o RA RB = Ev.two o RA RB := by
  unfold holdR
  rw [if_neg (by omega), if_neg (by omega), if_neg (by omega)]
  by_cases h1 : o = 16
  · subst h1; rw [if_pos rfl, two16]
  · rw [if_neg h1]
    by_cases h2 : o = 17
    · subst h2; rw [if_pos rfl, two17]
    · rw [if_neg h2]
theorem two_vb {o : Nat} (ho : 16 ≤ o) (RA RB : Ev.Rz) : ∀ u, Ev.two o RA RB = .ok u → u.k = 2 ∧ u.n = 0 := by
  have hb : ∀ u, (Ev.thn (Ev.prt RB 2) fun u => .ok (Ev.vb u.b)) = .ok u → u.k = 2 ∧ u.n = 0 := thn_vb fun v u h => vb_of h
  unfold Ev.two
  rw [if_neg (by omega)]
  split
  · exact thn_vb fun v u h => thn_vb (fun v u h => vb_of h) u h
  split
  · exact thn_vb fun v u h => by
      split at h
      · exact hb u h
      · exact vb_of h
  split
  · exact thn_vb fun v u h => by
      split at h
      · exact vb_of h
      · exact hb u h
  split
  · exact thn_vb fun v u h => thn_vb (fun v u h => vb_of h) u h
  exact thn_vb fun v u h => by
    split at h
    · exact hb u h
    · exact vb_of h
set_option maxHeartbeats 1000000 in
set_option maxRecDepth 100000 in
theorem worth16 {w : World} {A : Option Addr} {l : List Nd} {c mb m pb : Nat} {bs : List Ev.Bd} (E : EvC w A l c mb m pb bs) {i : Nat} {num : Int} {nm : List UInt8} {na nb nc : Int} (hn : l[i]? = some ⟨16, num, nm, na, nb, nc⟩) {RA RB : Ev.Rz} (hA : WoC (rkA A l.length c mb pb) w na RA) (hB : WoC (rkA A l.length c mb pb) w nb RB) :
    WoC (rkA A l.length c mb pb) w i (Ev.two 16 RA RB) := by
  intro w' hb'
  obtain ⟨g, o, N, W1, W3, rfl, hN, hW1, hW3, z0, z1, z2, z3, z4, z5, hi', hc', hx, hb3, hE3⟩ := pre3 E hn hb'
  obtain ⟨⟨x0, x1, x2⟩, y0, y1, y2, y3, y4, y5⟩ := hx.cells
  have HX := Lib.hid hx
  have HB3 := Lib.hid hb3
  have HE3 := Lib.hid hE3
  have hbw := hb'.trans (hb3.mono hb'.size)
  have HT := Lib.hid (hold16_any (some ⟨g, o, none⟩) l.length c mb pb w num N na nb nc RA RB hA hB W3 hbw)
  rw [hW1] at z0 z1 z2 z3 z4 z5 hW3
  rw [hW3] at x0 x1 x2 y0 y1 y2 y3 y4 y5
  have HW3 := Lib.hid hW3
  unfold rkA at *
  clear hW1 hb3 hx hW3 hb' hE3 E hn hbw hN hA hB
  rw [hold_two (by decide)] at HT
  have hqv := two_vb (o := 16) (by decide) RA RB
  generalize Ev.two 16 RA RB = Q at *
  have HO := Lib.hid (fun x w0 => ofBool_any x w0)
  unfold vlA Ev.vb at HO
  have hlk := look16 pb W3 HE3.out.pa
  rw [HW3.out] at hlk
  unfold ndW at HT
  cases Q with
  | er z =>
    simp only [endB, pan] at HT
    simp only [endZ, pan]
    go_enter Tryz.func139, Tryz.ntmps139
    go_wp2_with fail
    rw [← HW3.out]
    refine HT.out.mono ?_
    rintro e w1 ⟨rfl, hb⟩
    have HB := Lib.hid (HB3.out.trans (hb.mono HB3.out.size))
    clear hb
    go_simp
    exact ⟨rfl, rfl, HB.out⟩
  | ok v =>
    obtain ⟨vk, vn, vb⟩ := v
    have hqv := hqv _ rfl
    simp only at hqv
    obtain ⟨rfl, rfl⟩ := hqv
    simp only [endB] at HT
    go_enter Tryz.func139, Tryz.ntmps139
    go_wp2_with fail
    rw [← HW3.out]
    refine HT.out.mono ?_
    rintro e w1 ⟨rfl, hb1⟩
    go_wp2_with fail
    refine (HO.out _ _).mono ?_
    rintro e w2 ⟨rfl, hb2⟩
    have hb := hb1.trans (hb2.mono hb1.size)
    clear hb1 hb2
    have kz := (HX.out.below hb).vl
    have k0 := kz.at_ 0
    have k1 := kz.at_ 1
    have k2 := kz.at_ 2
    have f0 := kz.fz 0
    have f1 := kz.fz 1
    have f2 := kz.fz 2
    simp only [List.getElem?_toArray, List.getElem?_cons_zero, List.getElem?_cons_succ] at k0 k1 k2
    have HBF := Lib.hid ((((HB3.out.trans (hb.mono HB3.out.size)).setCell (p := ⟨w'.heap.size + 1, 0, none⟩) (Nat.le_succ _) (.int .u8 (2 : Nat))).setCell (p := ⟨w'.heap.size + 1, 1, none⟩) (Nat.le_succ _) (.int .i64 0)).setCell (p := ⟨w'.heap.size + 1, 2, none⟩) (Nat.le_succ _) (.bool vb))
    clear hb kz
    go_wp2
    refine bodyPost_ret (v := vlA ⟨2, 0, vb⟩) (by simp [results, Tryz.results139, go_sem, vlA, k0, k1, k2]) rfl ?_
    exact ⟨rfl, HBF.out⟩
set_option maxHeartbeats 1000000 in
set_option maxRecDepth 100000 in
theorem worth17 {w : World} {A : Option Addr} {l : List Nd} {c mb m pb : Nat} {bs : List Ev.Bd} (E : EvC w A l c mb m pb bs) {i : Nat} {num : Int} {nm : List UInt8} {na nb nc : Int} (hn : l[i]? = some ⟨17, num, nm, na, nb, nc⟩) {RA RB : Ev.Rz} (hA : WoC (rkA A l.length c mb pb) w na RA) (hB : WoC (rkA A l.length c mb pb) w nb RB) :
    WoC (rkA A l.length c mb pb) w i (Ev.two 17 RA RB) := by
  intro w' hb'
  obtain ⟨g, o, N, W1, W3, rfl, hN, hW1, hW3, z0, z1, z2, z3, z4, z5, hi', hc', hx, hb3, hE3⟩ := pre3 E hn hb'
  obtain ⟨⟨x0, x1, x2⟩, y0, y1, y2, y3, y4, y5⟩ := hx.cells
  have HX := Lib.hid hx
  have HB3 := Lib.hid hb3
  have HE3 := Lib.hid hE3
  have hbw := hb'.trans (hb3.mono hb'.size)
  have HT := Lib.hid (hold17_any (some ⟨g, o, none⟩) l.length c mb pb w num N na nb nc RA RB hA hB W3 hbw)
  rw [hW1] at z0 z1 z2 z3 z4 z5 hW3
  rw [hW3] at x0 x1 x2 y0 y1 y2 y3 y4 y5
  have HW3 := Lib.hid hW3
  unfold rkA at *
  clear hW1 hb3 hx hW3 hb' hE3 E hn hbw hN hA hB
  rw [hold_two (by decide)] at HT
  have hqv := two_vb (o := 17) (by decide) RA RB
  generalize Ev.two 17 RA RB = Q at *
  have HO := Lib.hid (fun x w0 => ofBool_any x w0)
  unfold vlA Ev.vb at HO
  have hlk := look17 pb W3 HE3.out.pa
  rw [HW3.out] at hlk
  unfold ndW at HT
  cases Q with
  | er z =>
    simp only [endB, pan] at HT
    simp only [endZ, pan]
    go_enter Tryz.func139, Tryz.ntmps139
    go_wp2_with fail
    rw [← HW3.out]
    refine HT.out.mono ?_
    rintro e w1 ⟨rfl, hb⟩
    have HB := Lib.hid (HB3.out.trans (hb.mono HB3.out.size))
    clear hb
    go_simp
    exact ⟨rfl, rfl, HB.out⟩
  | ok v =>
    obtain ⟨vk, vn, vb⟩ := v
    have hqv := hqv _ rfl
    simp only at hqv
    obtain ⟨rfl, rfl⟩ := hqv
    simp only [endB] at HT
    go_enter Tryz.func139, Tryz.ntmps139
    go_wp2_with fail
    rw [← HW3.out]
    refine HT.out.mono ?_
    rintro e w1 ⟨rfl, hb1⟩
    go_wp2_with fail
    refine (HO.out _ _).mono ?_
    rintro e w2 ⟨rfl, hb2⟩
    have hb := hb1.trans (hb2.mono hb1.size)
    clear hb1 hb2
    have kz := (HX.out.below hb).vl
    have k0 := kz.at_ 0
    have k1 := kz.at_ 1
    have k2 := kz.at_ 2
    have f0 := kz.fz 0
    have f1 := kz.fz 1
    have f2 := kz.fz 2
    simp only [List.getElem?_toArray, List.getElem?_cons_zero, List.getElem?_cons_succ] at k0 k1 k2
    have HBF := Lib.hid ((((HB3.out.trans (hb.mono HB3.out.size)).setCell (p := ⟨w'.heap.size + 1, 0, none⟩) (Nat.le_succ _) (.int .u8 (2 : Nat))).setCell (p := ⟨w'.heap.size + 1, 1, none⟩) (Nat.le_succ _) (.int .i64 0)).setCell (p := ⟨w'.heap.size + 1, 2, none⟩) (Nat.le_succ _) (.bool vb))
    clear hb kz
    go_wp2
    refine bodyPost_ret (v := vlA ⟨2, 0, vb⟩) (by simp [results, Tryz.results139, go_sem, vlA, k0, k1, k2]) rfl ?_
    exact ⟨rfl, HBF.out⟩
set_option maxHeartbeats 1000000 in
set_option maxRecDepth 100000 in
theorem worth18 {w : World} {A : Option Addr} {l : List Nd} {c mb m pb : Nat} {bs : List Ev.Bd} (E : EvC w A l c mb m pb bs) {i : Nat} {num : Int} {nm : List UInt8} {na nb nc : Int} (hn : l[i]? = some ⟨18, num, nm, na, nb, nc⟩) {RA RB : Ev.Rz} (hA : WoC (rkA A l.length c mb pb) w na RA) (hB : WoC (rkA A l.length c mb pb) w nb RB) :
    WoC (rkA A l.length c mb pb) w i (Ev.two 18 RA RB) := by
  intro w' hb'
  obtain ⟨g, o, N, W1, W3, rfl, hN, hW1, hW3, z0, z1, z2, z3, z4, z5, hi', hc', hx, hb3, hE3⟩ := pre3 E hn hb'
  obtain ⟨⟨x0, x1, x2⟩, y0, y1, y2, y3, y4, y5⟩ := hx.cells
  have HX := Lib.hid hx
  have HB3 := Lib.hid hb3
  have HE3 := Lib.hid hE3
  have hbw := hb'.trans (hb3.mono hb'.size)
  have HT := Lib.hid (hold18_any (some ⟨g, o, none⟩) l.length c mb pb w num N na nb nc RA RB hA hB W3 hbw)
  rw [hW1] at z0 z1 z2 z3 z4 z5 hW3
  rw [hW3] at x0 x1 x2 y0 y1 y2 y3 y4 y5
  have HW3 := Lib.hid hW3
  unfold rkA at *
  clear hW1 hb3 hx hW3 hb' hE3 E hn hbw hN hA hB
  rw [hold_two (by decide)] at HT
  have hqv := two_vb (o := 18) (by decide) RA RB
  generalize Ev.two 18 RA RB = Q at *
  have HO := Lib.hid (fun x w0 => ofBool_any x w0)
  unfold vlA Ev.vb at HO
  have hlk := look18 pb W3 HE3.out.pa
  rw [HW3.out] at hlk
  unfold ndW at HT
  cases Q with
  | er z =>
    simp only [endB, pan] at HT
    simp only [endZ, pan]
    go_enter Tryz.func139, Tryz.ntmps139
    go_wp2_with fail
    rw [← HW3.out]
    refine HT.out.mono ?_
    rintro e w1 ⟨rfl, hb⟩
    have HB := Lib.hid (HB3.out.trans (hb.mono HB3.out.size))
    clear hb
    go_simp
    exact ⟨rfl, rfl, HB.out⟩
  | ok v =>
    obtain ⟨vk, vn, vb⟩ := v
    have hqv := hqv _ rfl
    simp only at hqv
    obtain ⟨rfl, rfl⟩ := hqv
    simp only [endB] at HT
    go_enter Tryz.func139, Tryz.ntmps139
    go_wp2_with fail
    rw [← HW3.out]
    refine HT.out.mono ?_
    rintro e w1 ⟨rfl, hb1⟩
    go_wp2_with fail
    refine (HO.out _ _).mono ?_
    rintro e w2 ⟨rfl, hb2⟩
    have hb := hb1.trans (hb2.mono hb1.size)
    clear hb1 hb2
    have kz := (HX.out.below hb).vl
    have k0 := kz.at_ 0
    have k1 := kz.at_ 1
    have k2 := kz.at_ 2
    have f0 := kz.fz 0
    have f1 := kz.fz 1
    have f2 := kz.fz 2
    simp only [List.getElem?_toArray, List.getElem?_cons_zero, List.getElem?_cons_succ] at k0 k1 k2
    have HBF := Lib.hid ((((HB3.out.trans (hb.mono HB3.out.size)).setCell (p := ⟨w'.heap.size + 1, 0, none⟩) (Nat.le_succ _) (.int .u8 (2 : Nat))).setCell (p := ⟨w'.heap.size + 1, 1, none⟩) (Nat.le_succ _) (.int .i64 0)).setCell (p := ⟨w'.heap.size + 1, 2, none⟩) (Nat.le_succ _) (.bool vb))
    clear hb kz
    go_wp2
    refine bodyPost_ret (v := vlA ⟨2, 0, vb⟩) (by simp [results, Tryz.results139, go_sem, vlA, k0, k1, k2]) rfl ?_
    exact ⟨rfl, HBF.out⟩
set_option maxHeartbeats 1000000 in
set_option maxRecDepth 100000 in
theorem worth19 {w : World} {A : Option Addr} {l : List Nd} {c mb m pb : Nat} {bs : List Ev.Bd} (E : EvC w A l c mb m pb bs) {i : Nat} {num : Int} {nm : List UInt8} {na nb nc : Int} (hn : l[i]? = some ⟨19, num, nm, na, nb, nc⟩) {RA RB : Ev.Rz} (hA : WoC (rkA A l.length c mb pb) w na RA) (hB : WoC (rkA A l.length c mb pb) w nb RB) :
    WoC (rkA A l.length c mb pb) w i (Ev.two 19 RA RB) := by
  intro w' hb'
  obtain ⟨g, o, N, W1, W3, rfl, hN, hW1, hW3, z0, z1, z2, z3, z4, z5, hi', hc', hx, hb3, hE3⟩ := pre3 E hn hb'
  obtain ⟨⟨x0, x1, x2⟩, y0, y1, y2, y3, y4, y5⟩ := hx.cells
  have HX := Lib.hid hx
  have HB3 := Lib.hid hb3
  have HE3 := Lib.hid hE3
  have hbw := hb'.trans (hb3.mono hb'.size)
  have HT := Lib.hid (hold19_any (some ⟨g, o, none⟩) l.length c mb pb w num N na nb nc RA RB hA hB W3 hbw)
  rw [hW1] at z0 z1 z2 z3 z4 z5 hW3
  rw [hW3] at x0 x1 x2 y0 y1 y2 y3 y4 y5
  have HW3 := Lib.hid hW3
  unfold rkA at *
  clear hW1 hb3 hx hW3 hb' hE3 E hn hbw hN hA hB
  rw [hold_two (by decide)] at HT
  have hqv := two_vb (o := 19) (by decide) RA RB
  generalize Ev.two 19 RA RB = Q at *
  have HO := Lib.hid (fun x w0 => ofBool_any x w0)
  unfold vlA Ev.vb at HO
  have hlk := look19 pb W3 HE3.out.pa
  rw [HW3.out] at hlk
  unfold ndW at HT
  cases Q with
  | er z =>
    simp only [endB, pan] at HT
    simp only [endZ, pan]
    go_enter Tryz.func139, Tryz.ntmps139
    go_wp2_with fail
    rw [← HW3.out]
    refine HT.out.mono ?_
    rintro e w1 ⟨rfl, hb⟩
    have HB := Lib.hid (HB3.out.trans (hb.mono HB3.out.size))
    clear hb
    go_simp
    exact ⟨rfl, rfl, HB.out⟩
  | ok v =>
    obtain ⟨vk, vn, vb⟩ := v
    have hqv := hqv _ rfl
    simp only at hqv
    obtain ⟨rfl, rfl⟩ := hqv
    simp only [endB] at HT
    go_enter Tryz.func139, Tryz.ntmps139
    go_wp2_with fail
    rw [← HW3.out]
    refine HT.out.mono ?_
    rintro e w1 ⟨rfl, hb1⟩
    go_wp2_with fail
    refine (HO.out _ _).mono ?_
    rintro e w2 ⟨rfl, hb2⟩
    have hb := hb1.trans (hb2.mono hb1.size)
    clear hb1 hb2
    have kz := (HX.out.below hb).vl
    have k0 := kz.at_ 0
    have k1 := kz.at_ 1
    have k2 := kz.at_ 2
    have f0 := kz.fz 0
    have f1 := kz.fz 1
    have f2 := kz.fz 2
    simp only [List.getElem?_toArray, List.getElem?_cons_zero, List.getElem?_cons_succ] at k0 k1 k2
    have HBF := Lib.hid ((((HB3.out.trans (hb.mono HB3.out.size)).setCell (p := ⟨w'.heap.size + 1, 0, none⟩) (Nat.le_succ _) (.int .u8 (2 : Nat))).setCell (p := ⟨w'.heap.size + 1, 1, none⟩) (Nat.le_succ _) (.int .i64 0)).setCell (p := ⟨w'.heap.size + 1, 2, none⟩) (Nat.le_succ _) (.bool vb))
    clear hb kz
    go_wp2
    refine bodyPost_ret (v := vlA ⟨2, 0, vb⟩) (by simp [results, Tryz.results139, go_sem, vlA, k0, k1, k2]) rfl ?_
    exact ⟨rfl, HBF.out⟩
set_option maxHeartbeats 1000000 in
set_option maxRecDepth 100000 in
theorem worth20 {w : World} {A : Option Addr} {l : List Nd} {c mb m pb : Nat} {bs : List Ev.Bd} (E : EvC w A l c mb m pb bs) {i : Nat} {num : Int} {nm : List UInt8} {na nb nc : Int} (hn : l[i]? = some ⟨20, num, nm, na, nb, nc⟩) {RA RB : Ev.Rz} (hA : WoC (rkA A l.length c mb pb) w na RA) (hB : WoC (rkA A l.length c mb pb) w nb RB) :
    WoC (rkA A l.length c mb pb) w i (Ev.two 20 RA RB) := by
  intro w' hb'
  obtain ⟨g, o, N, W1, W3, rfl, hN, hW1, hW3, z0, z1, z2, z3, z4, z5, hi', hc', hx, hb3, hE3⟩ := pre3 E hn hb'
  obtain ⟨⟨x0, x1, x2⟩, y0, y1, y2, y3, y4, y5⟩ := hx.cells
  have HX := Lib.hid hx
  have HB3 := Lib.hid hb3
  have HE3 := Lib.hid hE3
  have hbw := hb'.trans (hb3.mono hb'.size)
  have HT := Lib.hid (hold20_any (some ⟨g, o, none⟩) l.length c mb pb w num N na nb nc RA RB hA hB W3 hbw)
  rw [hW1] at z0 z1 z2 z3 z4 z5 hW3
  rw [hW3] at x0 x1 x2 y0 y1 y2 y3 y4 y5
  have HW3 := Lib.hid hW3
  unfold rkA at *
  clear hW1 hb3 hx hW3 hb' hE3 E hn hbw hN hA hB
  rw [hold_two (by decide)] at HT
  have hqv := two_vb (o := 20) (by decide) RA RB
  generalize Ev.two 20 RA RB = Q at *
  have HO := Lib.hid (fun x w0 => ofBool_any x w0)
  unfold vlA Ev.vb at HO
  have hlk := look20 pb W3 HE3.out.pa
  rw [HW3.out] at hlk
  unfold ndW at HT
  cases Q with
  | er z =>
    simp only [endB, pan] at HT
    simp only [endZ, pan]
    go_enter Tryz.func139, Tryz.ntmps139
    go_wp2_with fail
    rw [← HW3.out]
    refine HT.out.mono ?_
    rintro e w1 ⟨rfl, hb⟩
    have HB := Lib.hid (HB3.out.trans (hb.mono HB3.out.size))
    clear hb
    go_simp
    exact ⟨rfl, rfl, HB.out⟩
  | ok v =>
    obtain ⟨vk, vn, vb⟩ := v
    have hqv := hqv _ rfl
    simp only at hqv
    obtain ⟨rfl, rfl⟩ := hqv
    simp only [endB] at HT
    go_enter Tryz.func139, Tryz.ntmps139
    go_wp2_with fail
    rw [← HW3.out]
    refine HT.out.mono ?_
    rintro e w1 ⟨rfl, hb1⟩
    go_wp2_with fail
    refine (HO.out _ _).mono ?_
    rintro e w2 ⟨rfl, hb2⟩
    have hb := hb1.trans (hb2.mono hb1.size)
    clear hb1 hb2
    have kz := (HX.out.below hb).vl
    have k0 := kz.at_ 0
    have k1 := kz.at_ 1
    have k2 := kz.at_ 2
    have f0 := kz.fz 0
    have f1 := kz.fz 1
    have f2 := kz.fz 2
    simp only [List.getElem?_toArray, List.getElem?_cons_zero, List.getElem?_cons_succ] at k0 k1 k2
    have HBF := Lib.hid ((((HB3.out.trans (hb.mono HB3.out.size)).setCell (p := ⟨w'.heap.size + 1, 0, none⟩) (Nat.le_succ _) (.int .u8 (2 : Nat))).setCell (p := ⟨w'.heap.size + 1, 1, none⟩) (Nat.le_succ _) (.int .i64 0)).setCell (p := ⟨w'.heap.size + 1, 2, none⟩) (Nat.le_succ _) (.bool vb))
    clear hb kz
    go_wp2
    refine bodyPost_ret (v := vlA ⟨2, 0, vb⟩) (by simp [results, Tryz.results139, go_sem, vlA, k0, k1, k2]) rfl ?_
    exact ⟨rfl, HBF.out⟩
set_option maxHeartbeats 1000000 in
set_option maxRecDepth 100000 in
theorem worth21 {w : World} {A : Option Addr} {l : List Nd} {c mb m pb : Nat} {bs : List Ev.Bd} (E : EvC w A l c mb m pb bs) {i : Nat} {num : Int} {nm : List UInt8} {na nb nc : Int} (hn : l[i]? = some ⟨21, num, nm, na, nb, nc⟩) {RA RB : Ev.Rz} (hA : WoC (rkA A l.length c mb pb) w na RA) (hB : WoC (rkA A l.length c mb pb) w nb RB) :
    WoC (rkA A l.length c mb pb) w i (Ev.two 21 RA RB) := by
  intro w' hb'
  obtain ⟨g, o, N, W1, W3, rfl, hN, hW1, hW3, z0, z1, z2, z3, z4, z5, hi', hc', hx, hb3, hE3⟩ := pre3 E hn hb'
  obtain ⟨⟨x0, x1, x2⟩, y0, y1, y2, y3, y4, y5⟩ := hx.cells
  have HX := Lib.hid hx
  have HB3 := Lib.hid hb3
  have HE3 := Lib.hid hE3
  have hbw := hb'.trans (hb3.mono hb'.size)
  have HT := Lib.hid (hold21_any (some ⟨g, o, none⟩) l.length c mb pb w num N na nb nc RA RB hA hB W3 hbw)
  rw [hW1] at z0 z1 z2 z3 z4 z5 hW3
  rw [hW3] at x0 x1 x2 y0 y1 y2 y3 y4 y5
  have HW3 := Lib.hid hW3
  unfold rkA at *
  clear hW1 hb3 hx hW3 hb' hE3 E hn hbw hN hA hB
  rw [hold_two (by decide)] at HT
  have hqv := two_vb (o := 21) (by decide) RA RB
  generalize Ev.two 21 RA RB = Q at *
  have HO := Lib.hid (fun x w0 => ofBool_any x w0)
  unfold vlA Ev.vb at HO
  have hlk := look21 pb W3 HE3.out.pa
  rw [HW3.out] at hlk
  unfold ndW at HT
  cases Q with
  | er z =>
    simp only [endB, pan] at HT
    simp only [endZ, pan]
    go_enter Tryz.func139, Tryz.ntmps139
    go_wp2_with fail
    rw [← HW3.out]
    refine HT.out.mono ?_
    rintro e w1 ⟨rfl, hb⟩
    have HB := Lib.hid (HB3.out.trans (hb.mono HB3.out.size))
    clear hb
    go_simp
    exact ⟨rfl, rfl, HB.out⟩
  | ok v =>
    obtain ⟨vk, vn, vb⟩ := v
    have hqv := hqv _ rfl
    simp only at hqv
    obtain ⟨rfl, rfl⟩ := hqv
    simp only [endB] at HT
    go_enter Tryz.func139, Tryz.ntmps139
    go_wp2_with fail
    rw [← HW3.out]
    refine HT.out.mono ?_
    rintro e w1 ⟨rfl, hb1⟩
    go_wp2_with fail
    refine (HO.out _ _).mono ?_
    rintro e w2 ⟨rfl, hb2⟩
    have hb := hb1.trans (hb2.mono hb1.size)
    clear hb1 hb2
    have kz := (HX.out.below hb).vl
    have k0 := kz.at_ 0
    have k1 := kz.at_ 1
    have k2 := kz.at_ 2
    have f0 := kz.fz 0
    have f1 := kz.fz 1
    have f2 := kz.fz 2
    simp only [List.getElem?_toArray, List.getElem?_cons_zero, List.getElem?_cons_succ] at k0 k1 k2
    have HBF := Lib.hid ((((HB3.out.trans (hb.mono HB3.out.size)).setCell (p := ⟨w'.heap.size + 1, 0, none⟩) (Nat.le_succ _) (.int .u8 (2 : Nat))).setCell (p := ⟨w'.heap.size + 1, 1, none⟩) (Nat.le_succ _) (.int .i64 0)).setCell (p := ⟨w'.heap.size + 1, 2, none⟩) (Nat.le_succ _) (.bool vb))
    clear hb kz
    go_wp2
    refine bodyPost_ret (v := vlA ⟨2, 0, vb⟩) (by simp [results, Tryz.results139, go_sem, vlA, k0, k1, k2]) rfl ?_
    exact ⟨rfl, HBF.out⟩
end Go.Proofs.YtdcjpinbflmikaaGreatDoor
