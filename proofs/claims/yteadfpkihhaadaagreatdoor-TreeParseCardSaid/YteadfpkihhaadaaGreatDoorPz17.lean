/- Facts and walks for the statement. -/
import Derived.Test.YteadfpkihhaadaaGreatDoorPz15
import Derived.Test.YteadfpkihhaadaaGreatDoorPz16
namespace Go.Proofs.YteadfpkihhaadaaGreatDoor
open Go.RowKit
structure Nd where
 n : Tr.N
 A : Option Addr
 c : Nat
def Nd.cs (x : Nd) : Array Value := #[.string ⟨x.n.nm.toArray⟩, .slice x.A x.n.al.length x.c, .string ⟨x.n.tx.toArray⟩, .int .i64 x.n.pa, .int .i64 x.n.fi, .int .i64 x.n.nx, .int .i64 x.n.at_]
structure NdOk (w : World) (B : Nat) (x : Nd) : Prop where
 att : Reads2o w B x.A x.n.al
 len : x.n.al.length ≤ x.c
 cap : x.c ≤ maxLen
theorem NdOk.below {w w' : World} {B : Nat} {x : Nd} (h : NdOk w B x) (hb : Below B w w') : NdOk w' B x := ⟨h.att.below hb, h.len, h.cap⟩
theorem Reads2o.more5 {w : World} {B B' : Nat} {A : Option Addr} {al : List (List UInt8 × List UInt8)} (h : Reads2o w B A al) (hB : B ≤ B') : Reads2o w B' A al := fun h0 => by
 obtain ⟨g, o, e, hg, hc⟩ := h h0
 exact ⟨g, o, e, by omega, hc⟩
theorem NdOk.more {w : World} {B B' : Nat} {x : Nd} (h : NdOk w B x) (hB : B ≤ B') : NdOk w B' x := ⟨h.att.more5 hB, h.len, h.cap⟩
theorem bytes_inj {a b : List UInt8} : ((⟨a.toArray⟩ : ByteArray) = ⟨b.toArray⟩) ↔ a = b := by
 constructor
 ·intro h
  have := congrArg (fun x : ByteArray => x.data.toList) h
  simpa using this
 ·intro h; rw [h]
theorem drop_ne_of {α : Type} {a b : List α} {k : Nat} (ha : k < a.length) (hb : k < b.length) (h : a[k] ≠ b[k]) : a ≠ b := fun e => by
 subst e; exact h rfl
theorem take_eq_all {α : Type} {a b : List α} {n : Nat} (ha : a.length = n) (hb : b.length = n) (h : a.take n = b.take n) : a = b := by
 rw [← List.take_length (l := a), ← List.take_length (l := b), ha, hb, h]
set_option maxHeartbeats 4000000 in
set_option maxRecDepth 100000 in
theorem sEqual_any (w : World) (A A2 : Option Addr) (c c2 : Nat) (al bl : List (List UInt8 × List UInt8)) (hl1 : al.length ≤ c) (hl2 : bl.length ≤ c2) (hc1 : c ≤ maxLen) (hc2 : c2 ≤ maxLen) (h1 : Reads2o w w.heap.size A al) (h2 : Reads2o w w.heap.size A2 bl) :
  Calls Tryz.prog 75 #[.slice A al.length c, .slice A2 bl.length c2] w fun e w' => e = .returned (.bool (decide (al = bl))) ∧ Below w.heap.size w w' := by
 have H1 := Lib.hid h1
 have H2 := Lib.hid h2
 have hm1 : (al.length : Int) ≤ 9223372036854775807 := by unfold maxLen at hc1; omega
 have hm2 : (bl.length : Int) ≤ 9223372036854775807 := by unfold maxLen at hc2; omega
 clear h1 h2
 by_cases hlen : al.length = bl.length
 ·have hlen' : (al.length : Int) = (bl.length : Int) := by omega
  have HLEN := Lib.hid hlen
  obtain ⟨n, hn⟩ : ∃ n, n = bl.length := ⟨_, rfl⟩
  have hn1 : al.length = n := by omega
  have HN1 := Lib.hid hn1
  have HN2 := Lib.hid hn
  rw [hn1, ← hn]
  rw [hn1] at hl1 hm1
  clear hlen' hm2 hl2 hlen hn1 hn
  go_enter Tryz.func75, Tryz.ntmps75
  go_wp2
  go_loopw [13] (fun i wr => ∃ k : Nat, k ≤ n ∧ i = .int .i64 k ∧ Hid (Below w.heap.size w wr ∧ al.take k = bl.take k)) (fun i _ => n - (intOf i).toNat)
  case atStart => exact ⟨0, Nat.zero_le _, rfl, Lib.hid ⟨Below.refl _ _, by simp⟩⟩
  case round =>
   obtain ⟨k, hk, rfl, HI⟩ := hrel
   by_cases hlt : k < n
   ·obtain ⟨g, o, hA, hg, hcl⟩ := (H1.out.below HI.out.1) (by have := HN1.out; omega)
    obtain ⟨g2, o2, hA2, hg2, hcl2⟩ := (H2.out.below HI.out.1) (by have := HN2.out; omega)
    subst hA hA2
    have hka : k < al.length := by have := HN1.out; omega
    have hkb : k < bl.length := by have := HN2.out; omega
    obtain ⟨c0, c1⟩ := hcl k hka
    obtain ⟨d0, d1⟩ := hcl2 k hkb
    have HT := Lib.hid (And.intro (take_snoc_ hka) (take_snoc_ hkb))
    have HNE := Lib.hid (drop_ne_of hka hkb)
    have hlt' : (k : Int) < (n : Int) := by omega
    clear hcl hcl2 hlt
    generalize al[k] = a at *
    generalize bl[k] = b at *
    obtain ⟨U, hU⟩ : ∃ U : ByteArray, U = ⟨a.1.toArray⟩ := ⟨_, rfl⟩
    obtain ⟨V, hV⟩ : ∃ V : ByteArray, V = ⟨a.2.toArray⟩ := ⟨_, rfl⟩
    obtain ⟨U2, hU2⟩ : ∃ U : ByteArray, U = ⟨b.1.toArray⟩ := ⟨_, rfl⟩
    obtain ⟨V2, hV2⟩ : ∃ V : ByteArray, V = ⟨b.2.toArray⟩ := ⟨_, rfl⟩
    rw [← hU] at c0
    rw [← hV] at c1
    rw [← hU2] at d0
    rw [← hV2] at d1
    have hab : (U = U2 ∧ V = V2) ↔ a = b := by
     rw [hU, hV, hU2, hV2, bytes_inj, bytes_inj]
     exact ⟨fun h => Prod.ext h.1 h.2, fun h => by rw [h]; exact ⟨rfl, rfl⟩⟩
    have HAB := Lib.hid hab
    clear hU hV hU2 hV2 hab
    by_cases hu : U = U2
    ·subst hu
     by_cases hv : V = V2
     ·subst hv
      have HEQ := Lib.hid (HAB.out.1 ⟨rfl, rfl⟩)
      go_wp2_with fail
      go_quiet (fail)
      go_wp2
      go_roundw
      case rel => exact ⟨k + 1, by omega, by go_num, Lib.hid ⟨below_drewN HI.out.1 _, by rw [HT.out.1, HT.out.2, HI.out.2, HEQ.out]⟩⟩
      case measure => simp [intOf]; omega
     ·have hvn : ¬ V.toList = V2.toList := fun e => hv (ba_eq (by rw [← Lib.toList_data, e, Lib.toList_data]))
      have hvv : (V.toList == V2.toList) = false := beq_eq_false_iff_ne.2 hvn
      have HNE2 := Lib.hid (HNE.out (fun e => hv (HAB.out.2 e).2))
      clear hv
      go_wp2_with fail
      go_quiet (fail)
      go_wp2
      go_ret
      exact ⟨by rw [decide_eq_false HNE2.out]; rfl, below_drewN HI.out.1 _⟩
    ·have hun : ¬ U.toList = U2.toList := fun e => hu (ba_eq (by rw [← Lib.toList_data, e, Lib.toList_data]))
     have huu : (U.toList == U2.toList) = false := beq_eq_false_iff_ne.2 hun
     have HNE2 := Lib.hid (HNE.out (fun e => hu (HAB.out.2 e).1))
     clear hu
     go_wp2_with fail
     go_quiet (fail)
     go_wp2
     go_ret
     exact ⟨by rw [decide_eq_false HNE2.out]; rfl, below_drewN HI.out.1 _⟩
   ·obtain rfl : k = n := by omega
    have HE := Lib.hid (take_eq_all HN1.out HN2.out.symm HI.out.2)
    have hlt' : ¬ (k : Int) < (k : Int) := by omega
    go_wp2
    go_ret
    exact ⟨by rw [decide_eq_true HE.out]; rfl, HI.out.1⟩
 ·have hlen' : ((al.length : Int) == (bl.length : Int)) = false := by
   apply beq_eq_false_iff_ne.2
   omega
  have HNE := Lib.hid (show al ≠ bl from fun e => hlen (by rw [e]))
  clear hlen
  go_enter Tryz.func75, Tryz.ntmps75
  go_wp2
  go_ret
  exact ⟨by rw [decide_eq_false HNE.out]; rfl, Below.refl _ _⟩
theorem str_ne {a b : List UInt8} {A B : ByteArray} (hA : A = ⟨a.toArray⟩) (hB : B = ⟨b.toArray⟩) (h : ¬ a = b) : (A.toList == B.toList) = false := by
 refine beq_eq_false_iff_ne.2 fun e => h ?_
 rw [Lib.toList_data, Lib.toList_data, hA, hB] at e
 exact e
set_option maxHeartbeats 4000000 in
set_option maxRecDepth 100000 in
theorem sameNode_any (w : World) (x y : Nd) (hx : NdOk w w.heap.size x) (hy : NdOk w w.heap.size y) :
  Calls Tryz.prog 37 #[.agg x.cs, .agg y.cs] w fun e w' => e = .returned (.bool (Tr.same1 x.n y.n)) ∧ Below w.heap.size w w' := by
 obtain ⟨⟨nm, al, tx, pa, fi, nx, at1⟩, A, c⟩ := x
 obtain ⟨⟨nm2, al2, tx2, pa2, fi2, nx2, at2⟩, A2, c2⟩ := y
 obtain ⟨h1, h2, h3⟩ := hx
 obtain ⟨k1, k2, k3⟩ := hy
 simp only at h1 h2 h3 k1 k2 k3
 unfold Nd.cs
 simp only
 obtain ⟨R, hR⟩ : ∃ R, R = Tr.same1 ⟨nm, al, tx, pa, fi, nx, at1⟩ ⟨nm2, al2, tx2, pa2, fi2, nx2, at2⟩ := ⟨_, rfl⟩
 rw [← hR]
 unfold Tr.same1 at hR
 simp only at hR
 obtain ⟨N, hN⟩ : ∃ N : ByteArray, N = ⟨nm.toArray⟩ := ⟨_, rfl⟩
 obtain ⟨N2, hN2⟩ : ∃ N : ByteArray, N = ⟨nm2.toArray⟩ := ⟨_, rfl⟩
 obtain ⟨X, hX⟩ : ∃ N : ByteArray, N = ⟨tx.toArray⟩ := ⟨_, rfl⟩
 obtain ⟨X2, hX2⟩ : ∃ N : ByteArray, N = ⟨tx2.toArray⟩ := ⟨_, rfl⟩
 rw [← hN, ← hN2, ← hX, ← hX2]
 obtain ⟨W0, hW0⟩ : ∃ W0, W0 = (w.alloc (.cells #[.string N, .slice A al.length c, .string X, .int .i64 pa, .int .i64 fi, .int .i64 nx, .int .i64 at1] 49)).alloc (.cells #[.string N2, .slice A2 al2.length c2, .string X2, .int .i64 pa2, .int .i64 fi2, .int .i64 nx2, .int .i64 at2] 49) := ⟨_, rfl⟩
 have hz : (w.alloc (.cells #[.string N, .slice A al.length c, .string X, .int .i64 pa, .int .i64 fi, .int .i64 nx, .int .i64 at1] 49)).heap.size = w.heap.size + 1 := by simp
 have HB := Lib.hid (show IsBlk W0 w.heap.size 49 #[.string N, .slice A al.length c, .string X, .int .i64 pa, .int .i64 fi, .int .i64 nx, .int .i64 at1] ∧ IsBlk W0 (w.heap.size + 1) 49 #[.string N2, .slice A2 al2.length c2, .string X2, .int .i64 pa2, .int .i64 fi2, .int .i64 nx2, .int .i64 at2] ∧ Below w.heap.size w W0 from by
  rw [hW0]
  exact ⟨(IsBlk.new w _ _).below ((Below.refl _ _).alloc (Nat.le_refl _) _) (by simp), by rw [← hz]; exact IsBlk.new _ _ _, ((Below.refl _ _).alloc (Nat.le_refl _) _).alloc (by simp) _⟩)
 have HW := Lib.hid hW0
 have HEQ := Lib.hid (sEqual_any W0 A A2 c c2 al al2 h2 k2 h3 k3 ((h1.below HB.out.2.2).more5 HB.out.2.2.size) ((k1.below HB.out.2.2).more5 HB.out.2.2.size))
 clear h1 h2 h3 k1 k2 k3 hW0 hz
 by_cases e1 : nm = nm2
 ·subst e1
  obtain rfl : N = N2 := hN.trans hN2.symm
  by_cases e2 : al = al2
  ·rw [decide_eq_true e2] at HEQ
   by_cases e3 : tx = tx2
   ·subst e3
    obtain rfl : X = X2 := hX.trans hX2.symm
    by_cases e4 : pa = pa2
    ·subst e4
     by_cases e5 : fi = fi2
     ·subst e5
      by_cases e6 : nx = nx2
      ·subst e6
       have HR := Lib.hid (show R = true by rw [hR, e2]; simp)
       clear hR hN hN2 hX hX2 e2
       go_enter Tryz.func37, Tryz.ntmps37
       go_wp2_with fail
       rw [← HW.out]
       refine (HEQ.out).mono ?_
       rintro e w1 ⟨rfl, h1⟩
       have B1 := Lib.hid (HB.out.2.2.trans (h1.mono HB.out.2.2.size))
       have q2 : w1.cell? ⟨w.heap.size, 2, none⟩ = some (.string X) := (HB.out.1.below h1 HB.out.1.lt).at_ 2
       have q3 : w1.cell? ⟨w.heap.size, 3, none⟩ = some (.int .i64 pa) := (HB.out.1.below h1 HB.out.1.lt).at_ 3
       have q4 : w1.cell? ⟨w.heap.size, 4, none⟩ = some (.int .i64 fi) := (HB.out.1.below h1 HB.out.1.lt).at_ 4
       have q5 : w1.cell? ⟨w.heap.size, 5, none⟩ = some (.int .i64 nx) := (HB.out.1.below h1 HB.out.1.lt).at_ 5
       have d2 : w1.cell? ⟨w.heap.size + 1, 2, none⟩ = some (.string X) := (HB.out.2.1.below h1 HB.out.2.1.lt).at_ 2
       have d3 : w1.cell? ⟨w.heap.size + 1, 3, none⟩ = some (.int .i64 pa) := (HB.out.2.1.below h1 HB.out.2.1.lt).at_ 3
       have d4 : w1.cell? ⟨w.heap.size + 1, 4, none⟩ = some (.int .i64 fi) := (HB.out.2.1.below h1 HB.out.2.1.lt).at_ 4
       have d5 : w1.cell? ⟨w.heap.size + 1, 5, none⟩ = some (.int .i64 nx) := (HB.out.2.1.below h1 HB.out.2.1.lt).at_ 5
       clear h1
       go_wp2
       go_ret
       exact ⟨by rw [HR.out]; rfl, B1.out⟩
      ·have f6 : (nx == nx2) = false := beq_eq_false_iff_ne.2 e6
       have HR := Lib.hid (show R = false by rw [hR, f6]; simp)
       clear hR hN hN2 hX hX2 e2
       go_enter Tryz.func37, Tryz.ntmps37
       go_wp2_with fail
       rw [← HW.out]
       refine (HEQ.out).mono ?_
       rintro e w1 ⟨rfl, h1⟩
       have B1 := Lib.hid (HB.out.2.2.trans (h1.mono HB.out.2.2.size))
       have q2 : w1.cell? ⟨w.heap.size, 2, none⟩ = some (.string X) := (HB.out.1.below h1 HB.out.1.lt).at_ 2
       have q3 : w1.cell? ⟨w.heap.size, 3, none⟩ = some (.int .i64 pa) := (HB.out.1.below h1 HB.out.1.lt).at_ 3
       have q4 : w1.cell? ⟨w.heap.size, 4, none⟩ = some (.int .i64 fi) := (HB.out.1.below h1 HB.out.1.lt).at_ 4
       have q5 : w1.cell? ⟨w.heap.size, 5, none⟩ = some (.int .i64 nx) := (HB.out.1.below h1 HB.out.1.lt).at_ 5
       have d2 : w1.cell? ⟨w.heap.size + 1, 2, none⟩ = some (.string X) := (HB.out.2.1.below h1 HB.out.2.1.lt).at_ 2
       have d3 : w1.cell? ⟨w.heap.size + 1, 3, none⟩ = some (.int .i64 pa) := (HB.out.2.1.below h1 HB.out.2.1.lt).at_ 3
       have d4 : w1.cell? ⟨w.heap.size + 1, 4, none⟩ = some (.int .i64 fi) := (HB.out.2.1.below h1 HB.out.2.1.lt).at_ 4
       have d5 : w1.cell? ⟨w.heap.size + 1, 5, none⟩ = some (.int .i64 nx2) := (HB.out.2.1.below h1 HB.out.2.1.lt).at_ 5
       clear h1
       go_wp2
       go_ret
       exact ⟨by rw [HR.out]; rfl, B1.out⟩
     ·have f5 : (fi == fi2) = false := beq_eq_false_iff_ne.2 e5
      have HR := Lib.hid (show R = false by rw [hR, f5]; simp)
      clear hR hN hN2 hX hX2 e2
      go_enter Tryz.func37, Tryz.ntmps37
      go_wp2_with fail
      rw [← HW.out]
      refine (HEQ.out).mono ?_
      rintro e w1 ⟨rfl, h1⟩
      have B1 := Lib.hid (HB.out.2.2.trans (h1.mono HB.out.2.2.size))
      have q2 : w1.cell? ⟨w.heap.size, 2, none⟩ = some (.string X) := (HB.out.1.below h1 HB.out.1.lt).at_ 2
      have q3 : w1.cell? ⟨w.heap.size, 3, none⟩ = some (.int .i64 pa) := (HB.out.1.below h1 HB.out.1.lt).at_ 3
      have q4 : w1.cell? ⟨w.heap.size, 4, none⟩ = some (.int .i64 fi) := (HB.out.1.below h1 HB.out.1.lt).at_ 4
      have q5 : w1.cell? ⟨w.heap.size, 5, none⟩ = some (.int .i64 nx) := (HB.out.1.below h1 HB.out.1.lt).at_ 5
      have d2 : w1.cell? ⟨w.heap.size + 1, 2, none⟩ = some (.string X) := (HB.out.2.1.below h1 HB.out.2.1.lt).at_ 2
      have d3 : w1.cell? ⟨w.heap.size + 1, 3, none⟩ = some (.int .i64 pa) := (HB.out.2.1.below h1 HB.out.2.1.lt).at_ 3
      have d4 : w1.cell? ⟨w.heap.size + 1, 4, none⟩ = some (.int .i64 fi2) := (HB.out.2.1.below h1 HB.out.2.1.lt).at_ 4
      have d5 : w1.cell? ⟨w.heap.size + 1, 5, none⟩ = some (.int .i64 nx2) := (HB.out.2.1.below h1 HB.out.2.1.lt).at_ 5
      clear h1
      go_wp2
      go_ret
      exact ⟨by rw [HR.out]; rfl, B1.out⟩
    ·have f4 : (pa == pa2) = false := beq_eq_false_iff_ne.2 e4
     have HR := Lib.hid (show R = false by rw [hR, f4]; simp)
     clear hR hN hN2 hX hX2 e2
     go_enter Tryz.func37, Tryz.ntmps37
     go_wp2_with fail
     rw [← HW.out]
     refine (HEQ.out).mono ?_
     rintro e w1 ⟨rfl, h1⟩
     have B1 := Lib.hid (HB.out.2.2.trans (h1.mono HB.out.2.2.size))
     have q2 : w1.cell? ⟨w.heap.size, 2, none⟩ = some (.string X) := (HB.out.1.below h1 HB.out.1.lt).at_ 2
     have q3 : w1.cell? ⟨w.heap.size, 3, none⟩ = some (.int .i64 pa) := (HB.out.1.below h1 HB.out.1.lt).at_ 3
     have q4 : w1.cell? ⟨w.heap.size, 4, none⟩ = some (.int .i64 fi) := (HB.out.1.below h1 HB.out.1.lt).at_ 4
     have q5 : w1.cell? ⟨w.heap.size, 5, none⟩ = some (.int .i64 nx) := (HB.out.1.below h1 HB.out.1.lt).at_ 5
     have d2 : w1.cell? ⟨w.heap.size + 1, 2, none⟩ = some (.string X) := (HB.out.2.1.below h1 HB.out.2.1.lt).at_ 2
     have d3 : w1.cell? ⟨w.heap.size + 1, 3, none⟩ = some (.int .i64 pa2) := (HB.out.2.1.below h1 HB.out.2.1.lt).at_ 3
     have d4 : w1.cell? ⟨w.heap.size + 1, 4, none⟩ = some (.int .i64 fi2) := (HB.out.2.1.below h1 HB.out.2.1.lt).at_ 4
     have d5 : w1.cell? ⟨w.heap.size + 1, 5, none⟩ = some (.int .i64 nx2) := (HB.out.2.1.below h1 HB.out.2.1.lt).at_ 5
     clear h1
     go_wp2
     go_ret
     exact ⟨by rw [HR.out]; rfl, B1.out⟩
   ·have f3 := str_ne hX hX2 e3
    have HR := Lib.hid (show R = false by rw [hR, show (tx == tx2) = false from beq_eq_false_iff_ne.2 e3]; simp)
    clear hR hN hN2 hX hX2 e2 e3
    go_enter Tryz.func37, Tryz.ntmps37
    go_wp2_with fail
    rw [← HW.out]
    refine (HEQ.out).mono ?_
    rintro e w1 ⟨rfl, h1⟩
    have B1 := Lib.hid (HB.out.2.2.trans (h1.mono HB.out.2.2.size))
    have q2 : w1.cell? ⟨w.heap.size, 2, none⟩ = some (.string X) := (HB.out.1.below h1 HB.out.1.lt).at_ 2
    have q3 : w1.cell? ⟨w.heap.size, 3, none⟩ = some (.int .i64 pa) := (HB.out.1.below h1 HB.out.1.lt).at_ 3
    have q4 : w1.cell? ⟨w.heap.size, 4, none⟩ = some (.int .i64 fi) := (HB.out.1.below h1 HB.out.1.lt).at_ 4
    have q5 : w1.cell? ⟨w.heap.size, 5, none⟩ = some (.int .i64 nx) := (HB.out.1.below h1 HB.out.1.lt).at_ 5
    have d2 : w1.cell? ⟨w.heap.size + 1, 2, none⟩ = some (.string X2) := (HB.out.2.1.below h1 HB.out.2.1.lt).at_ 2
    have d3 : w1.cell? ⟨w.heap.size + 1, 3, none⟩ = some (.int .i64 pa2) := (HB.out.2.1.below h1 HB.out.2.1.lt).at_ 3
    have d4 : w1.cell? ⟨w.heap.size + 1, 4, none⟩ = some (.int .i64 fi2) := (HB.out.2.1.below h1 HB.out.2.1.lt).at_ 4
    have d5 : w1.cell? ⟨w.heap.size + 1, 5, none⟩ = some (.int .i64 nx2) := (HB.out.2.1.below h1 HB.out.2.1.lt).at_ 5
    clear h1
    go_wp2
    go_ret
    exact ⟨by rw [HR.out]; rfl, B1.out⟩
  ·rw [decide_eq_false e2] at HEQ
   have HR := Lib.hid (show R = false by rw [hR, show (al == al2) = false from beq_eq_false_iff_ne.2 e2]; simp)
   clear hR hN hN2 hX hX2 e2
   go_enter Tryz.func37, Tryz.ntmps37
   go_wp2_with fail
   rw [← HW.out]
   refine (HEQ.out).mono ?_
   rintro e w1 ⟨rfl, h1⟩
   have B1 := Lib.hid (HB.out.2.2.trans (h1.mono HB.out.2.2.size))
   have q2 : w1.cell? ⟨w.heap.size, 2, none⟩ = some (.string X) := (HB.out.1.below h1 HB.out.1.lt).at_ 2
   have q3 : w1.cell? ⟨w.heap.size, 3, none⟩ = some (.int .i64 pa) := (HB.out.1.below h1 HB.out.1.lt).at_ 3
   have q4 : w1.cell? ⟨w.heap.size, 4, none⟩ = some (.int .i64 fi) := (HB.out.1.below h1 HB.out.1.lt).at_ 4
   have q5 : w1.cell? ⟨w.heap.size, 5, none⟩ = some (.int .i64 nx) := (HB.out.1.below h1 HB.out.1.lt).at_ 5
   have d2 : w1.cell? ⟨w.heap.size + 1, 2, none⟩ = some (.string X2) := (HB.out.2.1.below h1 HB.out.2.1.lt).at_ 2
   have d3 : w1.cell? ⟨w.heap.size + 1, 3, none⟩ = some (.int .i64 pa2) := (HB.out.2.1.below h1 HB.out.2.1.lt).at_ 3
   have d4 : w1.cell? ⟨w.heap.size + 1, 4, none⟩ = some (.int .i64 fi2) := (HB.out.2.1.below h1 HB.out.2.1.lt).at_ 4
   have d5 : w1.cell? ⟨w.heap.size + 1, 5, none⟩ = some (.int .i64 nx2) := (HB.out.2.1.below h1 HB.out.2.1.lt).at_ 5
   clear h1
   go_wp2
   go_ret
   exact ⟨by rw [HR.out]; rfl, B1.out⟩
 ·have f1 := str_ne hN hN2 e1
  have HR := Lib.hid (show R = false by rw [hR, show (nm == nm2) = false from beq_eq_false_iff_ne.2 e1]; simp)
  clear hR hN hN2 hX hX2 e1
  go_enter Tryz.func37, Tryz.ntmps37
  go_wp2
  try rw [← HW.out]
  go_ret
  exact ⟨by rw [HR.out]; rfl, by first | exact HB.out.2.2 | (have := HB.out.2.2; rw [HW.out] at this; exact this)⟩
end Go.Proofs.YteadfpkihhaadaaGreatDoor
namespace Go.Proofs.YteadfpkihhaadaaGreatDoor
open Go.RowKit
structure ReadsNd (w : World) (B : Nat) (A : Option Addr) (xs : List Nd) : Prop where
 row : 0 < xs.length → ∃ g o, A = some ⟨g, o, none⟩ ∧ g < B ∧ ∀ (k : Nat) (hk : k < xs.length), ∀ j u, (xs[k].cs)[j]? = some u → w.cell? ⟨g, o + k * 7 + j, none⟩ = some u
 att : ∀ x ∈ xs, NdOk w B x
theorem ReadsNd.below {w w' : World} {B : Nat} {A : Option Addr} {xs : List Nd} (h : ReadsNd w B A xs) (hb : Below B w w') : ReadsNd w' B A xs := by
 refine ⟨fun h0 => ?_, fun x hx => (h.att x hx).below hb⟩
 obtain ⟨g, o, e, hg, hc⟩ := h.row h0
 exact ⟨g, o, e, hg, fun k hk j u hu => (hb.cell (p := ⟨g, _, none⟩) hg).trans (hc k hk j u hu)⟩
theorem ReadsNd.more {w : World} {B B' : Nat} {A : Option Addr} {xs : List Nd} (h : ReadsNd w B A xs) (hB : B ≤ B') : ReadsNd w B' A xs := by
 refine ⟨fun h0 => ?_, fun x hx => (h.att x hx).more hB⟩
 obtain ⟨g, o, e, hg, hc⟩ := h.row h0
 exact ⟨g, o, e, by omega, hc⟩
theorem Tr.same_len : ∀ {xs ys : List Tr.N}, xs.length ≠ ys.length → Tr.same xs ys = false
 | [], [], h => absurd rfl h
 | [], _ :: _, _ => rfl
 | _ :: _, [], _ => rfl
 | x :: xs, y :: ys, h => by
  unfold Tr.same
  rw [Tr.same_len (fun e => h (by simp [e])), Bool.and_false]
theorem Tr.same_at {xs ys : List Tr.N} {k : Nat} (hx : k < xs.length) (hy : k < ys.length) : Tr.same (xs.drop k) (ys.drop k) = (Tr.same1 xs[k] ys[k] && Tr.same (xs.drop (k + 1)) (ys.drop (k + 1))) := by
 rw [List.drop_eq_getElem_cons hx, List.drop_eq_getElem_cons hy]
 rfl
set_option maxHeartbeats 4000000 in
set_option maxRecDepth 100000 in
theorem equalFunc_any (w : World) (A A2 : Option Addr) (c c2 : Nat) (xs ys : List Nd) (hl1 : xs.length ≤ c) (hl2 : ys.length ≤ c2) (hc1 : c ≤ maxLen) (hc2 : c2 ≤ maxLen) (h1 : ReadsNd w w.heap.size A xs) (h2 : ReadsNd w w.heap.size A2 ys) :
  Calls Tryz.prog 36 #[.slice A xs.length c, .slice A2 ys.length c2, .func (Fn.func 37) #[] #[]] w fun e w' => e = .returned (.bool (Tr.same (xs.map Nd.n) (ys.map Nd.n))) ∧ Below w.heap.size w w' := by
 have H1 := Lib.hid h1
 have H2 := Lib.hid h2
 have hm1 : (xs.length : Int) ≤ 9223372036854775807 := by unfold maxLen at hc1; omega
 have hm2 : (ys.length : Int) ≤ 9223372036854775807 := by unfold maxLen at hc2; omega
 clear h1 h2
 by_cases hlen : xs.length = ys.length
 ·obtain ⟨n, hn⟩ : ∃ n, n = ys.length := ⟨_, rfl⟩
  have hn1 : xs.length = n := by omega
  have HN1 := Lib.hid hn1
  have HN2 := Lib.hid hn
  rw [hn1, ← hn]
  rw [hn1] at hl1 hm1
  rw [← hn] at hl2
  have hl1' : (n : Int) ≤ (c : Int) := by omega
  have hl2' : (n : Int) ≤ (c2 : Int) := by omega
  clear hm2 hlen hn1 hn
  obtain ⟨R, hR⟩ : ∃ R, R = Tr.same (xs.map Nd.n) (ys.map Nd.n) := ⟨_, rfl⟩
  rw [← hR]
  have HR := Lib.hid hR
  clear hR
  go_enter Tryz.func36, Tryz.ntmps36
  go_wp2
  go_loopw [17] (fun i wr => ∃ k : Nat, k ≤ n ∧ i = .int .i64 k ∧ Hid (Below w.heap.size w wr ∧ R = Tr.same ((xs.map Nd.n).drop k) ((ys.map Nd.n).drop k))) (fun i _ => n - (intOf i).toNat)
  case atStart => exact ⟨0, Nat.zero_le _, rfl, Lib.hid ⟨Below.refl _ _, HR.out⟩⟩
  case round =>
   obtain ⟨k, hk, rfl, HI⟩ := hrel
   by_cases hlt : k < n
   ·have hka : k < xs.length := by have := HN1.out; omega
    have hkb : k < ys.length := by have := HN2.out; omega
    have G1 := H1.out.below HI.out.1
    have G2 := H2.out.below HI.out.1
    obtain ⟨g, o, hA, hg, hcl⟩ := G1.row (by omega)
    obtain ⟨g2, o2, hA2, hg2, hcl2⟩ := G2.row (by omega)
    subst hA hA2
    have hc := hcl k hka
    have hd := hcl2 k hkb
    have hax := G1.att _ (List.getElem_mem hka)
    have hay := G2.att _ (List.getElem_mem hkb)
    have HST := Lib.hid (show R = (Tr.same1 xs[k].n ys[k].n && Tr.same ((xs.map Nd.n).drop (k + 1)) ((ys.map Nd.n).drop (k + 1))) from by
     rw [HI.out.2, Tr.same_at (by rw [List.length_map]; exact hka) (by rw [List.length_map]; exact hkb), List.getElem_map, List.getElem_map])
    have hlt' : (k : Int) < (n : Int) := by omega
    have hgw : g < wr.heap.size := Nat.lt_of_lt_of_le hg HI.out.1.size
    have hgw2 : g2 < wr.heap.size := Nat.lt_of_lt_of_le hg2 HI.out.1.size
    clear hcl hcl2 hlt G1 G2
    generalize xs[k] = x at *
    generalize ys[k] = y at *
    have HSN := Lib.hid (fun w0 (q1 : NdOk w0 w0.heap.size x) (q2 : NdOk w0 w0.heap.size y) => sameNode_any w0 x y q1 q2)
    have HAX := Lib.hid (And.intro (hax.more HI.out.1.size) (hay.more HI.out.1.size))
    clear hax hay
    generalize Tr.same1 x.n y.n = bb at *
    obtain ⟨⟨nm, al, tx, pa, fi, nx, at1⟩, Ax, cx⟩ := x
    obtain ⟨⟨nm2, al2, tx2, pa2, fi2, nx2, at2⟩, Ay, cy⟩ := y
    unfold Nd.cs at HSN
    have a0 : wr.cell? ⟨g, o + k * 7, none⟩ = some (.string ⟨nm.toArray⟩) := hc 0 _ rfl
    have a1 : wr.cell? ⟨g, o + k * 7 + 1, none⟩ = some (.slice Ax al.length cx) := hc 1 _ rfl
    have a2 : wr.cell? ⟨g, o + k * 7 + 2, none⟩ = some (.string ⟨tx.toArray⟩) := hc 2 _ rfl
    have a3 : wr.cell? ⟨g, o + k * 7 + 3, none⟩ = some (.int .i64 pa) := hc 3 _ rfl
    have a4 : wr.cell? ⟨g, o + k * 7 + 4, none⟩ = some (.int .i64 fi) := hc 4 _ rfl
    have a5 : wr.cell? ⟨g, o + k * 7 + 5, none⟩ = some (.int .i64 nx) := hc 5 _ rfl
    have a6 : wr.cell? ⟨g, o + k * 7 + 6, none⟩ = some (.int .i64 at1) := hc 6 _ rfl
    have b0 : wr.cell? ⟨g2, o2 + k * 7, none⟩ = some (.string ⟨nm2.toArray⟩) := hd 0 _ rfl
    have b1 : wr.cell? ⟨g2, o2 + k * 7 + 1, none⟩ = some (.slice Ay al2.length cy) := hd 1 _ rfl
    have b2 : wr.cell? ⟨g2, o2 + k * 7 + 2, none⟩ = some (.string ⟨tx2.toArray⟩) := hd 2 _ rfl
    have b3 : wr.cell? ⟨g2, o2 + k * 7 + 3, none⟩ = some (.int .i64 pa2) := hd 3 _ rfl
    have b4 : wr.cell? ⟨g2, o2 + k * 7 + 4, none⟩ = some (.int .i64 fi2) := hd 4 _ rfl
    have b5 : wr.cell? ⟨g2, o2 + k * 7 + 5, none⟩ = some (.int .i64 nx2) := hd 5 _ rfl
    have b6 : wr.cell? ⟨g2, o2 + k * 7 + 6, none⟩ = some (.int .i64 at2) := hd 6 _ rfl
    clear hc hd
    simp only at HSN
    generalize (⟨nm.toArray⟩ : ByteArray) = N at *
    generalize (⟨nm2.toArray⟩ : ByteArray) = N2 at *
    generalize (⟨tx.toArray⟩ : ByteArray) = X at *
    generalize (⟨tx2.toArray⟩ : ByteArray) = X2 at *
    obtain ⟨W2, hW2⟩ : ∃ W2, W2 = (wr.alloc (.cells #[.string N, .slice Ax al.length cx, .string X, .int .i64 pa, .int .i64 fi, .int .i64 nx, .int .i64 at1] 49)).alloc (.cells #[.string N2, .slice Ay al2.length cy, .string X2, .int .i64 pa2, .int .i64 fi2, .int .i64 nx2, .int .i64 at2] 49) := ⟨_, rfl⟩
    have hb2 : Below wr.heap.size wr W2 := by rw [hW2]; exact ((Below.refl _ _).alloc (Nat.le_refl _) _).alloc (by simp) _
    have HB2 := Lib.hid hb2
    have HW2 := Lib.hid hW2
    clear hb2 hW2
    go_wp2_with fail
    rw [← HW2.out]
    refine (HSN.out _ ((HAX.out.1.below HB2.out).more HB2.out.size) ((HAX.out.2.below HB2.out).more HB2.out.size)).mono ?_
    rintro e w3 ⟨rfl, h3⟩
    have B3 := Lib.hid (HI.out.1.trans ((HB2.out.trans (h3.mono HB2.out.size)).mono HI.out.1.size))
    clear h3
    cases bb with
    | true =>
     go_wp2
     go_roundw
     case rel => exact ⟨k + 1, by omega, by go_num, Lib.hid ⟨B3.out, by rw [HST.out, Bool.true_and]⟩⟩
     case measure => simp [intOf]; omega
    | false =>
     have HF := Lib.hid (show R = false by rw [HST.out, Bool.false_and])
     go_wp2
     go_ret
     exact ⟨by rw [HF.out]; rfl, B3.out⟩
   ·obtain rfl : k = n := by omega
    have HF := Lib.hid (show R = true by
     rw [HI.out.2, List.drop_eq_nil_of_le (by rw [List.length_map]; have := HN1.out; omega), List.drop_eq_nil_of_le (by rw [List.length_map]; have := HN2.out; omega)]
     rfl)
    go_wp2
    go_ret
    exact ⟨by rw [HF.out]; rfl, HI.out.1⟩
 ·have hlen' : ((xs.length : Int) == (ys.length : Int)) = false := by
   apply beq_eq_false_iff_ne.2
   omega
  rw [Tr.same_len (by rw [List.length_map, List.length_map]; exact hlen)]
  clear hlen
  go_enter Tryz.func36, Tryz.ntmps36
  go_wp2
  go_ret
  exact ⟨by first | rfl | (rw [show _ = _ from rfl]), Below.refl _ _⟩
end Go.Proofs.YteadfpkihhaadaaGreatDoor
namespace Go.Proofs.YteadfpkihhaadaaGreatDoor
open Go.RowKit
def NdFit (x : Nd) : Prop := x.n.nm.length ≤ 1048576 ∧ x.n.tx.length ≤ 1048576 ∧ x.n.al.length ≤ 1048576 ∧ ∀ a ∈ x.n.al, a.1.length ≤ 1048576 ∧ a.2.length ≤ 1048576
end Go.Proofs.YteadfpkihhaadaaGreatDoor
