/- Layer 5: nodes in memory; slices.Equal of attributes, sameNode, Same of package tree, walked. Conditions: the rows read as told; lengths fit.
Layer 5: Same of package tree, walked: of two rows of nodes it is told whether they are the same but for places in the text. Conditions: the rows read as told; lengths fit.
Layer 5: the statements' few, walked: where it answers true, a tree has at most 60 nodes, of at most 4000 bytes together (9 an attribute besides). Conditions: the row reads as told; each length is at most 2^47 (2^43 attributes). -/
import Derived.Test.YtgidpcfaeekjhaaGreatDoorTkWrit
import Derived.Test.YtgidpcfaeekjhaaGreatDoorTrPlain5
namespace Go.Proofs.YtgidpcfaeekjhaaGreatDoor
open Go.RowKit

/-- A node in memory: its row of attributes lies there. -/
structure Nd where
  n : Tr.N
  A : Option Addr
  c : Nat
def Nd.cs (x : Nd) : Array Value := #[.string ⟨x.n.nm.toArray⟩, .slice x.A x.n.al.length x.c, .string ⟨x.n.tx.toArray⟩, .int .i64 x.n.pa, .int .i64 x.n.fi, .int .i64 x.n.nx, .int .i64 x.n.at_]
/-- A node's attributes read so; all of its texts fit. -/
structure NdOk (w : World) (B : Nat) (x : Nd) : Prop where
  att : Reads2o w B x.A x.n.al
  len : x.n.al.length ≤ x.c
  cap : x.c ≤ maxLen
theorem NdOk.below {w w' : World} {B : Nat} {x : Nd} (h : NdOk w B x) (hb : Below B w w') : NdOk w' B x := ⟨h.att.below hb, h.len, h.cap⟩
theorem Reads2o.more5 {w : World} {B B' : Nat} {A : Option Addr} {al : List (List UInt8 × List UInt8)} (h : Reads2o w B A al) (hB : B ≤ B') : Reads2o w B' A al := fun h0 => by
  obtain ⟨g, o, e, hg, hc⟩ := h h0
  exact ⟨g, o, e, by omega, hc⟩
theorem NdOk.more {w : World} {B B' : Nat} {x : Nd} (h : NdOk w B x) (hB : B ≤ B') : NdOk w B' x := ⟨h.att.more5 hB, h.len, h.cap⟩
theorem bytes_inj {a b : List UInt8} : ((⟨a.toArray⟩ : ByteArray) = ⟨b.toArray⟩) ↔ a = b := by
  constructor
  · intro h
    have := congrArg (fun x : ByteArray => x.data.toList) h
    simpa using this
  · intro h; rw [h]
theorem drop_ne_of {α : Type} {a b : List α} {k : Nat} (ha : k < a.length) (hb : k < b.length) (h : a[k] ≠ b[k]) : a ≠ b := fun e => by
  subst e; exact h rfl
theorem take_eq_all {α : Type} {a b : List α} {n : Nat} (ha : a.length = n) (hb : b.length = n) (h : a.take n = b.take n) : a = b := by
  rw [← List.take_length (l := a), ← List.take_length (l := b), ha, hb, h]

set_option maxHeartbeats 4000000 in
set_option maxRecDepth 100000 in
theorem sEqual_any (w : World) (A A2 : Option Addr) (c c2 : Nat) (al bl : List (List UInt8 × List UInt8)) (hl1 : al.length ≤ c) (hl2 : bl.length ≤ c2) (hc1 : c ≤ maxLen) (hc2 : c2 ≤ maxLen) (h1 : Reads2o w w.heap.size A al) (h2 : Reads2o w w.heap.size A2 bl) :
    Calls Tryz.prog 75 #[.slice A al.length c, .slice A2 bl.length c2] w fun e w' => e = .returned (.bool (decide (al = bl))) ∧ Below w.heap.size w w' := by
  have H1 := Lib.hid h1
  have H2 := Lib.hid h2
  have hm1 : (al.length : Int) ≤ 9223372036854775807 := by unfold maxLen at hc1; omega
  have hm2 : (bl.length : Int) ≤ 9223372036854775807 := by unfold maxLen at hc2; omega
  clear h1 h2
  by_cases hlen : al.length = bl.length
  · have hlen' : (al.length : Int) = (bl.length : Int) := by omega
    have HLEN := Lib.hid hlen
    obtain ⟨n, hn⟩ : ∃ n, n = bl.length := ⟨_, rfl⟩
    have hn1 : al.length = n := by omega
    have HN1 := Lib.hid hn1
    have HN2 := Lib.hid hn
    rw [hn1, ← hn]
    rw [hn1] at hl1 hm1
    clear hlen' hm2 hl2 hlen hn1 hn
    go_enter Tryz.func75, Tryz.ntmps75
    go_wp2
    go_loopw [13] (fun i wr => ∃ k : Nat, k ≤ n ∧ i = .int .i64 k ∧ Hid (Below w.heap.size w wr ∧ al.take k = bl.take k)) (fun i _ => n - (intOf i).toNat)
    case atStart => exact ⟨0, Nat.zero_le _, rfl, Lib.hid ⟨Below.refl _ _, by simp⟩⟩
    case round =>
      obtain ⟨k, hk, rfl, HI⟩ := hrel
      by_cases hlt : k < n
      · obtain ⟨g, o, hA, hg, hcl⟩ := (H1.out.below HI.out.1) (by have := HN1.out; omega)
        obtain ⟨g2, o2, hA2, hg2, hcl2⟩ := (H2.out.below HI.out.1) (by have := HN2.out; omega)
        subst hA hA2
        have hka : k < al.length := by have := HN1.out; omega
        have hkb : k < bl.length := by have := HN2.out; omega
        obtain ⟨c0, c1⟩ := hcl k hka
        obtain ⟨d0, d1⟩ := hcl2 k hkb
        have HT := Lib.hid (And.intro (take_snoc_ hka) (take_snoc_ hkb))
        have HNE := Lib.hid (drop_ne_of hka hkb)
        have hlt' : (k : Int) < (n : Int) := by omega
        clear hcl hcl2 hlt
        generalize al[k] = a at *
        generalize bl[k] = b at *
        obtain ⟨U, hU⟩ : ∃ U : ByteArray, U = ⟨a.1.toArray⟩ := ⟨_, rfl⟩
        obtain ⟨V, hV⟩ : ∃ V : ByteArray, V = ⟨a.2.toArray⟩ := ⟨_, rfl⟩
        obtain ⟨U2, hU2⟩ : ∃ U : ByteArray, U = ⟨b.1.toArray⟩ := ⟨_, rfl⟩
        obtain ⟨V2, hV2⟩ : ∃ V : ByteArray, V = ⟨b.2.toArray⟩ := ⟨_, rfl⟩
        rw [← hU] at c0
        rw [← hV] at c1
        rw [← hU2] at d0
        rw [← hV2] at d1
        have hab : (U = U2 ∧ V = V2) ↔ a = b := by
          rw [hU, hV, hU2, hV2, bytes_inj, bytes_inj]
          exact ⟨fun h => Prod.ext h.1 h.2, fun h => by rw [h]; exact ⟨rfl, rfl⟩⟩
        have HAB := Lib.hid hab
        clear hU hV hU2 hV2 hab
        by_cases hu : U = U2
        · subst hu
          by_cases hv : V = V2
          · subst hv
            have HEQ := Lib.hid (HAB.out.1 ⟨rfl, rfl⟩)
            go_wp2_with fail
            go_quiet (fail)
            go_wp2
            go_roundw
            case rel => exact ⟨k + 1, by omega, by go_num, Lib.hid ⟨below_drewN HI.out.1 _, by rw [HT.out.1, HT.out.2, HI.out.2, HEQ.out]⟩⟩
            case measure => simp [intOf]; omega
          · have hvn : ¬ V.toList = V2.toList := fun e => hv (ba_eq (by rw [← Lib.toList_data, e, Lib.toList_data]))
            have hvv : (V.toList == V2.toList) = false := beq_eq_false_iff_ne.2 hvn
            have HNE2 := Lib.hid (HNE.out (fun e => hv (HAB.out.2 e).2))
            clear hv
            go_wp2_with fail
            go_quiet (fail)
            go_wp2
            go_ret
            exact ⟨by rw [decide_eq_false HNE2.out]; rfl, below_drewN HI.out.1 _⟩
        · have hun : ¬ U.toList = U2.toList := fun e => hu (ba_eq (by rw [← Lib.toList_data, e, Lib.toList_data]))
          have huu : (U.toList == U2.toList) = false := beq_eq_false_iff_ne.2 hun
          have HNE2 := Lib.hid (HNE.out (fun e => hu (HAB.out.2 e).1))
          clear hu
          go_wp2_with fail
          go_quiet (fail)
          go_wp2
          go_ret
          exact ⟨by rw [decide_eq_false HNE2.out]; rfl, below_drewN HI.out.1 _⟩
      · obtain rfl : k = n := by omega
        have HE := Lib.hid (take_eq_all HN1.out HN2.out.symm HI.out.2)
        have hlt' : ¬ (k : Int) < (k : Int) := by omega
        go_wp2
        go_ret
        exact ⟨by rw [decide_eq_true HE.out]; rfl, HI.out.1⟩
  · have hlen' : ((al.length : Int) == (bl.length : Int)) = false := by
      apply beq_eq_false_iff_ne.2
      omega
    have HNE := Lib.hid (show al ≠ bl from fun e => hlen (by rw [e]))
    clear hlen
    go_enter Tryz.func75, Tryz.ntmps75
    go_wp2
    go_ret
    exact ⟨by rw [decide_eq_false HNE.out]; rfl, Below.refl _ _⟩
theorem str_ne {a b : List UInt8} {A B : ByteArray} (hA : A = ⟨a.toArray⟩) (hB : B = ⟨b.toArray⟩) (h : ¬ a = b) : (A.toList == B.toList) = false := by
  refine beq_eq_false_iff_ne.2 fun e => h ?_
  rw [Lib.toList_data, Lib.toList_data, hA, hB] at e
  exact e
set_option maxHeartbeats 4000000 in
set_option maxRecDepth 100000 in
theorem sameNode_any (w : World) (x y : Nd) (hx : NdOk w w.heap.size x) (hy : NdOk w w.heap.size y) :
    Calls Tryz.prog 37 #[.agg x.cs, .agg y.cs] w fun e w' => e = .returned (.bool (Tr.same1 x.n y.n)) ∧ Below w.heap.size w w' := by
  obtain ⟨⟨nm, al, tx, pa, fi, nx, at1⟩, A, c⟩ := x
  obtain ⟨⟨nm2, al2, tx2, pa2, fi2, nx2, at2⟩, A2, c2⟩ := y
  obtain ⟨h1, h2, h3⟩ := hx
  obtain ⟨k1, k2, k3⟩ := hy
  simp only at h1 h2 h3 k1 k2 k3
  unfold Nd.cs
  simp only
  obtain ⟨R, hR⟩ : ∃ R, R = Tr.same1 ⟨nm, al, tx, pa, fi, nx, at1⟩ ⟨nm2, al2, tx2, pa2, fi2, nx2, at2⟩ := ⟨_, rfl⟩
  rw [← hR]
  unfold Tr.same1 at hR
  simp only at hR
  obtain ⟨N, hN⟩ : ∃ N : ByteArray, N = ⟨nm.toArray⟩ := ⟨_, rfl⟩
  obtain ⟨N2, hN2⟩ : ∃ N : ByteArray, N = ⟨nm2.toArray⟩ := ⟨_, rfl⟩
  obtain ⟨X, hX⟩ : ∃ N : ByteArray, N = ⟨tx.toArray⟩ := ⟨_, rfl⟩
  obtain ⟨X2, hX2⟩ : ∃ N : ByteArray, N = ⟨tx2.toArray⟩ := ⟨_, rfl⟩
  rw [← hN, ← hN2, ← hX, ← hX2]
  obtain ⟨W0, hW0⟩ : ∃ W0, W0 = (w.alloc (.cells #[.string N, .slice A al.length c, .string X, .int .i64 pa, .int .i64 fi, .int .i64 nx, .int .i64 at1] 49)).alloc (.cells #[.string N2, .slice A2 al2.length c2, .string X2, .int .i64 pa2, .int .i64 fi2, .int .i64 nx2, .int .i64 at2] 49) := ⟨_, rfl⟩
  have hz : (w.alloc (.cells #[.string N, .slice A al.length c, .string X, .int .i64 pa, .int .i64 fi, .int .i64 nx, .int .i64 at1] 49)).heap.size = w.heap.size + 1 := by simp
  have HB := Lib.hid (show IsBlk W0 w.heap.size 49 #[.string N, .slice A al.length c, .string X, .int .i64 pa, .int .i64 fi, .int .i64 nx, .int .i64 at1] ∧ IsBlk W0 (w.heap.size + 1) 49 #[.string N2, .slice A2 al2.length c2, .string X2, .int .i64 pa2, .int .i64 fi2, .int .i64 nx2, .int .i64 at2] ∧ Below w.heap.size w W0 from by
    rw [hW0]
    exact ⟨(IsBlk.new w _ _).below ((Below.refl _ _).alloc (Nat.le_refl _) _) (by simp), by rw [← hz]; exact IsBlk.new _ _ _, ((Below.refl _ _).alloc (Nat.le_refl _) _).alloc (by simp) _⟩)
  have HW := Lib.hid hW0
  have HEQ := Lib.hid (sEqual_any W0 A A2 c c2 al al2 h2 k2 h3 k3 ((h1.below HB.out.2.2).more5 HB.out.2.2.size) ((k1.below HB.out.2.2).more5 HB.out.2.2.size))
  clear h1 h2 h3 k1 k2 k3 hW0 hz
  by_cases e1 : nm = nm2
  · subst e1
    obtain rfl : N = N2 := hN.trans hN2.symm
    by_cases e2 : al = al2
    · rw [decide_eq_true e2] at HEQ
      by_cases e3 : tx = tx2
      · subst e3
        obtain rfl : X = X2 := hX.trans hX2.symm
        by_cases e4 : pa = pa2
        · subst e4
          by_cases e5 : fi = fi2
          · subst e5
            by_cases e6 : nx = nx2
            · subst e6
              have HR := Lib.hid (show R = true by rw [hR, e2]; simp)
              clear hR hN hN2 hX hX2 e2
              go_enter Tryz.func37, Tryz.ntmps37
              go_wp2_with fail
              rw [← HW.out]
              refine (HEQ.out).mono ?_
              rintro e w1 ⟨rfl, h1⟩
              have B1 := Lib.hid (HB.out.2.2.trans (h1.mono HB.out.2.2.size))
              have q2 : w1.cell? ⟨w.heap.size, 2, none⟩ = some (.string X) := (HB.out.1.below h1 HB.out.1.lt).at_ 2
              have q3 : w1.cell? ⟨w.heap.size, 3, none⟩ = some (.int .i64 pa) := (HB.out.1.below h1 HB.out.1.lt).at_ 3
              have q4 : w1.cell? ⟨w.heap.size, 4, none⟩ = some (.int .i64 fi) := (HB.out.1.below h1 HB.out.1.lt).at_ 4
              have q5 : w1.cell? ⟨w.heap.size, 5, none⟩ = some (.int .i64 nx) := (HB.out.1.below h1 HB.out.1.lt).at_ 5
              have d2 : w1.cell? ⟨w.heap.size + 1, 2, none⟩ = some (.string X) := (HB.out.2.1.below h1 HB.out.2.1.lt).at_ 2
              have d3 : w1.cell? ⟨w.heap.size + 1, 3, none⟩ = some (.int .i64 pa) := (HB.out.2.1.below h1 HB.out.2.1.lt).at_ 3
              have d4 : w1.cell? ⟨w.heap.size + 1, 4, none⟩ = some (.int .i64 fi) := (HB.out.2.1.below h1 HB.out.2.1.lt).at_ 4
              have d5 : w1.cell? ⟨w.heap.size + 1, 5, none⟩ = some (.int .i64 nx) := (HB.out.2.1.below h1 HB.out.2.1.lt).at_ 5
              clear h1
              go_wp2
              go_ret
              exact ⟨by rw [HR.out]; rfl, B1.out⟩
            · have f6 : (nx == nx2) = false := beq_eq_false_iff_ne.2 e6
              have HR := Lib.hid (show R = false by rw [hR, f6]; simp)
              clear hR hN hN2 hX hX2 e2
              go_enter Tryz.func37, Tryz.ntmps37
              go_wp2_with fail
              rw [← HW.out]
              refine (HEQ.out).mono ?_
              rintro e w1 ⟨rfl, h1⟩
              have B1 := Lib.hid (HB.out.2.2.trans (h1.mono HB.out.2.2.size))
              have q2 : w1.cell? ⟨w.heap.size, 2, none⟩ = some (.string X) := (HB.out.1.below h1 HB.out.1.lt).at_ 2
              have q3 : w1.cell? ⟨w.heap.size, 3, none⟩ = some (.int .i64 pa) := (HB.out.1.below h1 HB.out.1.lt).at_ 3
              have q4 : w1.cell? ⟨w.heap.size, 4, none⟩ = some (.int .i64 fi) := (HB.out.1.below h1 HB.out.1.lt).at_ 4
              have q5 : w1.cell? ⟨w.heap.size, 5, none⟩ = some (.int .i64 nx) := (HB.out.1.below h1 HB.out.1.lt).at_ 5
              have d2 : w1.cell? ⟨w.heap.size + 1, 2, none⟩ = some (.string X) := (HB.out.2.1.below h1 HB.out.2.1.lt).at_ 2
              have d3 : w1.cell? ⟨w.heap.size + 1, 3, none⟩ = some (.int .i64 pa) := (HB.out.2.1.below h1 HB.out.2.1.lt).at_ 3
              have d4 : w1.cell? ⟨w.heap.size + 1, 4, none⟩ = some (.int .i64 fi) := (HB.out.2.1.below h1 HB.out.2.1.lt).at_ 4
              have d5 : w1.cell? ⟨w.heap.size + 1, 5, none⟩ = some (.int .i64 nx2) := (HB.out.2.1.below h1 HB.out.2.1.lt).at_ 5
              clear h1
              go_wp2
              go_ret
              exact ⟨by rw [HR.out]; rfl, B1.out⟩
          · have f5 : (fi == fi2) = false := beq_eq_false_iff_ne.2 e5
            have HR := Lib.hid (show R = false by rw [hR, f5]; simp)
            clear hR hN hN2 hX hX2 e2
            go_enter Tryz.func37, Tryz.ntmps37
            go_wp2_with fail
            rw [← HW.out]
            refine (HEQ.out).mono ?_
            rintro e w1 ⟨rfl, h1⟩
            have B1 := Lib.hid (HB.out.2.2.trans (h1.mono HB.out.2.2.size))
            have q2 : w1.cell? ⟨w.heap.size, 2, none⟩ = some (.string X) := (HB.out.1.below h1 HB.out.1.lt).at_ 2
            have q3 : w1.cell? ⟨w.heap.size, 3, none⟩ = some (.int .i64 pa) := (HB.out.1.below h1 HB.out.1.lt).at_ 3
            have q4 : w1.cell? ⟨w.heap.size, 4, none⟩ = some (.int .i64 fi) := (HB.out.1.below h1 HB.out.1.lt).at_ 4
            have q5 : w1.cell? ⟨w.heap.size, 5, none⟩ = some (.int .i64 nx) := (HB.out.1.below h1 HB.out.1.lt).at_ 5
            have d2 : w1.cell? ⟨w.heap.size + 1, 2, none⟩ = some (.string X) := (HB.out.2.1.below h1 HB.out.2.1.lt).at_ 2
            have d3 : w1.cell? ⟨w.heap.size + 1, 3, none⟩ = some (.int .i64 pa) := (HB.out.2.1.below h1 HB.out.2.1.lt).at_ 3
            have d4 : w1.cell? ⟨w.heap.size + 1, 4, none⟩ = some (.int .i64 fi2) := (HB.out.2.1.below h1 HB.out.2.1.lt).at_ 4
            have d5 : w1.cell? ⟨w.heap.size + 1, 5, none⟩ = some (.int .i64 nx2) := (HB.out.2.1.below h1 HB.out.2.1.lt).at_ 5
            clear h1
            go_wp2
            go_ret
            exact ⟨by rw [HR.out]; rfl, B1.out⟩
        · have f4 : (pa == pa2) = false := beq_eq_false_iff_ne.2 e4
          have HR := Lib.hid (show R = false by rw [hR, f4]; simp)
          clear hR hN hN2 hX hX2 e2
          go_enter Tryz.func37, Tryz.ntmps37
          go_wp2_with fail
          rw [← HW.out]
          refine (HEQ.out).mono ?_
          rintro e w1 ⟨rfl, h1⟩
          have B1 := Lib.hid (HB.out.2.2.trans (h1.mono HB.out.2.2.size))
          have q2 : w1.cell? ⟨w.heap.size, 2, none⟩ = some (.string X) := (HB.out.1.below h1 HB.out.1.lt).at_ 2
          have q3 : w1.cell? ⟨w.heap.size, 3, none⟩ = some (.int .i64 pa) := (HB.out.1.below h1 HB.out.1.lt).at_ 3
          have q4 : w1.cell? ⟨w.heap.size, 4, none⟩ = some (.int .i64 fi) := (HB.out.1.below h1 HB.out.1.lt).at_ 4
          have q5 : w1.cell? ⟨w.heap.size, 5, none⟩ = some (.int .i64 nx) := (HB.out.1.below h1 HB.out.1.lt).at_ 5
          have d2 : w1.cell? ⟨w.heap.size + 1, 2, none⟩ = some (.string X) := (HB.out.2.1.below h1 HB.out.2.1.lt).at_ 2
          have d3 : w1.cell? ⟨w.heap.size + 1, 3, none⟩ = some (.int .i64 pa2) := (HB.out.2.1.below h1 HB.out.2.1.lt).at_ 3
          have d4 : w1.cell? ⟨w.heap.size + 1, 4, none⟩ = some (.int .i64 fi2) := (HB.out.2.1.below h1 HB.out.2.1.lt).at_ 4
          have d5 : w1.cell? ⟨w.heap.size + 1, 5, none⟩ = some (.int .i64 nx2) := (HB.out.2.1.below h1 HB.out.2.1.lt).at_ 5
          clear h1
          go_wp2
          go_ret
          exact ⟨by rw [HR.out]; rfl, B1.out⟩
      · have f3 := str_ne hX hX2 e3
        have HR := Lib.hid (show R = false by rw [hR, show (tx == tx2) = false from beq_eq_false_iff_ne.2 e3]; simp)
        clear hR hN hN2 hX hX2 e2 e3
        go_enter Tryz.func37, Tryz.ntmps37
        go_wp2_with fail
        rw [← HW.out]
        refine (HEQ.out).mono ?_
        rintro e w1 ⟨rfl, h1⟩
        have B1 := Lib.hid (HB.out.2.2.trans (h1.mono HB.out.2.2.size))
        have q2 : w1.cell? ⟨w.heap.size, 2, none⟩ = some (.string X) := (HB.out.1.below h1 HB.out.1.lt).at_ 2
        have q3 : w1.cell? ⟨w.heap.size, 3, none⟩ = some (.int .i64 pa) := (HB.out.1.below h1 HB.out.1.lt).at_ 3
        have q4 : w1.cell? ⟨w.heap.size, 4, none⟩ = some (.int .i64 fi) := (HB.out.1.below h1 HB.out.1.lt).at_ 4
        have q5 : w1.cell? ⟨w.heap.size, 5, none⟩ = some (.int .i64 nx) := (HB.out.1.below h1 HB.out.1.lt).at_ 5
        have d2 : w1.cell? ⟨w.heap.size + 1, 2, none⟩ = some (.string X2) := (HB.out.2.1.below h1 HB.out.2.1.lt).at_ 2
        have d3 : w1.cell? ⟨w.heap.size + 1, 3, none⟩ = some (.int .i64 pa2) := (HB.out.2.1.below h1 HB.out.2.1.lt).at_ 3
        have d4 : w1.cell? ⟨w.heap.size + 1, 4, none⟩ = some (.int .i64 fi2) := (HB.out.2.1.below h1 HB.out.2.1.lt).at_ 4
        have d5 : w1.cell? ⟨w.heap.size + 1, 5, none⟩ = some (.int .i64 nx2) := (HB.out.2.1.below h1 HB.out.2.1.lt).at_ 5
        clear h1
        go_wp2
        go_ret
        exact ⟨by rw [HR.out]; rfl, B1.out⟩
    · rw [decide_eq_false e2] at HEQ
      have HR := Lib.hid (show R = false by rw [hR, show (al == al2) = false from beq_eq_false_iff_ne.2 e2]; simp)
      clear hR hN hN2 hX hX2 e2
      go_enter Tryz.func37, Tryz.ntmps37
      go_wp2_with fail
      rw [← HW.out]
      refine (HEQ.out).mono ?_
      rintro e w1 ⟨rfl, h1⟩
      have B1 := Lib.hid (HB.out.2.2.trans (h1.mono HB.out.2.2.size))
      have q2 : w1.cell? ⟨w.heap.size, 2, none⟩ = some (.string X) := (HB.out.1.below h1 HB.out.1.lt).at_ 2
      have q3 : w1.cell? ⟨w.heap.size, 3, none⟩ = some (.int .i64 pa) := (HB.out.1.below h1 HB.out.1.lt).at_ 3
      have q4 : w1.cell? ⟨w.heap.size, 4, none⟩ = some (.int .i64 fi) := (HB.out.1.below h1 HB.out.1.lt).at_ 4
      have q5 : w1.cell? ⟨w.heap.size, 5, none⟩ = some (.int .i64 nx) := (HB.out.1.below h1 HB.out.1.lt).at_ 5
      have d2 : w1.cell? ⟨w.heap.size + 1, 2, none⟩ = some (.string X2) := (HB.out.2.1.below h1 HB.out.2.1.lt).at_ 2
      have d3 : w1.cell? ⟨w.heap.size + 1, 3, none⟩ = some (.int .i64 pa2) := (HB.out.2.1.below h1 HB.out.2.1.lt).at_ 3
      have d4 : w1.cell? ⟨w.heap.size + 1, 4, none⟩ = some (.int .i64 fi2) := (HB.out.2.1.below h1 HB.out.2.1.lt).at_ 4
      have d5 : w1.cell? ⟨w.heap.size + 1, 5, none⟩ = some (.int .i64 nx2) := (HB.out.2.1.below h1 HB.out.2.1.lt).at_ 5
      clear h1
      go_wp2
      go_ret
      exact ⟨by rw [HR.out]; rfl, B1.out⟩
  · have f1 := str_ne hN hN2 e1
    have HR := Lib.hid (show R = false by rw [hR, show (nm == nm2) = false from beq_eq_false_iff_ne.2 e1]; simp)
    clear hR hN hN2 hX hX2 e1
    go_enter Tryz.func37, Tryz.ntmps37
    go_wp2
    try rw [← HW.out]
    go_ret
    exact ⟨by rw [HR.out]; rfl, by first | exact HB.out.2.2 | (have := HB.out.2.2; rw [HW.out] at this; exact this)⟩
end Go.Proofs.YtgidpcfaeekjhaaGreatDoor
namespace Go.Proofs.YtgidpcfaeekjhaaGreatDoor
open Go.RowKit

/-- A row of nodes reads so. -/
structure ReadsNd (w : World) (B : Nat) (A : Option Addr) (xs : List Nd) : Prop where
  row : 0 < xs.length → ∃ g o, A = some ⟨g, o, none⟩ ∧ g < B ∧ ∀ (k : Nat) (hk : k < xs.length), ∀ j u, (xs[k].cs)[j]? = some u → w.cell? ⟨g, o + k * 7 + j, none⟩ = some u
  att : ∀ x ∈ xs, NdOk w B x
theorem ReadsNd.below {w w' : World} {B : Nat} {A : Option Addr} {xs : List Nd} (h : ReadsNd w B A xs) (hb : Below B w w') : ReadsNd w' B A xs := by
  refine ⟨fun h0 => ?_, fun x hx => (h.att x hx).below hb⟩
  obtain ⟨g, o, e, hg, hc⟩ := h.row h0
  exact ⟨g, o, e, hg, fun k hk j u hu => (hb.cell (p := ⟨g, _, none⟩) hg).trans (hc k hk j u hu)⟩
theorem ReadsNd.more {w : World} {B B' : Nat} {A : Option Addr} {xs : List Nd} (h : ReadsNd w B A xs) (hB : B ≤ B') : ReadsNd w B' A xs := by
  refine ⟨fun h0 => ?_, fun x hx => (h.att x hx).more hB⟩
  obtain ⟨g, o, e, hg, hc⟩ := h.row h0
  exact ⟨g, o, e, by omega, hc⟩
theorem Tr.same_len : ∀ {xs ys : List Tr.N}, xs.length ≠ ys.length → Tr.same xs ys = false
  | [], [], h => absurd rfl h
  | [], _ :: _, _ => rfl
  | _ :: _, [], _ => rfl
  | x :: xs, y :: ys, h => by
    unfold Tr.same
    rw [Tr.same_len (fun e => h (by simp [e])), Bool.and_false]
theorem Tr.same_at {xs ys : List Tr.N} {k : Nat} (hx : k < xs.length) (hy : k < ys.length) : Tr.same (xs.drop k) (ys.drop k) = (Tr.same1 xs[k] ys[k] && Tr.same (xs.drop (k + 1)) (ys.drop (k + 1))) := by
  rw [List.drop_eq_getElem_cons hx, List.drop_eq_getElem_cons hy]
  rfl

set_option maxHeartbeats 4000000 in
set_option maxRecDepth 100000 in
theorem equalFunc_any (w : World) (A A2 : Option Addr) (c c2 : Nat) (xs ys : List Nd) (hl1 : xs.length ≤ c) (hl2 : ys.length ≤ c2) (hc1 : c ≤ maxLen) (hc2 : c2 ≤ maxLen) (h1 : ReadsNd w w.heap.size A xs) (h2 : ReadsNd w w.heap.size A2 ys) :
    Calls Tryz.prog 36 #[.slice A xs.length c, .slice A2 ys.length c2, .func (Fn.func 37) #[] #[]] w fun e w' => e = .returned (.bool (Tr.same (xs.map Nd.n) (ys.map Nd.n))) ∧ Below w.heap.size w w' := by
  have H1 := Lib.hid h1
  have H2 := Lib.hid h2
  have hm1 : (xs.length : Int) ≤ 9223372036854775807 := by unfold maxLen at hc1; omega
  have hm2 : (ys.length : Int) ≤ 9223372036854775807 := by unfold maxLen at hc2; omega
  clear h1 h2
  by_cases hlen : xs.length = ys.length
  · obtain ⟨n, hn⟩ : ∃ n, n = ys.length := ⟨_, rfl⟩
    have hn1 : xs.length = n := by omega
    have HN1 := Lib.hid hn1
    have HN2 := Lib.hid hn
    rw [hn1, ← hn]
    rw [hn1] at hl1 hm1
    rw [← hn] at hl2
    have hl1' : (n : Int) ≤ (c : Int) := by omega
    have hl2' : (n : Int) ≤ (c2 : Int) := by omega
    clear hm2 hlen hn1 hn
    obtain ⟨R, hR⟩ : ∃ R, R = Tr.same (xs.map Nd.n) (ys.map Nd.n) := ⟨_, rfl⟩
    rw [← hR]
    have HR := Lib.hid hR
    clear hR
    go_enter Tryz.func36, Tryz.ntmps36
    go_wp2
    go_loopw [17] (fun i wr => ∃ k : Nat, k ≤ n ∧ i = .int .i64 k ∧ Hid (Below w.heap.size w wr ∧ R = Tr.same ((xs.map Nd.n).drop k) ((ys.map Nd.n).drop k))) (fun i _ => n - (intOf i).toNat)
    case atStart => exact ⟨0, Nat.zero_le _, rfl, Lib.hid ⟨Below.refl _ _, HR.out⟩⟩
    case round =>
      obtain ⟨k, hk, rfl, HI⟩ := hrel
      by_cases hlt : k < n
      · have hka : k < xs.length := by have := HN1.out; omega
        have hkb : k < ys.length := by have := HN2.out; omega
        have G1 := H1.out.below HI.out.1
        have G2 := H2.out.below HI.out.1
        obtain ⟨g, o, hA, hg, hcl⟩ := G1.row (by omega)
        obtain ⟨g2, o2, hA2, hg2, hcl2⟩ := G2.row (by omega)
        subst hA hA2
        have hc := hcl k hka
        have hd := hcl2 k hkb
        have hax := G1.att _ (List.getElem_mem hka)
        have hay := G2.att _ (List.getElem_mem hkb)
        have HST := Lib.hid (show R = (Tr.same1 xs[k].n ys[k].n && Tr.same ((xs.map Nd.n).drop (k + 1)) ((ys.map Nd.n).drop (k + 1))) from by
          rw [HI.out.2, Tr.same_at (by rw [List.length_map]; exact hka) (by rw [List.length_map]; exact hkb), List.getElem_map, List.getElem_map])
        have hlt' : (k : Int) < (n : Int) := by omega
        have hgw : g < wr.heap.size := Nat.lt_of_lt_of_le hg HI.out.1.size
        have hgw2 : g2 < wr.heap.size := Nat.lt_of_lt_of_le hg2 HI.out.1.size
        clear hcl hcl2 hlt G1 G2
        generalize xs[k] = x at *
        generalize ys[k] = y at *
        have HSN := Lib.hid (fun w0 (q1 : NdOk w0 w0.heap.size x) (q2 : NdOk w0 w0.heap.size y) => sameNode_any w0 x y q1 q2)
        have HAX := Lib.hid (And.intro (hax.more HI.out.1.size) (hay.more HI.out.1.size))
        clear hax hay
        generalize Tr.same1 x.n y.n = bb at *
        obtain ⟨⟨nm, al, tx, pa, fi, nx, at1⟩, Ax, cx⟩ := x
        obtain ⟨⟨nm2, al2, tx2, pa2, fi2, nx2, at2⟩, Ay, cy⟩ := y
        unfold Nd.cs at HSN
        have a0 : wr.cell? ⟨g, o + k * 7, none⟩ = some (.string ⟨nm.toArray⟩) := hc 0 _ rfl
        have a1 : wr.cell? ⟨g, o + k * 7 + 1, none⟩ = some (.slice Ax al.length cx) := hc 1 _ rfl
        have a2 : wr.cell? ⟨g, o + k * 7 + 2, none⟩ = some (.string ⟨tx.toArray⟩) := hc 2 _ rfl
        have a3 : wr.cell? ⟨g, o + k * 7 + 3, none⟩ = some (.int .i64 pa) := hc 3 _ rfl
        have a4 : wr.cell? ⟨g, o + k * 7 + 4, none⟩ = some (.int .i64 fi) := hc 4 _ rfl
        have a5 : wr.cell? ⟨g, o + k * 7 + 5, none⟩ = some (.int .i64 nx) := hc 5 _ rfl
        have a6 : wr.cell? ⟨g, o + k * 7 + 6, none⟩ = some (.int .i64 at1) := hc 6 _ rfl
        have b0 : wr.cell? ⟨g2, o2 + k * 7, none⟩ = some (.string ⟨nm2.toArray⟩) := hd 0 _ rfl
        have b1 : wr.cell? ⟨g2, o2 + k * 7 + 1, none⟩ = some (.slice Ay al2.length cy) := hd 1 _ rfl
        have b2 : wr.cell? ⟨g2, o2 + k * 7 + 2, none⟩ = some (.string ⟨tx2.toArray⟩) := hd 2 _ rfl
        have b3 : wr.cell? ⟨g2, o2 + k * 7 + 3, none⟩ = some (.int .i64 pa2) := hd 3 _ rfl
        have b4 : wr.cell? ⟨g2, o2 + k * 7 + 4, none⟩ = some (.int .i64 fi2) := hd 4 _ rfl
        have b5 : wr.cell? ⟨g2, o2 + k * 7 + 5, none⟩ = some (.int .i64 nx2) := hd 5 _ rfl
        have b6 : wr.cell? ⟨g2, o2 + k * 7 + 6, none⟩ = some (.int .i64 at2) := hd 6 _ rfl
        clear hc hd
        simp only at HSN
        generalize (⟨nm.toArray⟩ : ByteArray) = N at *
        generalize (⟨nm2.toArray⟩ : ByteArray) = N2 at *
        generalize (⟨tx.toArray⟩ : ByteArray) = X at *
        generalize (⟨tx2.toArray⟩ : ByteArray) = X2 at *
        obtain ⟨W2, hW2⟩ : ∃ W2, W2 = (wr.alloc (.cells #[.string N, .slice Ax al.length cx, .string X, .int .i64 pa, .int .i64 fi, .int .i64 nx, .int .i64 at1] 49)).alloc (.cells #[.string N2, .slice Ay al2.length cy, .string X2, .int .i64 pa2, .int .i64 fi2, .int .i64 nx2, .int .i64 at2] 49) := ⟨_, rfl⟩
        have hb2 : Below wr.heap.size wr W2 := by rw [hW2]; exact ((Below.refl _ _).alloc (Nat.le_refl _) _).alloc (by simp) _
        have HB2 := Lib.hid hb2
        have HW2 := Lib.hid hW2
        clear hb2 hW2
        go_wp2_with fail
        rw [← HW2.out]
        refine (HSN.out _ ((HAX.out.1.below HB2.out).more HB2.out.size) ((HAX.out.2.below HB2.out).more HB2.out.size)).mono ?_
        rintro e w3 ⟨rfl, h3⟩
        have B3 := Lib.hid (HI.out.1.trans ((HB2.out.trans (h3.mono HB2.out.size)).mono HI.out.1.size))
        clear h3
        cases bb with
        | true =>
          go_wp2
          go_roundw
          case rel => exact ⟨k + 1, by omega, by go_num, Lib.hid ⟨B3.out, by rw [HST.out, Bool.true_and]⟩⟩
          case measure => simp [intOf]; omega
        | false =>
          have HF := Lib.hid (show R = false by rw [HST.out, Bool.false_and])
          go_wp2
          go_ret
          exact ⟨by rw [HF.out]; rfl, B3.out⟩
      · obtain rfl : k = n := by omega
        have HF := Lib.hid (show R = true by
          rw [HI.out.2, List.drop_eq_nil_of_le (by rw [List.length_map]; have := HN1.out; omega), List.drop_eq_nil_of_le (by rw [List.length_map]; have := HN2.out; omega)]
          rfl)
        go_wp2
        go_ret
        exact ⟨by rw [HF.out]; rfl, HI.out.1⟩
  · have hlen' : ((xs.length : Int) == (ys.length : Int)) = false := by
      apply beq_eq_false_iff_ne.2
      omega
    rw [Tr.same_len (by rw [List.length_map, List.length_map]; exact hlen)]
    clear hlen
    go_enter Tryz.func36, Tryz.ntmps36
    go_wp2
    go_ret
    exact ⟨by first | rfl | (rw [show _ = _ from rfl]), Below.refl _ _⟩
set_option maxHeartbeats 4000000 in
set_option maxRecDepth 100000 in
theorem tsame_any (w : World) (A A2 : Option Addr) (c c2 : Nat) (xs ys : List Nd) (hl1 : xs.length ≤ c) (hl2 : ys.length ≤ c2) (hc1 : c ≤ maxLen) (hc2 : c2 ≤ maxLen) (h1 : ReadsNd w w.heap.size A xs) (h2 : ReadsNd w w.heap.size A2 ys) :
    Calls Tryz.prog 16 #[.agg #[.slice A xs.length c], .agg #[.slice A2 ys.length c2]] w fun e w' => e = .returned (.bool (Tr.same (xs.map Nd.n) (ys.map Nd.n))) ∧ Below w.heap.size w w' := by
  have b2 : Below w.heap.size w ((w.alloc (.cells #[.slice A xs.length c] 31)).alloc (.cells #[.slice A2 ys.length c2] 31)) := ((Below.refl _ _).alloc (Nat.le_refl _) _).alloc (by simp) _
  have HB := Lib.hid b2
  have HE := Lib.hid (fun w0 (q1 : ReadsNd w0 w0.heap.size A xs) (q2 : ReadsNd w0 w0.heap.size A2 ys) => equalFunc_any w0 A A2 c c2 xs ys hl1 hl2 hc1 hc2 q1 q2)
  have H1 := Lib.hid h1
  have H2 := Lib.hid h2
  clear h1 h2 b2
  go_enter Tryz.func16, Tryz.ntmps16
  go_wp2_with fail
  refine (HE.out _ ((H1.out.below HB.out).more HB.out.size) ((H2.out.below HB.out).more HB.out.size)).mono ?_
  rintro e w3 ⟨rfl, h3⟩
  have B3 := Lib.hid (HB.out.trans (h3.mono HB.out.size))
  clear h3
  go_wp2
  go_ret
  exact ⟨rfl, B3.out⟩
end Go.Proofs.YtgidpcfaeekjhaaGreatDoor
namespace Go.Proofs.YtgidpcfaeekjhaaGreatDoor
open Go.RowKit

def Tr.wtA : List (List UInt8 × List UInt8) → Nat
  | [] => 0
  | a :: r => a.1.length + a.2.length + Tr.wtA r
theorem Tr.wtA_snoc : ∀ (l : List (List UInt8 × List UInt8)) (a : List UInt8 × List UInt8), Tr.wtA (l ++ [a]) = Tr.wtA l + (a.1.length + a.2.length)
  | [], a => by simp [Tr.wtA]
  | b :: l, a => by rw [List.cons_append, Tr.wtA, Tr.wtA, Tr.wtA_snoc l a]; omega
def Tr.wt (x : Tr.N) : Nat := x.nm.length + x.tx.length + 9 * x.al.length + Tr.wtA x.al
def Tr.wts : List Tr.N → Nat
  | [] => 0
  | x :: r => Tr.wt x + Tr.wts r
theorem Tr.wts_snoc : ∀ (l : List Tr.N) (a : Tr.N), Tr.wts (l ++ [a]) = Tr.wts l + Tr.wt a
  | [], a => by simp [Tr.wts]
  | b :: l, a => by rw [List.cons_append, Tr.wts, Tr.wts, Tr.wts_snoc l a]; omega
/-- No length is larger than any machine's. -/
def NdBig (x : Nd) : Prop := x.n.nm.length ≤ 140737488355328 ∧ x.n.tx.length ≤ 140737488355328 ∧ x.n.al.length ≤ 8796093022208 ∧ ∀ a ∈ x.n.al, a.1.length ≤ 140737488355328 ∧ a.2.length ≤ 140737488355328
/-- No length is too large. -/
def NdFit (x : Nd) : Prop := x.n.nm.length ≤ 1048576 ∧ x.n.tx.length ≤ 1048576 ∧ x.n.al.length ≤ 1048576 ∧ ∀ a ∈ x.n.al, a.1.length ≤ 1048576 ∧ a.2.length ≤ 1048576

/-- What few answers. -/
def FewP (xs : List Nd) (w : World) (e : Ending) (w' : World) : Prop := ∃ b, e = .returned (.bool b) ∧ (b = true → xs.length ≤ 60 ∧ Tr.wts (xs.map Nd.n) ≤ 4000) ∧ Below w.heap.size w w'
set_option maxHeartbeats 4000000 in
set_option maxRecDepth 100000 in
theorem few_any (w : World) (A : Option Addr) (c : Nat) (xs : List Nd) (hl : xs.length ≤ c) (hc : c ≤ maxLen) (hr : ReadsNd w w.heap.size A xs) (hf : ∀ x ∈ xs, NdBig x) :
    Calls Tryz.prog 13 #[.agg #[.slice A xs.length c]] w (FewP xs w) := by
  have H := Lib.hid hr
  have HF := Lib.hid hf
  have hm : (xs.length : Int) ≤ 9223372036854775807 := by unfold maxLen at hc; omega
  have HB0 := Lib.hid (And.intro (IsBlk.new w 31 #[.slice A xs.length c]) ((Below.refl w.heap.size w).alloc (Nat.le_refl _) (.cells #[.slice A xs.length c] 31)))
  clear hr hf
  by_cases h60 : 60 < xs.length
  · have h60' : (xs.length : Int) > 60 := by omega
    clear h60
    go_enter Tryz.func13, Tryz.ntmps13
    go_wp2
    go_ret
    exact ⟨false, rfl, (fun h => by cases h), HB0.out.2⟩
  · have h60' : ¬ (xs.length : Int) > 60 := by omega
    have h60n : xs.length ≤ 60 := by omega
    have hl' : (xs.length : Int) ≤ (c : Int) := by omega
    clear h60
    obtain ⟨W0, hW0⟩ : ∃ W0, W0 = w.alloc (.cells #[.slice A xs.length c] 31) := ⟨_, rfl⟩
    rw [← hW0] at HB0
    have HW := Lib.hid hW0
    clear hW0
    go_enter Tryz.func13, Tryz.ntmps13
    go_wp2
    rw [← HW.out]
    go_loopw [3, 4] (fun n i wr => ∃ m k : Nat, n = .int .i64 m ∧ i = .int .i64 k ∧ k ≤ xs.length ∧ Hid (Below W0.heap.size W0 wr ∧ m ≤ 2251799813685248 * k ∧ (m ≤ 4000 → m = Tr.wts ((xs.take k).map Nd.n)))) (fun _ i _ => xs.length - (intOf i).toNat)
    case atStart => exact ⟨0, 0, rfl, rfl, Nat.zero_le _, Lib.hid ⟨Below.refl _ _, Nat.zero_le _, fun _ => by simp [Tr.wts]⟩⟩
    case round =>
      obtain ⟨m, k, rfl, rfl, hk, HI⟩ := hrel
      have kb := HB0.out.1.below HI.out.1 HB0.out.1.lt
      have t0 : wr.cell? ⟨w.heap.size, 0, none⟩ = some (.slice A xs.length c) := kb.at_ 0
      clear kb
      by_cases hlt : k < xs.length
      · have G := H.out.below (HB0.out.2.trans (HI.out.1.mono HB0.out.2.size))
        obtain ⟨g, o, hA, hg, hcl⟩ := G.row (by omega)
        subst hA
        have hcs := hcl k hlt
        have hax := G.att _ (List.getElem_mem hlt)
        have hfit := HF.out _ (List.getElem_mem hlt)
        have HT := Lib.hid (show (xs.take (k + 1)).map Nd.n = (xs.take k).map Nd.n ++ [xs[k].n] from by rw [List.take_succ_eq_append_getElem hlt, List.map_append]; rfl)
        have hlt' : (k : Int) < (xs.length : Int) := by omega
        have hmk := HI.out.2.1
        clear hcl G
        generalize xs[k] = x at *
        clear hlt
        obtain ⟨⟨nm, al, tx, pa, fi, nx, at1⟩, Ax, cx⟩ := x
        obtain ⟨f1, f2, f3, f4⟩ := hfit
        obtain ⟨g1, g2, g3⟩ := hax
        simp only at f1 f2 f3 f4 g1 g2 g3
        have a0 : wr.cell? ⟨g, o + k * 7, none⟩ = some (.string ⟨nm.toArray⟩) := hcs 0 _ rfl
        have a1 : wr.cell? ⟨g, o + k * 7 + 1, none⟩ = some (.slice Ax al.length cx) := hcs 1 _ rfl
        have a2 : wr.cell? ⟨g, o + k * 7 + 2, none⟩ = some (.string ⟨tx.toArray⟩) := hcs 2 _ rfl
        have a3 : wr.cell? ⟨g, o + k * 7 + 3, none⟩ = some (.int .i64 pa) := hcs 3 _ rfl
        have a4 : wr.cell? ⟨g, o + k * 7 + 4, none⟩ = some (.int .i64 fi) := hcs 4 _ rfl
        have a5 : wr.cell? ⟨g, o + k * 7 + 5, none⟩ = some (.int .i64 nx) := hcs 5 _ rfl
        have a6 : wr.cell? ⟨g, o + k * 7 + 6, none⟩ = some (.int .i64 at1) := hcs 6 _ rfl
        clear hcs
        obtain ⟨N, hN⟩ : ∃ N : ByteArray, N = ⟨nm.toArray⟩ := ⟨_, rfl⟩
        obtain ⟨X, hX⟩ : ∃ N : ByteArray, N = ⟨tx.toArray⟩ := ⟨_, rfl⟩
        rw [← hN] at a0
        rw [← hX] at a2
        have hNs : N.size = nm.length := by rw [hN, Lib.size_eq]
        have hXs : X.size = tx.length := by rw [hX, Lib.size_eq]
        have HNX := Lib.hid (And.intro hNs hXs)
        have hNb : N.size ≤ 140737488355328 := by omega
        have hXb : X.size ≤ 140737488355328 := by omega
        clear hN hX hNs hXs
        obtain ⟨r, hr⟩ : ∃ r, r = wr.heap.size := ⟨_, rfl⟩
        obtain ⟨W1, hW1⟩ : ∃ W1, W1 = wr.alloc (.cells #[.string N, .slice Ax al.length cx, .string X, .int .i64 pa, .int .i64 fi, .int .i64 nx, .int .i64 at1] 49) := ⟨_, rfl⟩
        have HB1 := Lib.hid (show IsBlk W1 r 49 #[.string N, .slice Ax al.length cx, .string X, .int .i64 pa, .int .i64 fi, .int .i64 nx, .int .i64 at1] ∧ Below wr.heap.size wr W1 from by
          rw [hW1, hr]; exact ⟨IsBlk.new wr _ _, (Below.refl _ _).alloc (Nat.le_refl _) _⟩)
        have HAT := Lib.hid ((g1.more5 (Nat.le_trans HB0.out.2.size HI.out.1.size)).below HB1.out.2)
        have HW1 := Lib.hid hW1
        have HRR := Lib.hid hr
        have HF4 := Lib.hid f4
        clear hW1 hr g1 f4
        have hmI : (m : Int) ≤ 135107988821114880 := by omega
        go_wp2
        rw [← HW1.out, ← HRR.out]
        go_loopw [3, 6] (fun n j wr2 => ∃ m2 q : Nat, n = .int .i64 m2 ∧ j = .int .i64 q ∧ q ≤ al.length ∧ Hid (Below W1.heap.size W1 wr2 ∧ m2 ≤ 2251799813685248 * k + 1125899906842624 ∧ (m2 ≤ 4000 → m2 = m + (nm.length + tx.length + 9 * al.length) + Tr.wtA (al.take q)))) (fun _ j _ => al.length - (intOf j).toNat)
        case atStart => exact ⟨m + (nm.length + tx.length + 9 * al.length), 0, by rw [← HNX.out.1, ← HNX.out.2]; congr 1; omega, rfl, Nat.zero_le _, Lib.hid ⟨Below.refl _ _, by omega, fun _ => by simp [Tr.wtA]⟩⟩
        case round =>
          obtain ⟨m2, q, rfl, rfl, hq, HJ⟩ := hrel
          have hm2 := HJ.out.2.1
          have t1 : wr.cell? ⟨r, 1, none⟩ = some (.slice Ax al.length cx) := (HB1.out.1.below HJ.out.1 HB1.out.1.lt).at_ 1
          have hmI2 : (m2 : Int) ≤ 133982088914272256 := by omega
          have HBW := Lib.hid (HI.out.1.trans ((HB1.out.2.trans (HJ.out.1.mono HB1.out.2.size)).mono HI.out.1.size))
          by_cases hql : q < al.length
          · have hql' : (q : Int) < (al.length : Int) := by omega
            by_cases hm4 : m2 ≤ 4000
            · have hm4' : (m2 : Int) ≤ 4000 := by omega
              obtain ⟨ga, oa, hAa, hga, hca⟩ := (HAT.out.below (HJ.out.1.mono HB1.out.2.size)) (by omega)
              subst hAa
              obtain ⟨d0, d1⟩ := hca q hql
              have HTQ := Lib.hid (take_snoc_ hql)
              have hfa := HF4.out _ (List.getElem_mem hql)
              clear hca
              generalize al[q] = a at *
              obtain ⟨U, hU⟩ : ∃ N : ByteArray, N = ⟨a.1.toArray⟩ := ⟨_, rfl⟩
              obtain ⟨V, hV⟩ : ∃ N : ByteArray, N = ⟨a.2.toArray⟩ := ⟨_, rfl⟩
              rw [← hU] at d0
              rw [← hV] at d1
              have hUs : U.size = a.1.length := by rw [hU, Lib.size_eq]
              have hVs : V.size = a.2.length := by rw [hV, Lib.size_eq]
              have HUV := Lib.hid (And.intro hUs hVs)
              have hUb : U.size ≤ 140737488355328 := by omega
              have hVb : V.size ≤ 140737488355328 := by omega
              have hcx : (al.length : Int) ≤ (cx : Int) := by omega
              have HM4 := Lib.hid hm4
              clear hU hV hUs hVs hfa hql hm4
              go_wp2_with fail
              go_quiet (fail)
              go_wp2
              go_roundw
              case rel => exact ⟨m2 + (a.1.length + a.2.length), q + 1, by rw [← HUV.out.1, ← HUV.out.2]; congr 1; omega, by go_num, by omega, Lib.hid ⟨below_drewN HJ.out.1 _, by have := HUV.out.1; have := HUV.out.2; have := HM4.out; omega, fun _ => by
                rw [HTQ.out, Tr.wtA_snoc]
                have := HJ.out.2.2 HM4.out
                omega⟩⟩
              case measure => simp [intOf]; omega
            · have hm4' : ¬ (m2 : Int) ≤ 4000 := by omega
              have HM4 := Lib.hid hm4
              clear hm4
              go_wp2
              go_roundw
              case rel => exact ⟨m2, k + 1, rfl, by go_num, by omega, Lib.hid ⟨HBW.out, by omega, fun h => absurd h HM4.out⟩⟩
              case measure => simp [intOf]; omega
          · obtain rfl : q = al.length := by omega
            have hql' : ¬ (al.length : Int) < (al.length : Int) := by omega
            have HLAST := Lib.hid (show m2 ≤ 4000 → m2 = Tr.wts ((xs.take (k + 1)).map Nd.n) from fun h => by
              rw [HT.out, Tr.wts_snoc]
              have h1 := HJ.out.2.2 h
              rw [List.take_length] at h1
              have h2 := HI.out.2.2 (by omega)
              unfold Tr.wt
              simp only
              omega)
            go_wp2
            go_roundw
            case rel => exact ⟨m2, k + 1, rfl, by go_num, by omega, Lib.hid ⟨HBW.out, by omega, HLAST.out⟩⟩
            case measure => simp [intOf]; omega
      · obtain rfl : k = xs.length := by omega
        have hlt' : ¬ (xs.length : Int) < (xs.length : Int) := by omega
        have HE := Lib.hid (show (decide ((m : Int) ≤ 4000)) = true → xs.length ≤ 60 ∧ Tr.wts (xs.map Nd.n) ≤ 4000 from fun h => by
          have h1 := of_decide_eq_true h
          have h2 := HI.out.2.2 (by omega)
          rw [List.take_length] at h2
          exact ⟨h60n, by omega⟩)
        have HBW := Lib.hid (HB0.out.2.trans (HI.out.1.mono HB0.out.2.size))
        go_wp2
        go_ret
        exact ⟨_, rfl, HE.out, HBW.out⟩
theorem Tr.wtA_mem : ∀ {l : List (List UInt8 × List UInt8)} {a : List UInt8 × List UInt8}, a ∈ l → a.1.length + a.2.length ≤ Tr.wtA l
  | b :: l, a, h => by
    unfold Tr.wtA
    rcases List.mem_cons.1 h with rfl | h
    · omega
    · have := Tr.wtA_mem h; omega
theorem Tr.wts_mem : ∀ {l : List Tr.N} {x : Tr.N}, x ∈ l → Tr.wt x ≤ Tr.wts l
  | b :: l, x, h => by
    unfold Tr.wts
    rcases List.mem_cons.1 h with rfl | h
    · omega
    · have := Tr.wts_mem h; omega
/-- Of few, no length is too large. -/
theorem fit_of_few {xs : List Nd} (h : Tr.wts (xs.map Nd.n) ≤ 4000) : ∀ x ∈ xs, NdFit x := fun x hx => by
  have h1 := Tr.wts_mem (List.mem_map.2 ⟨x, hx, rfl⟩ : x.n ∈ xs.map Nd.n)
  unfold Tr.wt at h1
  refine ⟨by omega, by omega, by omega, fun a ha => ?_⟩
  have := Tr.wtA_mem ha
  omega
end Go.Proofs.YtgidpcfaeekjhaaGreatDoor
