/- Facts and walks for the statement. -/
import Derived.Test.YteadfpkihhaadaaGreatDoorPz28
namespace Go.Proofs.YteadfpkihhaadaaGreatDoor
open Go.RowKit
def Tr.same1a (x y : Tr.N) : Bool := Tr.same1 x y && x.at_ == y.at_
def Tr.sameA : List Tr.N → List Tr.N → Bool
 | [], [] => true
 | x :: xs, y :: ys => Tr.same1a x y && Tr.sameA xs ys
 | _, _ => false
theorem Tr.sameA_at {xs ys : List Tr.N} {k : Nat} (hx : k < xs.length) (hy : k < ys.length) : Tr.sameA (xs.drop k) (ys.drop k) = (Tr.same1a xs[k] ys[k] && Tr.sameA (xs.drop (k + 1)) (ys.drop (k + 1))) := by
 rw [List.drop_eq_getElem_cons hx, List.drop_eq_getElem_cons hy]
 rfl
theorem Tr.sameA_refl : ∀ xs : List Tr.N, Tr.sameA xs xs = true
 | [] => rfl
 | x :: xs => by
  show (Tr.same1a x x && Tr.sameA xs xs) = true
  rw [Tr.sameA_refl xs]
  unfold Tr.same1a Tr.same1
  simp
set_option maxHeartbeats 4000000 in
set_option maxRecDepth 100000 in
theorem lsameA_any (w : World) (A A2 : Option Addr) (c c2 Ba Bb : Nat) (pa pb : List (Tr.N × Value)) (ha : NRow Ba w (.slice A pa.length c) pa) (hb : NRow Bb w (.slice A2 pb.length c2) pb) (hn : pa.length ≤ 1048576) (hlen : pa.length = pb.length) :
  Calls Tryz.prog 10 #[.agg #[.slice A pa.length c], .agg #[.slice A2 pb.length c2], .bool true] w fun e w' => e = .returned (.bool (Tr.sameA (pa.map (·.1)) (pb.map (·.1)))) ∧ Below w.heap.size w w' := by
 have HA := Lib.hid ha
 have HB := Lib.hid hb
 obtain ⟨n, hn1⟩ : ∃ n, n = pb.length := ⟨_, rfl⟩
 have hn2 : pa.length = n := by omega
 have HN := Lib.hid (And.intro hn2 hn1)
 rw [hn2, ← hn1]
 have hnb : (n : Int) ≤ 1048576 := by omega
 clear hlen hn hn1 hn2 ha hb
 obtain ⟨R, hR⟩ : ∃ R, R = Tr.sameA (pa.map (·.1)) (pb.map (·.1)) := ⟨_, rfl⟩
 rw [← hR]
 have HR := Lib.hid hR
 clear hR
 obtain ⟨W0, hW0⟩ : ∃ W0, W0 = (w.alloc (.cells #[.slice A n c] 25)).alloc (.cells #[.slice A2 n c2] 25) := ⟨_, rfl⟩
 have hz : (w.alloc (.cells #[.slice A n c] 25)).heap.size = w.heap.size + 1 := by simp
 have HB0 := Lib.hid (show IsBlk W0 w.heap.size 25 #[.slice A n c] ∧ IsBlk W0 (w.heap.size + 1) 25 #[.slice A2 n c2] ∧ Below w.heap.size w W0 from by
  rw [hW0]
  exact ⟨(IsBlk.new w _ _).below ((Below.refl _ _).alloc (Nat.le_refl _) _) (by simp), by rw [← hz]; exact IsBlk.new _ _ _, ((Below.refl _ _).alloc (Nat.le_refl _) _).alloc (by simp) _⟩)
 have HW := Lib.hid hW0
 clear hW0 hz
 go_enter Tryz.func10, Tryz.ntmps10
 go_wp2
 rw [← HW.out]
 go_loopw [7] (fun i wr => ∃ k : Nat, k ≤ n ∧ i = .int .i64 k ∧ Hid (Below W0.heap.size W0 wr ∧ R = Tr.sameA ((pa.map (·.1)).drop k) ((pb.map (·.1)).drop k))) (fun i _ => n - (intOf i).toNat)
 case atStart => exact ⟨0, Nat.zero_le _, rfl, Lib.hid ⟨Below.refl _ _, HR.out⟩⟩
 case round =>
  obtain ⟨k, hk, rfl, HI⟩ := hrel
  have t0 : wr.cell? ⟨w.heap.size, 0, none⟩ = some (.slice A n c) := (HB0.out.1.below HI.out.1 HB0.out.1.lt).at_ 0
  have t1 : wr.cell? ⟨w.heap.size + 1, 0, none⟩ = some (.slice A2 n c2) := (HB0.out.2.1.below HI.out.1 HB0.out.2.1.lt).at_ 0
  by_cases hlt : k < n
  ·have hka : k < pa.length := by have := HN.out.1; omega
   have hkb : k < pb.length := by have := HN.out.2; omega
   have hbw := HB0.out.2.2.trans (HI.out.1.mono HB0.out.2.2.size)
   have GA := HA.out.below hbw
   have GB := HB.out.below hbw
   have hoa := GA.own
   have hob := GB.own
   rw [HN.out.1] at hoa
   rw [← HN.out.2] at hob
   obtain ⟨g, c', hA, _, hg⟩ := hoa.form (by omega)
   obtain ⟨g2, c2', hA2, _, hg2⟩ := hob.form (by omega)
   injection hA with hA _ hcc
   injection hA2 with hA2 _ hcc2
   subst hA hcc hA2 hcc2
   have hatta := GA.att _ (List.getElem_mem hka)
   have hattb := GB.att _ (List.getElem_mem hkb)
   obtain ⟨V1, cv1, hv1, _, _, hc1, hc1m⟩ := own_slice hatta
   obtain ⟨V2, cv2, hv2, _, _, hc2, hc2m⟩ := own_slice hattb
   have HST := Lib.hid (show R = (Tr.same1a pa[k].1 pb[k].1 && Tr.sameA ((pa.map (·.1)).drop (k + 1)) ((pb.map (·.1)).drop (k + 1))) from by
    rw [HI.out.2, Tr.sameA_at (by rw [List.length_map]; exact hka) (by rw [List.length_map]; exact hkb), List.getElem_map, List.getElem_map])
   have a0 := own_cell hoa (rnd_at pa k 0 hka (by omega))
   have a1 := own_cell hoa (rnd_at pa k 1 hka (by omega))
   have a2 := own_cell hoa (rnd_at pa k 2 hka (by omega))
   have a3 := own_cell hoa (rnd_at pa k 3 hka (by omega))
   have a4 := own_cell hoa (rnd_at pa k 4 hka (by omega))
   have a5 := own_cell hoa (rnd_at pa k 5 hka (by omega))
   have a6 := own_cell hoa (rnd_at pa k 6 hka (by omega))
   have b0 := own_cell hob (rnd_at pb k 0 hkb (by omega))
   have b1 := own_cell hob (rnd_at pb k 1 hkb (by omega))
   have b2 := own_cell hob (rnd_at pb k 2 hkb (by omega))
   have b3 := own_cell hob (rnd_at pb k 3 hkb (by omega))
   have b4 := own_cell hob (rnd_at pb k 4 hkb (by omega))
   have b5 := own_cell hob (rnd_at pb k 5 hkb (by omega))
   have b6 := own_cell hob (rnd_at pb k 6 hkb (by omega))
   have hlt' : (k : Int) < (n : Int) := by omega
   have HAT := Lib.hid (And.intro hatta hattb)
   clear hatta hattb GA GB hoa hob hlt
   generalize pa[k] = x at *
   generalize pb[k] = y at *
   obtain ⟨⟨nm1, al1, tx1, pa1, fi1, nx1, at1⟩, av1⟩ := x
   obtain ⟨⟨nm2, al2, tx2, pa2, fi2, nx2, at2⟩, av2⟩ := y
   simp only at hv1 hv2 hc1 hc2
   subst hv1 hv2
   obtain ⟨N1, hN1⟩ : ∃ N : ByteArray, N = ⟨nm1.toArray⟩ := ⟨_, rfl⟩
   obtain ⟨N2, hN2⟩ : ∃ N : ByteArray, N = ⟨nm2.toArray⟩ := ⟨_, rfl⟩
   obtain ⟨X1, hX1⟩ : ∃ N : ByteArray, N = ⟨tx1.toArray⟩ := ⟨_, rfl⟩
   obtain ⟨X2, hX2⟩ : ∃ N : ByteArray, N = ⟨tx2.toArray⟩ := ⟨_, rfl⟩
   have a0' : wr.cell? ⟨g, k * 7, none⟩ = some (.string N1) := by rw [hN1]; exact a0
   have a1' : wr.cell? ⟨g, k * 7 + 1, none⟩ = some (.slice V1 al1.length cv1) := a1
   have a2' : wr.cell? ⟨g, k * 7 + 2, none⟩ = some (.string X1) := by rw [hX1]; exact a2
   have a3' : wr.cell? ⟨g, k * 7 + 3, none⟩ = some (.int .i64 pa1) := a3
   have a4' : wr.cell? ⟨g, k * 7 + 4, none⟩ = some (.int .i64 fi1) := a4
   have a5' : wr.cell? ⟨g, k * 7 + 5, none⟩ = some (.int .i64 nx1) := a5
   have a6' : wr.cell? ⟨g, k * 7 + 6, none⟩ = some (.int .i64 at1) := a6
   have b0' : wr.cell? ⟨g2, k * 7, none⟩ = some (.string N2) := by rw [hN2]; exact b0
   have b1' : wr.cell? ⟨g2, k * 7 + 1, none⟩ = some (.slice V2 al2.length cv2) := b1
   have b2' : wr.cell? ⟨g2, k * 7 + 2, none⟩ = some (.string X2) := by rw [hX2]; exact b2
   have b3' : wr.cell? ⟨g2, k * 7 + 3, none⟩ = some (.int .i64 pa2) := b3
   have b4' : wr.cell? ⟨g2, k * 7 + 4, none⟩ = some (.int .i64 fi2) := b4
   have b5' : wr.cell? ⟨g2, k * 7 + 5, none⟩ = some (.int .i64 nx2) := b5
   have b6' : wr.cell? ⟨g2, k * 7 + 6, none⟩ = some (.int .i64 at2) := b6
   have HNX := Lib.hid (And.intro (And.intro hN1 hN2) (And.intro hX1 hX2))
   clear a0 a1 a2 a3 a4 a5 a6 b0 b1 b2 b3 b4 b5 b6 hN1 hN2 hX1 hX2
   obtain ⟨Z1, hZ1⟩ : ∃ Z : Array Value, Z = #[.string N1, .slice V1 al1.length cv1, .string X1, .int .i64 pa1, .int .i64 fi1, .int .i64 nx1, .int .i64 at1] := ⟨_, rfl⟩
   go_upto_region 6 with fail
   go_cut [8, 9] from 18 to 104 (fun s8 s9 wx => ∃ r1 r2, s8 = .pointer (some ⟨r1, 0, none⟩) ∧ s9 = .pointer (some ⟨r2, 0, none⟩) ∧ Below wr.heap.size wr wx ∧
    IsBlk wx r1 83 #[.string N1, .slice V1 al1.length cv1, .string X1, .int .i64 pa1, .int .i64 fi1, .int .i64 nx1, .int .i64 at1] ∧ IsBlk wx r2 83 #[.string N2, .slice V2 al2.length cv2, .string X2, .int .i64 pa2, .int .i64 fi2, .int .i64 nx2, .int .i64 at2])
   case first =>
    have n0 := World.new_ne wr _ t0
    have n1 := World.new_ne wr _ t1
    have n2 := World.new_ne wr _ a0'
    have n3 := World.new_ne wr _ a1'
    have n4 := World.new_ne wr _ a2'
    have n5 := World.new_ne wr _ a3'
    have n6 := World.new_ne wr _ a4'
    have n7 := World.new_ne wr _ a5'
    have n8 := World.new_ne wr _ a6'
    have n9 := World.new_ne wr _ b0'
    have n10 := World.new_ne wr _ b1'
    have n11 := World.new_ne wr _ b2'
    have n12 := World.new_ne wr _ b3'
    have n13 := World.new_ne wr _ b4'
    have n14 := World.new_ne wr _ b5'
    have n15 := World.new_ne wr _ b6'
    go_region_held3 (fun w' => w'.cell? ⟨w.heap.size, 0, none⟩ = some (.slice (some ⟨g, 0, none⟩) n c) ∧ w'.cell? ⟨w.heap.size + 1, 0, none⟩ = some (.slice (some ⟨g2, 0, none⟩) n c2) ∧ w'.cell? ⟨g, k * 7, none⟩ = some (.string N1) ∧ w'.cell? ⟨g, k * 7 + 1, none⟩ = some (.slice V1 al1.length cv1) ∧ w'.cell? ⟨g, k * 7 + 2, none⟩ = some (.string X1) ∧ w'.cell? ⟨g, k * 7 + 3, none⟩ = some (.int .i64 pa1) ∧ w'.cell? ⟨g, k * 7 + 4, none⟩ = some (.int .i64 fi1) ∧ w'.cell? ⟨g, k * 7 + 5, none⟩ = some (.int .i64 nx1) ∧ w'.cell? ⟨g, k * 7 + 6, none⟩ = some (.int .i64 at1) ∧ w'.cell? ⟨g2, k * 7, none⟩ = some (.string N2) ∧ w'.cell? ⟨g2, k * 7 + 1, none⟩ = some (.slice V2 al2.length cv2) ∧ w'.cell? ⟨g2, k * 7 + 2, none⟩ = some (.string X2) ∧ w'.cell? ⟨g2, k * 7 + 3, none⟩ = some (.int .i64 pa2) ∧ w'.cell? ⟨g2, k * 7 + 4, none⟩ = some (.int .i64 fi2) ∧ w'.cell? ⟨g2, k * 7 + 5, none⟩ = some (.int .i64 nx2) ∧ w'.cell? ⟨g2, k * 7 + 6, none⟩ = some (.int .i64 at2)) (go_keep) (fail)
    all_goals
     go_wp2_with fail
     go_meet
     first
      | exact ⟨wr.heap.size, wr.heap.size + 1, rfl, rfl, (((Below.refl _ _).alloc (Nat.le_refl _) _).alloc (by simp) _).drew, one_new _ _ _ _ _, two_new _ _ _ _ _⟩
      | exact ⟨wr.heap.size + 1, wr.heap.size, rfl, rfl, (((Below.refl _ _).alloc (Nat.le_refl _) _).alloc (by simp) _).drew, two_new _ _ _ _ _, one_new _ _ _ _ _⟩
   case rest =>
    obtain ⟨r1, r2, rfl, rfl, hB, k1, k2⟩ := hcut
    have p0 : wc.cell? ⟨r1, 0, none⟩ = some (.string N1) := k1.at_ 0
    have p1 : wc.cell? ⟨r1, 1, none⟩ = some (.slice V1 al1.length cv1) := k1.at_ 1
    have p2 : wc.cell? ⟨r1, 2, none⟩ = some (.string X1) := k1.at_ 2
    have p3 : wc.cell? ⟨r1, 3, none⟩ = some (.int .i64 pa1) := k1.at_ 3
    have p4 : wc.cell? ⟨r1, 4, none⟩ = some (.int .i64 fi1) := k1.at_ 4
    have p5 : wc.cell? ⟨r1, 5, none⟩ = some (.int .i64 nx1) := k1.at_ 5
    have p6 : wc.cell? ⟨r1, 6, none⟩ = some (.int .i64 at1) := k1.at_ 6
    have q0 : wc.cell? ⟨r2, 0, none⟩ = some (.string N2) := k2.at_ 0
    have q1 : wc.cell? ⟨r2, 1, none⟩ = some (.slice V2 al2.length cv2) := k2.at_ 1
    have q2 : wc.cell? ⟨r2, 2, none⟩ = some (.string X2) := k2.at_ 2
    have q3 : wc.cell? ⟨r2, 3, none⟩ = some (.int .i64 pa2) := k2.at_ 3
    have q4 : wc.cell? ⟨r2, 4, none⟩ = some (.int .i64 fi2) := k2.at_ 4
    have q5 : wc.cell? ⟨r2, 5, none⟩ = some (.int .i64 nx2) := k2.at_ 5
    have q6 : wc.cell? ⟨r2, 6, none⟩ = some (.int .i64 at2) := k2.at_ 6
    have HBC := Lib.hid (HI.out.1.trans (hB.mono HI.out.1.size))
    have HBB := Lib.hid hB
    have HK := Lib.hid (And.intro k1 k2)
    have HT := Lib.hid (And.intro t0 t1)
    clear a0' a1' a2' a3' a4' a5' a6' b0' b1' b2' b3' b4' b5' b6' hB k1 k2 t0 t1
    have hS1 : R = (((nm1 == nm2 && al1 == al2 && tx1 == tx2 && pa1 == pa2 && fi1 == fi2 && nx1 == nx2) && at1 == at2) && Tr.sameA ((pa.map (·.1)).drop (k + 1)) ((pb.map (·.1)).drop (k + 1))) := HST.out
    have HS1 := Lib.hid hS1
    clear hS1
    by_cases e1 : nm1 = nm2
    ·obtain rfl : N1 = N2 := by rw [HNX.out.1.1, HNX.out.1.2, e1]
     by_cases e3 : tx1 = tx2
     ·obtain rfl : X1 = X2 := by rw [HNX.out.2.1, HNX.out.2.2, e3]
      by_cases e4 : pa1 = pa2
      ·subst e4
       by_cases e5 : fi1 = fi2
       ·subst e5
        by_cases e6 : nx1 = nx2
        ·subst e6
         by_cases e7 : al1.length = al2.length
         ·by_cases e8 : at1 = at2
          ·subst e8
           obtain ⟨m, hm⟩ : ∃ m, m = al2.length := ⟨_, rfl⟩
           have HM := Lib.hid (And.intro (e7.trans hm.symm) hm)
           have HS2 := Lib.hid (show R = (decide (al1 = al2) && Tr.sameA ((pa.map (·.1)).drop (k + 1)) ((pb.map (·.1)).drop (k + 1))) from by
            rw [HS1.out, e1, e3]
            by_cases h : al1 = al2
            ·simp [h]
            ·simp [h])
           have HR1 := Lib.hid (((reads_own5 HAT.out.1).below (Below.mono HBB.out (Nat.le_refl _))))
           have HR2 := Lib.hid (((reads_own5 HAT.out.2).below (Below.mono HBB.out (Nat.le_refl _))))
           rw [HM.out.1] at p1 hc1
           rw [← hm] at q1 hc2
           have HP := Lib.hid (And.intro p1 q1)
           have hc1' : (m : Int) ≤ (cv1 : Int) := by omega
           have hc2' : (m : Int) ≤ (cv2 : Int) := by omega
           have hmm : (m : Int) ≤ 9223372036854775807 := by unfold maxLen at hc1m; omega
           clear e1 e3 e7 hm
           go_wp2
           go_loopw [10] (fun j wr2 => ∃ q : Nat, q ≤ m ∧ j = .int .i64 q ∧ Hid (Below wc.heap.size wc wr2 ∧ al1.take q = al2.take q)) (fun j _ => m - (intOf j).toNat)
           case atStart => exact ⟨0, Nat.zero_le _, rfl, Lib.hid ⟨Below.refl _ _, by simp⟩⟩
           case round =>
            obtain ⟨q, hq, rfl, HQ⟩ := hrel
            have x1 : wr.cell? ⟨r1, 1, none⟩ = some (.slice V1 m cv1) := (HQ.out.1.cell (p := ⟨r1, 1, none⟩) HK.out.1.lt).trans HP.out.1
            have x2 : wr.cell? ⟨r2, 1, none⟩ = some (.slice V2 m cv2) := (HQ.out.1.cell (p := ⟨r2, 1, none⟩) HK.out.2.lt).trans HP.out.2
            have HBQ := Lib.hid (HB0.out.2.2.trans ((HBC.out.trans (HQ.out.1.mono HBC.out.size)).mono HB0.out.2.2.size))
            by_cases hqm : q < m
            ·have hqm' : (q : Int) < (m : Int) := by omega
             have hqa : q < al1.length := by have := HM.out.1; omega
             have hqb : q < al2.length := by have := HM.out.2; omega
             obtain ⟨g3, o3, hA3, hg3, hcl3⟩ := (HR1.out.below (HQ.out.1.mono HBB.out.size)) (by omega)
             obtain ⟨g4, o4, hA4, hg4, hcl4⟩ := (HR2.out.below (HQ.out.1.mono HBB.out.size)) (by omega)
             subst hA3 hA4
             obtain ⟨c0, c1⟩ := hcl3 q hqa
             obtain ⟨d0, d1⟩ := hcl4 q hqb
             have HTK := Lib.hid (And.intro (take_snoc_ hqa) (take_snoc_ hqb))
             have HNE := Lib.hid (drop_ne_of hqa hqb)
             clear hcl3 hcl4 hqm
             generalize al1[q] = a at *
             generalize al2[q] = b at *
             obtain ⟨U, hU⟩ : ∃ U : ByteArray, U = ⟨a.1.toArray⟩ := ⟨_, rfl⟩
             obtain ⟨V, hV⟩ : ∃ V : ByteArray, V = ⟨a.2.toArray⟩ := ⟨_, rfl⟩
             obtain ⟨U2, hU2⟩ : ∃ U : ByteArray, U = ⟨b.1.toArray⟩ := ⟨_, rfl⟩
             obtain ⟨V2, hV2⟩ : ∃ V : ByteArray, V = ⟨b.2.toArray⟩ := ⟨_, rfl⟩
             rw [← hU] at c0
             rw [← hV] at c1
             rw [← hU2] at d0
             rw [← hV2] at d1
             have hab : (U = U2 ∧ V = V2) ↔ a = b := by
              rw [hU, hV, hU2, hV2, bytes_inj, bytes_inj]
              exact ⟨fun h => Prod.ext h.1 h.2, fun h => by rw [h]; exact ⟨rfl, rfl⟩⟩
             have HAB := Lib.hid hab
             clear hU hV hU2 hV2 hab
             by_cases hu : U = U2
             ·subst hu
              by_cases hv : V = V2
              ·subst hv
               have HEQ := Lib.hid (HAB.out.1 ⟨rfl, rfl⟩)
               go_wp2_with fail
               go_quiet (fail)
               go_wp2
               go_roundw
               case rel => exact ⟨q + 1, by omega, by go_num, Lib.hid ⟨below_drewN HQ.out.1 _, by rw [HTK.out.1, HTK.out.2, HQ.out.2, HEQ.out]⟩⟩
               case measure => simp [intOf]; omega
              ·have hvn : ¬ V.toList = V2.toList := fun e => hv (ba_eq (by rw [← Lib.toList_data, e, Lib.toList_data]))
               have hvv : (V.toList == V2.toList) = false := beq_eq_false_iff_ne.2 hvn
               have HF := Lib.hid (show R = false by rw [HS2.out, decide_eq_false (HNE.out (fun e => hv (HAB.out.2 e).2)), Bool.false_and])
               clear hv
               go_wp2_with fail
               go_quiet (fail)
               go_wp2
               go_ret
               exact ⟨by rw [HF.out]; rfl, below_drewN HBQ.out _⟩
             ·have hun : ¬ U.toList = U2.toList := fun e => hu (ba_eq (by rw [← Lib.toList_data, e, Lib.toList_data]))
              have huu : (U.toList == U2.toList) = false := beq_eq_false_iff_ne.2 hun
              have HF := Lib.hid (show R = false by rw [HS2.out, decide_eq_false (HNE.out (fun e => hu (HAB.out.2 e).1)), Bool.false_and])
              clear hu
              go_wp2_with fail
              go_quiet (fail)
              go_wp2
              go_ret
              exact ⟨by rw [HF.out]; rfl, below_drewN HBQ.out _⟩
            ·obtain rfl : q = m := by omega
             have HL := Lib.hid (show R = Tr.sameA ((pa.map (·.1)).drop (k + 1)) ((pb.map (·.1)).drop (k + 1)) from by
              rw [HS2.out, decide_eq_true (take_eq_all HM.out.1 HM.out.2.symm HQ.out.2), Bool.true_and])
             have HBN := Lib.hid (HBC.out.trans (HQ.out.1.mono HBC.out.size))
             have hqm' : ¬ (q : Int) < (q : Int) := by omega
             go_wp2
             go_roundw
             case rel => exact ⟨k + 1, by omega, by go_num, Lib.hid ⟨HBN.out, HL.out⟩⟩
             case measure => simp [intOf]; omega
          ·have f8 : (at1 == at2) = false := beq_eq_false_iff_ne.2 e8
           have f8b : (at1 != at2) = true := by simp [bne, f8]
           have HF := Lib.hid (show R = false by rw [HS1.out, f8]; simp)
           have e7i : ((al1.length : Int) == (al2.length : Int)) = true := by rw [e7]; simp
           have e7j : ((al1.length : Int) != (al2.length : Int)) = false := by simp [bne, e7i]
           clear e1 e3
           go_wp2
           go_ret
           exact ⟨by rw [HF.out]; rfl, HB0.out.2.2.trans (HBC.out.mono HB0.out.2.2.size)⟩
         ·have f7 : ((al1.length : Int) == (al2.length : Int)) = false := by
           apply beq_eq_false_iff_ne.2
           omega
          have HF := Lib.hid (show R = false by rw [HS1.out, show (al1 == al2) = false from beq_eq_false_iff_ne.2 (fun e => e7 (by rw [e]))]; simp)
          have f7b : ((al1.length : Int) != (al2.length : Int)) = true := by simp [bne, f7]
          have f7c : ¬ (al1.length : Int) = (al2.length : Int) := by omega
          clear e1 e3
          go_wp2
          go_ret
          exact ⟨by rw [HF.out]; rfl, HB0.out.2.2.trans (HBC.out.mono HB0.out.2.2.size)⟩
        ·have f6 : (nx1 == nx2) = false := beq_eq_false_iff_ne.2 e6
         have HF := Lib.hid (show R = false by rw [HS1.out, f6]; simp)
         clear e1 e3
         go_wp2
         go_ret
         exact ⟨by rw [HF.out]; rfl, HB0.out.2.2.trans (HBC.out.mono HB0.out.2.2.size)⟩
       ·have f5 : (fi1 == fi2) = false := beq_eq_false_iff_ne.2 e5
        have HF := Lib.hid (show R = false by rw [HS1.out, f5]; simp)
        clear e1 e3
        go_wp2
        go_ret
        exact ⟨by rw [HF.out]; rfl, HB0.out.2.2.trans (HBC.out.mono HB0.out.2.2.size)⟩
      ·have f4 : (pa1 == pa2) = false := beq_eq_false_iff_ne.2 e4
       have HF := Lib.hid (show R = false by rw [HS1.out, f4]; simp)
       clear e1 e3
       go_wp2
       go_ret
       exact ⟨by rw [HF.out]; rfl, HB0.out.2.2.trans (HBC.out.mono HB0.out.2.2.size)⟩
     ·have f3 := str_ne HNX.out.2.1 HNX.out.2.2 e3
      have HF := Lib.hid (show R = false by rw [HS1.out, show (tx1 == tx2) = false from beq_eq_false_iff_ne.2 e3]; simp)
      clear e1 e3
      go_wp2
      go_ret
      exact ⟨by rw [HF.out]; rfl, HB0.out.2.2.trans (HBC.out.mono HB0.out.2.2.size)⟩
    ·have f1 := str_ne HNX.out.1.1 HNX.out.1.2 e1
     have HF := Lib.hid (show R = false by rw [HS1.out, show (nm1 == nm2) = false from beq_eq_false_iff_ne.2 e1]; simp)
     clear e1
     go_wp2
     go_ret
     exact ⟨by rw [HF.out]; rfl, HB0.out.2.2.trans (HBC.out.mono HB0.out.2.2.size)⟩
  ·obtain rfl : k = n := by omega
   have HE := Lib.hid (show R = true by
    rw [HI.out.2, List.drop_eq_nil_of_le (by rw [List.length_map]; have := HN.out.1; omega), List.drop_eq_nil_of_le (by rw [List.length_map]; have := HN.out.2; omega)]
    rfl)
   have HBE := Lib.hid (HB0.out.2.2.trans (HI.out.1.mono HB0.out.2.2.size))
   go_wp2
   go_ret
   exact ⟨by rw [HE.out]; rfl, HBE.out⟩
end Go.Proofs.YteadfpkihhaadaaGreatDoor
