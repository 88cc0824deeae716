/- Facts and walks for the statement. -/
import Derived.Test.YteadfpkihhaadaaGreatDoorPz40
import Derived.Test.YteadfpkihhaadaaGreatDoorPz41
import Derived.Test.YteadfpkihhaadaaGreatDoorPz35
import Derived.Test.YteadfpkihhaadaaGreatDoorPz45
namespace Go.Proofs.YteadfpkihhaadaaGreatDoor
open Go.RowKit Go.Shelf
theorem Tr.rparse_len (l : List UInt8) : (Tr.rparse l).1.length ≤ 4096 := by
 unfold Tr.rparse
 split
 ·simp
 ·split
  ·simp
  ·split
   ·simp
   ·split
    ·simp
    ·rename_i r' M he
     have h1 := ((Tr.ends_el _).1 _ _ 0 _ _ _ _ (by omega) he).2.2.2
     split
     ·simpa using h1
     ·simp
structure TpI (w : World) (bw : Nat) (A : Option Addr) (c : Nat) (pw : List (Tr.N × Value)) (wx : World) : Prop where
 tb : Tb wx
 mx : Mx wx
 row : NRow w.heap.size wx (.slice A pw.length c) pw
 box : IsBlk wx bw 25 #[.slice A pw.length c]
 bl : Below w.heap.size w wx
theorem TpI.on {w : World} {bw : Nat} {A : Option Addr} {c : Nat} {pw : List (Tr.N × Value)} {wx wy : World} (h : TpI w bw A c pw wx) (hb : Below wx.heap.size wx wy) : TpI w bw A c pw wy :=
 ⟨h.tb.below hb (Nat.le_refl _), h.mx.below hb, h.row.below hb, h.box.below hb h.box.lt, h.bl.trans (hb.mono h.bl.size)⟩
set_option maxHeartbeats 8000000 in
set_option maxRecDepth 100000 in
theorem lawTParse (s : ByteArray) (w : World) (T : Tb w) (hmx : Mx w) (hs : s.size ≤ maxLen) :
  Calls Tryz.prog 3 #[.string s] w fun e w' => e = .returned (.bool true) ∧ Below w.heap.size w w' := by
 have HTW := Lib.hid (And.intro T hmx)
 by_cases hbig : s.size > 1000
 ·have hbig' : (s.size : Int) > 1000 := by omega
  have HWK := Lib.hid (works_tr w T hmx)
  clear T hmx hbig
  go_enter Tryz.func3, Tryz.ntmps3
  go_wp2_with fail
  refine HWK.out.mono ?_
  rintro e wz ⟨rfl, hz⟩
  go_wp2
  go_ret
  exact ⟨rfl, hz⟩
 ·have hbig' : ¬ (s.size : Int) > 1000 := by omega
  have hsz : s.size ≤ 1000 := by omega
  have hRP := rparse_any s hsz w
  rw [Tr.rparse_eq (Tk.toks_kinds s.data.toList)] at hRP
  have HP := Lib.hid (fun wx (t0 : Tb wx) (m0 : Mx wx) => parse_any s hs wx t0 m0)
  have HFIT := Lib.hid (Tr.parse_fit (L := s.data.toList) (by rw [← Lib.size_eq]; exact hsz))
  obtain ⟨R, hR⟩ : ∃ R, R = Tr.parse s.data.toList := ⟨_, rfl⟩
  rw [← hR] at HP HFIT hRP
  obtain ⟨L, p, f⟩ := R
  simp only at HFIT
  have HLL := Lib.hid (show L.length ≤ 1048576 from by
   have h1 := Tr.rparse_len s.data.toList
   rw [Tr.rparse_eq (Tk.toks_kinds s.data.toList), ← hR] at h1
   have h2 : L.length ≤ 4096 := h1
   omega)
  have HRP := Lib.hid hRP
  have HWK := Lib.hid (fun wx (t0 : Tb wx) (m0 : Mx wx) => works_tr wx t0 m0)
  clear hR hRP T hmx hbig
  go_enter Tryz.func3, Tryz.ntmps3
  go_wp2_with fail
  refine HRP.out.mono ?_
  rintro e w1 ⟨v, pw, rfl, row1, map1, b1⟩
  obtain ⟨Aw, cw, hv, _, _, _⟩ := own_sliced row1.own
  subst hv
  obtain ⟨bw, hbw⟩ : ∃ bw, bw = w1.heap.size := ⟨_, rfl⟩
  obtain ⟨W2, hW2⟩ : ∃ W2, W2 = w1.alloc (.cells #[.slice Aw pw.length cw] 25) := ⟨_, rfl⟩
  have hb2 : Below w1.heap.size w1 W2 := by rw [hW2]; exact (Below.refl _ _).alloc (Nat.le_refl _) _
  have HI2 := Lib.hid (show TpI w bw Aw cw pw W2 from ⟨(HTW.out.1.below b1 (Nat.le_refl _)).below hb2 (Nat.le_refl _), (HTW.out.2.below b1).below hb2, row1.below hb2, by rw [hbw, hW2]; exact IsBlk.new _ _ _, b1.trans (hb2.mono b1.size)⟩)
  have HMAP := Lib.hid (show pw.map (·.1) = L from map1)
  have HW2 := Lib.hid hW2
  have HBW := Lib.hid hbw
  clear row1 map1 b1 hb2 hW2 hbw
  go_wp2
  rw [← HW2.out, ← HBW.out]
  go_loopw [6] (fun i wr => ∃ k : Nat, i = .int .i64 k ∧ k ≤ 2 ∧ Hid (TpI w bw Aw cw pw wr)) (fun i _ => 2 - (intOf i).toNat)
  case atStart => exact ⟨0, rfl, Nat.zero_le _, HI2⟩
  case round =>
   obtain ⟨k, rfl, hk, HI⟩ := hrel
   clear HI2
   by_cases hlt : k < 2
   ·have hlt' : (k : Int) < 2 := by omega
    go_wp2_with fail
    refine (HP.out wr HI.out.tb HI.out.mx).mono ?_
    rintro e w3 ⟨v3, nds, rfl, row3, map3, b3⟩
    obtain ⟨A3, c3, hv3, hlc, hcm, _⟩ := own_sliced row3.own
    subst hv3
    obtain ⟨b4, hb4⟩ : ∃ b4, b4 = w3.heap.size := ⟨_, rfl⟩
    obtain ⟨W4, hW4⟩ : ∃ W4, W4 = w3.alloc (.cells #[.slice A3 nds.length c3] 31) := ⟨_, rfl⟩
    have hb34 : Below w3.heap.size w3 W4 := by rw [hW4]; exact (Below.refl _ _).alloc (Nat.le_refl _) _
    have HB4 := Lib.hid (b3.trans (hb34.mono b3.size))
    have HX4 := Lib.hid (show NdRow wr.heap.size W4 (.slice A3 nds.length c3) nds ∧ IsBlk W4 b4 31 #[.slice A3 nds.length c3] from ⟨row3.on hb34, by rw [hb4, hW4]; exact IsBlk.new _ _ _⟩)
    have hnl : nds.length = L.length := by
     have := congrArg List.length map3
     rw [List.length_map] at this
     exact this
    have HFN := Lib.hid (fit_of (xs := nds) (by rw [map3]; exact HFIT.out))
    have hpl : pw.length = L.length := by
     have := congrArg List.length HMAP.out
     rw [List.length_map] at this
     exact this
    have HN := Lib.hid (show nds.length ≤ 1048576 ∧ nds.length = pw.length from ⟨by rw [hnl]; exact HLL.out, by rw [hnl, hpl]⟩)
    have HM3 := Lib.hid (show nds.map Nd.n = L from map3)
    have HRF := Lib.hid (fun W5 (hb : Below W4.heap.size W4 W5) => ref_any W5 A3 c3 nds hlc HN.out.1 (HX4.out.1.on hb).reads HFN.out)
    have HSP := Lib.hid (fun W5 (hb : Below W4.heap.size W4 W5) => spoil_any wr.heap.size W5 A3 c3 nds (Nat.le_trans HB4.out.size hb.size) (HX4.out.1.on hb) HN.out.1 (fun x hx => (HFN.out x hx).2.2.1))
    have HSM := Lib.hid (fun (B5 : Nat) (w5 : World) (p5 : List (Tr.N × Value)) (A5 : Option Addr) (c5 : Nat) (hr5 : NRow B5 w5 (.slice A5 p5.length c5) p5) (hm5 : p5.map (·.1) = nds.map Nd.n) (hb5 : Below W4.heap.size W4 w5) => show Calls Tryz.prog 10 #[.agg #[.slice A5 p5.length c5], .agg #[.slice Aw pw.length cw], .bool true] w5 fun e w' => e = .returned (.bool true) ∧ Below w5.heap.size w5 w' from by
     have hl : p5.length = nds.length := by
      have := congrArg List.length hm5
      rw [List.length_map, List.length_map] at this
      exact this
     have h9 := lsameA_any w5 A5 Aw c5 cw B5 w.heap.size p5 pw hr5 ((HI.out.on HB4.out).on hb5).row (by rw [hl]; exact HN.out.1) (by rw [hl]; exact HN.out.2)
     rw [hm5, HM3.out, HMAP.out, Tr.sameA_refl] at h9
     exact h9)
    have HBA := Lib.hid (fun w5 (hb5 : Below W4.heap.size W4 w5) => show w5.cell? ⟨b4, 0, none⟩ = some (.slice A3 nds.length c3) ∧ w5.cell? ⟨bw, 0, none⟩ = some (.slice Aw pw.length cw) from
     ⟨(HX4.out.2.below hb5 HX4.out.2.lt).at_ 0, ((HI.out.on HB4.out).on hb5).box.at_ 0⟩)
    have e1 : ((p : Int) != (p : Int)) = false := by simp
    have e2 : ((f : Int) != (f : Int)) = false := by simp
    have x4 : W4.cell? ⟨b4, 0, none⟩ = some (.slice A3 nds.length c3) := HX4.out.2.at_ 0
    have xw : W4.cell? ⟨bw, 0, none⟩ = some (.slice Aw pw.length cw) := (HI.out.on HB4.out).box.at_ 0
    have HW4 := Lib.hid hW4
    have HBB := Lib.hid hb4
    clear row3 map3 b3 hb34 hnl hpl hW4 hb4
    go_wp2_with fail
    rw [← HW4.out, ← HBB.out]
    go_region_held3 (fun w' => w'.cell? ⟨b4, 0, none⟩ = some (.slice A3 nds.length c3) ∧ w'.cell? ⟨bw, 0, none⟩ = some (.slice Aw pw.length cw)) (first | exact ⟨x4, xw⟩ | exact HBA.out _ B6 | exact HBA.out _ B5) (first | (go_at_call 11; refine (HRF.out _ ((Below.refl _ _).drew)).mono ?_; rintro e w5 ⟨v5, p5, rfl, hr5, hm5, h5⟩; obtain ⟨A5, c5, hv5, _, _, _⟩ := own_sliced hr5.own; subst hv5; have B5 := ((Below.refl W4.heap.size W4).drew).trans h5; have HR5 := Lib.hid (And.intro hr5 hm5); clear h5 hr5 hm5) | (go_at_call 10; refine (HSM.out _ _ _ _ _ HR5.out.1 HR5.out.2 B5).mono ?_; rintro e w6 ⟨rfl, h6⟩; have B6 := B5.trans (h6.mono B5.size); clear h6))
    have x6 := (HBA.out _ B6).1
    go_wp2_with fail
    refine (HSP.out _ B6).mono ?_
    rintro e w7 ⟨rfl, h7⟩
    have HN7 := Lib.hid (HI.out.on ((HB4.out.trans (B6.mono HB4.out.size)).trans h7))
    clear h7
    go_wp2
    go_roundw
    case rel => exact ⟨k + 1, by go_num, hlt, HN7⟩
    case measure => simp [intOf]; omega
   ·obtain rfl : k = 2 := by omega
    clear hlt
    go_wp2_with fail
    refine (HWK.out wr HI.out.tb HI.out.mx).mono ?_
    rintro e wz ⟨rfl, hz⟩
    have HZ := Lib.hid (HI.out.bl.trans (hz.mono HI.out.bl.size))
    clear hz
    go_wp2
    go_ret
    exact ⟨rfl, HZ.out⟩
end Go.Proofs.YteadfpkihhaadaaGreatDoor
