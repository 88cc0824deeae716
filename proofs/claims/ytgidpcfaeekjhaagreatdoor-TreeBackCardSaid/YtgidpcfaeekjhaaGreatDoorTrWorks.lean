/- The statements' works of layer 5, walked: it answers true. Conditions: the tables hold what their texts lay; internal/bytealg.MaxLen holds a number. -/
import Derived.Test.YtgidpcfaeekjhaaGreatDoorTrWr2
import Derived.Test.YtgidpcfaeekjhaaGreatDoorTrParse
namespace Go.Proofs.YtgidpcfaeekjhaaGreatDoor
open Go.RowKit Go.Shelf

abbrev wb1 : ByteArray := ⟨#[60, 97, 32, 121, 61, 34, 49, 34, 32, 120, 61, 34, 50, 34, 62, 60, 98, 47, 62, 116, 60, 47, 97, 62]⟩
abbrev wb2 : ByteArray := ⟨#[60, 97, 62, 60, 47, 98, 62]⟩
abbrev wb3 : ByteArray := ⟨#[60, 97, 47, 62, 60, 98, 47, 62]⟩
def w5ns : List Tr.N := [⟨[97], [([120], [50]), ([121], [49])], [116], -1, 1, -1, 0⟩, ⟨[98], [], [], 0, -1, -1, 15⟩]
theorem wp1 : Tr.parse wb1.data.toList = (w5ns, 0, 0) := by kernel_rfl
theorem wp2 : Tr.parse wb2.data.toList = ([], 3, 50) := by kernel_rfl
theorem wp3 : Tr.parse wb3.data.toList = ([], 4, 50) := by kernel_rfl
theorem wchk : Tr.check w5ns = true := by kernel_rfl
theorem wwr : Tr.write w5ns = [60, 97, 32, 120, 61, 34, 50, 34, 32, 121, 61, 34, 49, 34, 62, 116, 60, 98, 47, 62, 60, 47, 97, 62] := by kernel_rfl
theorem wkid : Tr.kidsAt w5ns 0 = [1] := by kernel_rfl
theorem wget : Tr.getAt w5ns 0 [121] = ([49], true) := by kernel_rfl
/-- A row of a call's own reads as told. -/
theorem NdRow.reads {B : Nat} {w : World} {A : Option Addr} {c : Nat} {nds : List Nd} (h : NdRow B w (.slice A nds.length c) nds) : ReadsNd w w.heap.size A nds := by
  refine ⟨fun h0 => ?_, fun x hx => OwnT.nd (h.att x hx)⟩
  have hn := h.own
  obtain ⟨A', c', e, _, _, h3⟩ := own_sliced hn
  injection e with e1 _ e3
  subst e1 e3
  obtain ⟨g, rfl, _, hg⟩ := h3 h0
  refine ⟨g, 0, rfl, hg, fun k hk j u hu => ?_⟩
  rw [Nat.zero_add]
  have hj : j < 7 := by
    have : j < nds[k].cs.size := by
      rcases Nat.lt_or_ge j nds[k].cs.size with h | h
      · exact h
      · rw [Array.getElem?_eq_none h] at hu; cases hu
    exact this
  rw [hn.cellAt (k * 7 + j) (by omega), fl_at ndV_len nds k j hk hj]
  unfold ndV
  rw [Array.getElem?_toList]
  exact hu
theorem NdRow.on {B : Nat} {w w' : World} {v : Value} {nds : List Nd} (h : NdRow B w v nds) (hb : Below w.heap.size w w') : NdRow B w' v nds := ⟨own_below h.own hb, fun x hx => own_below (h.att x hx) hb⟩
def fitN (n : Tr.N) : Prop := n.nm.length ≤ 1048576 ∧ n.tx.length ≤ 1048576 ∧ n.al.length ≤ 1048576 ∧ ∀ a ∈ n.al, a.1.length ≤ 1048576 ∧ a.2.length ≤ 1048576
theorem fit_of {xs : List Nd} (h : ∀ n ∈ xs.map Nd.n, fitN n) : ∀ x ∈ xs, NdFit x := fun x hx => h _ (List.mem_map.2 ⟨x, hx, rfl⟩)
theorem fit5 : ∀ n ∈ w5ns, fitN n := by
  intro n hn
  rcases List.mem_cons.1 hn with rfl | hn
  · refine ⟨by decide, by decide, by decide, fun a ha => ?_⟩
    rcases List.mem_cons.1 ha with rfl | ha
    · exact ⟨by decide, by decide⟩
    · rw [List.mem_singleton.1 ha]; exact ⟨by decide, by decide⟩
  · rw [List.mem_singleton.1 hn]
    exact ⟨by decide, by decide, by decide, fun a ha => by cases ha⟩
/-- What stays while works goes on. -/
structure WkI (w w1 : World) (A : Option Addr) (c : Nat) (nds : List Nd) (wx : World) : Prop where
  tb : Tb wx
  mx : Mx wx
  rd : ReadsNd wx wx.heap.size A nds
  box : IsBlk wx w1.heap.size 31 #[.slice A nds.length c]
  bl : Below w.heap.size w wx
theorem WkI.on {w w1 : World} {A : Option Addr} {c : Nat} {nds : List Nd} {wx wy : World} (h : WkI w w1 A c nds wx) (hb : Below wx.heap.size wx wy) : WkI w w1 A c nds wy :=
  ⟨h.tb.below hb (Nat.le_refl _), h.mx.below hb, (h.rd.below hb).more hb.size, h.box.below hb h.box.lt, h.bl.trans (hb.mono h.bl.size)⟩
set_option maxHeartbeats 8000000 in
set_option maxRecDepth 100000 in
theorem works_tr (w : World) (T : Tb w) (hmx : Mx w) :
    Calls Tryz.prog 7 #[] w fun e w' => e = .returned (.bool true) ∧ Below w.heap.size w w' := by
  have H1 := Lib.hid (parse_any wb1 (by decide) w T hmx)
  have H2 := Lib.hid (fun w0 (T0 : Tb w0) (M0 : Mx w0) => parse_any wb2 (by decide) w0 T0 M0)
  have H3 := Lib.hid (fun w0 (T0 : Tb w0) (M0 : Mx w0) => parse_any wb3 (by decide) w0 T0 M0)
  rw [wp1] at H1
  rw [wp2] at H2
  rw [wp3] at H3
  have HT := Lib.hid (And.intro T hmx)
  clear T hmx
  go_enter Tryz.func7, Tryz.ntmps7
  go_wp2_with fail
  refine H1.out.mono ?_
  rintro e w1 ⟨v1, nds, rfl, hr1, hm1, hb1⟩
  obtain ⟨A, c, hv, hc1, hc2, _⟩ := own_sliced hr1.own
  subst hv
  obtain ⟨W1, hW1⟩ : ∃ W1, W1 = w1.alloc (.cells #[.slice A nds.length c] 31) := ⟨_, rfl⟩
  have hbW : Below w1.heap.size w1 W1 := by rw [hW1]; exact (Below.refl _ _).alloc (Nat.le_refl _) _
  have HI1 := Lib.hid (show WkI w w1 A c nds W1 from ⟨(HT.out.1.below hb1 (Nat.le_refl _)).below hbW (Nat.le_refl _), (HT.out.2.below hb1).below hbW, (hr1.reads.below hbW).more hbW.size, by rw [hW1]; exact IsBlk.new _ _ _, hb1.trans (hbW.mono hb1.size)⟩)
  have hfit : ∀ x ∈ nds, NdFit x := fit_of (by rw [hm1]; exact fit5)
  have HWR := Lib.hid (fun wx (h : WkI w w1 A c nds wx) => twrite_any wx h.tb A c nds hc1 hc2 h.rd hfit (by rw [show nds.map Nd.n = w5ns from hm1, wwr]; decide))
  have HCH := Lib.hid (fun wx (h : WkI w w1 A c nds wx) => check_any wx h.tb A c nds hc1 hc2 h.rd hfit)
  have HGT := Lib.hid (fun wx (h : WkI w w1 A c nds wx) => tget_any wx A c nds hc1 h.rd 0 ⟨#[121]⟩)
  have HKD := Lib.hid (fun wx (h : WkI w w1 A c nds wx) => tkids_any wx h.tb A c nds hc1 hc2 h.rd hfit 0)
  rw [show nds.map Nd.n = w5ns from hm1] at HWR HCH HGT HKD
  rw [wwr, wchk] at HWR
  rw [wchk] at HCH
  rw [wkid] at HKD
  rw [show (⟨#[121]⟩ : ByteArray).data.toList = [121] from rfl, wget] at HGT
  have HE1 := Lib.hid hW1
  clear hr1 hm1 hb1 hc1 hc2 hbW hfit hW1
  go_wp2_with fail
  rw [← HE1.out]
  refine (HWR.out W1 HI1.out).mono ?_
  rintro e w2 ⟨rfl, h2⟩
  have HI2 := Lib.hid (HI1.out.on h2)
  clear h2
  go_wp2_with fail
  refine (H2.out w2 HI2.out.tb HI2.out.mx).mono ?_
  rintro e w3 ⟨v3, nds3, rfl, hr3, _, h3⟩
  obtain ⟨A3, c3, hv3, _, _, _⟩ := own_sliced hr3.own
  subst hv3
  obtain ⟨W3, hW3⟩ : ∃ W3, W3 = w3.alloc (.cells #[.slice A3 nds3.length c3] 31) := ⟨_, rfl⟩
  have HI3 := Lib.hid (show WkI w w1 A c nds W3 from (HI2.out.on h3).on (by rw [hW3]; exact (Below.refl _ _).alloc (Nat.le_refl _) _))
  have HE3 := Lib.hid hW3
  clear hr3 h3 hW3
  go_wp2_with fail
  rw [← HE3.out]
  refine (H3.out W3 HI3.out.tb HI3.out.mx).mono ?_
  rintro e w4 ⟨v4, nds4, rfl, hr4, _, h4⟩
  obtain ⟨A4, c4, hv4, _, _, _⟩ := own_sliced hr4.own
  subst hv4
  obtain ⟨W4, hW4⟩ : ∃ W4, W4 = w4.alloc (.cells #[.slice A4 nds4.length c4] 31) := ⟨_, rfl⟩
  have HI4 := Lib.hid (show WkI w w1 A c nds W4 from (HI3.out.on h4).on (by rw [hW4]; exact (Below.refl _ _).alloc (Nat.le_refl _) _))
  have t4 : W4.cell? ⟨w1.heap.size, 0, none⟩ = some (.slice A nds.length c) := HI4.out.box.at_ 0
  rw [hW4] at t4
  have HE4 := Lib.hid hW4
  clear hr4 h4 hW4
  go_wp2_with fail
  rw [← HE4.out]
  refine (HGT.out W4 HI4.out).mono ?_
  rintro e w5 ⟨rfl, h5⟩
  have HI5 := Lib.hid (HI4.out.on h5)
  have t5 : w5.cell? ⟨w1.heap.size, 0, none⟩ = some (.slice A nds.length c) := HI5.out.box.at_ 0
  clear h5 t4
  go_wp2_with fail
  refine (HKD.out w5 HI5.out).mono ?_
  rintro e w6 ⟨v6, rfl, hv6, h6⟩
  have HI6 := Lib.hid (HI5.out.on h6)
  have t6 : w6.cell? ⟨w1.heap.size, 0, none⟩ = some (.slice A nds.length c) := HI6.out.box.at_ 0
  obtain ⟨A6, c6, hv, hc6, _, hg6⟩ := own_sliced hv6
  subst hv
  obtain ⟨g6, rfl, _, _⟩ := hg6 (by decide)
  have k6 : w6.cell? ⟨g6, 0, none⟩ = some (.int .i64 1) := World.ownsRow.cellAt hv6 0 (by decide)
  simp only [List.length_cons, List.length_nil] at hc6
  have hc6' : (1 : Int) ≤ (c6 : Int) := by omega
  clear h6 t5 hv6 hg6 hc6
  go_wp2_with fail
  refine (HCH.out w6 HI6.out).mono ?_
  rintro e w7 ⟨rfl, h7⟩
  have HI7 := Lib.hid (HI6.out.on h7)
  clear h7 t6 k6
  go_wp2
  go_ret
  exact ⟨rfl, HI7.out.bl⟩
end Go.Proofs.YtgidpcfaeekjhaaGreatDoor
