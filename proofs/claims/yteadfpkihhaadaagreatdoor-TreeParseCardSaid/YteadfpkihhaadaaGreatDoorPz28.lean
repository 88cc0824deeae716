/- Facts and walks for the statement. -/
import Derived.Test.YteadfpkihhaadaaGreatDoorPz26
import Derived.Test.YteadfpkihhaadaaGreatDoorPz27
import Derived.Test.YteadfpkihhaadaaGreatDoorPz17
import Derived.Deep.CutRange
namespace Go.Proofs.YteadfpkihhaadaaGreatDoor
open Go.RowKit Go.Shelf
abbrev wb1 : ByteArray := ⟨#[60, 97, 32, 121, 61, 34, 49, 34, 32, 120, 61, 34, 50, 34, 62, 60, 98, 47, 62, 116, 60, 47, 97, 62]⟩
abbrev wb2 : ByteArray := ⟨#[60, 97, 62, 60, 47, 98, 62]⟩
abbrev wb3 : ByteArray := ⟨#[60, 97, 47, 62, 60, 98, 47, 62]⟩
def w5ns : List Tr.N := [⟨[97], [([120], [50]), ([121], [49])], [116], -1, 1, -1, 0⟩, ⟨[98], [], [], 0, -1, -1, 15⟩]
theorem wp1 : Tr.parse wb1.data.toList = (w5ns, 0, 0) := by kernel_rfl
theorem wp2 : Tr.parse wb2.data.toList = ([], 3, 50) := by kernel_rfl
theorem wp3 : Tr.parse wb3.data.toList = ([], 4, 50) := by kernel_rfl
theorem wchk : Tr.check w5ns = true := by kernel_rfl
theorem wwr : Tr.write w5ns = [60, 97, 32, 120, 61, 34, 50, 34, 32, 121, 61, 34, 49, 34, 62, 116, 60, 98, 47, 62, 60, 47, 97, 62] := by kernel_rfl
theorem wkid : Tr.kidsAt w5ns 0 = [1] := by kernel_rfl
theorem wget : Tr.getAt w5ns 0 [121] = ([49], true) := by kernel_rfl
theorem NdRow.reads {B : Nat} {w : World} {A : Option Addr} {c : Nat} {nds : List Nd} (h : NdRow B w (.slice A nds.length c) nds) : ReadsNd w w.heap.size A nds := by
 refine ⟨fun h0 => ?_, fun x hx => OwnT.nd (h.att x hx)⟩
 have hn := h.own
 obtain ⟨A', c', e, _, _, h3⟩ := own_sliced hn
 injection e with e1 _ e3
 subst e1 e3
 obtain ⟨g, rfl, _, hg⟩ := h3 h0
 refine ⟨g, 0, rfl, hg, fun k hk j u hu => ?_⟩
 rw [Nat.zero_add]
 have hj : j < 7 := by
  have : j < nds[k].cs.size := by
   rcases Nat.lt_or_ge j nds[k].cs.size with h | h
   ·exact h
   ·rw [Array.getElem?_eq_none h] at hu; cases hu
  exact this
 rw [hn.cellAt (k * 7 + j) (by omega), fl_at ndV_len nds k j hk hj]
 unfold ndV
 rw [Array.getElem?_toList]
 exact hu
theorem NdRow.on {B : Nat} {w w' : World} {v : Value} {nds : List Nd} (h : NdRow B w v nds) (hb : Below w.heap.size w w') : NdRow B w' v nds := ⟨own_below h.own hb, fun x hx => own_below (h.att x hx) hb⟩
def fitN (n : Tr.N) : Prop := n.nm.length ≤ 1048576 ∧ n.tx.length ≤ 1048576 ∧ n.al.length ≤ 1048576 ∧ ∀ a ∈ n.al, a.1.length ≤ 1048576 ∧ a.2.length ≤ 1048576
theorem fit_of {xs : List Nd} (h : ∀ n ∈ xs.map Nd.n, fitN n) : ∀ x ∈ xs, NdFit x := fun x hx => h _ (List.mem_map.2 ⟨x, hx, rfl⟩)
theorem fit5 : ∀ n ∈ w5ns, fitN n := by
 intro n hn
 rcases List.mem_cons.1 hn with rfl | hn
 ·refine ⟨by decide, by decide, by decide, fun a ha => ?_⟩
  rcases List.mem_cons.1 ha with rfl | ha
  ·exact ⟨by decide, by decide⟩
  ·rw [List.mem_singleton.1 ha]; exact ⟨by decide, by decide⟩
 ·rw [List.mem_singleton.1 hn]
  exact ⟨by decide, by decide, by decide, fun a ha => by cases ha⟩
structure WkI (w w1 : World) (A : Option Addr) (c : Nat) (nds : List Nd) (wx : World) : Prop where
 tb : Tb wx
 mx : Mx wx
 rd : ReadsNd wx wx.heap.size A nds
 box : IsBlk wx w1.heap.size 31 #[.slice A nds.length c]
 bl : Below w.heap.size w wx
theorem WkI.on {w w1 : World} {A : Option Addr} {c : Nat} {nds : List Nd} {wx wy : World} (h : WkI w w1 A c nds wx) (hb : Below wx.heap.size wx wy) : WkI w w1 A c nds wy :=
 ⟨h.tb.below hb (Nat.le_refl _), h.mx.below hb, (h.rd.below hb).more hb.size, h.box.below hb h.box.lt, h.bl.trans (hb.mono h.bl.size)⟩
set_option maxHeartbeats 8000000 in
set_option maxRecDepth 100000 in
theorem works_tr (w : World) (T : Tb w) (hmx : Mx w) :
  Calls Tryz.prog 7 #[] w fun e w' => e = .returned (.bool true) ∧ Below w.heap.size w w' := by
 have H1 := Lib.hid (parse_any wb1 (by decide) w T hmx)
 have H2 := Lib.hid (fun w0 (T0 : Tb w0) (M0 : Mx w0) => parse_any wb2 (by decide) w0 T0 M0)
 have H3 := Lib.hid (fun w0 (T0 : Tb w0) (M0 : Mx w0) => parse_any wb3 (by decide) w0 T0 M0)
 rw [wp1] at H1
 rw [wp2] at H2
 rw [wp3] at H3
 have HT := Lib.hid (And.intro T hmx)
 clear T hmx
 go_enter Tryz.func7, Tryz.ntmps7
 go_wp2_with fail
 refine H1.out.mono ?_
 rintro e w1 ⟨v1, nds, rfl, hr1, hm1, hb1⟩
 obtain ⟨A, c, hv, hc1, hc2, _⟩ := own_sliced hr1.own
 subst hv
 obtain ⟨W1, hW1⟩ : ∃ W1, W1 = w1.alloc (.cells #[.slice A nds.length c] 31) := ⟨_, rfl⟩
 have hbW : Below w1.heap.size w1 W1 := by rw [hW1]; exact (Below.refl _ _).alloc (Nat.le_refl _) _
 have HI1 := Lib.hid (show WkI w w1 A c nds W1 from ⟨(HT.out.1.below hb1 (Nat.le_refl _)).below hbW (Nat.le_refl _), (HT.out.2.below hb1).below hbW, (hr1.reads.below hbW).more hbW.size, by rw [hW1]; exact IsBlk.new _ _ _, hb1.trans (hbW.mono hb1.size)⟩)
 have hfit : ∀ x ∈ nds, NdFit x := fit_of (by rw [hm1]; exact fit5)
 have HWR := Lib.hid (fun wx (h : WkI w w1 A c nds wx) => twrite_any wx h.tb A c nds hc1 hc2 h.rd hfit (by rw [show nds.map Nd.n = w5ns from hm1, wwr]; decide))
 have HCH := Lib.hid (fun wx (h : WkI w w1 A c nds wx) => check_any wx h.tb A c nds hc1 hc2 h.rd hfit)
 have HGT := Lib.hid (fun wx (h : WkI w w1 A c nds wx) => tget_any wx A c nds hc1 h.rd 0 ⟨#[121]⟩)
 have HKD := Lib.hid (fun wx (h : WkI w w1 A c nds wx) => tkids_any wx h.tb A c nds hc1 hc2 h.rd hfit 0)
 rw [show nds.map Nd.n = w5ns from hm1] at HWR HCH HGT HKD
 rw [wwr, wchk] at HWR
 rw [wchk] at HCH
 rw [wkid] at HKD
 rw [show (⟨#[121]⟩ : ByteArray).data.toList = [121] from rfl, wget] at HGT
 have HE1 := Lib.hid hW1
 clear hr1 hm1 hb1 hc1 hc2 hbW hfit hW1
 go_wp2_with fail
 rw [← HE1.out]
 refine (HWR.out W1 HI1.out).mono ?_
 rintro e w2 ⟨rfl, h2⟩
 have HI2 := Lib.hid (HI1.out.on h2)
 clear h2
 go_wp2_with fail
 refine (H2.out w2 HI2.out.tb HI2.out.mx).mono ?_
 rintro e w3 ⟨v3, nds3, rfl, hr3, _, h3⟩
 obtain ⟨A3, c3, hv3, _, _, _⟩ := own_sliced hr3.own
 subst hv3
 obtain ⟨W3, hW3⟩ : ∃ W3, W3 = w3.alloc (.cells #[.slice A3 nds3.length c3] 31) := ⟨_, rfl⟩
 have HI3 := Lib.hid (show WkI w w1 A c nds W3 from (HI2.out.on h3).on (by rw [hW3]; exact (Below.refl _ _).alloc (Nat.le_refl _) _))
 have HE3 := Lib.hid hW3
 clear hr3 h3 hW3
 go_wp2_with fail
 rw [← HE3.out]
 refine (H3.out W3 HI3.out.tb HI3.out.mx).mono ?_
 rintro e w4 ⟨v4, nds4, rfl, hr4, _, h4⟩
 obtain ⟨A4, c4, hv4, _, _, _⟩ := own_sliced hr4.own
 subst hv4
 obtain ⟨W4, hW4⟩ : ∃ W4, W4 = w4.alloc (.cells #[.slice A4 nds4.length c4] 31) := ⟨_, rfl⟩
 have HI4 := Lib.hid (show WkI w w1 A c nds W4 from (HI3.out.on h4).on (by rw [hW4]; exact (Below.refl _ _).alloc (Nat.le_refl _) _))
 have t4 : W4.cell? ⟨w1.heap.size, 0, none⟩ = some (.slice A nds.length c) := HI4.out.box.at_ 0
 rw [hW4] at t4
 have HE4 := Lib.hid hW4
 clear hr4 h4 hW4
 go_wp2_with fail
 rw [← HE4.out]
 refine (HGT.out W4 HI4.out).mono ?_
 rintro e w5 ⟨rfl, h5⟩
 have HI5 := Lib.hid (HI4.out.on h5)
 have t5 : w5.cell? ⟨w1.heap.size, 0, none⟩ = some (.slice A nds.length c) := HI5.out.box.at_ 0
 clear h5 t4
 go_wp2_with fail
 refine (HKD.out w5 HI5.out).mono ?_
 rintro e w6 ⟨v6, rfl, hv6, h6⟩
 have HI6 := Lib.hid (HI5.out.on h6)
 have t6 : w6.cell? ⟨w1.heap.size, 0, none⟩ = some (.slice A nds.length c) := HI6.out.box.at_ 0
 obtain ⟨A6, c6, hv, hc6, _, hg6⟩ := own_sliced hv6
 subst hv
 obtain ⟨g6, rfl, _, _⟩ := hg6 (by decide)
 have k6 : w6.cell? ⟨g6, 0, none⟩ = some (.int .i64 1) := World.ownsRow.cellAt hv6 0 (by decide)
 simp only [List.length_cons, List.length_nil] at hc6
 have hc6' : (1 : Int) ≤ (c6 : Int) := by omega
 clear h6 t5 hv6 hg6 hc6
 go_wp2_with fail
 refine (HCH.out w6 HI6.out).mono ?_
 rintro e w7 ⟨rfl, h7⟩
 have HI7 := Lib.hid (HI6.out.on h7)
 clear h7 t6 k6
 go_wp2
 go_ret
 exact ⟨rfl, HI7.out.bl⟩
end Go.Proofs.YteadfpkihhaadaaGreatDoor
namespace Go.Proofs.YteadfpkihhaadaaGreatDoor
open Go.RowKit
theorem infoRA5 : (Tryz.prog.info? 84).map (fun i => (i.zero, i.size, i.bytes)) = some (some (.agg #[.string ⟨#[]⟩, .string ⟨#[]⟩]), 2, 32) := by kernel_rfl
theorem infoRN5 : (Tryz.prog.info? 83).map (fun i => (i.zero, i.size, i.bytes)) = some (some (.agg #[.string ⟨#[]⟩, .slice none 0 0, .string ⟨#[]⟩, .int .i64 0, .int .i64 0, .int .i64 0, .int .i64 0]), 7, 88) := by kernel_rfl
def rndV (x : Tr.N × Value) : List Value := [.string ⟨x.1.nm.toArray⟩, x.2, .string ⟨x.1.tx.toArray⟩, .int .i64 x.1.pa, .int .i64 x.1.fi, .int .i64 x.1.nx, .int .i64 x.1.at_]
def OwnA5 (B : Nat) (w : World) (v : Value) (al : List (List UInt8 × List UInt8)) : Prop := w.ownsRow B 84 2 v al.length (attrV al)
structure NRow (B : Nat) (w : World) (v : Value) (ps : List (Tr.N × Value)) : Prop where
 own : w.ownsRow B 83 7 v ps.length (ps.flatMap rndV)
 att : ∀ x ∈ ps, OwnA5 B w x.2 x.1.al
theorem NRow.nil (B : Nat) (w : World) : NRow B w (.slice none 0 0) [] := ⟨World.ownsRow_nil _ _ _ _, fun _ h => (by cases h)⟩
theorem NRow.below {B : Nat} {w w' : World} {v : Value} {ps : List (Tr.N × Value)} (h : NRow B w v ps) (hb : Below w.heap.size w w') : NRow B w' v ps := ⟨own_below h.own hb, fun x hx => own_below (h.att x hx) hb⟩
theorem NRow.set {B : Nat} {w : World} {v : Value} {ps : List (Tr.N × Value)} (h : NRow B w v ps) {r : Nat} (hr : r < B) (i : Nat) (u : Value) : NRow B (w.setCell ⟨r, i, none⟩ u) v ps :=
 ⟨ownsRow_setCell_below h.own hr u, fun x hx => ownsRow_setCell_below (h.att x hx) hr u⟩
theorem NRow.less {B B' : Nat} {w : World} {v : Value} {ps : List (Tr.N × Value)} (h : NRow B w v ps) (hB : B' ≤ B) : NRow B' w v ps := ⟨own_less h.own hB, fun x hx => own_less (h.att x hx) hB⟩
theorem NRow.snoc {B : Nat} {w1 w2 : World} {v v' : Value} {ps : List (Tr.N × Value)} {x : Tr.N × Value} (h : NRow B w1 v ps) (hav : OwnA5 B w1 x.2 x.1.al) (hgr : w1.grownBy w2 v.ownBlock)
  (hown : w2.ownsRow B 83 7 v' (ps.length + 1) (ps.flatMap rndV ++ rndV x)) : NRow B w2 v' (ps ++ [x]) := by
 have hk : ∀ (u : Value) (al : List (List UInt8 × List UInt8)), OwnA5 B w1 u al → OwnA5 B w2 u al := fun u al hx => World.ownsRow.kept hx hgr (own_types hx h.own (by decide))
 refine ⟨?_, ?_⟩
 ·rw [List.length_append, List.flatMap_append]
  simpa using hown
 ·intro y hy
  rw [List.mem_append] at hy
  rcases hy with hy | hy
  ·exact hk _ _ (h.att y hy)
  ·simp only [List.mem_singleton] at hy
   subst hy
   exact hk _ _ hav
def RefP (xs : List Nd) (w : World) (e : Ending) (w' : World) : Prop := ∃ v ps, e = .returned (.agg #[v]) ∧ NRow w.heap.size w' v ps ∧ ps.map (·.1) = xs.map Nd.n ∧ Below w.heap.size w w'
structure RfO (w : World) (A : Option Addr) (c : Nat) (xs : List Nd) (wr : World) (k : Nat) (v : Value) (ps : List (Tr.N × Value)) : Prop where
 below : Below w.heap.size w wr
 box : IsBlk wr w.heap.size 31 #[.slice A xs.length c]
 res : IsBlk wr (w.heap.size + 1) 25 #[.slice none 0 0]
 out : IsBlk wr (w.heap.size + 2) 25 #[v]
 row : NRow (w.heap.size + 3) wr v ps
 len : ps.length = k
 eq : ps.map (·.1) = (xs.take k).map Nd.n
structure RfI (W1 : World) (r : Nat) (N X : ByteArray) (pa fi nx at1 : Int) (al : List (List UInt8 × List UInt8)) (wr : World) (m : Nat) (v : Value) : Prop where
 below : Below r W1 wr
 blk : IsBlk wr r 83 #[.string N, v, .string X, .int .i64 pa, .int .i64 fi, .int .i64 nx, .int .i64 at1]
 own : wr.ownsRow (r + 1) 84 2 v m (attrV (al.take m))
set_option maxHeartbeats 8000000 in
set_option maxRecDepth 100000 in
theorem ref_any (w : World) (A : Option Addr) (c : Nat) (xs : List Nd) (hl : xs.length ≤ c) (hn : xs.length ≤ 1048576) (hr : ReadsNd w w.heap.size A xs) (hf : ∀ x ∈ xs, NdFit x) :
  Calls Tryz.prog 11 #[.agg #[.slice A xs.length c]] w (RefP xs w) := by
 have H := Lib.hid hr
 have HF := Lib.hid hf
 have hn' : (xs.length : Int) ≤ 1048576 := by omega
 have hl' : (xs.length : Int) ≤ (c : Int) := by omega
 obtain ⟨W0, hW0⟩ : ∃ W0, W0 = ((w.alloc (.cells #[.slice A xs.length c] 31)).alloc (.cells #[.slice none 0 0] 25)).alloc (.cells #[.slice none 0 0] 25) := ⟨_, rfl⟩
 have hz1 : (w.alloc (.cells #[.slice A xs.length c] 31)).heap.size = w.heap.size + 1 := by simp
 have hz2 : ((w.alloc (.cells #[.slice A xs.length c] 31)).alloc (.cells #[.slice none 0 0] 25)).heap.size = w.heap.size + 2 := by simp
 have H0 := Lib.hid (show RfO w A c xs W0 0 (.slice none 0 0) [] from by
  rw [hW0]
  exact ⟨(((Below.refl _ _).alloc (Nat.le_refl _) _).alloc (by omega) _).alloc (by omega) _,
   ((IsBlk.new w _ _).below ((Below.refl _ _).alloc (Nat.le_refl _) _) (by omega)).below ((Below.refl _ _).alloc (Nat.le_refl _) _) (by omega),
   by have h := (IsBlk.new (w.alloc (.cells #[.slice A xs.length c] 31)) 25 #[.slice none 0 0]).below ((Below.refl _ _).alloc (Nat.le_refl _) (.cells #[.slice none 0 0] 25)) (by omega); rw [hz1] at h; exact h,
   by rw [← hz2]; exact IsBlk.new _ _ _, NRow.nil _ _, rfl, by simp⟩)
 have HW := Lib.hid hW0
 clear hr hf hW0 hz1 hz2
 go_enter Tryz.func11, Tryz.ntmps11
 go_wp2
 rw [← HW.out]
 go_loopw [4] (fun i wr => ∃ (k : Nat) (v : Value) (ps : List (Tr.N × Value)), i = .int .i64 k ∧ k ≤ xs.length ∧ Hid (RfO w A c xs wr k v ps)) (fun i _ => xs.length - (intOf i).toNat)
 case atStart => exact ⟨0, _, _, rfl, Nat.zero_le _, H0⟩
 case round =>
  obtain ⟨k, vo, po, rfl, hk, HI⟩ := hrel
  obtain ⟨wo, hwo⟩ : ∃ wo, wo = wr := ⟨_, rfl⟩
  subst hwo
  obtain ⟨Ao, co, hvo, _, _, hco1, hco2⟩ := own_slice HI.out.row.own
  subst hvo
  have t0 : wo.cell? ⟨w.heap.size, 0, none⟩ = some (.slice A xs.length c) := HI.out.box.at_ 0
  by_cases hlt : k < xs.length
  ·have G := H.out.below HI.out.below
   obtain ⟨g, o, hA, hg, hcl⟩ := G.row (by omega)
   subst hA
   have hcs := hcl k hlt
   have hax := G.att _ (List.getElem_mem hlt)
   have hfit := HF.out _ (List.getElem_mem hlt)
   have HT := Lib.hid (show (xs.take (k + 1)).map Nd.n = (xs.take k).map Nd.n ++ [xs[k].n] from by rw [List.take_succ_eq_append_getElem hlt, List.map_append]; rfl)
   have hlt' : (k : Int) < (xs.length : Int) := by omega
   have HLT := Lib.hid hlt
   clear hcl G
   generalize xs[k] = x at *
   clear hlt
   obtain ⟨⟨nm, al, tx, pa, fi, nx, at1⟩, Ax, cx⟩ := x
   obtain ⟨f1, f2, f3, f4⟩ := hfit
   obtain ⟨g1, g2, g3⟩ := hax
   simp only at f1 f2 f3 f4 g1 g2 g3
   have a0 : wo.cell? ⟨g, o + k * 7, none⟩ = some (.string ⟨nm.toArray⟩) := hcs 0 _ rfl
   have a1 : wo.cell? ⟨g, o + k * 7 + 1, none⟩ = some (.slice Ax al.length cx) := hcs 1 _ rfl
   have a2 : wo.cell? ⟨g, o + k * 7 + 2, none⟩ = some (.string ⟨tx.toArray⟩) := hcs 2 _ rfl
   have a3 : wo.cell? ⟨g, o + k * 7 + 3, none⟩ = some (.int .i64 pa) := hcs 3 _ rfl
   have a4 : wo.cell? ⟨g, o + k * 7 + 4, none⟩ = some (.int .i64 fi) := hcs 4 _ rfl
   have a5 : wo.cell? ⟨g, o + k * 7 + 5, none⟩ = some (.int .i64 nx) := hcs 5 _ rfl
   have a6 : wo.cell? ⟨g, o + k * 7 + 6, none⟩ = some (.int .i64 at1) := hcs 6 _ rfl
   clear hcs
   obtain ⟨N, hN⟩ : ∃ N : ByteArray, N = ⟨nm.toArray⟩ := ⟨_, rfl⟩
   obtain ⟨X, hX⟩ : ∃ N : ByteArray, N = ⟨tx.toArray⟩ := ⟨_, rfl⟩
   rw [← hN] at a0
   rw [← hX] at a2
   have HNX := Lib.hid (And.intro hN hX)
   clear hN hX
   obtain ⟨rx, hrx⟩ : ∃ r, r = wo.heap.size := ⟨_, rfl⟩
   obtain ⟨W1, hW1⟩ : ∃ W1, W1 = (wo.alloc (.cells #[.string N, .slice Ax al.length cx, .string X, .int .i64 pa, .int .i64 fi, .int .i64 nx, .int .i64 at1] 49)).alloc (.cells #[.string N, .slice none 0 0, .string X, .int .i64 pa, .int .i64 fi, .int .i64 nx, .int .i64 at1] 83) := ⟨_, rfl⟩
   have hz : (wo.alloc (.cells #[.string N, .slice Ax al.length cx, .string X, .int .i64 pa, .int .i64 fi, .int .i64 nx, .int .i64 at1] 49)).heap.size = wo.heap.size + 1 := by simp
   obtain ⟨r, hr⟩ : ∃ r, r = rx + 1 := ⟨_, rfl⟩
   have HB1 := Lib.hid (show IsBlk W1 rx 49 #[.string N, .slice Ax al.length cx, .string X, .int .i64 pa, .int .i64 fi, .int .i64 nx, .int .i64 at1] ∧ IsBlk W1 r 83 #[.string N, .slice none 0 0, .string X, .int .i64 pa, .int .i64 fi, .int .i64 nx, .int .i64 at1] ∧ Below wo.heap.size wo W1 from by
    rw [hW1, hr, hrx]
    exact ⟨(IsBlk.new wo _ _).below ((Below.refl _ _).alloc (Nat.le_refl _) _) (by omega), by rw [← hz]; exact IsBlk.new _ _ _, ((Below.refl _ _).alloc (Nat.le_refl _) _).alloc (by omega) _⟩)
   have HAT := Lib.hid ((g1.more5 HI.out.below.size).below HB1.out.2.2)
   have HW1 := Lib.hid hW1
   have HRR := Lib.hid (And.intro hr hrx)
   have HJ0 := Lib.hid (show RfI W1 r N X pa fi nx at1 al W1 0 (.slice none 0 0) from ⟨Below.refl _ _, HB1.out.2.1, World.ownsRow_nil _ _ _ _⟩)
   have hcx : (al.length : Int) ≤ (cx : Int) := by omega
   have hq1 : rx < r := by omega
   have hq2 : wo.heap.size ≤ rx := by omega
   have hq3 : rx ≤ wo.heap.size := by omega
   clear hW1 hz g1 f4 hr hrx
   go_wp2
   rw [← HW1.out, ← HRR.out.2, ← HRR.out.1]
   go_loopw [7] (fun j wr => ∃ (m : Nat) (v : Value), m ≤ al.length ∧ j = .int .i64 m ∧ Hid (RfI W1 r N X pa fi nx at1 al wr m v)) (fun j _ => al.length - (intOf j).toNat)
   case atStart => exact ⟨0, _, Nat.zero_le _, rfl, HJ0⟩
   case round =>
    obtain ⟨m, v, hm, rfl, HJ⟩ := hrel
    have t1 : wr.cell? ⟨rx, 1, none⟩ = some (.slice Ax al.length cx) := (HB1.out.1.below HJ.out.below (by omega)).at_ 1
    by_cases hml : m < al.length
    ·obtain ⟨ga, oa, hAa, hga, hca⟩ := (HAT.out.below (HJ.out.below.mono (by omega))) (by omega)
     subst hAa
     obtain ⟨d0, d1⟩ := hca m hml
     have HTQ := Lib.hid (take_snoc_ hml)
     have hml' : (m : Int) < (al.length : Int) := by omega
     clear hca
     generalize al[m] = a at *
     clear hml
     obtain ⟨U, hU⟩ : ∃ N : ByteArray, N = ⟨a.1.toArray⟩ := ⟨_, rfl⟩
     obtain ⟨V, hV⟩ : ∃ N : ByteArray, N = ⟨a.2.toArray⟩ := ⟨_, rfl⟩
     rw [← hU] at d0
     rw [← hV] at d1
     have HUV := Lib.hid (And.intro hU hV)
     clear hU hV
     have x2 : wr.cell? ⟨r, 1, none⟩ = some v := HJ.out.blk.at_ 1
     have xf : wr.frozen? ⟨r, 1, none⟩ = false := HJ.out.blk.fz 1
     have hown := HJ.out.own
     have hrl := HJ.out.blk.lt
     have hbas : Hid (∀ q, v.ownBlock = some q → r + 1 ≤ q) := Lib.hid (fun q hq => (hown.lt q hq).1)
     obtain ⟨i0, hi, hz0, hz1, hz2⟩ := info_parts infoRA5
     have hbig : m + 1 ≤ maxLen := by unfold maxLen; omega
     have hgr : ga < r + 1 := by omega
     have hbr : rx < r + 1 := by omega
     have ne1 : r ≠ rx := by omega
     have ne2 : rx ≠ r := by omega
     have ne3 : r ≠ ga := by omega
     have ne4 : ga ≠ r := by omega
     have ne5 : wr.heap.size ≠ r := by omega
     have ne6 : r ≠ wr.heap.size := by omega
     go_wp2_with fail
     refine wp_region_held_drew (S := (fun w' => w'.cell? ⟨rx, 1, none⟩ = some (.slice (some ⟨ga, oa, none⟩) al.length cx) ∧ w'.cell? ⟨ga, oa + m * 2, none⟩ = some (.string U) ∧ w'.cell? ⟨ga, oa + m * 2 + 1, none⟩ = some (.string V))) (by kernel_rfl) ⟨t1, d0, d1⟩ (fun hHeld => ?_)
     refine wpAnyH_take (i := 0) (v := .pointer (some ⟨r, 1, none⟩)) rfl (by kernel_rfl) (by kernel_rfl) (by kernel_rfl) (fun _ _ _ h => h) (Or.inl ⟨by rfl, by (intro w hS; go_simp)⟩) hHeld ?_
     simp only [Act.put, List.getElem_toArray, List.getElem_cons_zero, List.setIfInBounds_toArray, List.set_cons_zero, List.set_cons_succ]
     refine wpAnyH_take (i := 2) (v := .pointer (some ⟨rx, 1, none⟩)) rfl (by kernel_rfl) (by kernel_rfl) (by kernel_rfl) (fun _ _ _ h => h) (Or.inl ⟨by rfl, by (intro w hS; go_simp)⟩) hHeld ?_
     simp only [Act.put, List.getElem_toArray, List.getElem_cons_succ, List.getElem_cons_zero, List.setIfInBounds_toArray, List.set_cons_zero, List.set_cons_succ]
     refine wpAnyH_take (i := 3) (v := .slice (some ⟨ga, oa, none⟩) al.length cx) rfl (by kernel_rfl) (by kernel_rfl) (by kernel_rfl) (fun _ _ _ h => h) (Or.inl ⟨by rfl, by (intro w hS; obtain ⟨s0, s1, s2⟩ := hS; go_simp)⟩) hHeld ?_
     simp only [Act.put, List.getElem_toArray, List.getElem_cons_succ, List.getElem_cons_zero, List.setIfInBounds_toArray, List.set_cons_zero, List.set_cons_succ]
     refine wpAnyH_take (i := 4) (v := .int .i64 m) rfl (by kernel_rfl) (by kernel_rfl) (by kernel_rfl) (fun _ _ _ h => h) (Or.inl ⟨by rfl, by (intro w hS; go_simp)⟩) hHeld ?_
     simp only [Act.put, List.getElem_toArray, List.getElem_cons_succ, List.getElem_cons_zero, List.setIfInBounds_toArray, List.set_cons_zero, List.set_cons_succ]
     refine wpAnyH_take (i := 5) (v := .pointer (some ⟨ga, oa + m * 2, none⟩)) rfl (by kernel_rfl) (by kernel_rfl) (by kernel_rfl) (fun _ _ _ h => h) (Or.inl ⟨by rfl, by (intro w hS; go_simp)⟩) hHeld ?_
     simp only [Act.put, List.getElem_toArray, List.getElem_cons_succ, List.getElem_cons_zero, List.setIfInBounds_toArray, List.set_cons_zero, List.set_cons_succ]
     refine wpAnyH_take (i := 6) (v := .pointer (some ⟨ga, oa + m * 2, none⟩)) rfl (by kernel_rfl) (by kernel_rfl) (by kernel_rfl) (fun _ _ _ h => h) (Or.inl ⟨by rfl, by (intro w hS; go_simp)⟩) hHeld ?_
     simp only [Act.put, List.getElem_toArray, List.getElem_cons_succ, List.getElem_cons_zero, List.setIfInBounds_toArray, List.set_cons_zero, List.set_cons_succ]
     refine wpAnyH_take (i := 7) (v := .string U) rfl (by kernel_rfl) (by kernel_rfl) (by kernel_rfl) (fun _ _ _ h => h) (Or.inl ⟨by rfl, by (intro w hS; obtain ⟨s0, s1, s2⟩ := hS; go_simp)⟩) hHeld ?_
     simp only [Act.put, List.getElem_toArray, List.getElem_cons_succ, List.getElem_cons_zero, List.setIfInBounds_toArray, List.set_cons_zero, List.set_cons_succ]
     refine wpAnyH_take (i := 8) (v := .pointer (some ⟨rx, 1, none⟩)) rfl (by kernel_rfl) (by kernel_rfl) (by kernel_rfl) (fun _ _ _ h => h) (Or.inl ⟨by rfl, by (intro w hS; go_simp)⟩) hHeld ?_
     simp only [Act.put, List.getElem_toArray, List.getElem_cons_succ, List.getElem_cons_zero, List.setIfInBounds_toArray, List.set_cons_zero, List.set_cons_succ]
     refine wpAnyH_take (i := 9) (v := .slice (some ⟨ga, oa, none⟩) al.length cx) rfl (by kernel_rfl) (by kernel_rfl) (by kernel_rfl) (fun _ _ _ h => h) (Or.inl ⟨by rfl, by (intro w hS; obtain ⟨s0, s1, s2⟩ := hS; go_simp)⟩) hHeld ?_
     simp only [Act.put, List.getElem_toArray, List.getElem_cons_succ, List.getElem_cons_zero, List.setIfInBounds_toArray, List.set_cons_zero, List.set_cons_succ]
     refine wpAnyH_take (i := 10) (v := .int .i64 m) rfl (by kernel_rfl) (by kernel_rfl) (by kernel_rfl) (fun _ _ _ h => h) (Or.inl ⟨by rfl, by (intro w hS; go_simp)⟩) hHeld ?_
     simp only [Act.put, List.getElem_toArray, List.getElem_cons_succ, List.getElem_cons_zero, List.setIfInBounds_toArray, List.set_cons_zero, List.set_cons_succ]
     refine wpAnyH_take (i := 11) (v := .pointer (some ⟨ga, oa + m * 2, none⟩)) rfl (by kernel_rfl) (by kernel_rfl) (by kernel_rfl) (fun _ _ _ h => h) (Or.inl ⟨by rfl, by (intro w hS; go_simp)⟩) hHeld ?_
     simp only [Act.put, List.getElem_toArray, List.getElem_cons_succ, List.getElem_cons_zero, List.setIfInBounds_toArray, List.set_cons_zero, List.set_cons_succ]
     refine wpAnyH_take (i := 12) (v := .pointer (some ⟨ga, oa + m * 2 + 1, none⟩)) rfl (by kernel_rfl) (by kernel_rfl) (by kernel_rfl) (fun _ _ _ h => h) (Or.inl ⟨by rfl, by (intro w hS; go_simp)⟩) hHeld ?_
     simp only [Act.put, List.getElem_toArray, List.getElem_cons_succ, List.getElem_cons_zero, List.setIfInBounds_toArray, List.set_cons_zero, List.set_cons_succ]
     refine wpAnyH_take (i := 13) (v := .string V) rfl (by kernel_rfl) (by kernel_rfl) (by kernel_rfl) (fun _ _ _ h => h) (Or.inl ⟨by rfl, by (intro w hS; obtain ⟨s0, s1, s2⟩ := hS; go_simp)⟩) hHeld ?_
     simp only [Act.put, List.getElem_toArray, List.getElem_cons_succ, List.getElem_cons_zero, List.setIfInBounds_toArray, List.set_cons_zero, List.set_cons_succ]
     refine wpAnyH_take (i := 14) (v := .agg #[.string U, .string V]) rfl (by kernel_rfl) (by kernel_rfl) (by kernel_rfl) (fun _ _ _ h => h) (Or.inl ⟨by rfl, by (intro w hS; go_simp)⟩) hHeld ?_
     simp only [Act.put, List.getElem_toArray, List.getElem_cons_succ, List.getElem_cons_zero, List.setIfInBounds_toArray, List.set_cons_zero, List.set_cons_succ]
     refine wpAnyH_ready (rs := [1, 15]) (by kernel_rfl) (by simp) ?_
     refine AllReadyH.cons rfl (fun K hK => ?_) (AllReadyH.cons rfl (fun K hK => ?_) AllReadyH.nil)
     ·try simp only [List.getElem_toArray, List.getElem_cons_succ, List.getElem_cons_zero]
      go_simp
      refine hK.out _ _ ⟨t1, d0, d1⟩ (fun hHeld => ?_)
      clear hK K
      try simp only [Act.put, List.getElem_toArray, List.getElem_cons_succ, List.getElem_cons_zero, List.setIfInBounds_toArray, List.set_cons_zero, List.set_cons_succ]
      refine wpAnyH_ready (rs := [15]) (by kernel_rfl) (by simp) ?_
      refine AllReadyH.cons rfl (fun K hK => ?_) AllReadyH.nil
      try simp only [List.getElem_toArray, List.getElem_cons_succ, List.getElem_cons_zero]
      go_simp
      refine hK.out _ _ ⟨(World.cell?_alloc_lt _ _ _ (by show rx < wr.heap.size; omega)).trans t1, (World.cell?_alloc_lt _ _ _ (by show ga < wr.heap.size; omega)).trans d0, (World.cell?_alloc_lt _ _ _ (by show ga < wr.heap.size; omega)).trans d1⟩ (fun hHeld => ?_)
      clear hK K
      try simp only [Act.put, List.getElem_toArray, List.getElem_cons_succ, List.getElem_cons_zero, List.setIfInBounds_toArray, List.set_cons_zero, List.set_cons_succ]
      refine wpAnyH_ready (rs := [16]) (by kernel_rfl) (by simp) ?_
      refine AllReadyH.cons rfl (fun K hK => ?_) AllReadyH.nil
      refine step_append_lies _ (by rfl) _ _ _ (by rfl) (r + 1) 84 i0 _ 2 32 Tryz.underlying81 hi hz0 hz1 hz2 rfl (by omega) v m (attrV (al.take m)) (by rfl) (by exact World.ownsRow.alloc hown _) _ 1 _ [.string U, .string V] (by rfl) rfl (by intro j u hu; exact news_at _ _ _ _ (by simp) j u hu) (by intro u hu; simp at hu; rcases hu with rfl | rfl <;> rfl) (by omega) hbig (by omega) (by simp; omega) _ rfl ?_
      intro g9 cap9 w9 hown9 hgr9 hat9 hlt9
      have B9 : Below (r + 1) wr w9 := Below.grown (by first | exact ((Below.refl _ _).alloc (by omega) _).drew | exact ((Below.refl _ _).drew).alloc (by exact hrl) _ | exact (Below.refl _ _).alloc (by omega) _) hgr9 (by simp; omega) hbas.out
      have y2 := (B9.cell (p := ⟨rx, _, none⟩) hbr).trans t1
      have y0 := (B9.cell (p := ⟨ga, _, none⟩) hgr).trans d0
      have y1 := (B9.cell (p := ⟨ga, _, none⟩) hgr).trans d1
      have y3 := (B9.cell (p := ⟨r, 1, none⟩) (Nat.lt_succ_self r)).trans x2
      have yf := (B9.frozen (p := ⟨r, 1, none⟩) (Nat.lt_succ_self r)).trans xf
      refine hK.out _ _ ⟨y2, y0, y1⟩ (fun hHeld => ?_)
      clear hK K
      try simp only [Act.put, List.getElem_toArray, List.getElem_cons_succ, List.getElem_cons_zero, List.setIfInBounds_toArray, List.set_cons_zero, List.set_cons_succ]
      refine wpAnyH_take (i := 17) (v := .pointer (some ⟨r, 1, none⟩)) rfl (by kernel_rfl) (by kernel_rfl) (by kernel_rfl) (fun _ _ _ h => h) (Or.inl ⟨by rfl, by (intro w hS; go_simp)⟩) hHeld ?_
      try simp only [Act.put, List.getElem_toArray, List.getElem_cons_succ, List.getElem_cons_zero, List.setIfInBounds_toArray, List.set_cons_zero, List.set_cons_succ]
      refine wpAnyH_ready (rs := [18]) (by kernel_rfl) (by simp) ?_
      refine AllReadyH.cons rfl (fun K hK => ?_) AllReadyH.nil
      try simp only [List.getElem_toArray, List.getElem_cons_succ, List.getElem_cons_zero]
      go_simp
      refine hK.out _ _ ⟨(World.cell?_setCell_other _ _ _ _ (fun e => ne1 (congrArg Addr.block e))).trans y2, (World.cell?_setCell_other _ _ _ _ (fun e => ne3 (congrArg Addr.block e))).trans y0, (World.cell?_setCell_other _ _ _ _ (fun e => ne3 (congrArg Addr.block e))).trans y1⟩ (fun hHeld => ?_)
      clear hK K
      try simp only [Act.put, List.getElem_toArray, List.getElem_cons_succ, List.getElem_cons_zero, List.setIfInBounds_toArray, List.set_cons_zero, List.set_cons_succ]
      refine wpAnyH_done (by kernel_rfl) ?_ _
      have HN := Lib.hid (show RfI W1 r N X pa fi nx at1 al (w9.setCell ⟨r, 1, none⟩ (.slice (some ⟨g9, 0, none⟩) (m + 1) cap9)) (m + 1) (.slice (some ⟨g9, 0, none⟩) (m + 1) cap9) from by
       refine ⟨?_, ?_, ?_⟩
       ·exact (HJ.out.below.trans (B9.mono (by omega))).setCell (p := ⟨r, 1, none⟩) (Nat.le_refl r) _
       ·exact (HJ.out.blk.below B9 (Nat.lt_succ_self r)).set 1 _
       ·rw [HTQ.out, attrV_snoc, ← HUV.out.1, ← HUV.out.2]
        exact ownsRow_setCell_below hown9 (Nat.lt_succ_self r) _)
      clear hown9 hgr9 y2 y0 y1 y3 yf hHeld
      go_wp2
      go_roundw
      case rel => exact ⟨m + 1, _, by omega, by go_num, by first | exact HN | exact Lib.hid ⟨HN.out.below.drew, HN.out.blk.below (Below.refl _ _).drew HN.out.blk.lt, own_below HN.out.own (Below.refl _ _).drew⟩⟩
      case measure => simp [intOf]; omega
     ·try simp only [List.getElem_toArray, List.getElem_cons_succ, List.getElem_cons_zero]
      go_simp
      refine hK.out _ _ ⟨(World.cell?_alloc_lt _ _ _ (by show rx < wr.heap.size; omega)).trans t1, (World.cell?_alloc_lt _ _ _ (by show ga < wr.heap.size; omega)).trans d0, (World.cell?_alloc_lt _ _ _ (by show ga < wr.heap.size; omega)).trans d1⟩ (fun hHeld => ?_)
      clear hK K
      try simp only [Act.put, List.getElem_toArray, List.getElem_cons_succ, List.getElem_cons_zero, List.setIfInBounds_toArray, List.set_cons_zero, List.set_cons_succ]
      refine wpAnyH_ready (rs := [1]) (by kernel_rfl) (by simp) ?_
      refine AllReadyH.cons rfl (fun K hK => ?_) AllReadyH.nil
      try simp only [List.getElem_toArray, List.getElem_cons_succ, List.getElem_cons_zero]
      go_simp
      refine hK.out _ _ hHeld (fun hHeld => ?_)
      clear hK K
      try simp only [Act.put, List.getElem_toArray, List.getElem_cons_succ, List.getElem_cons_zero, List.setIfInBounds_toArray, List.set_cons_zero, List.set_cons_succ]
      refine wpAnyH_ready (rs := [16]) (by kernel_rfl) (by simp) ?_
      refine AllReadyH.cons rfl (fun K hK => ?_) AllReadyH.nil
      refine step_append_lies _ (by rfl) _ _ _ (by rfl) (r + 1) 84 i0 _ 2 32 Tryz.underlying81 hi hz0 hz1 hz2 rfl (by omega) v m (attrV (al.take m)) (by rfl) (by exact World.ownsRow.alloc hown _) _ 1 _ [.string U, .string V] (by rfl) rfl (by intro j u hu; exact news_at _ _ _ _ (by simp) j u hu) (by intro u hu; simp at hu; rcases hu with rfl | rfl <;> rfl) (by omega) hbig (by omega) (by simp; omega) _ rfl ?_
      intro g9 cap9 w9 hown9 hgr9 hat9 hlt9
      have B9 : Below (r + 1) wr w9 := Below.grown (by first | exact ((Below.refl _ _).alloc (by omega) _).drew | exact ((Below.refl _ _).drew).alloc (by exact hrl) _ | exact (Below.refl _ _).alloc (by omega) _) hgr9 (by simp; omega) hbas.out
      have y2 := (B9.cell (p := ⟨rx, _, none⟩) hbr).trans t1
      have y0 := (B9.cell (p := ⟨ga, _, none⟩) hgr).trans d0
      have y1 := (B9.cell (p := ⟨ga, _, none⟩) hgr).trans d1
      have y3 := (B9.cell (p := ⟨r, 1, none⟩) (Nat.lt_succ_self r)).trans x2
      have yf := (B9.frozen (p := ⟨r, 1, none⟩) (Nat.lt_succ_self r)).trans xf
      refine hK.out _ _ ⟨y2, y0, y1⟩ (fun hHeld => ?_)
      clear hK K
      try simp only [Act.put, List.getElem_toArray, List.getElem_cons_succ, List.getElem_cons_zero, List.setIfInBounds_toArray, List.set_cons_zero, List.set_cons_succ]
      refine wpAnyH_take (i := 17) (v := .pointer (some ⟨r, 1, none⟩)) rfl (by kernel_rfl) (by kernel_rfl) (by kernel_rfl) (fun _ _ _ h => h) (Or.inl ⟨by rfl, by (intro w hS; go_simp)⟩) hHeld ?_
      try simp only [Act.put, List.getElem_toArray, List.getElem_cons_succ, List.getElem_cons_zero, List.setIfInBounds_toArray, List.set_cons_zero, List.set_cons_succ]
      refine wpAnyH_ready (rs := [18]) (by kernel_rfl) (by simp) ?_
      refine AllReadyH.cons rfl (fun K hK => ?_) AllReadyH.nil
      try simp only [List.getElem_toArray, List.getElem_cons_succ, List.getElem_cons_zero]
      go_simp
      refine hK.out _ _ ⟨(World.cell?_setCell_other _ _ _ _ (fun e => ne1 (congrArg Addr.block e))).trans y2, (World.cell?_setCell_other _ _ _ _ (fun e => ne3 (congrArg Addr.block e))).trans y0, (World.cell?_setCell_other _ _ _ _ (fun e => ne3 (congrArg Addr.block e))).trans y1⟩ (fun hHeld => ?_)
      clear hK K
      try simp only [Act.put, List.getElem_toArray, List.getElem_cons_succ, List.getElem_cons_zero, List.setIfInBounds_toArray, List.set_cons_zero, List.set_cons_succ]
      refine wpAnyH_done (by kernel_rfl) ?_ _
      have HN := Lib.hid (show RfI W1 r N X pa fi nx at1 al (w9.setCell ⟨r, 1, none⟩ (.slice (some ⟨g9, 0, none⟩) (m + 1) cap9)) (m + 1) (.slice (some ⟨g9, 0, none⟩) (m + 1) cap9) from by
       refine ⟨?_, ?_, ?_⟩
       ·exact (HJ.out.below.trans (B9.mono (by omega))).setCell (p := ⟨r, 1, none⟩) (Nat.le_refl r) _
       ·exact (HJ.out.blk.below B9 (Nat.lt_succ_self r)).set 1 _
       ·rw [HTQ.out, attrV_snoc, ← HUV.out.1, ← HUV.out.2]
        exact ownsRow_setCell_below hown9 (Nat.lt_succ_self r) _)
      clear hown9 hgr9 y2 y0 y1 y3 yf hHeld
      go_wp2
      go_roundw
      case rel => exact ⟨m + 1, _, by omega, by go_num, by first | exact HN | exact Lib.hid ⟨HN.out.below.drew, HN.out.blk.below (Below.refl _ _).drew HN.out.blk.lt, own_below HN.out.own (Below.refl _ _).drew⟩⟩
      case measure => simp [intOf]; omega
    ·obtain rfl : m = al.length := by omega
     have how := HJ.out.own
     rw [List.take_length] at how
     obtain ⟨Av, cv, hv, _, _, _, _⟩ := own_slice how
     subst hv
     have hbW : Below wo.heap.size wo wr := HB1.out.2.2.trans (HJ.out.below.mono (by omega))
     have hwr := hbW.size
     have hwo := HI.out.out.lt
     have q0 : wr.cell? ⟨w.heap.size + 1 + 1, 0, none⟩ = some (.slice Ao po.length co) := (HI.out.out.below hbW (by omega)).at_ 0
     have b0 : wr.cell? ⟨r, 0, none⟩ = some (.string N) := HJ.out.blk.at_ 0
     have b1 : wr.cell? ⟨r, 1, none⟩ = some (.slice Av al.length cv) := HJ.out.blk.at_ 1
     have b2 : wr.cell? ⟨r, 2, none⟩ = some (.string X) := HJ.out.blk.at_ 2
     have b3 : wr.cell? ⟨r, 3, none⟩ = some (.int .i64 pa) := HJ.out.blk.at_ 3
     have b4 : wr.cell? ⟨r, 4, none⟩ = some (.int .i64 fi) := HJ.out.blk.at_ 4
     have b5 : wr.cell? ⟨r, 5, none⟩ = some (.int .i64 nx) := HJ.out.blk.at_ 5
     have b6 : wr.cell? ⟨r, 6, none⟩ = some (.int .i64 at1) := HJ.out.blk.at_ 6
     have HRW := Lib.hid (HI.out.row.below hbW)
     have HOW := Lib.hid how
     have HBW := Lib.hid hbW
     have HBL := Lib.hid (HI.out.below.trans (hbW.mono HI.out.below.size))
     have hpl : po.length ≤ k := Nat.le_of_eq HI.out.len
     obtain ⟨i0, hi, hz0, hz1, hz2⟩ := info_parts infoRN5
     have hbig : po.length + 1 ≤ maxLen := by unfold maxLen; omega
     have hw3 : w.heap.size + 3 ≤ wr.heap.size := by omega
     have hkn : po.length ≤ 1048576 := by omega
     clear how hbW
     go_wp2_with (at_builtin; (refine wpList_append_own _ rfl _ _ _ rfl (w.heap.size + 3) 83 i0 _ 7 88 Tryz.underlying23 hi hz0 hz1 hz2 rfl (by omega) (.slice Ao po.length co) po.length (po.flatMap rndV) (by rfl) (by exact HRW.out.own.alloc _) _ 1 _ [.string N, .slice Av al.length cv, .string X, .int .i64 pa, .int .i64 fi, .int .i64 nx, .int .i64 at1] (by rfl) rfl (by intro j u hu; exact news_at _ _ _ _ (by simp) j u hu) (by intro u hu; simp at hu; rcases hu with rfl | rfl | rfl | rfl | rfl | rfl | rfl <;> rfl) hbig (by omega) (by simp; omega) ?_); intro v3 w3 hown3 hgr3 _; obtain ⟨A3, c3, hv3, _, _, _, _⟩ := own_slice hown3; subst hv3; have B3 := Lib.hid (Below.grown ((Below.refl (w.heap.size + 3) wr).alloc hw3 _) hgr3 (by simp; omega) (fun k hk => (HRW.out.own.lt k hk).1)); have q1 := (B3.out.cell (p := ⟨w.heap.size + 1 + 1, 0, none⟩) (Nat.lt_succ_self _)).trans q0; have qf := (B3.out.frozen (p := ⟨w.heap.size + 1 + 1, 0, none⟩) (Nat.lt_succ_self _)).trans ((HI.out.out.below HBW.out (by omega)).fz 0))
     have HRO := Lib.hid (show RfO w (some ⟨g, o, none⟩) c xs (w3.setCell ⟨w.heap.size + 1 + 1, 0, none⟩ (.slice A3 (po.length + 1) c3)) (k + 1) (.slice A3 (po.length + 1) c3) (po ++ [(⟨nm, al, tx, pa, fi, nx, at1⟩, .slice Av al.length cv)]) from by
      have hb3 := B3.out.mono (show w.heap.size ≤ w.heap.size + 3 by omega)
      have hlow : ∀ {q : Nat} {ty : TypeId} {cs : Array Value}, IsBlk wo q ty cs → q < w.heap.size + 3 → IsBlk w3 q ty cs := fun hb hq => (hb.below HBW.out hb.lt).below B3.out hq
      refine ⟨(HBL.out.trans hb3).setCell (p := ⟨w.heap.size + 1 + 1, 0, none⟩) (by show w.heap.size ≤ w.heap.size + 1 + 1; omega) _, (hlow HI.out.box (by omega)).far (by show w.heap.size ≠ w.heap.size + 1 + 1; omega) _, (hlow HI.out.res (by omega)).far (by show w.heap.size + 1 ≠ w.heap.size + 1 + 1; omega) _, (hlow HI.out.out (by omega)).set 0 _, ?_, by rw [List.length_append, HI.out.len]; rfl, ?_⟩
      ·refine NRow.set (NRow.snoc (HRW.out.below ((Below.refl _ _).alloc (Nat.le_refl _) _)) (own_less (own_below HOW.out ((Below.refl _ _).alloc (Nat.le_refl _) _)) (by omega)) hgr3 ?_) (by omega) _ _
       unfold rndV
       rw [← HNX.out.1, ← HNX.out.2]
       exact hown3
      ·rw [HT.out, ← HI.out.eq, List.map_append]; rfl)
     clear hown3 hgr3
     go_wp2
     go_roundw
     case rel => exact ⟨k + 1, _, _, by go_num, HLT.out, HRO⟩
     case measure => have := HLT.out; simp [intOf]; omega
  ·obtain rfl : k = xs.length := by omega
   have HE := Lib.hid (show NRow (w.heap.size + 3) wo (.slice Ao po.length co) po ∧ po.map (·.1) = xs.map Nd.n ∧ Below w.heap.size w wo from ⟨HI.out.row, by have := HI.out.eq; rw [List.take_length] at this; exact this, HI.out.below⟩)
   have q0 : wo.cell? ⟨w.heap.size + 1 + 1, 0, none⟩ = some (.slice Ao po.length co) := HI.out.out.at_ 0
   have p0 : wo.cell? ⟨w.heap.size + 1, 0, none⟩ = some (.slice none 0 0) := HI.out.res.at_ 0
   have pf : wo.frozen? ⟨w.heap.size + 1, 0, none⟩ = false := HI.out.res.fz 0
   go_wp2
   exact bodyPost_ret (v := .agg #[(.slice Ao po.length co)]) (by simp [results, Tryz.results11, go_sem, p0]) rfl ⟨.slice Ao po.length co, po, rfl, (NRow.set HE.out.1 (by omega) _ _).less (by omega), HE.out.2.1, HE.out.2.2.setCell (p := ⟨w.heap.size + 1, 0, none⟩) (by show w.heap.size ≤ w.heap.size + 1; omega) _⟩
end Go.Proofs.YteadfpkihhaadaaGreatDoor
namespace Go.Proofs.YteadfpkihhaadaaGreatDoor
open Go.RowKit
theorem rnd_at (ps : List (Tr.N × Value)) (k j : Nat) (hk : k < ps.length) (hj : j < 7) : (ps.flatMap rndV)[k * 7 + j]? = (rndV ps[k])[j]? := flat_at rndV 7 (fun _ => rfl) ps k j hk hj
theorem two_new (w : World) (cs cs2 : Array Value) (t t2 : TypeId) : IsBlk (((w.alloc (.cells cs t)).alloc (.cells cs2 t2)).drew) (w.heap.size + 1) t2 cs2 := by
 have h := IsBlk.new (w.alloc (.cells cs t)) t2 cs2
 rw [show (w.alloc (.cells cs t)).heap.size = w.heap.size + 1 by simp] at h
 exact h
theorem one_new (w : World) (cs cs2 : Array Value) (t t2 : TypeId) : IsBlk (((w.alloc (.cells cs t)).alloc (.cells cs2 t2)).drew) w.heap.size t cs := by
 have h : IsBlk ((w.alloc (.cells cs t)).alloc (.cells cs2 t2)) w.heap.size t cs := (IsBlk.new w t cs).below ((Below.refl _ _).alloc (Nat.le_refl _) (.cells cs2 t2)) (by simp)
 exact h
theorem reads_own5 {w : World} {B : Nat} {A : Option Addr} {cap : Nat} {al : List (List UInt8 × List UInt8)} (h : OwnA5 B w (.slice A al.length cap) al) : Reads2o w w.heap.size A al := fun h0 => by
 obtain ⟨A3, c3, hv, hc, _⟩ := own_slice h
 injection hv with e1 _ _
 subst e1
 obtain ⟨g, rfl, hg, _, hcc⟩ := hc h0
 have hf := fun k hk j hj => flat_at (fun a : List UInt8 × List UInt8 => [Value.string ⟨a.1.toArray⟩, .string ⟨a.2.toArray⟩]) 2 (fun _ => rfl) al k j hk hj
 refine ⟨g, 0, rfl, hg, fun k hk => ?_⟩
 rw [Nat.zero_add]
 exact ⟨hcc _ _ (hf k hk 0 (by omega)), hcc _ _ (hf k hk 1 (by omega))⟩
end Go.Proofs.YteadfpkihhaadaaGreatDoor
