/- Facts and walks for the statement. -/
import Derived.Test.YteadfpkihhaadaaGreatDoorPz28
import Derived.Test.YteadfpkihhaadaaGreatDoorPz34
namespace Go.Proofs.YteadfpkihhaadaaGreatDoor
open Go.RowKit Go.Shelf
theorem own_over {w : World} {B : Nat} {e : TypeId} {size n : Nat} {v : Value} {xs : List Value} (h : w.ownsRow B e size v n xs) (g o : Nat) (u : Value) : ∃ ys, (w.setCell ⟨g, o, none⟩ u).ownsRow B e size v n ys ∧ ys.length = xs.length ∧ ∀ j, (v.ownBlock ≠ some g ∨ j ≠ o) → ys[j]? = xs[j]? := by
 by_cases hg : v.ownBlock = some g
 ·rcases own_form h with ⟨e1, e2⟩ | ⟨g', c, e1, e2, e3, e4, e5⟩
  ·rw [e1] at hg; cases hg
  ·subst e1
   injection hg with hg
   simp only at hg
   subst hg
   refine ⟨xs.set o u, (h.stored o u).1, by simp, fun j hj => ?_⟩
   rw [List.getElem?_set]
   rcases hj with hj | hj
   ·exact absurd rfl hj
   ·rw [if_neg (fun e => hj e.symm)]
 ·exact ⟨xs, Fr.own h (Fr.set (F := fun b => b = g) w ⟨g, o, none⟩ u rfl) (fun g' hg' e => hg (e ▸ hg')), rfl, fun _ _ => rfl⟩
structure SpI (B : Nat) (w : World) (p : Nat) (A : Option Addr) (c : Nat) (avs : List (Value × Nat)) (wx : World) : Prop where
 bl : Below B w wx
 bx : IsBlk wx p 31 #[.slice A avs.length c]
 row : ∃ xs, wx.ownsRow B 49 7 (.slice A avs.length c) avs.length xs ∧ xs.length = avs.length * 7 ∧ ∀ (j : Nat) (hj : j < avs.length), xs[j * 7 + 1]? = some avs[j].1
 att : ∀ x ∈ avs, ∃ ys, wx.ownsRow B 51 2 x.1 x.2 ys ∧ ys.length = x.2 * 2
theorem SpI.put {B : Nat} {w : World} {p : Nat} {A : Option Addr} {c : Nat} {avs : List (Value × Nat)} {wx : World} (h : SpI B w p A c avs wx) {g o : Nat} (hg : B ≤ g) (hne : g ≠ p) (ho : A = some ⟨g, 0, none⟩ → ∀ j, j < avs.length → o ≠ j * 7 + 1) (u : Value) : SpI B w p A c avs (wx.setCell ⟨g, o, none⟩ u) := by
 obtain ⟨xs, h1, h2, h3⟩ := h.row
 refine ⟨h.bl.setCell (p := ⟨g, o, none⟩) hg u, h.bx.far (fun e => hne e.symm) u, ?_, fun x hx => ?_⟩
 ·obtain ⟨ys, q1, q2, q3⟩ := own_over h1 g o u
  refine ⟨ys, q1, by rw [q2, h2], fun j hj => ?_⟩
  rw [q3 _ ?_]
  ·exact h3 j hj
  ·by_cases hA : A = some ⟨g, 0, none⟩
   ·exact Or.inr (fun e => ho hA j hj e.symm)
   ·left
    intro e
    rcases own_form h1 with ⟨e1, _⟩ | ⟨g', c', e1, _⟩
    ·rw [e1] at e; cases e
    ·rw [e1] at e
     injection e with e
     injection e1 with e1 _ _
     simp only at e
     exact hA (by rw [e1, e])
 ·obtain ⟨ys, q1, q2⟩ := h.att x hx
  obtain ⟨zs, r1, r2, _⟩ := own_over q1 g o u
  exact ⟨zs, r1, by rw [r2, q2]⟩
theorem own_there {w : World} {B : Nat} {e : TypeId} {size g n c : Nat} {xs : List Value} (h : w.ownsRow B e size (.slice (some ⟨g, 0, none⟩) n c) n xs) {j : Nat} (hj : j < xs.length) : w.cell? ⟨g, j, none⟩ = some xs[j] ∧ w.frozen? ⟨g, j, none⟩ = false := by
 obtain ⟨_, _, cs, hb⟩ := own_heap h (g := g) rfl
 refine ⟨?_, Lib.frozen_of_heap hb j⟩
 have := h.cells (g := g) rfl j xs[j] (List.getElem?_eq_getElem hj)
 have hadd : (⟨g, 0, none⟩ : Addr).add j = ⟨g, j, none⟩ := by unfold Addr.add; split <;> simp_all
 rwa [hadd] at this
theorem own_types_ne {w : World} {B B' : Nat} {e e' : TypeId} {size size' n n' : Nat} {v v' : Value} {xs xs' : List Value} (h : w.ownsRow B e size v n xs) (h' : w.ownsRow B' e' size' v' n' xs') (hne : e ≠ e') {g g' : Nat} (hg : v.ownBlock = some g) (hg' : v'.ownBlock = some g') : g ≠ g' := fun q => by
 subst q
 exact own_apart h h' hne hg hg'
set_option maxHeartbeats 8000000 in
set_option maxRecDepth 100000 in
theorem spoil_any (B : Nat) (w : World) (A : Option Addr) (c : Nat) (nds : List Nd) (hB : B ≤ w.heap.size) (h : NdRow B w (.slice A nds.length c) nds) (hn : nds.length ≤ 1048576) (ha : ∀ x ∈ nds, x.n.al.length ≤ 1048576) :
  Calls Tryz.prog 12 #[.agg #[.slice A nds.length c]] w fun e w' => e = .returned (.tuple #[]) ∧ Below B w w' := by
 obtain ⟨avs, havs⟩ : ∃ avs : List (Value × Nat), avs = nds.map (fun x => (x.av, x.n.al.length)) := ⟨_, rfl⟩
 have hlen : avs.length = nds.length := by rw [havs, List.length_map]
 have hal : ∀ x ∈ avs, x.2 ≤ 1048576 := by
  intro x hx
  rw [havs] at hx
  obtain ⟨y, hy, rfl⟩ := List.mem_map.1 hx
  exact ha y hy
 obtain ⟨W0, hW0⟩ : ∃ W0, W0 = w.alloc (.cells #[.slice A avs.length c] 31) := ⟨_, rfl⟩
 have hb0 : Below w.heap.size w W0 := by rw [hW0]; exact (Below.refl _ _).alloc (Nat.le_refl _) _
 have hi0 : SpI B w w.heap.size A c avs W0 := by
  refine ⟨hb0.mono hB, by rw [hW0]; exact IsBlk.new _ _ _, ⟨nds.flatMap ndV, by rw [hlen]; exact own_below h.own hb0, by rw [fl_len ndV_len, hlen], fun j hj => ?_⟩, fun x hx => ?_⟩
  ·rw [hlen] at hj
   rw [fl_at ndV_len nds j 1 hj (by omega)]
   simp only [havs, List.getElem_map]
   rfl
  ·rw [havs] at hx
   obtain ⟨y, hy, rfl⟩ := List.mem_map.1 hx
   exact ⟨_, own_below (h.att y hy) hb0, by unfold attrV; rw [fl_len (k := 2) (fun _ => rfl)]⟩
 rw [← hlen] at hn ⊢
 have HI0 := Lib.hid hi0
 have HAL := Lib.hid hal
 have HE0 := Lib.hid hW0
 have hn' : (avs.length : Int) ≤ 1048576 := by omega
 have HB := Lib.hid hB
 clear hi0 hal hW0 hb0 h ha havs hlen hn
 go_enter Tryz.func12, Tryz.ntmps12
 go_wp2
 rw [← HE0.out]
 go_loopw [2] (fun i wr => ∃ k : Nat, i = .int .i64 k ∧ k ≤ avs.length ∧ Hid (SpI B w w.heap.size A c avs wr)) (fun i _ => avs.length - (intOf i).toNat)
 case atStart => exact ⟨0, rfl, Nat.zero_le _, HI0⟩
 case round =>
  obtain ⟨k, rfl, hk, HI⟩ := hrel
  have t0 : wr.cell? ⟨w.heap.size, 0, none⟩ = some (.slice A avs.length c) := HI.out.bx.at_ 0
  by_cases hlt : k < avs.length
  ·have hlt' : (k : Int) < (avs.length : Int) := by omega
   obtain ⟨xs, hx1, hx2, hx3⟩ := HI.out.row
   obtain ⟨A', c', e, hc1, hc2, hc3⟩ := own_sliced hx1
   injection e with e1 _ e3
   subst e1 e3
   obtain ⟨g, hA, hgB, hg⟩ := hc3 (by omega)
   subst hA
   have hlc : (avs.length : Int) ≤ (c : Int) := by omega
   obtain ⟨ys, hy1, hy2⟩ := HI.out.att _ (List.getElem_mem hlt)
   obtain ⟨Ak, ck, hav, hk1, hk2, hk3⟩ := own_sliced hy1
   have hak := HAL.out _ (List.getElem_mem hlt)
   have HGP := Lib.hid (show B ≤ g ∧ g ≠ w.heap.size from ⟨hgB, fun e => by
    have h1 := HI.out.bx
    obtain ⟨_, _, cs, h2⟩ := own_heap hx1 (g := g) rfl
    unfold IsBlk at h1
    rw [e, h1] at h2
    injection h2 with h2
    injection h2 with _ h2
    exact absurd h2 (by decide)⟩)
   have HK3 := Lib.hid hk3
   obtain ⟨ak, hake⟩ : ∃ n, n = (avs[k]).2 := ⟨_, rfl⟩
   rw [← hake] at hav hk1 hak
   have HAV := Lib.hid (And.intro hlt hav)
   have HAK := Lib.hid hake
   have hak' : (ak : Int) ≤ 1048576 := by omega
   have hakc : (ak : Int) ≤ (ck : Int) := by omega
   clear hx1 hx2 hx3 hy1 hy2 hk1 hk2 hk3 hc1 hc2 hc3 hake hgB hg hav hak
   have HLT := Lib.hid hlt
   have HR := Lib.hid (fun wx (h : SpI B w w.heap.size (some ⟨g, 0, none⟩) c avs wx) => (show wx.cell? ⟨g, k * 7 + 1, none⟩ = some (.slice Ak ak ck) ∧ (∃ u, wx.cell? ⟨g, k * 7, none⟩ = some u) ∧ wx.frozen? ⟨g, k * 7, none⟩ = false ∧ (∃ u, wx.cell? ⟨g, k * 7 + 5, none⟩ = some u) ∧ wx.frozen? ⟨g, k * 7 + 5, none⟩ = false from by
    obtain ⟨xs, h1, h2, h3⟩ := h.row
    have h4 := h3 k HLT.out
    have hl := (List.getElem?_eq_some_iff.1 h4)
    refine ⟨?_, ⟨_, (own_there h1 (j := k * 7) (by omega)).1⟩, (own_there h1 (j := k * 7) (by omega)).2, ⟨_, (own_there h1 (j := k * 7 + 5) (by have := HLT.out; omega)).1⟩, (own_there h1 (j := k * 7 + 5) (by have := HLT.out; omega)).2⟩
    rw [(own_there h1 (j := k * 7 + 1) hl.1).1, hl.2, HAV.out.2]))
   have HRA := Lib.hid (fun wx (h : SpI B w w.heap.size (some ⟨g, 0, none⟩) c avs wx) (q : Nat) (hq : q < ak) => (show ∃ ga, Ak = some ⟨ga, 0, none⟩ ∧ B ≤ ga ∧ ga ≠ g ∧ ga ≠ w.heap.size ∧ (∃ u, wx.cell? ⟨ga, q * 2, none⟩ = some u) ∧ wx.frozen? ⟨ga, q * 2, none⟩ = false ∧ (∃ u, wx.cell? ⟨ga, q * 2 + 1, none⟩ = some u) ∧ wx.frozen? ⟨ga, q * 2 + 1, none⟩ = false from by
    obtain ⟨xs, h1, _, _⟩ := h.row
    obtain ⟨ys, h2, h3⟩ := h.att _ (List.getElem_mem HLT.out)
    obtain ⟨ga, rfl, hga, _⟩ := HK3.out (by rw [← HAK.out]; omega)
    rw [HAV.out.2, ← HAK.out] at h2
    have h3' : ys.length = ak * 2 := by rw [h3, ← HAK.out]
    refine ⟨ga, rfl, hga, own_types_ne h2 h1 (by decide) rfl rfl, fun e => ?_, ⟨_, (own_there h2 (j := q * 2) (by omega)).1⟩, (own_there h2 (j := q * 2) (by omega)).2, ⟨_, (own_there h2 (j := q * 2 + 1) (by omega)).1⟩, (own_there h2 (j := q * 2 + 1) (by omega)).2⟩
    exact blk_apart h.bx h2 (by decide) (by rw [← e]; rfl)))
   obtain ⟨x1, _⟩ := HR.out wr HI.out
   go_wp2
   go_loopw [3] (fun j wr2 => ∃ q : Nat, j = .int .i64 q ∧ q ≤ ak ∧ Hid (SpI B w w.heap.size (some ⟨g, 0, none⟩) c avs wr2)) (fun j _ => ak - (intOf j).toNat)
   case atStart => exact ⟨0, rfl, Nat.zero_le _, HI⟩
   case round =>
    obtain ⟨q, rfl, hq, HJ⟩ := hrel
    have y0 : wr.cell? ⟨w.heap.size, 0, none⟩ = some (.slice (some ⟨g, 0, none⟩) avs.length c) := HJ.out.bx.at_ 0
    obtain ⟨y1, ⟨u0, y2⟩, f2, ⟨u5, y5⟩, f5⟩ := HR.out wr HJ.out
    by_cases hqa : q < ak
    ·have hqa' : (q : Int) < (ak : Int) := by omega
     obtain ⟨ga, hAk, hga, hgg, hgw, ⟨v0, z0⟩, g0, ⟨v1, z1⟩, g1⟩ := HRA.out wr HJ.out q hqa
     subst hAk
     have HN := Lib.hid (show SpI B w w.heap.size (some ⟨g, 0, none⟩) c avs ((wr.setCell ⟨ga, q * 2, none⟩ (.string ⟨#[63]⟩)).setCell ⟨ga, q * 2 + 1, none⟩ (.string ⟨#[63]⟩)) from
      (HJ.out.put hga hgw (fun e => by injection e with e; injection e with e; exact absurd e.symm hgg) _).put hga hgw (fun e => by injection e with e; injection e with e; exact absurd e.symm hgg) _)
     have HQ := Lib.hid hqa
     clear hqa hga y2 f2 y5 f5
     go_wp2
     go_roundw
     case rel => exact ⟨q + 1, by go_num, HQ.out, HN⟩
     case measure => have := HQ.out; simp [intOf]; omega
    ·obtain rfl : q = ak := by omega
     have hqa' : ¬ ((q : Nat) : Int) < (q : Int) := by omega
     have HN := Lib.hid (show SpI B w w.heap.size (some ⟨g, 0, none⟩) c avs ((wr.setCell ⟨g, k * 7, none⟩ (.string ⟨#[63]⟩)).setCell ⟨g, k * 7 + 5, none⟩ (.int .i64 77)) from
      (HJ.out.put HGP.out.1 HGP.out.2 (fun _ j _ => by omega) _).put HGP.out.1 HGP.out.2 (fun _ j _ => by omega) _)
     have hgw := HGP.out.2
     clear hqa
     go_wp2
     go_roundw
     case rel => exact ⟨k + 1, by go_num, HLT.out, HN⟩
     case measure => have := HLT.out; simp [intOf]; omega
  ·obtain rfl : k = avs.length := by omega
   have hlt' : ¬ ((avs.length : Nat) : Int) < (avs.length : Int) := by omega
   have HF := Lib.hid HI.out.bl
   clear hlt
   go_wp2
   go_end0
   exact ⟨rfl, HF.out⟩
end Go.Proofs.YteadfpkihhaadaaGreatDoor
namespace Go.Proofs.YteadfpkihhaadaaGreatDoor
open Go.RowKit Go.Shelf
theorem rowA_cells {B p : Nat} {w : World} {A : Option Addr} {c : Nat} {al : List Tk.A} (h : OwnR B p w (.slice A al.length c) al) {k : Nat} (hk : k < al.length) : ∃ g, A = some ⟨g, 0, none⟩ ∧ g < w.heap.size ∧ al.length ≤ c ∧
  w.cell? ⟨g, k * 3, none⟩ = some (.string ⟨al[k].nm.toArray⟩) ∧ w.cell? ⟨g, k * 3 + 1, none⟩ = some (.string ⟨al[k].vl.toArray⟩) := by
 obtain ⟨A', c', e, h1, _, h3⟩ := own_sliced h
 injection e with e1 _ e3
 subst e1 e3
 obtain ⟨g, rfl, _, hg⟩ := h3 (by omega)
 have q : ∀ j, j < 3 → w.cell? ⟨g, k * 3 + j, none⟩ = ([.string ⟨al[k].nm.toArray⟩, .string ⟨al[k].vl.toArray⟩, .int .i64 ((al[k].p + p : Nat) : Int)] : List Value)[j]? := fun j hj => by
  rw [World.ownsRow.cellAt h (k * 3 + j) (by omega)]
  unfold rowA
  rw [fl_at (k := 3) (fun _ => rfl) al k j hk hj]
 exact ⟨g, rfl, hg, h1, q 0 (by omega), q 1 (by omega)⟩
theorem insCells {B : Nat} {w wr : World} {g n c : Nat} {d : List Tr.At} {a : Tr.At} {q : Nat} (h : SrI B w wr (.slice (some ⟨g, 0, none⟩) n c) d a q) (hn : n = d.length + 1) {j : Nat} {x : Tr.At} (hx : (Tr.insAt d a q)[j]? = some x) :
  wr.cell? ⟨g, j * 2, none⟩ = some (.string ⟨x.1.toArray⟩) ∧ wr.cell? ⟨g, j * 2 + 1, none⟩ = some (.string ⟨x.2.toArray⟩) ∧ wr.frozen? ⟨g, j * 2, none⟩ = false ∧ wr.frozen? ⟨g, j * 2 + 1, none⟩ = false := by
 obtain ⟨hj, hxe⟩ := List.getElem?_eq_some_iff.1 hx
 have ho := h.own
 unfold OwnA5 at ho
 have hl := Tr.insAt_len d a q
 rw [hl, ← hn] at ho
 have hal : (attrV (Tr.insAt d a q)).length = n * 2 := by unfold attrV; rw [fl_len (k := 2) (fun _ => rfl), hl, hn]
 have q1 : ∀ i, i < 2 → wr.cell? ⟨g, j * 2 + i, none⟩ = ([.string ⟨x.1.toArray⟩, .string ⟨x.2.toArray⟩] : List Value)[i]? := fun i hi => by
  rw [World.ownsRow.cellAt ho (j * 2 + i) (by omega)]
  unfold attrV
  rw [fl_at (k := 2) (fun _ => rfl) _ j i hj hi, hxe]
 exact ⟨q1 0 (by omega), q1 1 (by omega), (own_there ho (j := j * 2) (by omega)).2, (own_there ho (j := j * 2 + 1) (by omega)).2⟩
theorem insSwap {B : Nat} {w wr : World} {g n c : Nat} {d : List Tr.At} {a : Tr.At} {q : Nat} (h : SrI B w wr (.slice (some ⟨g, 0, none⟩) n c) d a (q + 1)) (hn : n = d.length + 1) (hq : q < d.length) (hlt : Tr.lt a.1 d[q].1 = true) :
  SrI B w ((((wr.setCell ⟨g, q * 2, none⟩ (.string ⟨a.1.toArray⟩)).setCell ⟨g, q * 2 + 1, none⟩ (.string ⟨a.2.toArray⟩)).setCell ⟨g, q * 2 + 2, none⟩ (.string ⟨d[q].1.toArray⟩)).setCell ⟨g, q * 2 + 3, none⟩ (.string ⟨d[q].2.toArray⟩)) (.slice (some ⟨g, 0, none⟩) n c) d a q := by
 have ho := h.own
 unfold OwnA5 at ho
 rw [Tr.insAt_len, ← hn] at ho
 have hB : B ≤ g := (ho.lt g rfl).1
 refine ⟨(((h.below.setCell (p := ⟨g, _, none⟩) hB _).setCell (p := ⟨g, _, none⟩) hB _).setCell (p := ⟨g, _, none⟩) hB _).setCell (p := ⟨g, _, none⟩) hB _, ?_, ?_⟩
 ·unfold OwnA5
  rw [Tr.insAt_len, ← hn, ← swap4 d a q hq]
  exact (((((ho.stored _ _).1.stored _ _).1).stored _ _).1.stored _ _).1
 ·intro x hx
  rw [List.drop_eq_getElem_cons hq] at hx
  rcases List.mem_cons.1 hx with rfl | hx
  ·exact hlt
  ·exact h.gt x hx
theorem SrI.drewN {B : Nat} {w wr : World} {v : Value} {d : List Tr.At} {a : Tr.At} {q : Nat} (h : SrI B w wr v d a q) (n : Nat) : SrI B w (wr.drewN n) v d a q :=
 ⟨below_drewN h.below n, own_below h.own (below_drewN (Below.refl wr.heap.size wr) n), h.gt⟩
theorem SrI.next {B : Nat} {al0 : List Tr.At} {w w0 wr : World} {v0 v : Value} {d : List Tr.At} {a : Tr.At} {q : Nat} (h : SrI B w wr v d a q) (ho : SrO B al0 w w0 d.length v0 d) (ha : al0[d.length]? = some a) (hq : q ≤ d.length) (hl : ∀ (h : 0 < q), Tr.lt (d[q - 1]'(by omega)).1 a.1 = true) : SrO B al0 w wr (d.length + 1) v (Tr.insAt d a q) := by
 obtain ⟨hj, hxe⟩ := List.getElem?_eq_some_iff.1 ha
 refine ⟨h.below, h.own, Tr.insAt_strict ho.str hq h.gt hl, ?_⟩
 rw [List.take_succ_eq_append_getElem hj, hxe]
 exact (Tr.insAt_perm d a q).trans ((ho.perm.cons a).trans (List.perm_append_singleton a _).symm)
set_option maxHeartbeats 8000000 in
set_option maxRecDepth 100000 in
theorem sorted_any (B0 p : Nat) (w : World) (A : Option Addr) (c : Nat) (al : List Tk.A) (h : OwnR B0 p w (.slice A al.length c) al) (hn : al.length ≤ 1048576) :
  Calls Tryz.prog 52 #[.slice A al.length c] w (SrtP (al.map (fun a => (a.nm, a.vl))) w) := by
 have hn' : (al.length : Int) ≤ 1048576 := by omega
 obtain ⟨al0, hal⟩ : ∃ al0, al0 = al.map (fun a => (a.nm, a.vl)) := ⟨_, rfl⟩
 rw [← hal]
 have hl0 : al0.length = al.length := by rw [hal, List.length_map]
 have HCE := Lib.hid (fun (k : Nat) (hk : k < al.length) => rowA_cells h hk)
 have HAL := Lib.hid hal
 have HL0 := Lib.hid hl0
 have H0 := Lib.hid (show SrO w.heap.size al0 w w 0 (.slice none 0 0) [] from ⟨Below.refl _ _, World.ownsRow_nil _ _ _ _, List.Pairwise.nil, List.Perm.refl _⟩)
 clear h hal hl0
 go_enter Tryz.func52, Tryz.ntmps52
 go_wp2
 go_loopw [4, 5] (fun v i wr => ∃ (k : Nat) (d : List Tr.At), i = .int .i64 k ∧ k ≤ al.length ∧ Hid (SrO w.heap.size al0 w wr k v d)) (fun _ i _ => al.length - (intOf i).toNat)
 case atStart => exact ⟨0, [], rfl, Nat.zero_le _, H0⟩
 case round =>
  obtain ⟨k, d, rfl, hk, HI⟩ := hrel
  obtain rfl : k = d.length := (HI.out.len (by rw [HL0.out]; exact hk)).symm
  obtain ⟨Ao, co, hvo, _, _, _, _⟩ := own_slice HI.out.own
  subst hvo
  by_cases hlt : d.length < al.length
  ·have hlt' : (d.length : Int) < (al.length : Int) := by omega
   obtain ⟨g, hA, hgl, hlc, d0, d1⟩ := HCE.out d.length hlt
   subst hA
   have hlc' : (al.length : Int) ≤ (c : Int) := by omega
   have HE := Lib.hid (show al0[d.length]? = some (al[d.length].nm, al[d.length].vl) by rw [HAL.out, List.getElem?_map, List.getElem?_eq_getElem hlt]; rfl)
   have HLT := Lib.hid hlt
   replace d0 := (HI.out.below.cell (p := ⟨g, d.length * 3, none⟩) hgl).trans d0
   replace d1 := (HI.out.below.cell (p := ⟨g, d.length * 3 + 1, none⟩) hgl).trans d1
   generalize al[d.length] = a at *
   clear hlt
   obtain ⟨U, hU⟩ : ∃ N : ByteArray, N = ⟨a.nm.toArray⟩ := ⟨_, rfl⟩
   obtain ⟨V, hV⟩ : ∃ N : ByteArray, N = ⟨a.vl.toArray⟩ := ⟨_, rfl⟩
   rw [← hU] at d0
   rw [← hV] at d1
   have HUV := Lib.hid (And.intro hU hV)
   clear hU hV
   have hown : wr.ownsRow w.heap.size 84 2 (.slice Ao d.length co) d.length (attrV d) := HI.out.own
   have hrl : w.heap.size ≤ wr.heap.size := HI.out.below.size
   have hbas : Hid (∀ q, (Value.slice Ao d.length co).ownBlock = some q → w.heap.size ≤ q) := Lib.hid (fun q hq => (hown.lt q hq).1)
   obtain ⟨i0, hi, hz0, hz1, hz2⟩ := info_parts infoRA5
   have hbig : d.length + 1 ≤ maxLen := by unfold maxLen; omega
   obtain ⟨m, hm⟩ : ∃ m, m = d.length := ⟨_, rfl⟩
   go_wp2_with fail
   refine wp_region_held_drew (S := (fun w' => w'.cell? ⟨g, d.length * 3, none⟩ = some (.string U) ∧ w'.cell? ⟨g, d.length * 3 + 1, none⟩ = some (.string V))) (by kernel_rfl) ⟨d0, d1⟩ (fun hHeld => ?_)
   refine wpAnyH_take (i := 0) (v := .slice Ao d.length co) rfl (by kernel_rfl) (by kernel_rfl) (by kernel_rfl) (fun _ _ _ h => h) (Or.inl ⟨by rfl, by (intro w hS; try (obtain ⟨s0, s1⟩ := hS); go_simp)⟩) hHeld ?_
   try simp only [Act.put, List.getElem_toArray, List.getElem_cons_zero, List.setIfInBounds_toArray, List.set_cons_zero, List.set_cons_succ]
   refine wpAnyH_take (i := 1) (v := .slice (some ⟨g, 0, none⟩) al.length c) rfl (by kernel_rfl) (by kernel_rfl) (by kernel_rfl) (fun _ _ _ h => h) (Or.inl ⟨by rfl, by (intro w hS; try (obtain ⟨s0, s1⟩ := hS); go_simp)⟩) hHeld ?_
   try simp only [Act.put, List.getElem_toArray, List.getElem_cons_succ, List.getElem_cons_zero, List.setIfInBounds_toArray, List.set_cons_zero, List.set_cons_succ]
   refine wpAnyH_take (i := 2) (v := .int .i64 d.length) rfl (by kernel_rfl) (by kernel_rfl) (by kernel_rfl) (fun _ _ _ h => h) (Or.inl ⟨by rfl, by (intro w hS; try (obtain ⟨s0, s1⟩ := hS); go_simp)⟩) hHeld ?_
   try simp only [Act.put, List.getElem_toArray, List.getElem_cons_succ, List.getElem_cons_zero, List.setIfInBounds_toArray, List.set_cons_zero, List.set_cons_succ]
   refine wpAnyH_take (i := 3) (v := .pointer (some ⟨g, d.length * 3, none⟩)) rfl (by kernel_rfl) (by kernel_rfl) (by kernel_rfl) (fun _ _ _ h => h) (Or.inl ⟨by rfl, by (intro w hS; try (obtain ⟨s0, s1⟩ := hS); go_simp)⟩) hHeld ?_
   try simp only [Act.put, List.getElem_toArray, List.getElem_cons_succ, List.getElem_cons_zero, List.setIfInBounds_toArray, List.set_cons_zero, List.set_cons_succ]
   refine wpAnyH_take (i := 4) (v := .pointer (some ⟨g, d.length * 3, none⟩)) rfl (by kernel_rfl) (by kernel_rfl) (by kernel_rfl) (fun _ _ _ h => h) (Or.inl ⟨by rfl, by (intro w hS; try (obtain ⟨s0, s1⟩ := hS); go_simp)⟩) hHeld ?_
   try simp only [Act.put, List.getElem_toArray, List.getElem_cons_succ, List.getElem_cons_zero, List.setIfInBounds_toArray, List.set_cons_zero, List.set_cons_succ]
   refine wpAnyH_take (i := 5) (v := .string U) rfl (by kernel_rfl) (by kernel_rfl) (by kernel_rfl) (fun _ _ _ h => h) (Or.inl ⟨by rfl, by (intro w hS; try (obtain ⟨s0, s1⟩ := hS); go_simp)⟩) hHeld ?_
   try simp only [Act.put, List.getElem_toArray, List.getElem_cons_succ, List.getElem_cons_zero, List.setIfInBounds_toArray, List.set_cons_zero, List.set_cons_succ]
   refine wpAnyH_take (i := 6) (v := .slice (some ⟨g, 0, none⟩) al.length c) rfl (by kernel_rfl) (by kernel_rfl) (by kernel_rfl) (fun _ _ _ h => h) (Or.inl ⟨by rfl, by (intro w hS; try (obtain ⟨s0, s1⟩ := hS); go_simp)⟩) hHeld ?_
   try simp only [Act.put, List.getElem_toArray, List.getElem_cons_succ, List.getElem_cons_zero, List.setIfInBounds_toArray, List.set_cons_zero, List.set_cons_succ]
   refine wpAnyH_take (i := 7) (v := .int .i64 d.length) rfl (by kernel_rfl) (by kernel_rfl) (by kernel_rfl) (fun _ _ _ h => h) (Or.inl ⟨by rfl, by (intro w hS; try (obtain ⟨s0, s1⟩ := hS); go_simp)⟩) hHeld ?_
   try simp only [Act.put, List.getElem_toArray, List.getElem_cons_succ, List.getElem_cons_zero, List.setIfInBounds_toArray, List.set_cons_zero, List.set_cons_succ]
   refine wpAnyH_take (i := 8) (v := .pointer (some ⟨g, d.length * 3, none⟩)) rfl (by kernel_rfl) (by kernel_rfl) (by kernel_rfl) (fun _ _ _ h => h) (Or.inl ⟨by rfl, by (intro w hS; try (obtain ⟨s0, s1⟩ := hS); go_simp)⟩) hHeld ?_
   try simp only [Act.put, List.getElem_toArray, List.getElem_cons_succ, List.getElem_cons_zero, List.setIfInBounds_toArray, List.set_cons_zero, List.set_cons_succ]
   refine wpAnyH_take (i := 9) (v := .pointer (some ⟨g, d.length * 3 + 1, none⟩)) rfl (by kernel_rfl) (by kernel_rfl) (by kernel_rfl) (fun _ _ _ h => h) (Or.inl ⟨by rfl, by (intro w hS; try (obtain ⟨s0, s1⟩ := hS); go_simp)⟩) hHeld ?_
   try simp only [Act.put, List.getElem_toArray, List.getElem_cons_succ, List.getElem_cons_zero, List.setIfInBounds_toArray, List.set_cons_zero, List.set_cons_succ]
   refine wpAnyH_take (i := 10) (v := .string V) rfl (by kernel_rfl) (by kernel_rfl) (by kernel_rfl) (fun _ _ _ h => h) (Or.inl ⟨by rfl, by (intro w hS; try (obtain ⟨s0, s1⟩ := hS); go_simp)⟩) hHeld ?_
   try simp only [Act.put, List.getElem_toArray, List.getElem_cons_succ, List.getElem_cons_zero, List.setIfInBounds_toArray, List.set_cons_zero, List.set_cons_succ]
   refine wpAnyH_take (i := 11) (v := .agg #[.string U, .string V]) rfl (by kernel_rfl) (by kernel_rfl) (by kernel_rfl) (fun _ _ _ h => h) (Or.inl ⟨by rfl, by (intro w hS; try (obtain ⟨s0, s1⟩ := hS); go_simp)⟩) hHeld ?_
   try simp only [Act.put, List.getElem_toArray, List.getElem_cons_succ, List.getElem_cons_zero, List.setIfInBounds_toArray, List.set_cons_zero, List.set_cons_succ]
   refine wpAnyH_ready (rs := [12]) (by kernel_rfl) (by simp) ?_
   refine AllReadyH.cons rfl (fun K hK => ?_) AllReadyH.nil
   try simp only [List.getElem_toArray, List.getElem_cons_succ, List.getElem_cons_zero]
   go_simp
   refine hK.out _ _ ⟨(World.cell?_alloc_lt _ _ _ (by show g < wr.heap.size; omega)).trans d0, (World.cell?_alloc_lt _ _ _ (by show g < wr.heap.size; omega)).trans d1⟩ (fun hHeld => ?_)
   clear hK K
   try simp only [Act.put, List.getElem_toArray, List.getElem_cons_succ, List.getElem_cons_zero, List.setIfInBounds_toArray, List.set_cons_zero, List.set_cons_succ]
   refine wpAnyH_ready (rs := [13]) (by kernel_rfl) (by simp) ?_
   refine AllReadyH.cons rfl (fun K hK => ?_) AllReadyH.nil
   refine step_append_lies _ (by rfl) _ _ _ (by rfl) w.heap.size 84 i0 _ 2 32 Tryz.underlying81 hi hz0 hz1 hz2 rfl (by omega) (.slice Ao d.length co) d.length (attrV d) (by rfl) (by exact World.ownsRow.alloc hown _) _ 1 _ [.string U, .string V] (by rfl) rfl (by intro j u hu; exact news_at _ _ _ _ (by simp) j u hu) (by intro u hu; simp at hu; rcases hu with rfl | rfl <;> rfl) (by omega) hbig (by omega) (by simp; omega) _ rfl ?_
   intro g9 cap9 w9 hown9 hgr9 hat9 hlt9
   have B9 : Below w.heap.size wr w9 := Below.grown (by first | exact ((Below.refl _ _).alloc (by omega) _).drew | exact ((Below.refl _ _).drew).alloc (by exact hrl) _ | exact (Below.refl _ _).alloc (by omega) _) hgr9 (by simp; omega) hbas.out
   refine hK.out _ _ ⟨(B9.cell (p := ⟨g, _, none⟩) hgl).trans d0, (B9.cell (p := ⟨g, _, none⟩) hgl).trans d1⟩ (fun hHeld => ?_)
   clear hK K
   try simp only [Act.put, List.getElem_toArray, List.getElem_cons_succ, List.getElem_cons_zero, List.setIfInBounds_toArray, List.set_cons_zero, List.set_cons_succ]
   refine wpAnyH_take (i := 14) (v := .slice (some ⟨g9, 0, none⟩) (d.length + 1) cap9) rfl (by kernel_rfl) (by kernel_rfl) (by kernel_rfl) (fun _ _ _ h => h) (Or.inl ⟨by rfl, by (intro w hS; try (obtain ⟨s0, s1⟩ := hS); go_simp)⟩) hHeld ?_
   try simp only [Act.put, List.getElem_toArray, List.getElem_cons_succ, List.getElem_cons_zero, List.setIfInBounds_toArray, List.set_cons_zero, List.set_cons_succ]
   refine wpAnyH_done (by kernel_rfl) ?_ _
   have HJ0 := Lib.hid (show SrI w.heap.size w w9 (.slice (some ⟨g9, 0, none⟩) (d.length + 1) cap9) d (a.nm, a.vl) d.length from by
    refine ⟨HI.out.below.trans B9, ?_, fun x hx => by rw [List.drop_length] at hx; cases hx⟩
    unfold OwnA5
    rw [Tr.insAt_end, attrV_snoc, List.length_append, ← HUV.out.1, ← HUV.out.2]
    exact hown9)
   obtain ⟨n9, hn9⟩ : ∃ n, n = d.length + 1 := ⟨_, rfl⟩
   rw [← hn9] at HJ0 ⊢
   have hn9' : (n9 : Int) = (d.length : Int) + 1 := by omega
   have HN9 := Lib.hid hn9
   clear hown9 hgr9 hHeld hn9 hown hrl hbas hi hz0 hz1 hz2 hbig hm hat9 hlt9
   go_wp2
   go_loopw [6] (fun i wr2 => ∃ q : Nat, i = .int .i64 q ∧ q ≤ d.length ∧ Hid (SrI w.heap.size w wr2 (.slice (some ⟨g9, 0, none⟩) n9 cap9) d (a.nm, a.vl) q)) (fun i _ => (intOf i).toNat)
   case atStart => exact ⟨d.length, rfl, Nat.le_refl _, HJ0⟩
   case round =>
    obtain ⟨q, rfl, hq, HJ⟩ := hrel
    rcases q with _ | q
    ·have hd1 : decide ((0 : Int) > 0) = false := by decide
     have hd2 : decide ((0 : Int) < 0) = false := by decide
     have HN := Lib.hid (fun (n : Nat) => (HJ.out.drewN n).next HI.out HE.out (Nat.zero_le _) (fun h => absurd h (by omega)))
     go_wp2_with fail
     go_quiet (fail)
     go_wp2_with fail
     go_quiet (fail)
     go_wp2
     go_roundw
     case rel => exact ⟨d.length + 1, _, by go_num, HLT.out, Lib.hid (HN.out _)⟩
     case measure => have := HLT.out; simp [intOf]; omega
    ·have hq' : q < d.length := by omega
     obtain ⟨x0, x1, fx0, fx1⟩ := insCells HJ.out HN9.out (Tr.insAt_at d _ (q + 1) hq)
     obtain ⟨y0, y1, fy0, fy1⟩ := insCells HJ.out HN9.out (Tr.insAt_before d _ q hq')
     have HSW := Lib.hid (fun (n : Nat) => insSwap (HJ.out.drewN n) HN9.out hq')
     have HNX := Lib.hid (fun (n : Nat) (hl : Tr.lt d[q].1 a.nm = true) => (HJ.out.drewN n).next HI.out HE.out hq (fun _ => hl))
     have HDU := Lib.hid (fun (he : d[q].1 = a.nm) => Tr.insAt_dup (a := (a.nm, a.vl)) HI.out.perm (List.getElem?_eq_some_iff.1 HE.out).1 (List.getElem?_eq_some_iff.1 HE.out).2 hq' he)
     have HQ := Lib.hid hq'
     generalize d[q] = b at *
     obtain ⟨U2, hU2⟩ : ∃ N : ByteArray, N = ⟨b.1.toArray⟩ := ⟨_, rfl⟩
     obtain ⟨V2, hV2⟩ : ∃ N : ByteArray, N = ⟨b.2.toArray⟩ := ⟨_, rfl⟩
     simp only at x0 x1 HSW
     rw [← HUV.out.1, ← HUV.out.2, ← hU2, ← hV2] at HSW
     rw [← HUV.out.1] at x0
     rw [← HUV.out.2] at x1
     rw [← hU2] at y0
     rw [← hV2] at y1
     have HU2 := Lib.hid (And.intro hU2 hV2)
     clear hU2 hV2 hq'
     obtain ⟨K, hK⟩ : ∃ K, K = q + 1 := ⟨_, rfl⟩
     have e1 : ((K : Int) - 1).toNat = q := by omega
     have e2 : IntKind.i64.wrap ((K : Int) - 1) = (K : Int) - 1 := by rw [IntKind.wrap_i64]; omega
     have e3 : (0 : Int) ≤ (K : Int) - 1 := by omega
     have e4 : (K : Int) - 1 < (n9 : Int) := by omega
     have e5 : (K : Int) < (n9 : Int) := by omega
     have e6 : (0 : Int) < (K : Int) := by omega
     have e7 : 0 < K := by omega
     have hKn : decide (0 < K) = true := decide_eq_true e7
     have hKi : decide ((0 : Int) < (K : Int)) = true := decide_eq_true e6
     have hk2 : q * 2 + 2 = K * 2 := by omega
     have hk3 : q * 2 + 3 = K * 2 + 1 := by omega
     have ne1 : q * 2 ≠ K * 2 := by omega
     rw [← hK] at x0 x1 fx0 fx1 hq HJ ⊢
     rw [hk2, hk3] at HSW
     have HKK := Lib.hid hK
     clear hK hk2 hk3
     by_cases hG : Tr.lt a.nm b.1 = true
     ·have hb1 : Op.bytesLess U2.toList U.toList = false := by rw [toList_of HUV.out.1, toList_of HU2.out.1]; exact Tr.lt_asymm hG
      have hb2 : (U2.toList == U.toList) = false := str_ne HU2.out.1 HUV.out.1 (fun e => by rw [e, Tr.lt_irrefl] at hG; cases hG)
      have HG := Lib.hid hG
      clear hG
      go_wp2_with fail
      go_quiet (fail)
      go_wp2_with fail
      go_region
      all_goals
       go_wp2
       go_roundw
       case rel => exact ⟨q, by rw [show (K : Int) - 1 = (q : Int) by omega], Nat.le_of_lt HQ.out, Lib.hid (HSW.out _ HG.out)⟩
       case measure => have := HKK.out; simp [intOf]; omega
     ·by_cases hE : b.1 = a.nm
      ·have hUU : U2 = U := by rw [HUV.out.1, HU2.out.1, hE]
       have HF := Lib.hid (HDU.out hE)
       have HB := Lib.hid (HJ.out.below)
       subst hUU
       have hb1 : Op.bytesLess U2.toList U2.toList = false := Tr.lt_irrefl _
       have hb2 : (U2.toList == U2.toList) = true := beq_self_eq_true _
       clear hG hE
       go_wp2_with fail
       go_quiet (fail)
       go_wp2_with fail
       go_quiet (fail)
       go_wp2
       go_ret2
       refine ⟨.slice none 0 0, by rw [HF.out]; rfl, fun h => ?_, below_drewN (below_drewN HB.out _) _⟩
       rw [HF.out] at h
       cases h
      ·have hl : Tr.lt b.1 a.nm = true := by
        cases e : Tr.lt b.1 a.nm with
        | true => rfl
        | false => exact absurd (Tr.lt_tri e (by simpa using hG)) hE
       have hb1 : Op.bytesLess U2.toList U.toList = true := by rw [toList_of HUV.out.1, toList_of HU2.out.1]; exact hl
       have hb2 : (U2.toList == U.toList) = false := str_ne HU2.out.1 HUV.out.1 hE
       have HN := Lib.hid (fun (n : Nat) => HNX.out n hl)
       clear hl hG hE
       go_wp2_with fail
       go_quiet (fail)
       go_wp2_with fail
       go_quiet (fail)
       go_wp2
       go_roundw
       case rel => exact ⟨d.length + 1, _, by go_num, HLT.out, Lib.hid (HN.out _)⟩
       case measure => have := HLT.out; simp [intOf]; omega
  ·have hge : ¬ (d.length : Int) < (al.length : Int) := by omega
   have HF := Lib.hid (HI.out.fin (by rw [HL0.out]; omega))
   have HB := Lib.hid HI.out.below
   clear hlt
   go_wp2
   go_ret2
   exact ⟨_, by rw [HF.out.1]; rfl, fun _ => HF.out.2, HB.out⟩
end Go.Proofs.YteadfpkihhaadaaGreatDoor
