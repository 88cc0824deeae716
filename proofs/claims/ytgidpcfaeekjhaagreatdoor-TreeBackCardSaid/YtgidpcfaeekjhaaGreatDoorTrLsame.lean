/- Layer 5: the statements' ref, walked: a tree's nodes as the reference has them, in new memory. Conditions: the row reads as told; each length is at most 1,048,576.
Layer 5: the statements' same, walked (places in the text not asked): of two rows of the reference's nodes it is told whether they are the same. Conditions: the rows are calls' own; lengths fit. -/
import Derived.Test.YtgidpcfaeekjhaaGreatDoorTrFew
import Derived.Deep.CutRange
namespace Go.Proofs.YtgidpcfaeekjhaaGreatDoor
open Go.RowKit

theorem infoRA5 : (Tryz.prog.info? 84).map (fun i => (i.zero, i.size, i.bytes)) = some (some (.agg #[.string ⟨#[]⟩, .string ⟨#[]⟩]), 2, 32) := by kernel_rfl
theorem infoRN5 : (Tryz.prog.info? 83).map (fun i => (i.zero, i.size, i.bytes)) = some (some (.agg #[.string ⟨#[]⟩, .slice none 0 0, .string ⟨#[]⟩, .int .i64 0, .int .i64 0, .int .i64 0, .int .i64 0]), 7, 88) := by kernel_rfl
def rndV (x : Tr.N × Value) : List Value := [.string ⟨x.1.nm.toArray⟩, x.2, .string ⟨x.1.tx.toArray⟩, .int .i64 x.1.pa, .int .i64 x.1.fi, .int .i64 x.1.nx, .int .i64 x.1.at_]
def OwnA5 (B : Nat) (w : World) (v : Value) (al : List (List UInt8 × List UInt8)) : Prop := w.ownsRow B 84 2 v al.length (attrV al)
/-- A row of the reference's nodes, each with a row of attributes of its own. -/
structure NRow (B : Nat) (w : World) (v : Value) (ps : List (Tr.N × Value)) : Prop where
  own : w.ownsRow B 83 7 v ps.length (ps.flatMap rndV)
  att : ∀ x ∈ ps, OwnA5 B w x.2 x.1.al
theorem NRow.nil (B : Nat) (w : World) : NRow B w (.slice none 0 0) [] := ⟨World.ownsRow_nil _ _ _ _, fun _ h => (by cases h)⟩
theorem NRow.below {B : Nat} {w w' : World} {v : Value} {ps : List (Tr.N × Value)} (h : NRow B w v ps) (hb : Below w.heap.size w w') : NRow B w' v ps := ⟨own_below h.own hb, fun x hx => own_below (h.att x hx) hb⟩
theorem NRow.set {B : Nat} {w : World} {v : Value} {ps : List (Tr.N × Value)} (h : NRow B w v ps) {r : Nat} (hr : r < B) (i : Nat) (u : Value) : NRow B (w.setCell ⟨r, i, none⟩ u) v ps :=
  ⟨ownsRow_setCell_below h.own hr u, fun x hx => ownsRow_setCell_below (h.att x hx) hr u⟩
theorem NRow.less {B B' : Nat} {w : World} {v : Value} {ps : List (Tr.N × Value)} (h : NRow B w v ps) (hB : B' ≤ B) : NRow B' w v ps := ⟨own_less h.own hB, fun x hx => own_less (h.att x hx) hB⟩
theorem NRow.snoc {B : Nat} {w1 w2 : World} {v v' : Value} {ps : List (Tr.N × Value)} {x : Tr.N × Value} (h : NRow B w1 v ps) (hav : OwnA5 B w1 x.2 x.1.al) (hgr : w1.grownBy w2 v.ownBlock)
    (hown : w2.ownsRow B 83 7 v' (ps.length + 1) (ps.flatMap rndV ++ rndV x)) : NRow B w2 v' (ps ++ [x]) := by
  have hk : ∀ (u : Value) (al : List (List UInt8 × List UInt8)), OwnA5 B w1 u al → OwnA5 B w2 u al := fun u al hx => World.ownsRow.kept hx hgr (own_types hx h.own (by decide))
  refine ⟨?_, ?_⟩
  · rw [List.length_append, List.flatMap_append]
    simpa using hown
  · intro y hy
    rw [List.mem_append] at hy
    rcases hy with hy | hy
    · exact hk _ _ (h.att y hy)
    · simp only [List.mem_singleton] at hy
      subst hy
      exact hk _ _ hav
def RefP (xs : List Nd) (w : World) (e : Ending) (w' : World) : Prop := ∃ v ps, e = .returned (.agg #[v]) ∧ NRow w.heap.size w' v ps ∧ ps.map (·.1) = xs.map Nd.n ∧ Below w.heap.size w w'
structure RfO (w : World) (A : Option Addr) (c : Nat) (xs : List Nd) (wr : World) (k : Nat) (v : Value) (ps : List (Tr.N × Value)) : Prop where
  below : Below w.heap.size w wr
  box : IsBlk wr w.heap.size 31 #[.slice A xs.length c]
  res : IsBlk wr (w.heap.size + 1) 25 #[.slice none 0 0]
  out : IsBlk wr (w.heap.size + 2) 25 #[v]
  row : NRow (w.heap.size + 3) wr v ps
  len : ps.length = k
  eq : ps.map (·.1) = (xs.take k).map Nd.n
/-- At the inner loop: r: the new node's block. -/
structure RfI (W1 : World) (r : Nat) (N X : ByteArray) (pa fi nx at1 : Int) (al : List (List UInt8 × List UInt8)) (wr : World) (m : Nat) (v : Value) : Prop where
  below : Below r W1 wr
  blk : IsBlk wr r 83 #[.string N, v, .string X, .int .i64 pa, .int .i64 fi, .int .i64 nx, .int .i64 at1]
  own : wr.ownsRow (r + 1) 84 2 v m (attrV (al.take m))

set_option maxHeartbeats 8000000 in
set_option maxRecDepth 100000 in
theorem ref_any (w : World) (A : Option Addr) (c : Nat) (xs : List Nd) (hl : xs.length ≤ c) (hn : xs.length ≤ 1048576) (hr : ReadsNd w w.heap.size A xs) (hf : ∀ x ∈ xs, NdFit x) :
    Calls Tryz.prog 11 #[.agg #[.slice A xs.length c]] w (RefP xs w) := by
  have H := Lib.hid hr
  have HF := Lib.hid hf
  have hn' : (xs.length : Int) ≤ 1048576 := by omega
  have hl' : (xs.length : Int) ≤ (c : Int) := by omega
  obtain ⟨W0, hW0⟩ : ∃ W0, W0 = ((w.alloc (.cells #[.slice A xs.length c] 31)).alloc (.cells #[.slice none 0 0] 25)).alloc (.cells #[.slice none 0 0] 25) := ⟨_, rfl⟩
  have hz1 : (w.alloc (.cells #[.slice A xs.length c] 31)).heap.size = w.heap.size + 1 := by simp
  have hz2 : ((w.alloc (.cells #[.slice A xs.length c] 31)).alloc (.cells #[.slice none 0 0] 25)).heap.size = w.heap.size + 2 := by simp
  have H0 := Lib.hid (show RfO w A c xs W0 0 (.slice none 0 0) [] from by
    rw [hW0]
    exact ⟨(((Below.refl _ _).alloc (Nat.le_refl _) _).alloc (by omega) _).alloc (by omega) _,
      ((IsBlk.new w _ _).below ((Below.refl _ _).alloc (Nat.le_refl _) _) (by omega)).below ((Below.refl _ _).alloc (Nat.le_refl _) _) (by omega),
      by have h := (IsBlk.new (w.alloc (.cells #[.slice A xs.length c] 31)) 25 #[.slice none 0 0]).below ((Below.refl _ _).alloc (Nat.le_refl _) (.cells #[.slice none 0 0] 25)) (by omega); rw [hz1] at h; exact h,
      by rw [← hz2]; exact IsBlk.new _ _ _, NRow.nil _ _, rfl, by simp⟩)
  have HW := Lib.hid hW0
  clear hr hf hW0 hz1 hz2
  go_enter Tryz.func11, Tryz.ntmps11
  go_wp2
  rw [← HW.out]
  go_loopw [4] (fun i wr => ∃ (k : Nat) (v : Value) (ps : List (Tr.N × Value)), i = .int .i64 k ∧ k ≤ xs.length ∧ Hid (RfO w A c xs wr k v ps)) (fun i _ => xs.length - (intOf i).toNat)
  case atStart => exact ⟨0, _, _, rfl, Nat.zero_le _, H0⟩
  case round =>
    obtain ⟨k, vo, po, rfl, hk, HI⟩ := hrel
    obtain ⟨wo, hwo⟩ : ∃ wo, wo = wr := ⟨_, rfl⟩
    subst hwo
    obtain ⟨Ao, co, hvo, _, _, hco1, hco2⟩ := own_slice HI.out.row.own
    subst hvo
    have t0 : wo.cell? ⟨w.heap.size, 0, none⟩ = some (.slice A xs.length c) := HI.out.box.at_ 0
    by_cases hlt : k < xs.length
    · have G := H.out.below HI.out.below
      obtain ⟨g, o, hA, hg, hcl⟩ := G.row (by omega)
      subst hA
      have hcs := hcl k hlt
      have hax := G.att _ (List.getElem_mem hlt)
      have hfit := HF.out _ (List.getElem_mem hlt)
      have HT := Lib.hid (show (xs.take (k + 1)).map Nd.n = (xs.take k).map Nd.n ++ [xs[k].n] from by rw [List.take_succ_eq_append_getElem hlt, List.map_append]; rfl)
      have hlt' : (k : Int) < (xs.length : Int) := by omega
      have HLT := Lib.hid hlt
      clear hcl G
      generalize xs[k] = x at *
      clear hlt
      obtain ⟨⟨nm, al, tx, pa, fi, nx, at1⟩, Ax, cx⟩ := x
      obtain ⟨f1, f2, f3, f4⟩ := hfit
      obtain ⟨g1, g2, g3⟩ := hax
      simp only at f1 f2 f3 f4 g1 g2 g3
      have a0 : wo.cell? ⟨g, o + k * 7, none⟩ = some (.string ⟨nm.toArray⟩) := hcs 0 _ rfl
      have a1 : wo.cell? ⟨g, o + k * 7 + 1, none⟩ = some (.slice Ax al.length cx) := hcs 1 _ rfl
      have a2 : wo.cell? ⟨g, o + k * 7 + 2, none⟩ = some (.string ⟨tx.toArray⟩) := hcs 2 _ rfl
      have a3 : wo.cell? ⟨g, o + k * 7 + 3, none⟩ = some (.int .i64 pa) := hcs 3 _ rfl
      have a4 : wo.cell? ⟨g, o + k * 7 + 4, none⟩ = some (.int .i64 fi) := hcs 4 _ rfl
      have a5 : wo.cell? ⟨g, o + k * 7 + 5, none⟩ = some (.int .i64 nx) := hcs 5 _ rfl
      have a6 : wo.cell? ⟨g, o + k * 7 + 6, none⟩ = some (.int .i64 at1) := hcs 6 _ rfl
      clear hcs
      obtain ⟨N, hN⟩ : ∃ N : ByteArray, N = ⟨nm.toArray⟩ := ⟨_, rfl⟩
      obtain ⟨X, hX⟩ : ∃ N : ByteArray, N = ⟨tx.toArray⟩ := ⟨_, rfl⟩
      rw [← hN] at a0
      rw [← hX] at a2
      have HNX := Lib.hid (And.intro hN hX)
      clear hN hX
      obtain ⟨rx, hrx⟩ : ∃ r, r = wo.heap.size := ⟨_, rfl⟩
      obtain ⟨W1, hW1⟩ : ∃ W1, W1 = (wo.alloc (.cells #[.string N, .slice Ax al.length cx, .string X, .int .i64 pa, .int .i64 fi, .int .i64 nx, .int .i64 at1] 49)).alloc (.cells #[.string N, .slice none 0 0, .string X, .int .i64 pa, .int .i64 fi, .int .i64 nx, .int .i64 at1] 83) := ⟨_, rfl⟩
      have hz : (wo.alloc (.cells #[.string N, .slice Ax al.length cx, .string X, .int .i64 pa, .int .i64 fi, .int .i64 nx, .int .i64 at1] 49)).heap.size = wo.heap.size + 1 := by simp
      obtain ⟨r, hr⟩ : ∃ r, r = rx + 1 := ⟨_, rfl⟩
      have HB1 := Lib.hid (show IsBlk W1 rx 49 #[.string N, .slice Ax al.length cx, .string X, .int .i64 pa, .int .i64 fi, .int .i64 nx, .int .i64 at1] ∧ IsBlk W1 r 83 #[.string N, .slice none 0 0, .string X, .int .i64 pa, .int .i64 fi, .int .i64 nx, .int .i64 at1] ∧ Below wo.heap.size wo W1 from by
        rw [hW1, hr, hrx]
        exact ⟨(IsBlk.new wo _ _).below ((Below.refl _ _).alloc (Nat.le_refl _) _) (by omega), by rw [← hz]; exact IsBlk.new _ _ _, ((Below.refl _ _).alloc (Nat.le_refl _) _).alloc (by omega) _⟩)
      have HAT := Lib.hid ((g1.more5 HI.out.below.size).below HB1.out.2.2)
      have HW1 := Lib.hid hW1
      have HRR := Lib.hid (And.intro hr hrx)
      have HJ0 := Lib.hid (show RfI W1 r N X pa fi nx at1 al W1 0 (.slice none 0 0) from ⟨Below.refl _ _, HB1.out.2.1, World.ownsRow_nil _ _ _ _⟩)
      have hcx : (al.length : Int) ≤ (cx : Int) := by omega
      have hq1 : rx < r := by omega
      have hq2 : wo.heap.size ≤ rx := by omega
      have hq3 : rx ≤ wo.heap.size := by omega
      clear hW1 hz g1 f4 hr hrx
      go_wp2
      rw [← HW1.out, ← HRR.out.2, ← HRR.out.1]
      go_loopw [7] (fun j wr => ∃ (m : Nat) (v : Value), m ≤ al.length ∧ j = .int .i64 m ∧ Hid (RfI W1 r N X pa fi nx at1 al wr m v)) (fun j _ => al.length - (intOf j).toNat)
      case atStart => exact ⟨0, _, Nat.zero_le _, rfl, HJ0⟩
      case round =>
        obtain ⟨m, v, hm, rfl, HJ⟩ := hrel
        have t1 : wr.cell? ⟨rx, 1, none⟩ = some (.slice Ax al.length cx) := (HB1.out.1.below HJ.out.below (by omega)).at_ 1
        by_cases hml : m < al.length
        · obtain ⟨ga, oa, hAa, hga, hca⟩ := (HAT.out.below (HJ.out.below.mono (by omega))) (by omega)
          subst hAa
          obtain ⟨d0, d1⟩ := hca m hml
          have HTQ := Lib.hid (take_snoc_ hml)
          have hml' : (m : Int) < (al.length : Int) := by omega
          clear hca
          generalize al[m] = a at *
          clear hml
          obtain ⟨U, hU⟩ : ∃ N : ByteArray, N = ⟨a.1.toArray⟩ := ⟨_, rfl⟩
          obtain ⟨V, hV⟩ : ∃ N : ByteArray, N = ⟨a.2.toArray⟩ := ⟨_, rfl⟩
          rw [← hU] at d0
          rw [← hV] at d1
          have HUV := Lib.hid (And.intro hU hV)
          clear hU hV
          have x2 : wr.cell? ⟨r, 1, none⟩ = some v := HJ.out.blk.at_ 1
          have xf : wr.frozen? ⟨r, 1, none⟩ = false := HJ.out.blk.fz 1
          have hown := HJ.out.own
          have hrl := HJ.out.blk.lt
          have hbas : Hid (∀ q, v.ownBlock = some q → r + 1 ≤ q) := Lib.hid (fun q hq => (hown.lt q hq).1)
          obtain ⟨i0, hi, hz0, hz1, hz2⟩ := info_parts infoRA5
          have hbig : m + 1 ≤ maxLen := by unfold maxLen; omega
          have hgr : ga < r + 1 := by omega
          have hbr : rx < r + 1 := by omega
          have ne1 : r ≠ rx := by omega
          have ne2 : rx ≠ r := by omega
          have ne3 : r ≠ ga := by omega
          have ne4 : ga ≠ r := by omega
          have ne5 : wr.heap.size ≠ r := by omega
          have ne6 : r ≠ wr.heap.size := by omega
          go_wp2_with fail
          refine wp_region_held_drew (S := (fun w' => w'.cell? ⟨rx, 1, none⟩ = some (.slice (some ⟨ga, oa, none⟩) al.length cx) ∧ w'.cell? ⟨ga, oa + m * 2, none⟩ = some (.string U) ∧ w'.cell? ⟨ga, oa + m * 2 + 1, none⟩ = some (.string V))) (by kernel_rfl) ⟨t1, d0, d1⟩ (fun hHeld => ?_)
          refine wpAnyH_take (i := 0) (v := .pointer (some ⟨r, 1, none⟩)) rfl (by kernel_rfl) (by kernel_rfl) (by kernel_rfl) (fun _ _ _ h => h) (Or.inl ⟨by rfl, by (intro w hS; go_simp)⟩) hHeld ?_
          simp only [Act.put, List.getElem_toArray, List.getElem_cons_zero, List.setIfInBounds_toArray, List.set_cons_zero, List.set_cons_succ]
          refine wpAnyH_take (i := 2) (v := .pointer (some ⟨rx, 1, none⟩)) rfl (by kernel_rfl) (by kernel_rfl) (by kernel_rfl) (fun _ _ _ h => h) (Or.inl ⟨by rfl, by (intro w hS; go_simp)⟩) hHeld ?_
          simp only [Act.put, List.getElem_toArray, List.getElem_cons_succ, List.getElem_cons_zero, List.setIfInBounds_toArray, List.set_cons_zero, List.set_cons_succ]
          refine wpAnyH_take (i := 3) (v := .slice (some ⟨ga, oa, none⟩) al.length cx) rfl (by kernel_rfl) (by kernel_rfl) (by kernel_rfl) (fun _ _ _ h => h) (Or.inl ⟨by rfl, by (intro w hS; obtain ⟨s0, s1, s2⟩ := hS; go_simp)⟩) hHeld ?_
          simp only [Act.put, List.getElem_toArray, List.getElem_cons_succ, List.getElem_cons_zero, List.setIfInBounds_toArray, List.set_cons_zero, List.set_cons_succ]
          refine wpAnyH_take (i := 4) (v := .int .i64 m) rfl (by kernel_rfl) (by kernel_rfl) (by kernel_rfl) (fun _ _ _ h => h) (Or.inl ⟨by rfl, by (intro w hS; go_simp)⟩) hHeld ?_
          simp only [Act.put, List.getElem_toArray, List.getElem_cons_succ, List.getElem_cons_zero, List.setIfInBounds_toArray, List.set_cons_zero, List.set_cons_succ]
          refine wpAnyH_take (i := 5) (v := .pointer (some ⟨ga, oa + m * 2, none⟩)) rfl (by kernel_rfl) (by kernel_rfl) (by kernel_rfl) (fun _ _ _ h => h) (Or.inl ⟨by rfl, by (intro w hS; go_simp)⟩) hHeld ?_
          simp only [Act.put, List.getElem_toArray, List.getElem_cons_succ, List.getElem_cons_zero, List.setIfInBounds_toArray, List.set_cons_zero, List.set_cons_succ]
          refine wpAnyH_take (i := 6) (v := .pointer (some ⟨ga, oa + m * 2, none⟩)) rfl (by kernel_rfl) (by kernel_rfl) (by kernel_rfl) (fun _ _ _ h => h) (Or.inl ⟨by rfl, by (intro w hS; go_simp)⟩) hHeld ?_
          simp only [Act.put, List.getElem_toArray, List.getElem_cons_succ, List.getElem_cons_zero, List.setIfInBounds_toArray, List.set_cons_zero, List.set_cons_succ]
          refine wpAnyH_take (i := 7) (v := .string U) rfl (by kernel_rfl) (by kernel_rfl) (by kernel_rfl) (fun _ _ _ h => h) (Or.inl ⟨by rfl, by (intro w hS; obtain ⟨s0, s1, s2⟩ := hS; go_simp)⟩) hHeld ?_
          simp only [Act.put, List.getElem_toArray, List.getElem_cons_succ, List.getElem_cons_zero, List.setIfInBounds_toArray, List.set_cons_zero, List.set_cons_succ]
          refine wpAnyH_take (i := 8) (v := .pointer (some ⟨rx, 1, none⟩)) rfl (by kernel_rfl) (by kernel_rfl) (by kernel_rfl) (fun _ _ _ h => h) (Or.inl ⟨by rfl, by (intro w hS; go_simp)⟩) hHeld ?_
          simp only [Act.put, List.getElem_toArray, List.getElem_cons_succ, List.getElem_cons_zero, List.setIfInBounds_toArray, List.set_cons_zero, List.set_cons_succ]
          refine wpAnyH_take (i := 9) (v := .slice (some ⟨ga, oa, none⟩) al.length cx) rfl (by kernel_rfl) (by kernel_rfl) (by kernel_rfl) (fun _ _ _ h => h) (Or.inl ⟨by rfl, by (intro w hS; obtain ⟨s0, s1, s2⟩ := hS; go_simp)⟩) hHeld ?_
          simp only [Act.put, List.getElem_toArray, List.getElem_cons_succ, List.getElem_cons_zero, List.setIfInBounds_toArray, List.set_cons_zero, List.set_cons_succ]
          refine wpAnyH_take (i := 10) (v := .int .i64 m) rfl (by kernel_rfl) (by kernel_rfl) (by kernel_rfl) (fun _ _ _ h => h) (Or.inl ⟨by rfl, by (intro w hS; go_simp)⟩) hHeld ?_
          simp only [Act.put, List.getElem_toArray, List.getElem_cons_succ, List.getElem_cons_zero, List.setIfInBounds_toArray, List.set_cons_zero, List.set_cons_succ]
          refine wpAnyH_take (i := 11) (v := .pointer (some ⟨ga, oa + m * 2, none⟩)) rfl (by kernel_rfl) (by kernel_rfl) (by kernel_rfl) (fun _ _ _ h => h) (Or.inl ⟨by rfl, by (intro w hS; go_simp)⟩) hHeld ?_
          simp only [Act.put, List.getElem_toArray, List.getElem_cons_succ, List.getElem_cons_zero, List.setIfInBounds_toArray, List.set_cons_zero, List.set_cons_succ]
          refine wpAnyH_take (i := 12) (v := .pointer (some ⟨ga, oa + m * 2 + 1, none⟩)) rfl (by kernel_rfl) (by kernel_rfl) (by kernel_rfl) (fun _ _ _ h => h) (Or.inl ⟨by rfl, by (intro w hS; go_simp)⟩) hHeld ?_
          simp only [Act.put, List.getElem_toArray, List.getElem_cons_succ, List.getElem_cons_zero, List.setIfInBounds_toArray, List.set_cons_zero, List.set_cons_succ]
          refine wpAnyH_take (i := 13) (v := .string V) rfl (by kernel_rfl) (by kernel_rfl) (by kernel_rfl) (fun _ _ _ h => h) (Or.inl ⟨by rfl, by (intro w hS; obtain ⟨s0, s1, s2⟩ := hS; go_simp)⟩) hHeld ?_
          simp only [Act.put, List.getElem_toArray, List.getElem_cons_succ, List.getElem_cons_zero, List.setIfInBounds_toArray, List.set_cons_zero, List.set_cons_succ]
          refine wpAnyH_take (i := 14) (v := .agg #[.string U, .string V]) rfl (by kernel_rfl) (by kernel_rfl) (by kernel_rfl) (fun _ _ _ h => h) (Or.inl ⟨by rfl, by (intro w hS; go_simp)⟩) hHeld ?_
          simp only [Act.put, List.getElem_toArray, List.getElem_cons_succ, List.getElem_cons_zero, List.setIfInBounds_toArray, List.set_cons_zero, List.set_cons_succ]
          refine wpAnyH_ready (rs := [1, 15]) (by kernel_rfl) (by simp) ?_
          refine AllReadyH.cons rfl (fun K hK => ?_) (AllReadyH.cons rfl (fun K hK => ?_) AllReadyH.nil)
          · try simp only [List.getElem_toArray, List.getElem_cons_succ, List.getElem_cons_zero]
            go_simp
            refine hK.out _ _ ⟨t1, d0, d1⟩ (fun hHeld => ?_)
            clear hK K
            try simp only [Act.put, List.getElem_toArray, List.getElem_cons_succ, List.getElem_cons_zero, List.setIfInBounds_toArray, List.set_cons_zero, List.set_cons_succ]
            refine wpAnyH_ready (rs := [15]) (by kernel_rfl) (by simp) ?_
            refine AllReadyH.cons rfl (fun K hK => ?_) AllReadyH.nil
            try simp only [List.getElem_toArray, List.getElem_cons_succ, List.getElem_cons_zero]
            go_simp
            refine hK.out _ _ ⟨(World.cell?_alloc_lt _ _ _ (by show rx < wr.heap.size; omega)).trans t1, (World.cell?_alloc_lt _ _ _ (by show ga < wr.heap.size; omega)).trans d0, (World.cell?_alloc_lt _ _ _ (by show ga < wr.heap.size; omega)).trans d1⟩ (fun hHeld => ?_)
            clear hK K
            try simp only [Act.put, List.getElem_toArray, List.getElem_cons_succ, List.getElem_cons_zero, List.setIfInBounds_toArray, List.set_cons_zero, List.set_cons_succ]
            refine wpAnyH_ready (rs := [16]) (by kernel_rfl) (by simp) ?_
            refine AllReadyH.cons rfl (fun K hK => ?_) AllReadyH.nil
            refine step_append_lies _ (by rfl) _ _ _ (by rfl) (r + 1) 84 i0 _ 2 32 Tryz.underlying81 hi hz0 hz1 hz2 rfl (by omega) v m (attrV (al.take m)) (by rfl) (by exact World.ownsRow.alloc hown _) _ 1 _ [.string U, .string V] (by rfl) rfl (by intro j u hu; exact news_at _ _ _ _ (by simp) j u hu) (by intro u hu; simp at hu; rcases hu with rfl | rfl <;> rfl) (by omega) hbig (by omega) (by simp; omega) _ rfl ?_
            intro g9 cap9 w9 hown9 hgr9 hat9 hlt9
            have B9 : Below (r + 1) wr w9 := Below.grown (by first | exact ((Below.refl _ _).alloc (by omega) _).drew | exact ((Below.refl _ _).drew).alloc (by exact hrl) _ | exact (Below.refl _ _).alloc (by omega) _) hgr9 (by simp; omega) hbas.out
            have y2 := (B9.cell (p := ⟨rx, _, none⟩) hbr).trans t1
            have y0 := (B9.cell (p := ⟨ga, _, none⟩) hgr).trans d0
            have y1 := (B9.cell (p := ⟨ga, _, none⟩) hgr).trans d1
            have y3 := (B9.cell (p := ⟨r, 1, none⟩) (Nat.lt_succ_self r)).trans x2
            have yf := (B9.frozen (p := ⟨r, 1, none⟩) (Nat.lt_succ_self r)).trans xf
            refine hK.out _ _ ⟨y2, y0, y1⟩ (fun hHeld => ?_)
            clear hK K
            try simp only [Act.put, List.getElem_toArray, List.getElem_cons_succ, List.getElem_cons_zero, List.setIfInBounds_toArray, List.set_cons_zero, List.set_cons_succ]
            refine wpAnyH_take (i := 17) (v := .pointer (some ⟨r, 1, none⟩)) rfl (by kernel_rfl) (by kernel_rfl) (by kernel_rfl) (fun _ _ _ h => h) (Or.inl ⟨by rfl, by (intro w hS; go_simp)⟩) hHeld ?_
            try simp only [Act.put, List.getElem_toArray, List.getElem_cons_succ, List.getElem_cons_zero, List.setIfInBounds_toArray, List.set_cons_zero, List.set_cons_succ]
            refine wpAnyH_ready (rs := [18]) (by kernel_rfl) (by simp) ?_
            refine AllReadyH.cons rfl (fun K hK => ?_) AllReadyH.nil
            try simp only [List.getElem_toArray, List.getElem_cons_succ, List.getElem_cons_zero]
            go_simp
            refine hK.out _ _ ⟨(World.cell?_setCell_other _ _ _ _ (fun e => ne1 (congrArg Addr.block e))).trans y2, (World.cell?_setCell_other _ _ _ _ (fun e => ne3 (congrArg Addr.block e))).trans y0, (World.cell?_setCell_other _ _ _ _ (fun e => ne3 (congrArg Addr.block e))).trans y1⟩ (fun hHeld => ?_)
            clear hK K
            try simp only [Act.put, List.getElem_toArray, List.getElem_cons_succ, List.getElem_cons_zero, List.setIfInBounds_toArray, List.set_cons_zero, List.set_cons_succ]
            refine wpAnyH_done (by kernel_rfl) ?_ _
            have HN := Lib.hid (show RfI W1 r N X pa fi nx at1 al (w9.setCell ⟨r, 1, none⟩ (.slice (some ⟨g9, 0, none⟩) (m + 1) cap9)) (m + 1) (.slice (some ⟨g9, 0, none⟩) (m + 1) cap9) from by
              refine ⟨?_, ?_, ?_⟩
              · exact (HJ.out.below.trans (B9.mono (by omega))).setCell (p := ⟨r, 1, none⟩) (Nat.le_refl r) _
              · exact (HJ.out.blk.below B9 (Nat.lt_succ_self r)).set 1 _
              · rw [HTQ.out, attrV_snoc, ← HUV.out.1, ← HUV.out.2]
                exact ownsRow_setCell_below hown9 (Nat.lt_succ_self r) _)
            clear hown9 hgr9 y2 y0 y1 y3 yf hHeld
            go_wp2
            go_roundw
            case rel => exact ⟨m + 1, _, by omega, by go_num, by first | exact HN | exact Lib.hid ⟨HN.out.below.drew, HN.out.blk.below (Below.refl _ _).drew HN.out.blk.lt, own_below HN.out.own (Below.refl _ _).drew⟩⟩
            case measure => simp [intOf]; omega
          · try simp only [List.getElem_toArray, List.getElem_cons_succ, List.getElem_cons_zero]
            go_simp
            refine hK.out _ _ ⟨(World.cell?_alloc_lt _ _ _ (by show rx < wr.heap.size; omega)).trans t1, (World.cell?_alloc_lt _ _ _ (by show ga < wr.heap.size; omega)).trans d0, (World.cell?_alloc_lt _ _ _ (by show ga < wr.heap.size; omega)).trans d1⟩ (fun hHeld => ?_)
            clear hK K
            try simp only [Act.put, List.getElem_toArray, List.getElem_cons_succ, List.getElem_cons_zero, List.setIfInBounds_toArray, List.set_cons_zero, List.set_cons_succ]
            refine wpAnyH_ready (rs := [1]) (by kernel_rfl) (by simp) ?_
            refine AllReadyH.cons rfl (fun K hK => ?_) AllReadyH.nil
            try simp only [List.getElem_toArray, List.getElem_cons_succ, List.getElem_cons_zero]
            go_simp
            refine hK.out _ _ hHeld (fun hHeld => ?_)
            clear hK K
            try simp only [Act.put, List.getElem_toArray, List.getElem_cons_succ, List.getElem_cons_zero, List.setIfInBounds_toArray, List.set_cons_zero, List.set_cons_succ]
            refine wpAnyH_ready (rs := [16]) (by kernel_rfl) (by simp) ?_
            refine AllReadyH.cons rfl (fun K hK => ?_) AllReadyH.nil
            refine step_append_lies _ (by rfl) _ _ _ (by rfl) (r + 1) 84 i0 _ 2 32 Tryz.underlying81 hi hz0 hz1 hz2 rfl (by omega) v m (attrV (al.take m)) (by rfl) (by exact World.ownsRow.alloc hown _) _ 1 _ [.string U, .string V] (by rfl) rfl (by intro j u hu; exact news_at _ _ _ _ (by simp) j u hu) (by intro u hu; simp at hu; rcases hu with rfl | rfl <;> rfl) (by omega) hbig (by omega) (by simp; omega) _ rfl ?_
            intro g9 cap9 w9 hown9 hgr9 hat9 hlt9
            have B9 : Below (r + 1) wr w9 := Below.grown (by first | exact ((Below.refl _ _).alloc (by omega) _).drew | exact ((Below.refl _ _).drew).alloc (by exact hrl) _ | exact (Below.refl _ _).alloc (by omega) _) hgr9 (by simp; omega) hbas.out
            have y2 := (B9.cell (p := ⟨rx, _, none⟩) hbr).trans t1
            have y0 := (B9.cell (p := ⟨ga, _, none⟩) hgr).trans d0
            have y1 := (B9.cell (p := ⟨ga, _, none⟩) hgr).trans d1
            have y3 := (B9.cell (p := ⟨r, 1, none⟩) (Nat.lt_succ_self r)).trans x2
            have yf := (B9.frozen (p := ⟨r, 1, none⟩) (Nat.lt_succ_self r)).trans xf
            refine hK.out _ _ ⟨y2, y0, y1⟩ (fun hHeld => ?_)
            clear hK K
            try simp only [Act.put, List.getElem_toArray, List.getElem_cons_succ, List.getElem_cons_zero, List.setIfInBounds_toArray, List.set_cons_zero, List.set_cons_succ]
            refine wpAnyH_take (i := 17) (v := .pointer (some ⟨r, 1, none⟩)) rfl (by kernel_rfl) (by kernel_rfl) (by kernel_rfl) (fun _ _ _ h => h) (Or.inl ⟨by rfl, by (intro w hS; go_simp)⟩) hHeld ?_
            try simp only [Act.put, List.getElem_toArray, List.getElem_cons_succ, List.getElem_cons_zero, List.setIfInBounds_toArray, List.set_cons_zero, List.set_cons_succ]
            refine wpAnyH_ready (rs := [18]) (by kernel_rfl) (by simp) ?_
            refine AllReadyH.cons rfl (fun K hK => ?_) AllReadyH.nil
            try simp only [List.getElem_toArray, List.getElem_cons_succ, List.getElem_cons_zero]
            go_simp
            refine hK.out _ _ ⟨(World.cell?_setCell_other _ _ _ _ (fun e => ne1 (congrArg Addr.block e))).trans y2, (World.cell?_setCell_other _ _ _ _ (fun e => ne3 (congrArg Addr.block e))).trans y0, (World.cell?_setCell_other _ _ _ _ (fun e => ne3 (congrArg Addr.block e))).trans y1⟩ (fun hHeld => ?_)
            clear hK K
            try simp only [Act.put, List.getElem_toArray, List.getElem_cons_succ, List.getElem_cons_zero, List.setIfInBounds_toArray, List.set_cons_zero, List.set_cons_succ]
            refine wpAnyH_done (by kernel_rfl) ?_ _
            have HN := Lib.hid (show RfI W1 r N X pa fi nx at1 al (w9.setCell ⟨r, 1, none⟩ (.slice (some ⟨g9, 0, none⟩) (m + 1) cap9)) (m + 1) (.slice (some ⟨g9, 0, none⟩) (m + 1) cap9) from by
              refine ⟨?_, ?_, ?_⟩
              · exact (HJ.out.below.trans (B9.mono (by omega))).setCell (p := ⟨r, 1, none⟩) (Nat.le_refl r) _
              · exact (HJ.out.blk.below B9 (Nat.lt_succ_self r)).set 1 _
              · rw [HTQ.out, attrV_snoc, ← HUV.out.1, ← HUV.out.2]
                exact ownsRow_setCell_below hown9 (Nat.lt_succ_self r) _)
            clear hown9 hgr9 y2 y0 y1 y3 yf hHeld
            go_wp2
            go_roundw
            case rel => exact ⟨m + 1, _, by omega, by go_num, by first | exact HN | exact Lib.hid ⟨HN.out.below.drew, HN.out.blk.below (Below.refl _ _).drew HN.out.blk.lt, own_below HN.out.own (Below.refl _ _).drew⟩⟩
            case measure => simp [intOf]; omega
        · obtain rfl : m = al.length := by omega
          have how := HJ.out.own
          rw [List.take_length] at how
          obtain ⟨Av, cv, hv, _, _, _, _⟩ := own_slice how
          subst hv
          have hbW : Below wo.heap.size wo wr := HB1.out.2.2.trans (HJ.out.below.mono (by omega))
          have hwr := hbW.size
          have hwo := HI.out.out.lt
          have q0 : wr.cell? ⟨w.heap.size + 1 + 1, 0, none⟩ = some (.slice Ao po.length co) := (HI.out.out.below hbW (by omega)).at_ 0
          have b0 : wr.cell? ⟨r, 0, none⟩ = some (.string N) := HJ.out.blk.at_ 0
          have b1 : wr.cell? ⟨r, 1, none⟩ = some (.slice Av al.length cv) := HJ.out.blk.at_ 1
          have b2 : wr.cell? ⟨r, 2, none⟩ = some (.string X) := HJ.out.blk.at_ 2
          have b3 : wr.cell? ⟨r, 3, none⟩ = some (.int .i64 pa) := HJ.out.blk.at_ 3
          have b4 : wr.cell? ⟨r, 4, none⟩ = some (.int .i64 fi) := HJ.out.blk.at_ 4
          have b5 : wr.cell? ⟨r, 5, none⟩ = some (.int .i64 nx) := HJ.out.blk.at_ 5
          have b6 : wr.cell? ⟨r, 6, none⟩ = some (.int .i64 at1) := HJ.out.blk.at_ 6
          have HRW := Lib.hid (HI.out.row.below hbW)
          have HOW := Lib.hid how
          have HBW := Lib.hid hbW
          have HBL := Lib.hid (HI.out.below.trans (hbW.mono HI.out.below.size))
          have hpl : po.length ≤ k := Nat.le_of_eq HI.out.len
          obtain ⟨i0, hi, hz0, hz1, hz2⟩ := info_parts infoRN5
          have hbig : po.length + 1 ≤ maxLen := by unfold maxLen; omega
          have hw3 : w.heap.size + 3 ≤ wr.heap.size := by omega
          have hkn : po.length ≤ 1048576 := by omega
          clear how hbW
          go_wp2_with (at_builtin; (refine wpList_append_own _ rfl _ _ _ rfl (w.heap.size + 3) 83 i0 _ 7 88 Tryz.underlying23 hi hz0 hz1 hz2 rfl (by omega) (.slice Ao po.length co) po.length (po.flatMap rndV) (by rfl) (by exact HRW.out.own.alloc _) _ 1 _ [.string N, .slice Av al.length cv, .string X, .int .i64 pa, .int .i64 fi, .int .i64 nx, .int .i64 at1] (by rfl) rfl (by intro j u hu; exact news_at _ _ _ _ (by simp) j u hu) (by intro u hu; simp at hu; rcases hu with rfl | rfl | rfl | rfl | rfl | rfl | rfl <;> rfl) hbig (by omega) (by simp; omega) ?_); intro v3 w3 hown3 hgr3 _; obtain ⟨A3, c3, hv3, _, _, _, _⟩ := own_slice hown3; subst hv3; have B3 := Lib.hid (Below.grown ((Below.refl (w.heap.size + 3) wr).alloc hw3 _) hgr3 (by simp; omega) (fun k hk => (HRW.out.own.lt k hk).1)); have q1 := (B3.out.cell (p := ⟨w.heap.size + 1 + 1, 0, none⟩) (Nat.lt_succ_self _)).trans q0; have qf := (B3.out.frozen (p := ⟨w.heap.size + 1 + 1, 0, none⟩) (Nat.lt_succ_self _)).trans ((HI.out.out.below HBW.out (by omega)).fz 0))
          have HRO := Lib.hid (show RfO w (some ⟨g, o, none⟩) c xs (w3.setCell ⟨w.heap.size + 1 + 1, 0, none⟩ (.slice A3 (po.length + 1) c3)) (k + 1) (.slice A3 (po.length + 1) c3) (po ++ [(⟨nm, al, tx, pa, fi, nx, at1⟩, .slice Av al.length cv)]) from by
            have hb3 := B3.out.mono (show w.heap.size ≤ w.heap.size + 3 by omega)
            have hlow : ∀ {q : Nat} {ty : TypeId} {cs : Array Value}, IsBlk wo q ty cs → q < w.heap.size + 3 → IsBlk w3 q ty cs := fun hb hq => (hb.below HBW.out hb.lt).below B3.out hq
            refine ⟨(HBL.out.trans hb3).setCell (p := ⟨w.heap.size + 1 + 1, 0, none⟩) (by show w.heap.size ≤ w.heap.size + 1 + 1; omega) _, (hlow HI.out.box (by omega)).far (by show w.heap.size ≠ w.heap.size + 1 + 1; omega) _, (hlow HI.out.res (by omega)).far (by show w.heap.size + 1 ≠ w.heap.size + 1 + 1; omega) _, (hlow HI.out.out (by omega)).set 0 _, ?_, by rw [List.length_append, HI.out.len]; rfl, ?_⟩
            · refine NRow.set (NRow.snoc (HRW.out.below ((Below.refl _ _).alloc (Nat.le_refl _) _)) (own_less (own_below HOW.out ((Below.refl _ _).alloc (Nat.le_refl _) _)) (by omega)) hgr3 ?_) (by omega) _ _
              unfold rndV
              rw [← HNX.out.1, ← HNX.out.2]
              exact hown3
            · rw [HT.out, ← HI.out.eq, List.map_append]; rfl)
          clear hown3 hgr3
          go_wp2
          go_roundw
          case rel => exact ⟨k + 1, _, _, by go_num, HLT.out, HRO⟩
          case measure => have := HLT.out; simp [intOf]; omega
    · obtain rfl : k = xs.length := by omega
      have HE := Lib.hid (show NRow (w.heap.size + 3) wo (.slice Ao po.length co) po ∧ po.map (·.1) = xs.map Nd.n ∧ Below w.heap.size w wo from ⟨HI.out.row, by have := HI.out.eq; rw [List.take_length] at this; exact this, HI.out.below⟩)
      have q0 : wo.cell? ⟨w.heap.size + 1 + 1, 0, none⟩ = some (.slice Ao po.length co) := HI.out.out.at_ 0
      have p0 : wo.cell? ⟨w.heap.size + 1, 0, none⟩ = some (.slice none 0 0) := HI.out.res.at_ 0
      have pf : wo.frozen? ⟨w.heap.size + 1, 0, none⟩ = false := HI.out.res.fz 0
      go_wp2
      exact bodyPost_ret (v := .agg #[(.slice Ao po.length co)]) (by simp [results, Tryz.results11, go_sem, p0]) rfl ⟨.slice Ao po.length co, po, rfl, (NRow.set HE.out.1 (by omega) _ _).less (by omega), HE.out.2.1, HE.out.2.2.setCell (p := ⟨w.heap.size + 1, 0, none⟩) (by show w.heap.size ≤ w.heap.size + 1; omega) _⟩
end Go.Proofs.YtgidpcfaeekjhaaGreatDoor
namespace Go.Proofs.YtgidpcfaeekjhaaGreatDoor
open Go.RowKit

theorem rnd_at (ps : List (Tr.N × Value)) (k j : Nat) (hk : k < ps.length) (hj : j < 7) : (ps.flatMap rndV)[k * 7 + j]? = (rndV ps[k])[j]? := flat_at rndV 7 (fun _ => rfl) ps k j hk hj

theorem two_new (w : World) (cs cs2 : Array Value) (t t2 : TypeId) : IsBlk (((w.alloc (.cells cs t)).alloc (.cells cs2 t2)).drew) (w.heap.size + 1) t2 cs2 := by
  have h := IsBlk.new (w.alloc (.cells cs t)) t2 cs2
  rw [show (w.alloc (.cells cs t)).heap.size = w.heap.size + 1 by simp] at h
  exact h
theorem one_new (w : World) (cs cs2 : Array Value) (t t2 : TypeId) : IsBlk (((w.alloc (.cells cs t)).alloc (.cells cs2 t2)).drew) w.heap.size t cs := by
  have h : IsBlk ((w.alloc (.cells cs t)).alloc (.cells cs2 t2)) w.heap.size t cs := (IsBlk.new w t cs).below ((Below.refl _ _).alloc (Nat.le_refl _) (.cells cs2 t2)) (by simp)
  exact h
theorem reads_own5 {w : World} {B : Nat} {A : Option Addr} {cap : Nat} {al : List (List UInt8 × List UInt8)} (h : OwnA5 B w (.slice A al.length cap) al) : Reads2o w w.heap.size A al := fun h0 => by
  obtain ⟨A3, c3, hv, hc, _⟩ := own_slice h
  injection hv with e1 _ _
  subst e1
  obtain ⟨g, rfl, hg, _, hcc⟩ := hc h0
  have hf := fun k hk j hj => flat_at (fun a : List UInt8 × List UInt8 => [Value.string ⟨a.1.toArray⟩, .string ⟨a.2.toArray⟩]) 2 (fun _ => rfl) al k j hk hj
  refine ⟨g, 0, rfl, hg, fun k hk => ?_⟩
  rw [Nat.zero_add]
  exact ⟨hcc _ _ (hf k hk 0 (by omega)), hcc _ _ (hf k hk 1 (by omega))⟩
set_option maxHeartbeats 4000000 in
set_option maxRecDepth 100000 in
theorem lsame_any (w : World) (A A2 : Option Addr) (c c2 Ba Bb : Nat) (pa pb : List (Tr.N × Value)) (ha : NRow Ba w (.slice A pa.length c) pa) (hb : NRow Bb w (.slice A2 pb.length c2) pb) (hn : pa.length ≤ 1048576) (hlen : pa.length = pb.length) :
    Calls Tryz.prog 10 #[.agg #[.slice A pa.length c], .agg #[.slice A2 pb.length c2], .bool false] w fun e w' => e = .returned (.bool (Tr.same (pa.map (·.1)) (pb.map (·.1)))) ∧ Below w.heap.size w w' := by
  have HA := Lib.hid ha
  have HB := Lib.hid hb
  obtain ⟨n, hn1⟩ : ∃ n, n = pb.length := ⟨_, rfl⟩
  have hn2 : pa.length = n := by omega
  have HN := Lib.hid (And.intro hn2 hn1)
  rw [hn2, ← hn1]
  have hnb : (n : Int) ≤ 1048576 := by omega
  clear hlen hn hn1 hn2 ha hb
  obtain ⟨R, hR⟩ : ∃ R, R = Tr.same (pa.map (·.1)) (pb.map (·.1)) := ⟨_, rfl⟩
  rw [← hR]
  have HR := Lib.hid hR
  clear hR
  obtain ⟨W0, hW0⟩ : ∃ W0, W0 = (w.alloc (.cells #[.slice A n c] 25)).alloc (.cells #[.slice A2 n c2] 25) := ⟨_, rfl⟩
  have hz : (w.alloc (.cells #[.slice A n c] 25)).heap.size = w.heap.size + 1 := by simp
  have HB0 := Lib.hid (show IsBlk W0 w.heap.size 25 #[.slice A n c] ∧ IsBlk W0 (w.heap.size + 1) 25 #[.slice A2 n c2] ∧ Below w.heap.size w W0 from by
    rw [hW0]
    exact ⟨(IsBlk.new w _ _).below ((Below.refl _ _).alloc (Nat.le_refl _) _) (by simp), by rw [← hz]; exact IsBlk.new _ _ _, ((Below.refl _ _).alloc (Nat.le_refl _) _).alloc (by simp) _⟩)
  have HW := Lib.hid hW0
  clear hW0 hz
  go_enter Tryz.func10, Tryz.ntmps10
  go_wp2
  rw [← HW.out]
  go_loopw [7] (fun i wr => ∃ k : Nat, k ≤ n ∧ i = .int .i64 k ∧ Hid (Below W0.heap.size W0 wr ∧ R = Tr.same ((pa.map (·.1)).drop k) ((pb.map (·.1)).drop k))) (fun i _ => n - (intOf i).toNat)
  case atStart => exact ⟨0, Nat.zero_le _, rfl, Lib.hid ⟨Below.refl _ _, HR.out⟩⟩
  case round =>
    obtain ⟨k, hk, rfl, HI⟩ := hrel
    have t0 : wr.cell? ⟨w.heap.size, 0, none⟩ = some (.slice A n c) := (HB0.out.1.below HI.out.1 HB0.out.1.lt).at_ 0
    have t1 : wr.cell? ⟨w.heap.size + 1, 0, none⟩ = some (.slice A2 n c2) := (HB0.out.2.1.below HI.out.1 HB0.out.2.1.lt).at_ 0
    by_cases hlt : k < n
    · have hka : k < pa.length := by have := HN.out.1; omega
      have hkb : k < pb.length := by have := HN.out.2; omega
      have hbw := HB0.out.2.2.trans (HI.out.1.mono HB0.out.2.2.size)
      have GA := HA.out.below hbw
      have GB := HB.out.below hbw
      have hoa := GA.own
      have hob := GB.own
      rw [HN.out.1] at hoa
      rw [← HN.out.2] at hob
      obtain ⟨g, c', hA, _, hg⟩ := hoa.form (by omega)
      obtain ⟨g2, c2', hA2, _, hg2⟩ := hob.form (by omega)
      injection hA with hA _ hcc
      injection hA2 with hA2 _ hcc2
      subst hA hcc hA2 hcc2
      have hatta := GA.att _ (List.getElem_mem hka)
      have hattb := GB.att _ (List.getElem_mem hkb)
      obtain ⟨V1, cv1, hv1, _, _, hc1, hc1m⟩ := own_slice hatta
      obtain ⟨V2, cv2, hv2, _, _, hc2, hc2m⟩ := own_slice hattb
      have HST := Lib.hid (show R = (Tr.same1 pa[k].1 pb[k].1 && Tr.same ((pa.map (·.1)).drop (k + 1)) ((pb.map (·.1)).drop (k + 1))) from by
        rw [HI.out.2, Tr.same_at (by rw [List.length_map]; exact hka) (by rw [List.length_map]; exact hkb), List.getElem_map, List.getElem_map])
      have a0 := own_cell hoa (rnd_at pa k 0 hka (by omega))
      have a1 := own_cell hoa (rnd_at pa k 1 hka (by omega))
      have a2 := own_cell hoa (rnd_at pa k 2 hka (by omega))
      have a3 := own_cell hoa (rnd_at pa k 3 hka (by omega))
      have a4 := own_cell hoa (rnd_at pa k 4 hka (by omega))
      have a5 := own_cell hoa (rnd_at pa k 5 hka (by omega))
      have a6 := own_cell hoa (rnd_at pa k 6 hka (by omega))
      have b0 := own_cell hob (rnd_at pb k 0 hkb (by omega))
      have b1 := own_cell hob (rnd_at pb k 1 hkb (by omega))
      have b2 := own_cell hob (rnd_at pb k 2 hkb (by omega))
      have b3 := own_cell hob (rnd_at pb k 3 hkb (by omega))
      have b4 := own_cell hob (rnd_at pb k 4 hkb (by omega))
      have b5 := own_cell hob (rnd_at pb k 5 hkb (by omega))
      have b6 := own_cell hob (rnd_at pb k 6 hkb (by omega))
      have hlt' : (k : Int) < (n : Int) := by omega
      have HAT := Lib.hid (And.intro hatta hattb)
      clear hatta hattb GA GB hoa hob hlt
      generalize pa[k] = x at *
      generalize pb[k] = y at *
      obtain ⟨⟨nm1, al1, tx1, pa1, fi1, nx1, at1⟩, av1⟩ := x
      obtain ⟨⟨nm2, al2, tx2, pa2, fi2, nx2, at2⟩, av2⟩ := y
      simp only at hv1 hv2 hc1 hc2
      subst hv1 hv2
      obtain ⟨N1, hN1⟩ : ∃ N : ByteArray, N = ⟨nm1.toArray⟩ := ⟨_, rfl⟩
      obtain ⟨N2, hN2⟩ : ∃ N : ByteArray, N = ⟨nm2.toArray⟩ := ⟨_, rfl⟩
      obtain ⟨X1, hX1⟩ : ∃ N : ByteArray, N = ⟨tx1.toArray⟩ := ⟨_, rfl⟩
      obtain ⟨X2, hX2⟩ : ∃ N : ByteArray, N = ⟨tx2.toArray⟩ := ⟨_, rfl⟩
      have a0' : wr.cell? ⟨g, k * 7, none⟩ = some (.string N1) := by rw [hN1]; exact a0
      have a1' : wr.cell? ⟨g, k * 7 + 1, none⟩ = some (.slice V1 al1.length cv1) := a1
      have a2' : wr.cell? ⟨g, k * 7 + 2, none⟩ = some (.string X1) := by rw [hX1]; exact a2
      have a3' : wr.cell? ⟨g, k * 7 + 3, none⟩ = some (.int .i64 pa1) := a3
      have a4' : wr.cell? ⟨g, k * 7 + 4, none⟩ = some (.int .i64 fi1) := a4
      have a5' : wr.cell? ⟨g, k * 7 + 5, none⟩ = some (.int .i64 nx1) := a5
      have a6' : wr.cell? ⟨g, k * 7 + 6, none⟩ = some (.int .i64 at1) := a6
      have b0' : wr.cell? ⟨g2, k * 7, none⟩ = some (.string N2) := by rw [hN2]; exact b0
      have b1' : wr.cell? ⟨g2, k * 7 + 1, none⟩ = some (.slice V2 al2.length cv2) := b1
      have b2' : wr.cell? ⟨g2, k * 7 + 2, none⟩ = some (.string X2) := by rw [hX2]; exact b2
      have b3' : wr.cell? ⟨g2, k * 7 + 3, none⟩ = some (.int .i64 pa2) := b3
      have b4' : wr.cell? ⟨g2, k * 7 + 4, none⟩ = some (.int .i64 fi2) := b4
      have b5' : wr.cell? ⟨g2, k * 7 + 5, none⟩ = some (.int .i64 nx2) := b5
      have b6' : wr.cell? ⟨g2, k * 7 + 6, none⟩ = some (.int .i64 at2) := b6
      have HNX := Lib.hid (And.intro (And.intro hN1 hN2) (And.intro hX1 hX2))
      clear a0 a1 a2 a3 a4 a5 a6 b0 b1 b2 b3 b4 b5 b6 hN1 hN2 hX1 hX2
      obtain ⟨Z1, hZ1⟩ : ∃ Z : Array Value, Z = #[.string N1, .slice V1 al1.length cv1, .string X1, .int .i64 pa1, .int .i64 fi1, .int .i64 nx1, .int .i64 at1] := ⟨_, rfl⟩
      go_upto_region 6 with fail
      go_cut [8, 9] from 18 to 104 (fun s8 s9 wx => ∃ r1 r2, s8 = .pointer (some ⟨r1, 0, none⟩) ∧ s9 = .pointer (some ⟨r2, 0, none⟩) ∧ Below wr.heap.size wr wx ∧
        IsBlk wx r1 83 #[.string N1, .slice V1 al1.length cv1, .string X1, .int .i64 pa1, .int .i64 fi1, .int .i64 nx1, .int .i64 at1] ∧ IsBlk wx r2 83 #[.string N2, .slice V2 al2.length cv2, .string X2, .int .i64 pa2, .int .i64 fi2, .int .i64 nx2, .int .i64 at2])
      case first =>
        have n0 := World.new_ne wr _ t0
        have n1 := World.new_ne wr _ t1
        have n2 := World.new_ne wr _ a0'
        have n3 := World.new_ne wr _ a1'
        have n4 := World.new_ne wr _ a2'
        have n5 := World.new_ne wr _ a3'
        have n6 := World.new_ne wr _ a4'
        have n7 := World.new_ne wr _ a5'
        have n8 := World.new_ne wr _ a6'
        have n9 := World.new_ne wr _ b0'
        have n10 := World.new_ne wr _ b1'
        have n11 := World.new_ne wr _ b2'
        have n12 := World.new_ne wr _ b3'
        have n13 := World.new_ne wr _ b4'
        have n14 := World.new_ne wr _ b5'
        have n15 := World.new_ne wr _ b6'
        go_region_held3 (fun w' => w'.cell? ⟨w.heap.size, 0, none⟩ = some (.slice (some ⟨g, 0, none⟩) n c) ∧ w'.cell? ⟨w.heap.size + 1, 0, none⟩ = some (.slice (some ⟨g2, 0, none⟩) n c2) ∧ w'.cell? ⟨g, k * 7, none⟩ = some (.string N1) ∧ w'.cell? ⟨g, k * 7 + 1, none⟩ = some (.slice V1 al1.length cv1) ∧ w'.cell? ⟨g, k * 7 + 2, none⟩ = some (.string X1) ∧ w'.cell? ⟨g, k * 7 + 3, none⟩ = some (.int .i64 pa1) ∧ w'.cell? ⟨g, k * 7 + 4, none⟩ = some (.int .i64 fi1) ∧ w'.cell? ⟨g, k * 7 + 5, none⟩ = some (.int .i64 nx1) ∧ w'.cell? ⟨g, k * 7 + 6, none⟩ = some (.int .i64 at1) ∧ w'.cell? ⟨g2, k * 7, none⟩ = some (.string N2) ∧ w'.cell? ⟨g2, k * 7 + 1, none⟩ = some (.slice V2 al2.length cv2) ∧ w'.cell? ⟨g2, k * 7 + 2, none⟩ = some (.string X2) ∧ w'.cell? ⟨g2, k * 7 + 3, none⟩ = some (.int .i64 pa2) ∧ w'.cell? ⟨g2, k * 7 + 4, none⟩ = some (.int .i64 fi2) ∧ w'.cell? ⟨g2, k * 7 + 5, none⟩ = some (.int .i64 nx2) ∧ w'.cell? ⟨g2, k * 7 + 6, none⟩ = some (.int .i64 at2)) (go_keep) (fail)
        all_goals
          go_wp2_with fail
          go_meet
          first
            | exact ⟨wr.heap.size, wr.heap.size + 1, rfl, rfl, (((Below.refl _ _).alloc (Nat.le_refl _) _).alloc (by simp) _).drew, one_new _ _ _ _ _, two_new _ _ _ _ _⟩
            | exact ⟨wr.heap.size + 1, wr.heap.size, rfl, rfl, (((Below.refl _ _).alloc (Nat.le_refl _) _).alloc (by simp) _).drew, two_new _ _ _ _ _, one_new _ _ _ _ _⟩
      case rest =>
        obtain ⟨r1, r2, rfl, rfl, hB, k1, k2⟩ := hcut
        have p0 : wc.cell? ⟨r1, 0, none⟩ = some (.string N1) := k1.at_ 0
        have p1 : wc.cell? ⟨r1, 1, none⟩ = some (.slice V1 al1.length cv1) := k1.at_ 1
        have p2 : wc.cell? ⟨r1, 2, none⟩ = some (.string X1) := k1.at_ 2
        have p3 : wc.cell? ⟨r1, 3, none⟩ = some (.int .i64 pa1) := k1.at_ 3
        have p4 : wc.cell? ⟨r1, 4, none⟩ = some (.int .i64 fi1) := k1.at_ 4
        have p5 : wc.cell? ⟨r1, 5, none⟩ = some (.int .i64 nx1) := k1.at_ 5
        have p6 : wc.cell? ⟨r1, 6, none⟩ = some (.int .i64 at1) := k1.at_ 6
        have q0 : wc.cell? ⟨r2, 0, none⟩ = some (.string N2) := k2.at_ 0
        have q1 : wc.cell? ⟨r2, 1, none⟩ = some (.slice V2 al2.length cv2) := k2.at_ 1
        have q2 : wc.cell? ⟨r2, 2, none⟩ = some (.string X2) := k2.at_ 2
        have q3 : wc.cell? ⟨r2, 3, none⟩ = some (.int .i64 pa2) := k2.at_ 3
        have q4 : wc.cell? ⟨r2, 4, none⟩ = some (.int .i64 fi2) := k2.at_ 4
        have q5 : wc.cell? ⟨r2, 5, none⟩ = some (.int .i64 nx2) := k2.at_ 5
        have q6 : wc.cell? ⟨r2, 6, none⟩ = some (.int .i64 at2) := k2.at_ 6
        have HBC := Lib.hid (HI.out.1.trans (hB.mono HI.out.1.size))
        have HBB := Lib.hid hB
        have HK := Lib.hid (And.intro k1 k2)
        have HT := Lib.hid (And.intro t0 t1)
        clear a0' a1' a2' a3' a4' a5' a6' b0' b1' b2' b3' b4' b5' b6' hB k1 k2 t0 t1
        have hS1 : R = ((nm1 == nm2 && al1 == al2 && tx1 == tx2 && pa1 == pa2 && fi1 == fi2 && nx1 == nx2) && Tr.same ((pa.map (·.1)).drop (k + 1)) ((pb.map (·.1)).drop (k + 1))) := HST.out
        have HS1 := Lib.hid hS1
        clear hS1
        by_cases e1 : nm1 = nm2
        · obtain rfl : N1 = N2 := by rw [HNX.out.1.1, HNX.out.1.2, e1]
          by_cases e3 : tx1 = tx2
          · obtain rfl : X1 = X2 := by rw [HNX.out.2.1, HNX.out.2.2, e3]
            by_cases e4 : pa1 = pa2
            · subst e4
              by_cases e5 : fi1 = fi2
              · subst e5
                by_cases e6 : nx1 = nx2
                · subst e6
                  by_cases e7 : al1.length = al2.length
                  · obtain ⟨m, hm⟩ : ∃ m, m = al2.length := ⟨_, rfl⟩
                    have HM := Lib.hid (And.intro (e7.trans hm.symm) hm)
                    have HS2 := Lib.hid (show R = (decide (al1 = al2) && Tr.same ((pa.map (·.1)).drop (k + 1)) ((pb.map (·.1)).drop (k + 1))) from by
                      rw [HS1.out, e1, e3]
                      by_cases h : al1 = al2
                      · simp [h]
                      · simp [h])
                    have HR1 := Lib.hid (((reads_own5 HAT.out.1).below (Below.mono HBB.out (Nat.le_refl _))))
                    have HR2 := Lib.hid (((reads_own5 HAT.out.2).below (Below.mono HBB.out (Nat.le_refl _))))
                    rw [HM.out.1] at p1 hc1
                    rw [← hm] at q1 hc2
                    have HP := Lib.hid (And.intro p1 q1)
                    have hc1' : (m : Int) ≤ (cv1 : Int) := by omega
                    have hc2' : (m : Int) ≤ (cv2 : Int) := by omega
                    have hmm : (m : Int) ≤ 9223372036854775807 := by unfold maxLen at hc1m; omega
                    clear e1 e3 e7 hm
                    go_wp2
                    go_loopw [10] (fun j wr2 => ∃ q : Nat, q ≤ m ∧ j = .int .i64 q ∧ Hid (Below wc.heap.size wc wr2 ∧ al1.take q = al2.take q)) (fun j _ => m - (intOf j).toNat)
                    case atStart => exact ⟨0, Nat.zero_le _, rfl, Lib.hid ⟨Below.refl _ _, by simp⟩⟩
                    case round =>
                      obtain ⟨q, hq, rfl, HQ⟩ := hrel
                      have x1 : wr.cell? ⟨r1, 1, none⟩ = some (.slice V1 m cv1) := (HQ.out.1.cell (p := ⟨r1, 1, none⟩) HK.out.1.lt).trans HP.out.1
                      have x2 : wr.cell? ⟨r2, 1, none⟩ = some (.slice V2 m cv2) := (HQ.out.1.cell (p := ⟨r2, 1, none⟩) HK.out.2.lt).trans HP.out.2
                      have HBQ := Lib.hid (HB0.out.2.2.trans ((HBC.out.trans (HQ.out.1.mono HBC.out.size)).mono HB0.out.2.2.size))
                      by_cases hqm : q < m
                      · have hqm' : (q : Int) < (m : Int) := by omega
                        have hqa : q < al1.length := by have := HM.out.1; omega
                        have hqb : q < al2.length := by have := HM.out.2; omega
                        obtain ⟨g3, o3, hA3, hg3, hcl3⟩ := (HR1.out.below (HQ.out.1.mono HBB.out.size)) (by omega)
                        obtain ⟨g4, o4, hA4, hg4, hcl4⟩ := (HR2.out.below (HQ.out.1.mono HBB.out.size)) (by omega)
                        subst hA3 hA4
                        obtain ⟨c0, c1⟩ := hcl3 q hqa
                        obtain ⟨d0, d1⟩ := hcl4 q hqb
                        have HTK := Lib.hid (And.intro (take_snoc_ hqa) (take_snoc_ hqb))
                        have HNE := Lib.hid (drop_ne_of hqa hqb)
                        clear hcl3 hcl4 hqm
                        generalize al1[q] = a at *
                        generalize al2[q] = b at *
                        obtain ⟨U, hU⟩ : ∃ U : ByteArray, U = ⟨a.1.toArray⟩ := ⟨_, rfl⟩
                        obtain ⟨V, hV⟩ : ∃ V : ByteArray, V = ⟨a.2.toArray⟩ := ⟨_, rfl⟩
                        obtain ⟨U2, hU2⟩ : ∃ U : ByteArray, U = ⟨b.1.toArray⟩ := ⟨_, rfl⟩
                        obtain ⟨V2, hV2⟩ : ∃ V : ByteArray, V = ⟨b.2.toArray⟩ := ⟨_, rfl⟩
                        rw [← hU] at c0
                        rw [← hV] at c1
                        rw [← hU2] at d0
                        rw [← hV2] at d1
                        have hab : (U = U2 ∧ V = V2) ↔ a = b := by
                          rw [hU, hV, hU2, hV2, bytes_inj, bytes_inj]
                          exact ⟨fun h => Prod.ext h.1 h.2, fun h => by rw [h]; exact ⟨rfl, rfl⟩⟩
                        have HAB := Lib.hid hab
                        clear hU hV hU2 hV2 hab
                        by_cases hu : U = U2
                        · subst hu
                          by_cases hv : V = V2
                          · subst hv
                            have HEQ := Lib.hid (HAB.out.1 ⟨rfl, rfl⟩)
                            go_wp2_with fail
                            go_quiet (fail)
                            go_wp2
                            go_roundw
                            case rel => exact ⟨q + 1, by omega, by go_num, Lib.hid ⟨below_drewN HQ.out.1 _, by rw [HTK.out.1, HTK.out.2, HQ.out.2, HEQ.out]⟩⟩
                            case measure => simp [intOf]; omega
                          · have hvn : ¬ V.toList = V2.toList := fun e => hv (ba_eq (by rw [← Lib.toList_data, e, Lib.toList_data]))
                            have hvv : (V.toList == V2.toList) = false := beq_eq_false_iff_ne.2 hvn
                            have HF := Lib.hid (show R = false by rw [HS2.out, decide_eq_false (HNE.out (fun e => hv (HAB.out.2 e).2)), Bool.false_and])
                            clear hv
                            go_wp2_with fail
                            go_quiet (fail)
                            go_wp2
                            go_ret
                            exact ⟨by rw [HF.out]; rfl, below_drewN HBQ.out _⟩
                        · have hun : ¬ U.toList = U2.toList := fun e => hu (ba_eq (by rw [← Lib.toList_data, e, Lib.toList_data]))
                          have huu : (U.toList == U2.toList) = false := beq_eq_false_iff_ne.2 hun
                          have HF := Lib.hid (show R = false by rw [HS2.out, decide_eq_false (HNE.out (fun e => hu (HAB.out.2 e).1)), Bool.false_and])
                          clear hu
                          go_wp2_with fail
                          go_quiet (fail)
                          go_wp2
                          go_ret
                          exact ⟨by rw [HF.out]; rfl, below_drewN HBQ.out _⟩
                      · obtain rfl : q = m := by omega
                        have HL := Lib.hid (show R = Tr.same ((pa.map (·.1)).drop (k + 1)) ((pb.map (·.1)).drop (k + 1)) from by
                          rw [HS2.out, decide_eq_true (take_eq_all HM.out.1 HM.out.2.symm HQ.out.2), Bool.true_and])
                        have HBN := Lib.hid (HBC.out.trans (HQ.out.1.mono HBC.out.size))
                        have hqm' : ¬ (q : Int) < (q : Int) := by omega
                        go_wp2
                        go_roundw
                        case rel => exact ⟨k + 1, by omega, by go_num, Lib.hid ⟨HBN.out, HL.out⟩⟩
                        case measure => simp [intOf]; omega
                  · have f7 : ((al1.length : Int) == (al2.length : Int)) = false := by
                      apply beq_eq_false_iff_ne.2
                      omega
                    have HF := Lib.hid (show R = false by rw [HS1.out, show (al1 == al2) = false from beq_eq_false_iff_ne.2 (fun e => e7 (by rw [e]))]; simp)
                    have f7b : ((al1.length : Int) != (al2.length : Int)) = true := by simp [bne, f7]
                    have f7c : ¬ (al1.length : Int) = (al2.length : Int) := by omega
                    clear e1 e3
                    go_wp2
                    go_ret
                    exact ⟨by rw [HF.out]; rfl, HB0.out.2.2.trans (HBC.out.mono HB0.out.2.2.size)⟩
                · have f6 : (nx1 == nx2) = false := beq_eq_false_iff_ne.2 e6
                  have HF := Lib.hid (show R = false by rw [HS1.out, f6]; simp)
                  clear e1 e3
                  go_wp2
                  go_ret
                  exact ⟨by rw [HF.out]; rfl, HB0.out.2.2.trans (HBC.out.mono HB0.out.2.2.size)⟩
              · have f5 : (fi1 == fi2) = false := beq_eq_false_iff_ne.2 e5
                have HF := Lib.hid (show R = false by rw [HS1.out, f5]; simp)
                clear e1 e3
                go_wp2
                go_ret
                exact ⟨by rw [HF.out]; rfl, HB0.out.2.2.trans (HBC.out.mono HB0.out.2.2.size)⟩
            · have f4 : (pa1 == pa2) = false := beq_eq_false_iff_ne.2 e4
              have HF := Lib.hid (show R = false by rw [HS1.out, f4]; simp)
              clear e1 e3
              go_wp2
              go_ret
              exact ⟨by rw [HF.out]; rfl, HB0.out.2.2.trans (HBC.out.mono HB0.out.2.2.size)⟩
          · have f3 := str_ne HNX.out.2.1 HNX.out.2.2 e3
            have HF := Lib.hid (show R = false by rw [HS1.out, show (tx1 == tx2) = false from beq_eq_false_iff_ne.2 e3]; simp)
            clear e1 e3
            go_wp2
            go_ret
            exact ⟨by rw [HF.out]; rfl, HB0.out.2.2.trans (HBC.out.mono HB0.out.2.2.size)⟩
        · have f1 := str_ne HNX.out.1.1 HNX.out.1.2 e1
          have HF := Lib.hid (show R = false by rw [HS1.out, show (nm1 == nm2) = false from beq_eq_false_iff_ne.2 e1]; simp)
          clear e1
          go_wp2
          go_ret
          exact ⟨by rw [HF.out]; rfl, HB0.out.2.2.trans (HBC.out.mono HB0.out.2.2.size)⟩
    · obtain rfl : k = n := by omega
      have HE := Lib.hid (show R = true by
        rw [HI.out.2, List.drop_eq_nil_of_le (by rw [List.length_map]; have := HN.out.1; omega), List.drop_eq_nil_of_le (by rw [List.length_map]; have := HN.out.2; omega)]
        rfl)
      have HBE := Lib.hid (HB0.out.2.2.trans (HI.out.1.mono HB0.out.2.2.size))
      go_wp2
      go_ret
      exact ⟨by rw [HE.out]; rfl, HBE.out⟩
end Go.Proofs.YtgidpcfaeekjhaaGreatDoor
