/- The statements' same of layer 4, walked: of two rows of tokens that are the same but for a shift it answers true. Condition: the rows read as told; their sizes fit. -/
import Derived.Test.YtpdoegafjfhiiaaGreatDoorTkIs
import Derived.Deep.DrawnRows
namespace Go.Proofs.YtpdoegafjfhiiaaGreatDoor
open Go.RowKit
attribute [local go_sem ↓] Go.wp_at_zero Go.wp_at_succ

/-- A row of tokens reads so, from a place in a block on. -/
def ReadsT (w : World) (B : Nat) (A : Option Addr) (ps : List (Tk.T × Value)) : Prop := 0 < ps.length → ∃ g o, A = some ⟨g, o, none⟩ ∧ g < B ∧ ∀ j u, (ps.flatMap tokV)[j]? = some u → w.cell? ⟨g, o + j, none⟩ = some u
def AttsT (w : World) (B : Nat) (ps : List (Tk.T × Value)) : Prop := ∀ x ∈ ps, ∃ A cap, x.2 = .slice A (Tk.T.as x.1).length cap ∧ Reads2 w B A (Tk.T.as x.1) ∧ (Tk.T.as x.1).length ≤ 100000 ∧ (A = none → cap = 0) ∧ (Tk.T.as x.1).length ≤ cap ∧ cap ≤ maxLen
theorem ReadsT.below {w w' : World} {B : Nat} {A : Option Addr} {ps : List (Tk.T × Value)} (h : ReadsT w B A ps) (hb : Below B w w') : ReadsT w' B A ps := fun h0 => by
  obtain ⟨g, o, e, hg, hc⟩ := h h0
  exact ⟨g, o, e, hg, fun j u hu => (hb.cell (p := ⟨g, _, none⟩) hg).trans (hc j u hu)⟩
theorem AttsT.below {w w' : World} {B : Nat} {ps : List (Tk.T × Value)} (h : AttsT w B ps) (hb : Below B w w') : AttsT w' B ps := fun x hx => by
  obtain ⟨A, cap, e, hr, hl⟩ := h x hx
  exact ⟨A, cap, e, hr.below hb, hl⟩
def rowR (al : List (List UInt8 × List UInt8)) : List Value := al.flatMap fun a => [.string ⟨a.1.toArray⟩, .string ⟨a.2.toArray⟩, .int .i64 0]
theorem rowR_snoc (al : List (List UInt8 × List UInt8)) (a : List UInt8 × List UInt8) : rowR (al ++ [a]) = rowR al ++ [.string ⟨a.1.toArray⟩, .string ⟨a.2.toArray⟩, .int .i64 0] := by
  unfold rowR; rw [List.flatMap_append]; simp
theorem infoRA : (Tryz.prog.info? 85).map (fun i => (i.zero, i.size, i.bytes)) = some (some (.agg #[.string ⟨#[]⟩, .string ⟨#[]⟩, .int .i64 0]), 3, 40) := by kernel_rfl

theorem Reads2.more {w : World} {B B' : Nat} {A : Option Addr} {al : List (List UInt8 × List UInt8)} (h : Reads2 w B A al) (hB : B ≤ B') : Reads2 w B' A al := fun h0 => by
  obtain ⟨g, e, hg, hc⟩ := h h0
  exact ⟨g, e, by omega, hc⟩
theorem reads3_of {w : World} {B cap : Nat} {A : Option Addr} {al : List (List UInt8 × List UInt8)} (h : w.ownsRow B 85 3 (.slice A al.length cap) al.length (rowR al)) : Reads3 w w.heap.size A al := fun h0 => by
  obtain ⟨A3, c3, hv, hc, _⟩ := own_slice h
  injection hv with e1 _ _
  subst e1
  obtain ⟨g, rfl, hg, _, hcc⟩ := hc h0
  have hf := fun k hk j hj => flat_at (fun a : List UInt8 × List UInt8 => [Value.string ⟨a.1.toArray⟩, .string ⟨a.2.toArray⟩, .int .i64 0]) 3 (fun _ => rfl) al k j hk hj
  exact ⟨g, rfl, hg, fun k hk => ⟨hcc _ _ (hf k hk 0 (by omega)), hcc _ _ (hf k hk 1 (by omega))⟩⟩
structure SamR (w : World) (r : Nat) (K P : Int) (N X : ByteArray) (al : List (List UInt8 × List UInt8)) (wr : World) (m : Nat) (v : Value) : Prop where
  below : Below w.heap.size w wr
  blk : IsBlk wr r 36 #[.int .u8 K, .string N, v, .string X, .int .i64 P]
  own : wr.ownsRow (r + 1) 85 3 v m (rowR (al.take m))
theorem take_snoc_ {al : List (List UInt8 × List UInt8)} {m : Nat} (h : m < al.length) : al.take (m + 1) = al.take m ++ [al[m]] := by
  rw [List.take_succ_eq_append_getElem h]
set_option maxHeartbeats 8000000 in
set_option maxRecDepth 100000 in
theorem same_yes (w : World) (by_ : Nat) (A1 A2 : Option Addr) (c1 c2 : Nat) (pa pb : List (Tk.T × Value)) (hl : pa.length = pb.length) (hn : pb.length ≤ 1000000) (hby : by_ ≤ 1000000) (hpl : ∀ x ∈ pb, x.1.p ≤ 1000000)
    (h1 : ReadsT w w.heap.size A1 pa) (h2 : ReadsT w w.heap.size A2 pb) (t1 : AttsT w w.heap.size pa) (t2 : AttsT w w.heap.size pb) (hab : ∀ (k : Nat) (hk : k < pb.length), pa[k].1 = Tk.mv by_ pb[k].1) :
    Calls Tryz.prog 19 #[.slice A1 pb.length c1, .slice A2 pb.length c2, .int .i64 by_] w fun e w' => e = .returned (.bool true) ∧ Below w.heap.size w w' := by
  have H := Lib.hid (And.intro h1 (And.intro h2 (And.intro t1 (And.intro t2 (And.intro hpl hab)))))
  have hn' : (pb.length : Int) ≤ 1000000 := by omega
  clear h1 h2 t1 t2 hpl hab
  go_enter Tryz.func19, Tryz.ntmps19
  go_wp2
  go_loopw [7] (fun i wr => ∃ k : Nat, k ≤ pb.length ∧ i = .int .i64 k ∧ Hid (Below w.heap.size w wr)) (fun i _ => pb.length - (intOf i).toNat)
  case atStart => exact ⟨0, Nat.zero_le _, rfl, Lib.hid (Below.refl _ _)⟩
  case round =>
    obtain ⟨k, hk, rfl, HR⟩ := hrel
    by_cases hlt : k < pb.length
    · obtain ⟨H1, H2, T1, T2, hpl, hab⟩ := H.out
      obtain ⟨g1, o1, hA1, hg1, hc1⟩ := H1.below HR.out (by omega)
      obtain ⟨g2, o2, hA2, hg2, hc2⟩ := H2.below HR.out (by omega)
      have hka : k < pa.length := by omega
      obtain ⟨Aa, capa, hva, hra, hla, _, _, _⟩ := (T1.below HR.out) _ (List.getElem_mem hka)
      obtain ⟨Ab, capb, hvb, hrb, hlb, _, _, _⟩ := (T2.below HR.out) _ (List.getElem_mem hlt)
      have hp := hpl _ (List.getElem_mem hlt)
      have hm := hab k hlt
      have a0 := hc1 _ _ (tok_at pa k 0 hka (by omega))
      have a1 := hc1 _ _ (tok_at pa k 1 hka (by omega))
      have a2 := hc1 _ _ (tok_at pa k 2 hka (by omega))
      have a3 := hc1 _ _ (tok_at pa k 3 hka (by omega))
      have a4 := hc1 _ _ (tok_at pa k 4 hka (by omega))
      have b0 := hc2 _ _ (tok_at pb k 0 hlt (by omega))
      have b1 := hc2 _ _ (tok_at pb k 1 hlt (by omega))
      have b2 := hc2 _ _ (tok_at pb k 2 hlt (by omega))
      have b3 := hc2 _ _ (tok_at pb k 3 hlt (by omega))
      have b4 := hc2 _ _ (tok_at pb k 4 hlt (by omega))
      generalize pa[k] = x at *
      generalize pb[k] = y at *
      obtain ⟨⟨K, nm, al, tx, P⟩, av⟩ := x
      obtain ⟨⟨K', nm', al', tx', P'⟩, bv⟩ := y
      unfold Tk.mv at hm
      simp only [Tk.T.mk.injEq] at hm
      obtain ⟨rfl, rfl, rfl, rfl, rfl⟩ := hm
      simp only at hva hvb hra hrb hla hlb hp
      subst hva hvb hA1 hA2
      obtain ⟨N, hN⟩ : ∃ N : ByteArray, N = ⟨nm.toArray⟩ := ⟨_, rfl⟩
      obtain ⟨X, hX⟩ : ∃ X : ByteArray, X = ⟨tx.toArray⟩ := ⟨_, rfl⟩
      have a0' : wr.cell? ⟨g1, o1 + k * 5, none⟩ = some (.int .u8 K) := a0
      have a1' : wr.cell? ⟨g1, o1 + k * 5 + 1, none⟩ = some (.string N) := by rw [hN]; exact a1
      have a2' : wr.cell? ⟨g1, o1 + k * 5 + 2, none⟩ = some (.slice Aa al.length capa) := a2
      have a3' : wr.cell? ⟨g1, o1 + k * 5 + 3, none⟩ = some (.string X) := by rw [hX]; exact a3
      have a4' : wr.cell? ⟨g1, o1 + k * 5 + 4, none⟩ = some (.int .i64 ((P' : Int) + (by_ : Int))) := by rw [← Int.natCast_add]; exact a4
      have b0' : wr.cell? ⟨g2, o2 + k * 5, none⟩ = some (.int .u8 K) := b0
      have b1' : wr.cell? ⟨g2, o2 + k * 5 + 1, none⟩ = some (.string N) := by rw [hN]; exact b1
      have b2' : wr.cell? ⟨g2, o2 + k * 5 + 2, none⟩ = some (.slice Ab al.length capb) := b2
      have b3' : wr.cell? ⟨g2, o2 + k * 5 + 3, none⟩ = some (.string X) := by rw [hX]; exact b3
      have b4' : wr.cell? ⟨g2, o2 + k * 5 + 4, none⟩ = some (.int .i64 (P' : Int)) := b4
      have HAC := Lib.hid (And.intro a0' (And.intro a1' (And.intro a2' (And.intro a3' a4'))))
      have HB2 := Lib.hid b2'
      have HRA := Lib.hid hra
      have HRB := Lib.hid hrb
      have hlt' : (k : Int) < (pb.length : Int) := by omega
      have hsz := HR.out.size
      clear a0 a1 a2 a3 a4 b0 b1 b2 b3 b4 hc1 hc2 a0' a1' a2' a3' a4' hN hX hra hrb H1 H2 T1 T2 hpl hab
      have s1 : IntKind.i64.wrap ((P' : Int) + (by_ : Int)) = (P' : Int) + (by_ : Int) := IntWalk.i64_in _ (by omega)
      have n0 := World.new_ne wr ⟨g2, o2 + k * 5, none⟩ b0'
      have n1 := World.new_ne wr ⟨g2, o2 + k * 5 + 1, none⟩ b1'
      have n3 := World.new_ne wr ⟨g2, o2 + k * 5 + 3, none⟩ b3'
      have n4 := World.new_ne wr ⟨g2, o2 + k * 5 + 4, none⟩ b4'
      clear b2'
      go_wp2_with fail
      go_region_held3 (fun w' => w'.cell? ⟨g2, o2 + k * 5, none⟩ = some (.int .u8 K) ∧ w'.cell? ⟨g2, o2 + k * 5 + 1, none⟩ = some (.string N) ∧ w'.cell? ⟨g2, o2 + k * 5 + 3, none⟩ = some (.string X) ∧ w'.cell? ⟨g2, o2 + k * 5 + 4, none⟩ = some (.int .i64 (P' : Int))) (go_keep) (fail)
      obtain ⟨r, hr⟩ : ∃ r, r = wr.heap.size := ⟨_, rfl⟩
      obtain ⟨W1, hW1⟩ : ∃ W1, W1 = (wr.alloc (.cells #[.int .u8 K, .string N, .slice none 0 0, .string X, .int .i64 ((P' : Int) + (by_ : Int))] 36)).drew := ⟨_, rfl⟩
      have HS0 := Lib.hid (show SamR w r K ((P' : Int) + (by_ : Int)) N X al W1 0 (.slice none 0 0) from ⟨by rw [hW1]; exact ((HR.out.alloc HR.out.size _).drew), by rw [hW1, hr]; exact IsBlk.new wr _ _, World.ownsRow_nil _ _ _ _⟩)
      have HBW := Lib.hid (show Below w.heap.size wr W1 from by rw [hW1]; exact ((Below.refl _ _).alloc hsz _).drew)
      rw [← hW1, ← hr]
      have hrw : w.heap.size ≤ r := by omega
      clear hW1 hr b0' b1' b3' b4' n0 n1 n3 n4 s1 hsz
      have HPS := Lib.hid hlt
      go_wp2
      go_loopw [9] (fun j wr2 => ∃ m v, m ≤ al.length ∧ j = .int .i64 (m : Nat) ∧ Hid (SamR w r K ((P' : Int) + (by_ : Int)) N X al wr2 m v ∧ Below w.heap.size wr wr2)) (fun j _ => al.length - (intOf j).toNat)
      case atStart => exact ⟨0, _, Nat.zero_le _, rfl, Lib.hid ⟨HS0.out, HBW.out⟩⟩
      case round =>
        obtain ⟨m, v, hml, rfl, HI⟩ := hrel
        have hbA : wr.cell? ⟨g2, o2 + k * 5 + 2, none⟩ = some (.slice Ab al.length capb) := (HI.out.2.cell (p := ⟨g2, _, none⟩) hg2).trans HB2.out
        by_cases hmt : m < al.length
        · obtain ⟨gb, hAb, hgb, hcb⟩ := (HRB.out.below HI.out.2) (by omega)
          subst hAb
          obtain ⟨d0, d1⟩ := hcb m hmt
          obtain ⟨U, hU⟩ : ∃ U : ByteArray, U = ⟨al[m].1.toArray⟩ := ⟨_, rfl⟩
          obtain ⟨V, hV⟩ : ∃ V : ByteArray, V = ⟨al[m].2.toArray⟩ := ⟨_, rfl⟩
          rw [← hU] at d0
          rw [← hV] at d1
          have HUV := Lib.hid (And.intro hU hV)
          have x2 : wr.cell? ⟨r, 2, none⟩ = some v := HI.out.1.blk.at_ 2
          have xf : wr.frozen? ⟨r, 2, none⟩ = false := HI.out.1.blk.fz 2
          have hown := HI.out.1.own
          have hrl := HI.out.1.blk.lt
          have hbas : Hid (∀ q, v.ownBlock = some q → r + 1 ≤ q) := Lib.hid (fun q hq => (hown.lt q hq).1)
          obtain ⟨i0, hi, hz0, hz1, hz2⟩ := info_parts infoRA
          have hbig : m + 1 ≤ maxLen := by unfold maxLen; omega
          have hmt' : (m : Int) < (al.length : Int) := by omega
          have hal' : (al.length : Int) ≤ 100000 := by omega
          have hcl : (al.length : Int) ≤ (capb : Int) := by omega
          have hg2r : g2 < r + 1 := by omega
          have hgbr : gb < r + 1 := by omega
          have ne1 : r ≠ g2 := by omega
          have ne2 : g2 ≠ r := by omega
          have ne3 : r ≠ gb := by omega
          have ne4 : gb ≠ r := by omega
          have ne5 : wr.heap.size ≠ r := by omega
          have ne6 : r ≠ wr.heap.size := by omega
          clear hU hV hcb
          go_wp2_with fail
          refine wp_region_held_drew (S := (fun w' => w'.cell? ⟨g2, o2 + k * 5 + 2, none⟩ = some (.slice (some ⟨gb, 0, none⟩) al.length capb) ∧ w'.cell? ⟨gb, m * 2, none⟩ = some (.string U) ∧ w'.cell? ⟨gb, m * 2 + 1, none⟩ = some (.string V))) (by kernel_rfl) ⟨hbA, d0, d1⟩ (fun hHeld => ?_)
          refine wpAnyH_take (i := 0) (v := .pointer (some ⟨r, 2, none⟩)) rfl (by kernel_rfl) (by kernel_rfl) (by kernel_rfl) (fun _ _ _ h => h) (Or.inl ⟨by rfl, by (intro w hS; go_simp)⟩) hHeld ?_
          simp only [Act.put, List.getElem_toArray, List.getElem_cons_zero, List.setIfInBounds_toArray, List.set_cons_zero, List.set_cons_succ]
          refine wpAnyH_take (i := 2) (v := .slice (some ⟨g2, o2, none⟩) pb.length c2) rfl (by kernel_rfl) (by kernel_rfl) (by kernel_rfl) (fun _ _ _ h => h) (Or.inl ⟨by rfl, by (intro w hS; go_simp)⟩) hHeld ?_
          simp only [Act.put, List.getElem_toArray, List.getElem_cons_succ, List.getElem_cons_zero, List.setIfInBounds_toArray, List.set_cons_zero, List.set_cons_succ]
          refine wpAnyH_take (i := 3) (v := .int .i64 k) rfl (by kernel_rfl) (by kernel_rfl) (by kernel_rfl) (fun _ _ _ h => h) (Or.inl ⟨by rfl, by (intro w hS; go_simp)⟩) hHeld ?_
          simp only [Act.put, List.getElem_toArray, List.getElem_cons_succ, List.getElem_cons_zero, List.setIfInBounds_toArray, List.set_cons_zero, List.set_cons_succ]
          refine wpAnyH_take (i := 4) (v := .pointer (some ⟨g2, o2 + k * 5, none⟩)) rfl (by kernel_rfl) (by kernel_rfl) (by kernel_rfl) (fun _ _ _ h => h) (Or.inl ⟨by rfl, by (intro w hS; go_simp)⟩) hHeld ?_
          simp only [Act.put, List.getElem_toArray, List.getElem_cons_succ, List.getElem_cons_zero, List.setIfInBounds_toArray, List.set_cons_zero, List.set_cons_succ]
          refine wpAnyH_take (i := 5) (v := .pointer (some ⟨g2, o2 + k * 5 + 2, none⟩)) rfl (by kernel_rfl) (by kernel_rfl) (by kernel_rfl) (fun _ _ _ h => h) (Or.inl ⟨by rfl, by (intro w hS; go_simp)⟩) hHeld ?_
          simp only [Act.put, List.getElem_toArray, List.getElem_cons_succ, List.getElem_cons_zero, List.setIfInBounds_toArray, List.set_cons_zero, List.set_cons_succ]
          refine wpAnyH_take (i := 6) (v := .slice (some ⟨gb, 0, none⟩) al.length capb) rfl (by kernel_rfl) (by kernel_rfl) (by kernel_rfl) (fun _ _ _ h => h) (Or.inl ⟨by rfl, by (intro w hS; obtain ⟨s0, s1, s2⟩ := hS; go_simp)⟩) hHeld ?_
          simp only [Act.put, List.getElem_toArray, List.getElem_cons_succ, List.getElem_cons_zero, List.setIfInBounds_toArray, List.set_cons_zero, List.set_cons_succ]
          refine wpAnyH_take (i := 7) (v := .int .i64 m) rfl (by kernel_rfl) (by kernel_rfl) (by kernel_rfl) (fun _ _ _ h => h) (Or.inl ⟨by rfl, by (intro w hS; go_simp)⟩) hHeld ?_
          simp only [Act.put, List.getElem_toArray, List.getElem_cons_succ, List.getElem_cons_zero, List.setIfInBounds_toArray, List.set_cons_zero, List.set_cons_succ]
          refine wpAnyH_take (i := 8) (v := .pointer (some ⟨gb, m * 2, none⟩)) rfl (by kernel_rfl) (by kernel_rfl) (by kernel_rfl) (fun _ _ _ h => h) (Or.inl ⟨by rfl, by (intro w hS; go_simp)⟩) hHeld ?_
          simp only [Act.put, List.getElem_toArray, List.getElem_cons_succ, List.getElem_cons_zero, List.setIfInBounds_toArray, List.set_cons_zero, List.set_cons_succ]
          refine wpAnyH_take (i := 9) (v := .pointer (some ⟨gb, m * 2, none⟩)) rfl (by kernel_rfl) (by kernel_rfl) (by kernel_rfl) (fun _ _ _ h => h) (Or.inl ⟨by rfl, by (intro w hS; go_simp)⟩) hHeld ?_
          simp only [Act.put, List.getElem_toArray, List.getElem_cons_succ, List.getElem_cons_zero, List.setIfInBounds_toArray, List.set_cons_zero, List.set_cons_succ]
          refine wpAnyH_take (i := 10) (v := .string U) rfl (by kernel_rfl) (by kernel_rfl) (by kernel_rfl) (fun _ _ _ h => h) (Or.inl ⟨by rfl, by (intro w hS; obtain ⟨s0, s1, s2⟩ := hS; go_simp)⟩) hHeld ?_
          simp only [Act.put, List.getElem_toArray, List.getElem_cons_succ, List.getElem_cons_zero, List.setIfInBounds_toArray, List.set_cons_zero, List.set_cons_succ]
          refine wpAnyH_take (i := 11) (v := .slice (some ⟨g2, o2, none⟩) pb.length c2) rfl (by kernel_rfl) (by kernel_rfl) (by kernel_rfl) (fun _ _ _ h => h) (Or.inl ⟨by rfl, by (intro w hS; go_simp)⟩) hHeld ?_
          simp only [Act.put, List.getElem_toArray, List.getElem_cons_succ, List.getElem_cons_zero, List.setIfInBounds_toArray, List.set_cons_zero, List.set_cons_succ]
          refine wpAnyH_take (i := 12) (v := .int .i64 k) rfl (by kernel_rfl) (by kernel_rfl) (by kernel_rfl) (fun _ _ _ h => h) (Or.inl ⟨by rfl, by (intro w hS; go_simp)⟩) hHeld ?_
          simp only [Act.put, List.getElem_toArray, List.getElem_cons_succ, List.getElem_cons_zero, List.setIfInBounds_toArray, List.set_cons_zero, List.set_cons_succ]
          refine wpAnyH_take (i := 13) (v := .pointer (some ⟨g2, o2 + k * 5, none⟩)) rfl (by kernel_rfl) (by kernel_rfl) (by kernel_rfl) (fun _ _ _ h => h) (Or.inl ⟨by rfl, by (intro w hS; go_simp)⟩) hHeld ?_
          simp only [Act.put, List.getElem_toArray, List.getElem_cons_succ, List.getElem_cons_zero, List.setIfInBounds_toArray, List.set_cons_zero, List.set_cons_succ]
          refine wpAnyH_take (i := 14) (v := .pointer (some ⟨g2, o2 + k * 5 + 2, none⟩)) rfl (by kernel_rfl) (by kernel_rfl) (by kernel_rfl) (fun _ _ _ h => h) (Or.inl ⟨by rfl, by (intro w hS; go_simp)⟩) hHeld ?_
          simp only [Act.put, List.getElem_toArray, List.getElem_cons_succ, List.getElem_cons_zero, List.setIfInBounds_toArray, List.set_cons_zero, List.set_cons_succ]
          refine wpAnyH_take (i := 15) (v := .slice (some ⟨gb, 0, none⟩) al.length capb) rfl (by kernel_rfl) (by kernel_rfl) (by kernel_rfl) (fun _ _ _ h => h) (Or.inl ⟨by rfl, by (intro w hS; obtain ⟨s0, s1, s2⟩ := hS; go_simp)⟩) hHeld ?_
          simp only [Act.put, List.getElem_toArray, List.getElem_cons_succ, List.getElem_cons_zero, List.setIfInBounds_toArray, List.set_cons_zero, List.set_cons_succ]
          refine wpAnyH_take (i := 16) (v := .int .i64 m) rfl (by kernel_rfl) (by kernel_rfl) (by kernel_rfl) (fun _ _ _ h => h) (Or.inl ⟨by rfl, by (intro w hS; go_simp)⟩) hHeld ?_
          simp only [Act.put, List.getElem_toArray, List.getElem_cons_succ, List.getElem_cons_zero, List.setIfInBounds_toArray, List.set_cons_zero, List.set_cons_succ]
          refine wpAnyH_take (i := 17) (v := .pointer (some ⟨gb, m * 2, none⟩)) rfl (by kernel_rfl) (by kernel_rfl) (by kernel_rfl) (fun _ _ _ h => h) (Or.inl ⟨by rfl, by (intro w hS; go_simp)⟩) hHeld ?_
          simp only [Act.put, List.getElem_toArray, List.getElem_cons_succ, List.getElem_cons_zero, List.setIfInBounds_toArray, List.set_cons_zero, List.set_cons_succ]
          refine wpAnyH_take (i := 18) (v := .pointer (some ⟨gb, m * 2 + 1, none⟩)) rfl (by kernel_rfl) (by kernel_rfl) (by kernel_rfl) (fun _ _ _ h => h) (Or.inl ⟨by rfl, by (intro w hS; go_simp)⟩) hHeld ?_
          simp only [Act.put, List.getElem_toArray, List.getElem_cons_succ, List.getElem_cons_zero, List.setIfInBounds_toArray, List.set_cons_zero, List.set_cons_succ]
          refine wpAnyH_take (i := 19) (v := .string V) rfl (by kernel_rfl) (by kernel_rfl) (by kernel_rfl) (fun _ _ _ h => h) (Or.inl ⟨by rfl, by (intro w hS; obtain ⟨s0, s1, s2⟩ := hS; go_simp)⟩) hHeld ?_
          simp only [Act.put, List.getElem_toArray, List.getElem_cons_succ, List.getElem_cons_zero, List.setIfInBounds_toArray, List.set_cons_zero, List.set_cons_succ]
          refine wpAnyH_take (i := 20) (v := .agg #[.string U, .string V, .int .i64 0]) rfl (by kernel_rfl) (by kernel_rfl) (by kernel_rfl) (fun _ _ _ h => h) (Or.inl ⟨by rfl, by (intro w hS; go_simp)⟩) hHeld ?_
          simp only [Act.put, List.getElem_toArray, List.getElem_cons_succ, List.getElem_cons_zero, List.setIfInBounds_toArray, List.set_cons_zero, List.set_cons_succ]
          refine wpAnyH_ready (rs := [1, 21]) (by kernel_rfl) (by simp) ?_
          refine AllReadyH.cons rfl (fun K hK => ?_) (AllReadyH.cons rfl (fun K hK => ?_) AllReadyH.nil)
          · try simp only [List.getElem_toArray, List.getElem_cons_succ, List.getElem_cons_zero]
            go_simp
            refine hK.out _ _ ⟨hbA, d0, d1⟩ (fun hHeld => ?_)
            clear hK K
            try simp only [Act.put, List.getElem_toArray, List.getElem_cons_succ, List.getElem_cons_zero, List.setIfInBounds_toArray, List.set_cons_zero, List.set_cons_succ]
            refine wpAnyH_ready (rs := [21]) (by kernel_rfl) (by simp) ?_
            refine AllReadyH.cons rfl (fun K hK => ?_) AllReadyH.nil
            try simp only [List.getElem_toArray, List.getElem_cons_succ, List.getElem_cons_zero]
            go_simp
            refine hK.out _ _ ⟨(World.cell?_alloc_lt _ _ _ (by show g2 < wr.heap.size; omega)).trans hbA, (World.cell?_alloc_lt _ _ _ (by show gb < wr.heap.size; omega)).trans d0, (World.cell?_alloc_lt _ _ _ (by show gb < wr.heap.size; omega)).trans d1⟩ (fun hHeld => ?_)
            clear hK K
            try simp only [Act.put, List.getElem_toArray, List.getElem_cons_succ, List.getElem_cons_zero, List.setIfInBounds_toArray, List.set_cons_zero, List.set_cons_succ]
            refine wpAnyH_ready (rs := [22]) (by kernel_rfl) (by simp) ?_
            refine AllReadyH.cons rfl (fun K hK => ?_) AllReadyH.nil
            refine step_append_lies _ (by rfl) _ _ _ (by rfl) (r + 1) 85 i0 _ 3 40 Tryz.underlying34 hi hz0 hz1 hz2 rfl (by omega) v m (rowR (al.take m)) (by rfl) (by exact World.ownsRow.alloc hown _) _ 1 _ [.string U, .string V, .int .i64 0] (by rfl) rfl (by intro j u hu; exact news_at _ _ _ _ (by simp) j u hu) (by intro u hu; simp at hu; rcases hu with rfl | rfl | rfl <;> rfl) (by omega) hbig (by omega) (by simp; omega) _ rfl ?_
            intro g9 cap9 w9 hown9 hgr9 hat9 hlt9
            have B9 : Below (r + 1) wr w9 := Below.grown (by first | exact ((Below.refl _ _).alloc (by omega) _).drew | exact ((Below.refl _ _).drew).alloc (by exact hrl) _ | exact (Below.refl _ _).alloc (by omega) _) hgr9 (by simp; omega) hbas.out
            have y0 := (B9.cell (p := ⟨g2, _, none⟩) hg2r).trans hbA
            have y1 := (B9.cell (p := ⟨gb, _, none⟩) hgbr).trans d0
            have y3 := (B9.cell (p := ⟨gb, _, none⟩) hgbr).trans d1
            have y2 := (B9.cell (p := ⟨r, 2, none⟩) (Nat.lt_succ_self r)).trans x2
            have yf := (B9.frozen (p := ⟨r, 2, none⟩) (Nat.lt_succ_self r)).trans xf
            refine hK.out _ _ ⟨y0, y1, y3⟩ (fun hHeld => ?_)
            clear hK K
            try simp only [Act.put, List.getElem_toArray, List.getElem_cons_succ, List.getElem_cons_zero, List.setIfInBounds_toArray, List.set_cons_zero, List.set_cons_succ]
            refine wpAnyH_take (i := 23) (v := .pointer (some ⟨r, 2, none⟩)) rfl (by kernel_rfl) (by kernel_rfl) (by kernel_rfl) (fun _ _ _ h => h) (Or.inl ⟨by rfl, by (intro w hS; go_simp)⟩) hHeld ?_
            try simp only [Act.put, List.getElem_toArray, List.getElem_cons_succ, List.getElem_cons_zero, List.setIfInBounds_toArray, List.set_cons_zero, List.set_cons_succ]
            refine wpAnyH_ready (rs := [24]) (by kernel_rfl) (by simp) ?_
            refine AllReadyH.cons rfl (fun K hK => ?_) AllReadyH.nil
            try simp only [List.getElem_toArray, List.getElem_cons_succ, List.getElem_cons_zero]
            go_simp
            refine hK.out _ _ ⟨(World.cell?_setCell_other _ _ _ _ (fun e => ne1 (congrArg Addr.block e))).trans y0, (World.cell?_setCell_other _ _ _ _ (fun e => ne3 (congrArg Addr.block e))).trans y1, (World.cell?_setCell_other _ _ _ _ (fun e => ne3 (congrArg Addr.block e))).trans y3⟩ (fun hHeld => ?_)
            clear hK K
            try simp only [Act.put, List.getElem_toArray, List.getElem_cons_succ, List.getElem_cons_zero, List.setIfInBounds_toArray, List.set_cons_zero, List.set_cons_succ]
            refine wpAnyH_done (by kernel_rfl) ?_ _
            have HN := Lib.hid (show SamR w r K ((P' : Int) + (by_ : Int)) N X al (w9.setCell ⟨r, 2, none⟩ (.slice (some ⟨g9, 0, none⟩) (m + 1) cap9)) (m + 1) (.slice (some ⟨g9, 0, none⟩) (m + 1) cap9) ∧ Below w.heap.size _ (w9.setCell ⟨r, 2, none⟩ (.slice (some ⟨g9, 0, none⟩) (m + 1) cap9)) from by
              refine ⟨⟨?_, ?_, ?_⟩, ?_⟩
              · exact (HI.out.1.below.trans (B9.mono (by omega))).setCell (p := ⟨r, 2, none⟩) hrw _
              · exact (HI.out.1.blk.below B9 (Nat.lt_succ_self r)).set 2 _
              · have e := take_snoc_ hmt
                rw [e, rowR_snoc, ← HUV.out.1, ← HUV.out.2]
                exact ownsRow_setCell_below hown9 (Nat.lt_succ_self r) _
              · exact (HI.out.2.trans (B9.mono (by omega))).setCell (p := ⟨r, 2, none⟩) hrw _)
            clear hown9 hgr9 y2 yf hHeld
            go_wp2
            go_roundw
            case rel => exact ⟨m + 1, _, by omega, by go_num, by first | exact HN | exact Lib.hid ⟨⟨HN.out.1.below, HN.out.1.blk, HN.out.1.own⟩, HN.out.2⟩⟩
            case measure => simp [intOf]; omega
          · try simp only [List.getElem_toArray, List.getElem_cons_succ, List.getElem_cons_zero]
            go_simp
            refine hK.out _ _ ⟨(World.cell?_alloc_lt _ _ _ (by show g2 < wr.heap.size; omega)).trans hbA, (World.cell?_alloc_lt _ _ _ (by show gb < wr.heap.size; omega)).trans d0, (World.cell?_alloc_lt _ _ _ (by show gb < wr.heap.size; omega)).trans d1⟩ (fun hHeld => ?_)
            clear hK K
            try simp only [Act.put, List.getElem_toArray, List.getElem_cons_succ, List.getElem_cons_zero, List.setIfInBounds_toArray, List.set_cons_zero, List.set_cons_succ]
            refine wpAnyH_ready (rs := [1]) (by kernel_rfl) (by simp) ?_
            refine AllReadyH.cons rfl (fun K hK => ?_) AllReadyH.nil
            try simp only [List.getElem_toArray, List.getElem_cons_succ, List.getElem_cons_zero]
            go_simp
            refine hK.out _ _ hHeld (fun hHeld => ?_)
            clear hK K
            try simp only [Act.put, List.getElem_toArray, List.getElem_cons_succ, List.getElem_cons_zero, List.setIfInBounds_toArray, List.set_cons_zero, List.set_cons_succ]
            refine wpAnyH_ready (rs := [22]) (by kernel_rfl) (by simp) ?_
            refine AllReadyH.cons rfl (fun K hK => ?_) AllReadyH.nil
            refine step_append_lies _ (by rfl) _ _ _ (by rfl) (r + 1) 85 i0 _ 3 40 Tryz.underlying34 hi hz0 hz1 hz2 rfl (by omega) v m (rowR (al.take m)) (by rfl) (by exact World.ownsRow.alloc hown _) _ 1 _ [.string U, .string V, .int .i64 0] (by rfl) rfl (by intro j u hu; exact news_at _ _ _ _ (by simp) j u hu) (by intro u hu; simp at hu; rcases hu with rfl | rfl | rfl <;> rfl) (by omega) hbig (by omega) (by simp; omega) _ rfl ?_
            intro g9 cap9 w9 hown9 hgr9 hat9 hlt9
            have B9 : Below (r + 1) wr w9 := Below.grown (by first | exact ((Below.refl _ _).alloc (by omega) _).drew | exact ((Below.refl _ _).drew).alloc (by exact hrl) _ | exact (Below.refl _ _).alloc (by omega) _) hgr9 (by simp; omega) hbas.out
            have y0 := (B9.cell (p := ⟨g2, _, none⟩) hg2r).trans hbA
            have y1 := (B9.cell (p := ⟨gb, _, none⟩) hgbr).trans d0
            have y3 := (B9.cell (p := ⟨gb, _, none⟩) hgbr).trans d1
            have y2 := (B9.cell (p := ⟨r, 2, none⟩) (Nat.lt_succ_self r)).trans x2
            have yf := (B9.frozen (p := ⟨r, 2, none⟩) (Nat.lt_succ_self r)).trans xf
            refine hK.out _ _ ⟨y0, y1, y3⟩ (fun hHeld => ?_)
            clear hK K
            try simp only [Act.put, List.getElem_toArray, List.getElem_cons_succ, List.getElem_cons_zero, List.setIfInBounds_toArray, List.set_cons_zero, List.set_cons_succ]
            refine wpAnyH_take (i := 23) (v := .pointer (some ⟨r, 2, none⟩)) rfl (by kernel_rfl) (by kernel_rfl) (by kernel_rfl) (fun _ _ _ h => h) (Or.inl ⟨by rfl, by (intro w hS; go_simp)⟩) hHeld ?_
            try simp only [Act.put, List.getElem_toArray, List.getElem_cons_succ, List.getElem_cons_zero, List.setIfInBounds_toArray, List.set_cons_zero, List.set_cons_succ]
            refine wpAnyH_ready (rs := [24]) (by kernel_rfl) (by simp) ?_
            refine AllReadyH.cons rfl (fun K hK => ?_) AllReadyH.nil
            try simp only [List.getElem_toArray, List.getElem_cons_succ, List.getElem_cons_zero]
            go_simp
            refine hK.out _ _ ⟨(World.cell?_setCell_other _ _ _ _ (fun e => ne1 (congrArg Addr.block e))).trans y0, (World.cell?_setCell_other _ _ _ _ (fun e => ne3 (congrArg Addr.block e))).trans y1, (World.cell?_setCell_other _ _ _ _ (fun e => ne3 (congrArg Addr.block e))).trans y3⟩ (fun hHeld => ?_)
            clear hK K
            try simp only [Act.put, List.getElem_toArray, List.getElem_cons_succ, List.getElem_cons_zero, List.setIfInBounds_toArray, List.set_cons_zero, List.set_cons_succ]
            refine wpAnyH_done (by kernel_rfl) ?_ _
            have HN := Lib.hid (show SamR w r K ((P' : Int) + (by_ : Int)) N X al (w9.setCell ⟨r, 2, none⟩ (.slice (some ⟨g9, 0, none⟩) (m + 1) cap9)) (m + 1) (.slice (some ⟨g9, 0, none⟩) (m + 1) cap9) ∧ Below w.heap.size _ (w9.setCell ⟨r, 2, none⟩ (.slice (some ⟨g9, 0, none⟩) (m + 1) cap9)) from by
              refine ⟨⟨?_, ?_, ?_⟩, ?_⟩
              · exact (HI.out.1.below.trans (B9.mono (by omega))).setCell (p := ⟨r, 2, none⟩) hrw _
              · exact (HI.out.1.blk.below B9 (Nat.lt_succ_self r)).set 2 _
              · have e := take_snoc_ hmt
                rw [e, rowR_snoc, ← HUV.out.1, ← HUV.out.2]
                exact ownsRow_setCell_below hown9 (Nat.lt_succ_self r) _
              · exact (HI.out.2.trans (B9.mono (by omega))).setCell (p := ⟨r, 2, none⟩) hrw _)
            clear hown9 hgr9 y2 yf hHeld
            go_wp2
            go_roundw
            case rel => exact ⟨m + 1, _, by omega, by go_num, by first | exact HN | exact Lib.hid ⟨⟨HN.out.1.below, HN.out.1.blk, HN.out.1.own⟩, HN.out.2⟩⟩
            case measure => simp [intOf]; omega
        · obtain rfl : m = al.length := by omega
          have how := HI.out.1.own
          rw [List.take_length] at how
          obtain ⟨A3, cap3, hv3, _, _, _, _⟩ := own_slice how
          subst hv3
          have R3 := reads3_of how
          have R2 : Reads2 wr wr.heap.size Aa al := (HRA.out.below HI.out.2).more HI.out.1.below.size
          have HIS := Lib.hid (fun w0 (q2 : Reads2 w0 w0.heap.size Aa al) (q3 : Reads3 w0 w0.heap.size A3 al) => is_yes w0 K ((P' : Int) + (by_ : Int)) N X Aa A3 capa cap3 al (by omega) q2 q3)
          obtain ⟨e0, e1, e2, e3, e4⟩ := HAC.out
          have a0 := (HI.out.2.cell (p := ⟨g1, _, none⟩) hg1).trans e0
          have a1 := (HI.out.2.cell (p := ⟨g1, _, none⟩) hg1).trans e1
          have a2 := (HI.out.2.cell (p := ⟨g1, _, none⟩) hg1).trans e2
          have a3 := (HI.out.2.cell (p := ⟨g1, _, none⟩) hg1).trans e3
          have a4 := (HI.out.2.cell (p := ⟨g1, _, none⟩) hg1).trans e4
          have x0 : wr.cell? ⟨r, 0, none⟩ = some (.int .u8 K) := HI.out.1.blk.at_ 0
          have x1 : wr.cell? ⟨r, 1, none⟩ = some (.string N) := HI.out.1.blk.at_ 1
          have x2 : wr.cell? ⟨r, 2, none⟩ = some (.slice A3 al.length cap3) := HI.out.1.blk.at_ 2
          have x3 : wr.cell? ⟨r, 3, none⟩ = some (.string X) := HI.out.1.blk.at_ 3
          have x4 : wr.cell? ⟨r, 4, none⟩ = some (.int .i64 ((P' : Int) + (by_ : Int))) := HI.out.1.blk.at_ 4
          have hg1' : g1 < wr.heap.size := Nat.lt_of_lt_of_le hg1 HI.out.1.below.size
          have hrl := HI.out.1.blk.lt
          have hlt2 : (k : Int) < (pb.length : Int) := by have := HPS.out; omega
          clear e0 e1 e2 e3 e4 how hmt
          go_wp2_with fail
          go_region_held3 (fun w' => w'.cell? ⟨g1, o1 + k * 5, none⟩ = some (.int .u8 K) ∧ w'.cell? ⟨g1, o1 + k * 5 + 1, none⟩ = some (.string N) ∧ w'.cell? ⟨g1, o1 + k * 5 + 2, none⟩ = some (.slice Aa al.length capa) ∧ w'.cell? ⟨g1, o1 + k * 5 + 3, none⟩ = some (.string X) ∧ w'.cell? ⟨g1, o1 + k * 5 + 4, none⟩ = some (.int .i64 ((P' : Int) + (by_ : Int))) ∧
            w'.cell? ⟨r, 0, none⟩ = some (.int .u8 K) ∧ w'.cell? ⟨r, 1, none⟩ = some (.string N) ∧ w'.cell? ⟨r, 2, none⟩ = some (.slice A3 al.length cap3) ∧ w'.cell? ⟨r, 3, none⟩ = some (.string X) ∧ w'.cell? ⟨r, 4, none⟩ = some (.int .i64 ((P' : Int) + (by_ : Int))))
            (first | exact ⟨a0, a1, a2, a3, a4, x0, x1, x2, x3, x4⟩ | exact ⟨(h3.cell (p := ⟨g1, _, none⟩) hg1').trans a0, (h3.cell (p := ⟨g1, _, none⟩) hg1').trans a1, (h3.cell (p := ⟨g1, _, none⟩) hg1').trans a2, (h3.cell (p := ⟨g1, _, none⟩) hg1').trans a3, (h3.cell (p := ⟨g1, _, none⟩) hg1').trans a4, (h3.cell (p := ⟨r, _, none⟩) hrl).trans x0, (h3.cell (p := ⟨r, _, none⟩) hrl).trans x1, (h3.cell (p := ⟨r, _, none⟩) hrl).trans x2, (h3.cell (p := ⟨r, _, none⟩) hrl).trans x3, (h3.cell (p := ⟨r, _, none⟩) hrl).trans x4⟩)
            (first | (go_at_call 15; refine (HIS.out _ (by exact R2) (by exact R3)).mono ?_; rintro e w3 ⟨rfl, h3⟩))
          have B3 := Lib.hid (HI.out.1.below.trans ((Below.refl wr.heap.size wr).drew.trans h3 |>.mono HI.out.1.below.size))
          clear h3 a0 a1 a2 a3 a4 x0 x1 x2 x3 x4 R2 R3 hrl hg1'
          go_wp2
          go_roundw
          case rel => exact ⟨k + 1, by omega, by go_num, B3⟩
          case measure => simp [intOf]; omega
    · go_wp2
      go_ret
      exact ⟨rfl, HR.out⟩
end Go.Proofs.YtpdoegafjfhiiaaGreatDoor
