/- Facts and walks for the statement. -/
import Derived.Test.YteadfpkihhaadaaGreatDoorPz19
namespace Go.Proofs.YteadfpkihhaadaaGreatDoor
open Go.RowKit
theorem infoNd : (Tryz.prog.info? 49).map (fun i => (i.zero, i.size, i.bytes)) = some (some (.agg #[.string ⟨#[]⟩, .slice none 0 0, .string ⟨#[]⟩, .int .i64 0, .int .i64 0, .int .i64 0, .int .i64 0]), 7, 88) := by kernel_rfl
def Nd.setNx (k : Int) (x : Nd) : Nd := { x with n := { x.n with nx := k } }
def Nd.setFi (k : Int) (x : Nd) : Nd := { x with n := { x.n with fi := k } }
def lnkM (ns : List Nd) (pa el : Int) : List Nd :=
 if 0 ≤ el ∧ el < ns.length then ns.modify el.toNat (Nd.setNx ns.length)
 else if 0 ≤ pa ∧ pa < ns.length then ns.modify pa.toNat (Nd.setFi ns.length) else ns
theorem modify_map {α β : Type} (f : α → α) (g : α → β) (h : β → β) (e : ∀ x, g (f x) = h (g x)) (l : List α) (i : Nat) : (l.modify i f).map g = (l.map g).modify i h := by
 apply List.ext_getElem
 ·simp
 ·intro k h1 h2
  simp only [List.getElem_map, List.getElem_modify]
  split <;> simp [e]
theorem lnkM_map (ns : List Nd) (pa el : Int) : (lnkM ns pa el).map Nd.n = Tr.link (ns.map Nd.n) pa el := by
 unfold lnkM Tr.link
 rw [List.length_map]
 split
 ·exact modify_map (Nd.setNx ns.length) Nd.n (fun x => { x with nx := ns.length }) (fun _ => rfl) ns _
 ·split
  ·exact modify_map (Nd.setFi ns.length) Nd.n (fun x => { x with fi := ns.length }) (fun _ => rfl) ns _
  ·rfl
theorem lnkM_len (ns : List Nd) (pa el : Int) : (lnkM ns pa el).length = ns.length := by
 unfold lnkM
 repeat' split
 all_goals simp
theorem lnkM_el {ns : List Nd} {pa el : Int} (h : 0 ≤ el ∧ el < ns.length) : lnkM ns pa el = ns.modify el.toNat (Nd.setNx ns.length) := by
 unfold lnkM; rw [if_pos h]
theorem lnkM_pa {ns : List Nd} {pa el : Int} (h : ¬ (0 ≤ el ∧ el < ns.length)) (h2 : 0 ≤ pa ∧ pa < ns.length) : lnkM ns pa el = ns.modify pa.toNat (Nd.setFi ns.length) := by
 unfold lnkM; rw [if_neg h, if_pos h2]
theorem lnkM_no {ns : List Nd} {pa el : Int} (h : ¬ (0 ≤ el ∧ el < ns.length)) (h2 : ¬ (0 ≤ pa ∧ pa < ns.length)) : lnkM ns pa el = ns := by
 unfold lnkM; rw [if_neg h, if_neg h2]
def AddP (B r : Nat) (w : World) (m : Gm) (x : Nd) (pa el : Int) (e : Ending) (w' : World) : Prop :=
 ∃ nv', e = .returned (.int .i64 m.ns.length) ∧ GTo B r w m w' { m with nv := nv', ns := lnkM m.ns pa el ++ [{ x with n := { x.n with pa := pa, fi := -1, nx := -1 } }] }
structure AdR (B r : Nat) (w : World) (m : Gm) (x : Array Value) (ns : List Nd) (p : Nat) (wr : World) : Prop where
 st : GTo B r w m wr { m with ns := ns }
 box : IsBlk wr p 49 x
 ne : ∀ b, m.own r b → b ≠ p
 lo : w.heap.size ≤ p
 fa : ∀ y ∈ ns, 0 < y.n.al.length → ∀ a, y.A = some a → a.block < w.heap.size
theorem lnkM_mem {ns : List Nd} {pa el : Int} {y : Nd} (h : y ∈ lnkM ns pa el) : ∃ z ∈ ns, y.A = z.A ∧ y.n.al = z.n.al := by
 have key : ∀ (i : Nat) (f : Nd → Nd), (∀ x, (f x).A = x.A ∧ (f x).n.al = x.n.al) → y ∈ ns.modify i f → ∃ z ∈ ns, y.A = z.A ∧ y.n.al = z.n.al := by
  intro i f hf hy
  obtain ⟨k, hk, rfl⟩ := List.mem_iff_getElem.1 hy
  rw [List.length_modify] at hk
  rw [List.getElem_modify]
  split
  ·exact ⟨_, List.getElem_mem hk, hf _⟩
  ·exact ⟨_, List.getElem_mem hk, rfl, rfl⟩
 unfold lnkM at h
 split at h
 ·exact key _ (Nd.setNx ns.length) (fun _ => ⟨rfl, rfl⟩) h
 ·split at h
  ·exact key _ (Nd.setFi ns.length) (fun _ => ⟨rfl, rfl⟩) h
  ·exact ⟨y, h, rfl, rfl⟩
theorem GTo.aside {B r : Nat} {w w1 : World} {m m1 : Gm} (h : GTo B r w m w1 m1) {p i : Nat} {u : Value} (hp : w.heap.size ≤ p) (hne : ∀ b, m1.own r b → b ≠ p) (hA : ∀ y ∈ m1.ns, 0 < y.n.al.length → ∀ a, y.A = some a → a.block ≠ p) :
  GTo B r w m (w1.setCell ⟨p, i, none⟩ u) m1 :=
 ⟨h.gs.fr (F := fun b => b = p) (Fr.set w1 ⟨p, i, none⟩ u rfl) hne hA, h.fr.trans (Fr.set (F := fun b => b = p) w1 ⟨p, i, none⟩ u rfl) (fun k hk => Or.inr (by omega)), h.new⟩
theorem GS.attlt {B r : Nat} {w : World} {m : Gm} (h : GS B w r m) : ∀ y ∈ m.ns, 0 < y.n.al.length → ∀ a, y.A = some a → a.block < w.heap.size := fun y hy h0 a ha => by
 obtain ⟨g, o, e, hg, _⟩ := (h.att y hy).att h0
 rw [ha] at e
 injection e with e
 subst e
 exact hg
set_option maxHeartbeats 4000000 in
set_option maxRecDepth 100000 in
theorem add_any (B : Nat) (w : World) (r : Nat) (m : Gm) (h : GS B w r m) (x : Nd) (pa el : Int) (hn : m.ns.length ≤ 1048576) (hx : NdOk w w.heap.size x) (haw : 0 < x.n.al.length → ∀ a, x.A = some a → ¬ m.own r a.block) :
  Calls Tryz.prog 74 #[.pointer (some ⟨r, 0, none⟩), .agg x.cs, .int .i64 pa, .int .i64 el] w (AddP B r w m x pa el) := by
 obtain ⟨An, cn, Ao, co, hc⟩ := h.cells
 have c0 := hc.c0
 have hl' : (m.ns.length : Int) ≤ (cn : Int) := by have := hc.ln; omega
 have hn' : (m.ns.length : Int) ≤ 1048576 := by omega
 have HC := Lib.hid hc
 have HG := Lib.hid h
 obtain ⟨p, hp⟩ : ∃ p, p = w.heap.size := ⟨_, rfl⟩
 obtain ⟨W1, hW1⟩ : ∃ W1, W1 = w.alloc (.cells x.cs 49) := ⟨_, rfl⟩
 have hb1 : Below w.heap.size w W1 := by rw [hW1]; exact (Below.refl _ _).alloc (Nat.le_refl _) _
 have hk1 : IsBlk W1 p 49 x.cs := by rw [hW1, hp]; exact IsBlk.new _ _ _
 have HW1 := Lib.hid (And.intro hb1 hk1)
 have HE1 := Lib.hid hW1
 have HP := Lib.hid hp
 have HX := Lib.hid (And.intro hx haw)
 have HH := Lib.hid (fun w' (i : Int) => has_any w' An m.ns.length cn i)
 have HRC := Lib.hid (fun w' (hb : Below w.heap.size w w') => (hb.cell (p := ⟨r, 0, none⟩) h.blk.lt).trans c0)
 have HA0 := Lib.hid (fun w' (hb : Below W1.heap.size W1 w') => (show AdR B r w m x.cs m.ns p w' from
  ⟨GTo.below h (hb1.trans (hb.mono hb1.size)), hk1.below hb hk1.lt, fun b hb => by have := (h.kinds hb).2.1; omega, Nat.le_of_eq hp.symm, h.attlt⟩))
 have HAL := Lib.hid h.attlt
 have d0 := HRC.out W1 hb1
 obtain ⟨⟨nm, al, tx, pa0, fi0, nx0, at0⟩, Ax, cx⟩ := x
 unfold Nd.cs at HE1 HW1 HA0 ⊢
 simp only at HE1 HW1 HA0 ⊢
 obtain ⟨N, hN⟩ : ∃ N : ByteArray, N = ⟨nm.toArray⟩ := ⟨_, rfl⟩
 obtain ⟨X, hX⟩ : ∃ N : ByteArray, N = ⟨tx.toArray⟩ := ⟨_, rfl⟩
 rw [← hN, ← hX] at HE1 HW1 HA0 ⊢
 have HNX := Lib.hid (And.intro hN hX)
 rw [HE1.out] at d0
 clear h hc c0 hx haw hp hW1 hb1 hk1 hN hX
 go_enter Tryz.func74, Tryz.ntmps74
 go_wp2_with fail
 rw [← HE1.out, ← HP.out]
 refine (HH.out _ el).mono ?_
 rintro e w2 ⟨rfl, h2⟩
 have B2 := Lib.hid h2
 have c0 := HRC.out w2 (HW1.out.1.trans (h2.mono HW1.out.1.size))
 clear h2 d0
 by_cases he : 0 ≤ el ∧ el < (m.ns.length : Int)
 ·rw [decide_eq_true he]
  have hee := lnkM_el (pa := pa) he
  obtain ⟨k, hk⟩ : ∃ k : Nat, el = k := ⟨el.toNat, by omega⟩
  subst hk
  have hk' : k < m.ns.length := by omega
  obtain ⟨ng, hng⟩ := HC.out.an (by omega)
  subst hng
  have hA2 := HA0.out w2 B2.out
  have q0 : w2.cell? ⟨ng, k * 7 + 5, none⟩ = some (.int .i64 m.ns[k].n.nx) := by
   have h1 := hA2.st.gs.nown
   simp only at h1
   rw [HC.out.nv] at h1
   rw [h1.cellAt _ (by omega), fl_at ndV_len _ _ _ hk' (by omega)]
   rfl
  have qf : w2.frozen? ⟨ng, k * 7 + 5, none⟩ = false := by
   have h1 := hA2.st.gs.nown
   simp only at h1
   rw [HC.out.nv] at h1
   exact h1.frozenAt _
  have hst := GTo.nset hA2.st.gs (k := k) (j := 5) (u := .int .i64 m.ns.length) (f := Nd.setNx m.ns.length) HC.out.nv hk' (by omega) (fun _ => rfl) (fun _ => ⟨rfl, rfl, rfl⟩)
  have hnp : p ≠ ng := fun e => hA2.ne ng (Or.inr (Or.inl (by rw [HC.out.nv]; rfl))) e.symm
  obtain ⟨W3, hW3⟩ : ∃ W3, W3 = w2.setCell ⟨ng, k * 7 + 5, none⟩ (.int .i64 m.ns.length) := ⟨_, rfl⟩
  have HA := Lib.hid (show AdR B r w m #[.string N, .slice Ax al.length cx, .string X, .int .i64 pa0, .int .i64 fi0, .int .i64 nx0, .int .i64 at0] (lnkM m.ns pa (k : Int)) p W3 from by
   rw [hee, Int.toNat_natCast, hW3]
   exact ⟨hA2.st.trans hst, hA2.box.far (p := ⟨ng, _, none⟩) hnp _, hA2.ne, hA2.lo, by
    intro y hy
    obtain ⟨z, hz, e1, e2⟩ := lnkM_mem (pa := pa) (el := (k : Int)) (by rw [hee, Int.toNat_natCast]; exact hy)
    rw [e1, e2]; exact hA2.fa z hz⟩)
  have HW3 := Lib.hid hW3
  have he1 := he.1
  have he2 := he.2
  clear hW3 hst hA2 hee hnp he
  generalize m.ns[k].n.nx = nx1 at q0
  clear hk'
  have p3 : W3.cell? ⟨p, 3, none⟩ = some (.int .i64 pa0) := HA.out.box.at_ 3
  have p4 : W3.cell? ⟨p, 4, none⟩ = some (.int .i64 fi0) := HA.out.box.at_ 4
  have p5 : W3.cell? ⟨p, 5, none⟩ = some (.int .i64 nx0) := HA.out.box.at_ 5
  have z3 : W3.frozen? ⟨p, 3, none⟩ = false := HA.out.box.fz 3
  have z4 : W3.frozen? ⟨p, 4, none⟩ = false := HA.out.box.fz 4
  have z5 : W3.frozen? ⟨p, 5, none⟩ = false := HA.out.box.fz 5
  obtain ⟨W4, hW4⟩ : ∃ W4, W4 = ((W3.setCell ⟨p, 3, none⟩ (.int .i64 pa)).setCell ⟨p, 4, none⟩ (.int .i64 (-1))).setCell ⟨p, 5, none⟩ (.int .i64 (-1)) := ⟨_, rfl⟩
  have HB := Lib.hid (show GTo B r w m W4 { m with ns := lnkM m.ns pa (k:Int) } ∧ GS B W4 r { m with ns := lnkM m.ns pa (k:Int) } ∧ IsBlk W4 p 49 #[.string N, .slice Ax al.length cx, .string X, .int .i64 pa, .int .i64 (-1), .int .i64 (-1), .int .i64 at0] from by
   have q := fun (y : Nd) hy h0 a ha => (Nat.ne_of_lt (Nat.lt_of_lt_of_le (HA.out.fa y hy h0 a ha) HA.out.lo) : a.block ≠ p)
   have t1 := ((HA.out.st.aside (i := 3) (u := .int .i64 pa) HA.out.lo HA.out.ne q).aside (i := 4) (u := .int .i64 (-1)) HA.out.lo HA.out.ne q).aside (i := 5) (u := .int .i64 (-1)) HA.out.lo HA.out.ne q
   rw [← hW4] at t1
   exact ⟨t1, t1.gs, by rw [hW4]; exact ((HA.out.box.set 3 _).set 4 _).set 5 _⟩)
  rw [HW3.out] at hW4 p3 p4 p5 z3 z4 z5
  have HW4 := Lib.hid hW4
  clear hW4
  go_wp2
  rw [← HW4.out]
  clear p3 p4 p5 z3 z4 z5
  have l0 : W4.cell? ⟨r, 0, none⟩ = some (.slice (some ⟨ng,0,none⟩) m.ns.length cn) := by
   have h0 := HB.out.2.1.blk.at_ 0
   rw [← HC.out.nv]
   exact h0
  have lf : W4.frozen? ⟨r, 0, none⟩ = false := HB.out.2.1.blk.fz 0
  have p0 : W4.cell? ⟨p, 0, none⟩ = some (.string N) := HB.out.2.2.at_ 0
  have p1 : W4.cell? ⟨p, 1, none⟩ = some (.slice Ax al.length cx) := HB.out.2.2.at_ 1
  have p2 : W4.cell? ⟨p, 2, none⟩ = some (.string X) := HB.out.2.2.at_ 2
  have p3 : W4.cell? ⟨p, 3, none⟩ = some (.int .i64 pa) := HB.out.2.2.at_ 3
  have p4 : W4.cell? ⟨p, 4, none⟩ = some (.int .i64 (-1)) := HB.out.2.2.at_ 4
  have p5 : W4.cell? ⟨p, 5, none⟩ = some (.int .i64 (-1)) := HB.out.2.2.at_ 5
  have p6 : W4.cell? ⟨p, 6, none⟩ = some (.int .i64 at0) := HB.out.2.2.at_ 6
  have hplt := HB.out.2.2.lt
  have hB4 : B ≤ W4.heap.size := Nat.le_trans HB.out.2.1.base (Nat.le_of_lt HB.out.2.1.blk.lt)
  have hrlt := HB.out.2.1.blk.lt
  obtain ⟨i0, hi, hz0, hz1, hz2⟩ := info_parts infoNd
  have hbig : m.ns.length + 1 ≤ maxLen := by unfold maxLen; omega
  have hpr : p ≠ r := fun e => HA.out.ne r (Or.inl rfl) e.symm
  have hrp : r ≠ p := HA.out.ne r (Or.inl rfl)
  refine wp_region_held_drew (S := (fun w' => w'.cell? ⟨p, 0, none⟩ = some (.string N) ∧ w'.cell? ⟨p, 1, none⟩ = some (.slice Ax al.length cx) ∧ w'.cell? ⟨p, 2, none⟩ = some (.string X) ∧ w'.cell? ⟨p, 3, none⟩ = some (.int .i64 pa) ∧ w'.cell? ⟨p, 4, none⟩ = some (.int .i64 (-1)) ∧ w'.cell? ⟨p, 5, none⟩ = some (.int .i64 (-1)) ∧ w'.cell? ⟨p, 6, none⟩ = some (.int .i64 at0))) (by kernel_rfl) ⟨p0, p1, p2, p3, p4, p5, p6⟩ (fun hHeld => ?_)
  refine wpAnyH_take (i := 0) (v := (.pointer (some ⟨r,0,none⟩))) rfl (by kernel_rfl) (by kernel_rfl) (by kernel_rfl) (fun _ _ _ h => h) (Or.inl ⟨by rfl, by (intro w hS; go_simp)⟩) hHeld ?_
  simp only [Act.put, List.getElem_toArray, List.getElem_cons_zero, List.setIfInBounds_toArray, List.set_cons_zero, List.set_cons_succ]
  refine wpAnyH_take (i := 1) (v := (.pointer (some ⟨r,0,none⟩))) rfl (by kernel_rfl) (by kernel_rfl) (by kernel_rfl) (fun _ _ _ h => h) (Or.inl ⟨by rfl, by (intro w hS; try (obtain ⟨s0, s1, s2, s3, s4, s5, s6⟩ := hS); go_simp)⟩) hHeld ?_
  simp only [Act.put, List.getElem_toArray, List.getElem_cons_succ, List.getElem_cons_zero, List.setIfInBounds_toArray, List.set_cons_zero, List.set_cons_succ]
  refine wpAnyH_take (i := 2) (v := (.pointer (some ⟨r,0,none⟩))) rfl (by kernel_rfl) (by kernel_rfl) (by kernel_rfl) (fun _ _ _ h => h) (Or.inl ⟨by rfl, by (intro w hS; try (obtain ⟨s0, s1, s2, s3, s4, s5, s6⟩ := hS); go_simp)⟩) hHeld ?_
  simp only [Act.put, List.getElem_toArray, List.getElem_cons_succ, List.getElem_cons_zero, List.setIfInBounds_toArray, List.set_cons_zero, List.set_cons_succ]
  refine wpAnyH_take (i := 3) (v := (.pointer (some ⟨r,0,none⟩))) rfl (by kernel_rfl) (by kernel_rfl) (by kernel_rfl) (fun _ _ _ h => h) (Or.inl ⟨by rfl, by (intro w hS; try (obtain ⟨s0, s1, s2, s3, s4, s5, s6⟩ := hS); go_simp)⟩) hHeld ?_
  simp only [Act.put, List.getElem_toArray, List.getElem_cons_succ, List.getElem_cons_zero, List.setIfInBounds_toArray, List.set_cons_zero, List.set_cons_succ]
  refine wpAnyH_take (i := 5) (v := (.agg #[.string N, .slice Ax al.length cx, .string X, .int .i64 pa, .int .i64 (-1), .int .i64 (-1), .int .i64 at0])) rfl (by kernel_rfl) (by kernel_rfl) (by kernel_rfl) (fun _ _ _ h => h) (Or.inl ⟨by rfl, by (intro w hS; try (obtain ⟨s0, s1, s2, s3, s4, s5, s6⟩ := hS); go_simp)⟩) hHeld ?_
  simp only [Act.put, List.getElem_toArray, List.getElem_cons_succ, List.getElem_cons_zero, List.setIfInBounds_toArray, List.set_cons_zero, List.set_cons_succ]
  refine wpAnyH_ready (rs := [4, 6]) (by kernel_rfl) (by simp) ?_
  refine AllReadyH.cons rfl (fun K hK => ?_) (AllReadyH.cons rfl (fun K hK => ?_) AllReadyH.nil)
  ·try simp only [List.getElem_toArray, List.getElem_cons_succ, List.getElem_cons_zero]
   go_simp
   refine hK.out _ _ hHeld (fun hHeld => ?_)
   clear hK K
   try simp only [Act.put, List.getElem_toArray, List.getElem_cons_succ, List.getElem_cons_zero, List.setIfInBounds_toArray, List.set_cons_zero, List.set_cons_succ]
   refine wpAnyH_ready (rs := [6]) (by kernel_rfl) (by simp) ?_
   refine AllReadyH.cons rfl (fun K hK => ?_) AllReadyH.nil
   try simp only [List.getElem_toArray, List.getElem_cons_succ, List.getElem_cons_zero]
   go_simp
   refine hK.out _ _ ⟨(World.cell?_alloc_lt _ _ _ (by show p < W4.heap.size; omega)).trans p0, (World.cell?_alloc_lt _ _ _ (by show p < W4.heap.size; omega)).trans p1, (World.cell?_alloc_lt _ _ _ (by show p < W4.heap.size; omega)).trans p2, (World.cell?_alloc_lt _ _ _ (by show p < W4.heap.size; omega)).trans p3, (World.cell?_alloc_lt _ _ _ (by show p < W4.heap.size; omega)).trans p4, (World.cell?_alloc_lt _ _ _ (by show p < W4.heap.size; omega)).trans p5, (World.cell?_alloc_lt _ _ _ (by show p < W4.heap.size; omega)).trans p6⟩ (fun hHeld => ?_)
   clear hK K
   try simp only [Act.put, List.getElem_toArray, List.getElem_cons_succ, List.getElem_cons_zero, List.setIfInBounds_toArray, List.set_cons_zero, List.set_cons_succ]
   refine wpAnyH_ready (rs := [7]) (by kernel_rfl) (by simp) ?_
   refine AllReadyH.cons rfl (fun K hK => ?_) AllReadyH.nil
   obtain ⟨W5, hW5⟩ : ∃ W5, W5 = (W4.alloc (.cells #[.string N, .slice Ax al.length cx, .string X, .int .i64 pa, .int .i64 (-1), .int .i64 (-1), .int .i64 at0] 49)).drew := ⟨_, rfl⟩
   have hb5 : Below W4.heap.size W4 W5 := by rw [hW5]; exact ((Below.refl _ _).alloc (Nat.le_refl _) _).drew
   have hG5 := HB.out.2.1.below hb5
   have hown := hG5.nown
   simp only [lnkM_len] at hown
   rw [HC.out.nv] at hown
   rw [← hW5]
   have hs5 : B ≤ W5.heap.size := Nat.le_trans hB4 hb5.size
   have hz5 : W4.heap.size < W5.heap.size := by rw [hW5]; show W4.heap.size < (W4.alloc _).heap.size; simp
   have hq5 : ∀ i u, (#[.string N, .slice Ax al.length cx, .string X, .int .i64 pa, .int .i64 (-1), .int .i64 (-1), .int .i64 at0] : Array Value).toList[i]? = some u → W5.cell? ((⟨W4.heap.size, 0, none⟩ : Addr).add i) = some u := by rw [hW5]; exact fun i u hu => news_at W4 _ _ _ rfl i u hu
   refine step_append_lies _ (by rfl) _ _ _ (by rfl) B 49 i0 _ 7 88 Tryz.underlying29 hi hz0 hz1 hz2 rfl (by omega) (.slice (some ⟨ng,0,none⟩) m.ns.length cn) m.ns.length ((lnkM m.ns pa (k:Int)).flatMap ndV) (by rfl) (by exact hown) _ 1 _ [.string N, .slice Ax al.length cx, .string X, .int .i64 pa, .int .i64 (-1), .int .i64 (-1), .int .i64 at0] (by rfl) rfl (by exact hq5) (by intro u hu; simp at hu; rcases hu with rfl | rfl | rfl | rfl | rfl | rfl | rfl <;> rfl) (by omega) hbig (by omega) hs5 _ rfl ?_
   intro g9 cap9 w9 hown9 hgr9 hat9 hlt9
   have hx4 := HB.out.1.fr.nd HX.out.1 HX.out.2
   have hx5 := (hx4.below hb5).more hb5.size
   have hT9 := GTo.napp hG5 (x := ⟨⟨nm, al, tx, pa, -1, -1, at0⟩, Ax, cx⟩) (g1 := g9) (cap1 := cap9) (by rw [HC.out.nv]; exact hgr9) (by
    simp only [lnkM_len]
    have e : ndV ⟨⟨nm, al, tx, pa, -1, -1, at0⟩, Ax, cx⟩ = [.string N, .slice Ax al.length cx, .string X, .int .i64 pa, .int .i64 (-1), .int .i64 (-1), .int .i64 at0] := by rw [HNX.out.1, HNX.out.2]; rfl
    rw [e]; exact hown9) (by rw [HC.out.nv]; exact hat9.imp id (fun h => Nat.le_of_eq h.symm)) ⟨hx5.att, hx5.len, hx5.cap⟩ (fun h0 a ha => HX.out.2 h0 a ha)
   simp only [lnkM_len] at hT9
   have hfar : some p ≠ (Value.slice (some ⟨ng,0,none⟩) m.ns.length cn).ownBlock := by rw [← HC.out.nv]; exact fun e => HA.out.ne p (Or.inr (Or.inl e.symm)) rfl
   have hfr9 : some r ≠ (Value.slice (some ⟨ng,0,none⟩) m.ns.length cn).ownBlock := by rw [← HC.out.nv]; exact fun e => blk_apart HB.out.2.1.blk HB.out.2.1.nown (by decide) e.symm
   have hp9 : IsBlk w9 p 49 #[.string N, .slice Ax al.length cx, .string X, .int .i64 pa, .int .i64 (-1), .int .i64 (-1), .int .i64 at0] := (HB.out.2.2.below hb5 hplt).grown hgr9 hfar
   have hr9 : IsBlk w9 r 74 #[.slice (some ⟨ng,0,none⟩) m.ns.length cn, m.ov] := by
    have := (HB.out.2.1.blk.below hb5 hrlt).grown hgr9 hfr9
    simp only [HC.out.nv] at this
    exact this
   have y0 : w9.cell? ⟨r, 0, none⟩ = some (.slice (some ⟨ng,0,none⟩) m.ns.length cn) := hr9.at_ 0
   have yf : w9.frozen? ⟨r, 0, none⟩ = false := hr9.fz 0
   have HT := Lib.hid (HB.out.1.trans ((GTo.below HB.out.2.1 hb5).trans hT9))
   have HP9 := Lib.hid hp9
   clear hT9 hG5 hx4 hx5 hfar hfr9 hr9 hp9 hown hown9 hgr9 hq5
   refine hK.out _ _ ⟨HP9.out.at_ 0, HP9.out.at_ 1, HP9.out.at_ 2, HP9.out.at_ 3, HP9.out.at_ 4, HP9.out.at_ 5, HP9.out.at_ 6⟩ (fun hHeld => ?_)
   clear hK K
   try simp only [Act.put, List.getElem_toArray, List.getElem_cons_succ, List.getElem_cons_zero, List.setIfInBounds_toArray, List.set_cons_zero, List.set_cons_succ]
   refine wpAnyH_take (i := 8) (v := (.pointer (some ⟨r,0,none⟩))) rfl (by kernel_rfl) (by kernel_rfl) (by kernel_rfl) (fun _ _ _ h => h) (Or.inl ⟨by rfl, by (intro w hS; try (obtain ⟨s0, s1, s2, s3, s4, s5, s6⟩ := hS); go_simp)⟩) hHeld ?_
   simp only [Act.put, List.getElem_toArray, List.getElem_cons_succ, List.getElem_cons_zero, List.setIfInBounds_toArray, List.set_cons_zero, List.set_cons_succ]
   refine wpAnyH_take (i := 9) (v := (.pointer (some ⟨r,0,none⟩))) rfl (by kernel_rfl) (by kernel_rfl) (by kernel_rfl) (fun _ _ _ h => h) (Or.inl ⟨by rfl, by (intro w hS; try (obtain ⟨s0, s1, s2, s3, s4, s5, s6⟩ := hS); go_simp)⟩) hHeld ?_
   simp only [Act.put, List.getElem_toArray, List.getElem_cons_succ, List.getElem_cons_zero, List.setIfInBounds_toArray, List.set_cons_zero, List.set_cons_succ]
   refine wpAnyH_ready (rs := [10]) (by kernel_rfl) (by simp) ?_
   refine AllReadyH.cons rfl (fun K hK => ?_) AllReadyH.nil
   try simp only [List.getElem_toArray, List.getElem_cons_succ, List.getElem_cons_zero]
   go_simp
   have HQ9 := Lib.hid (HP9.out.far (p := ⟨r, 0, none⟩) hpr (.slice (some ⟨g9, 0, none⟩) (m.ns.length + 1) cap9))
   refine hK.out _ _ ⟨HQ9.out.at_ 0, HQ9.out.at_ 1, HQ9.out.at_ 2, HQ9.out.at_ 3, HQ9.out.at_ 4, HQ9.out.at_ 5, HQ9.out.at_ 6⟩ (fun hHeld => ?_)
   clear hK K
   try simp only [Act.put, List.getElem_toArray, List.getElem_cons_succ, List.getElem_cons_zero, List.setIfInBounds_toArray, List.set_cons_zero, List.set_cons_succ]
   refine wpAnyH_done (by kernel_rfl) ?_ _
   clear hHeld y0 yf
   go_wp2
   go_ret
   exact ⟨_, rfl, by first | exact HT.out | exact HT.out.on (Below.refl _ _).drew⟩
  ·try simp only [List.getElem_toArray, List.getElem_cons_succ, List.getElem_cons_zero]
   go_simp
   refine hK.out _ _ ⟨(World.cell?_alloc_lt _ _ _ (by show p < W4.heap.size; omega)).trans p0, (World.cell?_alloc_lt _ _ _ (by show p < W4.heap.size; omega)).trans p1, (World.cell?_alloc_lt _ _ _ (by show p < W4.heap.size; omega)).trans p2, (World.cell?_alloc_lt _ _ _ (by show p < W4.heap.size; omega)).trans p3, (World.cell?_alloc_lt _ _ _ (by show p < W4.heap.size; omega)).trans p4, (World.cell?_alloc_lt _ _ _ (by show p < W4.heap.size; omega)).trans p5, (World.cell?_alloc_lt _ _ _ (by show p < W4.heap.size; omega)).trans p6⟩ (fun hHeld => ?_)
   clear hK K
   try simp only [Act.put, List.getElem_toArray, List.getElem_cons_succ, List.getElem_cons_zero, List.setIfInBounds_toArray, List.set_cons_zero, List.set_cons_succ]
   have l1 : (W4.alloc (.cells #[.string N, .slice Ax al.length cx, .string X, .int .i64 pa, .int .i64 (-1), .int .i64 (-1), .int .i64 at0] 49)).cell? ⟨r, 0, none⟩ = some (.slice (some ⟨ng,0,none⟩) m.ns.length cn) := (World.cell?_alloc_lt _ _ _ (by show r < W4.heap.size; omega)).trans l0
   refine wpAnyH_ready (rs := [4]) (by kernel_rfl) (by simp) ?_
   refine AllReadyH.cons rfl (fun K hK => ?_) AllReadyH.nil
   try simp only [List.getElem_toArray, List.getElem_cons_succ, List.getElem_cons_zero]
   go_simp
   refine hK.out _ _ hHeld (fun hHeld => ?_)
   clear hK K l1
   try simp only [Act.put, List.getElem_toArray, List.getElem_cons_succ, List.getElem_cons_zero, List.setIfInBounds_toArray, List.set_cons_zero, List.set_cons_succ]
   refine wpAnyH_ready (rs := [7]) (by kernel_rfl) (by simp) ?_
   refine AllReadyH.cons rfl (fun K hK => ?_) AllReadyH.nil
   obtain ⟨W5, hW5⟩ : ∃ W5, W5 = (W4.alloc (.cells #[.string N, .slice Ax al.length cx, .string X, .int .i64 pa, .int .i64 (-1), .int .i64 (-1), .int .i64 at0] 49)).drew := ⟨_, rfl⟩
   have hb5 : Below W4.heap.size W4 W5 := by rw [hW5]; exact ((Below.refl _ _).alloc (Nat.le_refl _) _).drew
   have hG5 := HB.out.2.1.below hb5
   have hown := hG5.nown
   simp only [lnkM_len] at hown
   rw [HC.out.nv] at hown
   rw [← hW5]
   have hs5 : B ≤ W5.heap.size := Nat.le_trans hB4 hb5.size
   have hz5 : W4.heap.size < W5.heap.size := by rw [hW5]; show W4.heap.size < (W4.alloc _).heap.size; simp
   have hq5 : ∀ i u, (#[.string N, .slice Ax al.length cx, .string X, .int .i64 pa, .int .i64 (-1), .int .i64 (-1), .int .i64 at0] : Array Value).toList[i]? = some u → W5.cell? ((⟨W4.heap.size, 0, none⟩ : Addr).add i) = some u := by rw [hW5]; exact fun i u hu => news_at W4 _ _ _ rfl i u hu
   refine step_append_lies _ (by rfl) _ _ _ (by rfl) B 49 i0 _ 7 88 Tryz.underlying29 hi hz0 hz1 hz2 rfl (by omega) (.slice (some ⟨ng,0,none⟩) m.ns.length cn) m.ns.length ((lnkM m.ns pa (k:Int)).flatMap ndV) (by rfl) (by exact hown) _ 1 _ [.string N, .slice Ax al.length cx, .string X, .int .i64 pa, .int .i64 (-1), .int .i64 (-1), .int .i64 at0] (by rfl) rfl (by exact hq5) (by intro u hu; simp at hu; rcases hu with rfl | rfl | rfl | rfl | rfl | rfl | rfl <;> rfl) (by omega) hbig (by omega) hs5 _ rfl ?_
   intro g9 cap9 w9 hown9 hgr9 hat9 hlt9
   have hx4 := HB.out.1.fr.nd HX.out.1 HX.out.2
   have hx5 := (hx4.below hb5).more hb5.size
   have hT9 := GTo.napp hG5 (x := ⟨⟨nm, al, tx, pa, -1, -1, at0⟩, Ax, cx⟩) (g1 := g9) (cap1 := cap9) (by rw [HC.out.nv]; exact hgr9) (by
    simp only [lnkM_len]
    have e : ndV ⟨⟨nm, al, tx, pa, -1, -1, at0⟩, Ax, cx⟩ = [.string N, .slice Ax al.length cx, .string X, .int .i64 pa, .int .i64 (-1), .int .i64 (-1), .int .i64 at0] := by rw [HNX.out.1, HNX.out.2]; rfl
    rw [e]; exact hown9) (by rw [HC.out.nv]; exact hat9.imp id (fun h => Nat.le_of_eq h.symm)) ⟨hx5.att, hx5.len, hx5.cap⟩ (fun h0 a ha => HX.out.2 h0 a ha)
   simp only [lnkM_len] at hT9
   have hfar : some p ≠ (Value.slice (some ⟨ng,0,none⟩) m.ns.length cn).ownBlock := by rw [← HC.out.nv]; exact fun e => HA.out.ne p (Or.inr (Or.inl e.symm)) rfl
   have hfr9 : some r ≠ (Value.slice (some ⟨ng,0,none⟩) m.ns.length cn).ownBlock := by rw [← HC.out.nv]; exact fun e => blk_apart HB.out.2.1.blk HB.out.2.1.nown (by decide) e.symm
   have hp9 : IsBlk w9 p 49 #[.string N, .slice Ax al.length cx, .string X, .int .i64 pa, .int .i64 (-1), .int .i64 (-1), .int .i64 at0] := (HB.out.2.2.below hb5 hplt).grown hgr9 hfar
   have hr9 : IsBlk w9 r 74 #[.slice (some ⟨ng,0,none⟩) m.ns.length cn, m.ov] := by
    have := (HB.out.2.1.blk.below hb5 hrlt).grown hgr9 hfr9
    simp only [HC.out.nv] at this
    exact this
   have y0 : w9.cell? ⟨r, 0, none⟩ = some (.slice (some ⟨ng,0,none⟩) m.ns.length cn) := hr9.at_ 0
   have yf : w9.frozen? ⟨r, 0, none⟩ = false := hr9.fz 0
   have HT := Lib.hid (HB.out.1.trans ((GTo.below HB.out.2.1 hb5).trans hT9))
   have HP9 := Lib.hid hp9
   clear hT9 hG5 hx4 hx5 hfar hfr9 hr9 hp9 hown hown9 hgr9 hq5
   refine hK.out _ _ ⟨HP9.out.at_ 0, HP9.out.at_ 1, HP9.out.at_ 2, HP9.out.at_ 3, HP9.out.at_ 4, HP9.out.at_ 5, HP9.out.at_ 6⟩ (fun hHeld => ?_)
   clear hK K
   try simp only [Act.put, List.getElem_toArray, List.getElem_cons_succ, List.getElem_cons_zero, List.setIfInBounds_toArray, List.set_cons_zero, List.set_cons_succ]
   refine wpAnyH_take (i := 8) (v := (.pointer (some ⟨r,0,none⟩))) rfl (by kernel_rfl) (by kernel_rfl) (by kernel_rfl) (fun _ _ _ h => h) (Or.inl ⟨by rfl, by (intro w hS; try (obtain ⟨s0, s1, s2, s3, s4, s5, s6⟩ := hS); go_simp)⟩) hHeld ?_
   simp only [Act.put, List.getElem_toArray, List.getElem_cons_succ, List.getElem_cons_zero, List.setIfInBounds_toArray, List.set_cons_zero, List.set_cons_succ]
   refine wpAnyH_take (i := 9) (v := (.pointer (some ⟨r,0,none⟩))) rfl (by kernel_rfl) (by kernel_rfl) (by kernel_rfl) (fun _ _ _ h => h) (Or.inl ⟨by rfl, by (intro w hS; try (obtain ⟨s0, s1, s2, s3, s4, s5, s6⟩ := hS); go_simp)⟩) hHeld ?_
   simp only [Act.put, List.getElem_toArray, List.getElem_cons_succ, List.getElem_cons_zero, List.setIfInBounds_toArray, List.set_cons_zero, List.set_cons_succ]
   refine wpAnyH_ready (rs := [10]) (by kernel_rfl) (by simp) ?_
   refine AllReadyH.cons rfl (fun K hK => ?_) AllReadyH.nil
   try simp only [List.getElem_toArray, List.getElem_cons_succ, List.getElem_cons_zero]
   go_simp
   have HQ9 := Lib.hid (HP9.out.far (p := ⟨r, 0, none⟩) hpr (.slice (some ⟨g9, 0, none⟩) (m.ns.length + 1) cap9))
   refine hK.out _ _ ⟨HQ9.out.at_ 0, HQ9.out.at_ 1, HQ9.out.at_ 2, HQ9.out.at_ 3, HQ9.out.at_ 4, HQ9.out.at_ 5, HQ9.out.at_ 6⟩ (fun hHeld => ?_)
   clear hK K
   try simp only [Act.put, List.getElem_toArray, List.getElem_cons_succ, List.getElem_cons_zero, List.setIfInBounds_toArray, List.set_cons_zero, List.set_cons_succ]
   refine wpAnyH_done (by kernel_rfl) ?_ _
   clear hHeld y0 yf
   go_wp2
   go_ret
   exact ⟨_, rfl, by first | exact HT.out | exact HT.out.on (Below.refl _ _).drew⟩
 ·rw [decide_eq_false he]
  have HNE := Lib.hid he
  clear he
  go_wp2_with fail
  refine (HH.out _ pa).mono ?_
  rintro e w3 ⟨rfl, h3⟩
  have c0 := HRC.out w3 (HW1.out.1.trans ((B2.out.trans (h3.mono B2.out.size)).mono HW1.out.1.size))
  have B3 := Lib.hid (B2.out.trans (h3.mono B2.out.size))
  clear h3
  by_cases hpp : 0 ≤ pa ∧ pa < (m.ns.length : Int)
  ·rw [decide_eq_true hpp]
   have hee := lnkM_pa HNE.out hpp
   obtain ⟨k, hk⟩ : ∃ k : Nat, pa = k := ⟨pa.toNat, by omega⟩
   subst hk
   have hk' : k < m.ns.length := by omega
   obtain ⟨ng, hng⟩ := HC.out.an (by omega)
   subst hng
   have hA2 := HA0.out w3 B3.out
   have q0 : w3.cell? ⟨ng, k * 7 + 4, none⟩ = some (.int .i64 m.ns[k].n.fi) := by
    have h1 := hA2.st.gs.nown
    simp only at h1
    rw [HC.out.nv] at h1
    rw [h1.cellAt _ (by omega), fl_at ndV_len _ _ _ hk' (by omega)]
    rfl
   have qf : w3.frozen? ⟨ng, k * 7 + 4, none⟩ = false := by
    have h1 := hA2.st.gs.nown
    simp only at h1
    rw [HC.out.nv] at h1
    exact h1.frozenAt _
   have hst := GTo.nset hA2.st.gs (k := k) (j := 4) (u := .int .i64 m.ns.length) (f := Nd.setFi m.ns.length) HC.out.nv hk' (by omega) (fun _ => rfl) (fun _ => ⟨rfl, rfl, rfl⟩)
   have hnp : p ≠ ng := fun e => hA2.ne ng (Or.inr (Or.inl (by rw [HC.out.nv]; rfl))) e.symm
   obtain ⟨W3, hW3⟩ : ∃ W3, W3 = w3.setCell ⟨ng, k * 7 + 4, none⟩ (.int .i64 m.ns.length) := ⟨_, rfl⟩
   have HA := Lib.hid (show AdR B r w m #[.string N, .slice Ax al.length cx, .string X, .int .i64 pa0, .int .i64 fi0, .int .i64 nx0, .int .i64 at0] (lnkM m.ns (k : Int) el) p W3 from by
    rw [hee, Int.toNat_natCast, hW3]
    exact ⟨hA2.st.trans hst, hA2.box.far (p := ⟨ng, _, none⟩) hnp _, hA2.ne, hA2.lo, by
     intro y hy
     obtain ⟨z, hz, e1, e2⟩ := lnkM_mem (pa := (k : Int)) (el := el) (by rw [hee, Int.toNat_natCast]; exact hy)
     rw [e1, e2]; exact hA2.fa z hz⟩)
   have HW3 := Lib.hid hW3
   have he1 := hpp.1
   have he2 := hpp.2
   clear hW3 hst hA2 hee hnp hpp
   generalize m.ns[k].n.fi = fi1 at q0
   clear hk'
   have p3 : W3.cell? ⟨p, 3, none⟩ = some (.int .i64 pa0) := HA.out.box.at_ 3
   have p4 : W3.cell? ⟨p, 4, none⟩ = some (.int .i64 fi0) := HA.out.box.at_ 4
   have p5 : W3.cell? ⟨p, 5, none⟩ = some (.int .i64 nx0) := HA.out.box.at_ 5
   have z3 : W3.frozen? ⟨p, 3, none⟩ = false := HA.out.box.fz 3
   have z4 : W3.frozen? ⟨p, 4, none⟩ = false := HA.out.box.fz 4
   have z5 : W3.frozen? ⟨p, 5, none⟩ = false := HA.out.box.fz 5
   obtain ⟨W4, hW4⟩ : ∃ W4, W4 = ((W3.setCell ⟨p, 3, none⟩ (.int .i64 (k:Int))).setCell ⟨p, 4, none⟩ (.int .i64 (-1))).setCell ⟨p, 5, none⟩ (.int .i64 (-1)) := ⟨_, rfl⟩
   have HB := Lib.hid (show GTo B r w m W4 { m with ns := lnkM m.ns (k:Int) el } ∧ GS B W4 r { m with ns := lnkM m.ns (k:Int) el } ∧ IsBlk W4 p 49 #[.string N, .slice Ax al.length cx, .string X, .int .i64 (k:Int), .int .i64 (-1), .int .i64 (-1), .int .i64 at0] from by
    have q := fun (y : Nd) hy h0 a ha => (Nat.ne_of_lt (Nat.lt_of_lt_of_le (HA.out.fa y hy h0 a ha) HA.out.lo) : a.block ≠ p)
    have t1 := ((HA.out.st.aside (i := 3) (u := .int .i64 (k:Int)) HA.out.lo HA.out.ne q).aside (i := 4) (u := .int .i64 (-1)) HA.out.lo HA.out.ne q).aside (i := 5) (u := .int .i64 (-1)) HA.out.lo HA.out.ne q
    rw [← hW4] at t1
    exact ⟨t1, t1.gs, by rw [hW4]; exact ((HA.out.box.set 3 _).set 4 _).set 5 _⟩)
   rw [HW3.out] at hW4 p3 p4 p5 z3 z4 z5
   have HW4 := Lib.hid hW4
   clear hW4
   go_wp2
   rw [← HW4.out]
   clear p3 p4 p5 z3 z4 z5
   have l0 : W4.cell? ⟨r, 0, none⟩ = some (.slice (some ⟨ng,0,none⟩) m.ns.length cn) := by
    have h0 := HB.out.2.1.blk.at_ 0
    rw [← HC.out.nv]
    exact h0
   have lf : W4.frozen? ⟨r, 0, none⟩ = false := HB.out.2.1.blk.fz 0
   have p0 : W4.cell? ⟨p, 0, none⟩ = some (.string N) := HB.out.2.2.at_ 0
   have p1 : W4.cell? ⟨p, 1, none⟩ = some (.slice Ax al.length cx) := HB.out.2.2.at_ 1
   have p2 : W4.cell? ⟨p, 2, none⟩ = some (.string X) := HB.out.2.2.at_ 2
   have p3 : W4.cell? ⟨p, 3, none⟩ = some (.int .i64 (k:Int)) := HB.out.2.2.at_ 3
   have p4 : W4.cell? ⟨p, 4, none⟩ = some (.int .i64 (-1)) := HB.out.2.2.at_ 4
   have p5 : W4.cell? ⟨p, 5, none⟩ = some (.int .i64 (-1)) := HB.out.2.2.at_ 5
   have p6 : W4.cell? ⟨p, 6, none⟩ = some (.int .i64 at0) := HB.out.2.2.at_ 6
   have hplt := HB.out.2.2.lt
   have hB4 : B ≤ W4.heap.size := Nat.le_trans HB.out.2.1.base (Nat.le_of_lt HB.out.2.1.blk.lt)
   have hrlt := HB.out.2.1.blk.lt
   obtain ⟨i0, hi, hz0, hz1, hz2⟩ := info_parts infoNd
   have hbig : m.ns.length + 1 ≤ maxLen := by unfold maxLen; omega
   have hpr : p ≠ r := fun e => HA.out.ne r (Or.inl rfl) e.symm
   have hrp : r ≠ p := HA.out.ne r (Or.inl rfl)
   refine wp_region_held_drew (S := (fun w' => w'.cell? ⟨p, 0, none⟩ = some (.string N) ∧ w'.cell? ⟨p, 1, none⟩ = some (.slice Ax al.length cx) ∧ w'.cell? ⟨p, 2, none⟩ = some (.string X) ∧ w'.cell? ⟨p, 3, none⟩ = some (.int .i64 (k:Int)) ∧ w'.cell? ⟨p, 4, none⟩ = some (.int .i64 (-1)) ∧ w'.cell? ⟨p, 5, none⟩ = some (.int .i64 (-1)) ∧ w'.cell? ⟨p, 6, none⟩ = some (.int .i64 at0))) (by kernel_rfl) ⟨p0, p1, p2, p3, p4, p5, p6⟩ (fun hHeld => ?_)
   refine wpAnyH_take (i := 0) (v := (.pointer (some ⟨r,0,none⟩))) rfl (by kernel_rfl) (by kernel_rfl) (by kernel_rfl) (fun _ _ _ h => h) (Or.inl ⟨by rfl, by (intro w hS; go_simp)⟩) hHeld ?_
   simp only [Act.put, List.getElem_toArray, List.getElem_cons_zero, List.setIfInBounds_toArray, List.set_cons_zero, List.set_cons_succ]
   refine wpAnyH_take (i := 1) (v := (.pointer (some ⟨r,0,none⟩))) rfl (by kernel_rfl) (by kernel_rfl) (by kernel_rfl) (fun _ _ _ h => h) (Or.inl ⟨by rfl, by (intro w hS; try (obtain ⟨s0, s1, s2, s3, s4, s5, s6⟩ := hS); go_simp)⟩) hHeld ?_
   simp only [Act.put, List.getElem_toArray, List.getElem_cons_succ, List.getElem_cons_zero, List.setIfInBounds_toArray, List.set_cons_zero, List.set_cons_succ]
   refine wpAnyH_take (i := 2) (v := (.pointer (some ⟨r,0,none⟩))) rfl (by kernel_rfl) (by kernel_rfl) (by kernel_rfl) (fun _ _ _ h => h) (Or.inl ⟨by rfl, by (intro w hS; try (obtain ⟨s0, s1, s2, s3, s4, s5, s6⟩ := hS); go_simp)⟩) hHeld ?_
   simp only [Act.put, List.getElem_toArray, List.getElem_cons_succ, List.getElem_cons_zero, List.setIfInBounds_toArray, List.set_cons_zero, List.set_cons_succ]
   refine wpAnyH_take (i := 3) (v := (.pointer (some ⟨r,0,none⟩))) rfl (by kernel_rfl) (by kernel_rfl) (by kernel_rfl) (fun _ _ _ h => h) (Or.inl ⟨by rfl, by (intro w hS; try (obtain ⟨s0, s1, s2, s3, s4, s5, s6⟩ := hS); go_simp)⟩) hHeld ?_
   simp only [Act.put, List.getElem_toArray, List.getElem_cons_succ, List.getElem_cons_zero, List.setIfInBounds_toArray, List.set_cons_zero, List.set_cons_succ]
   refine wpAnyH_take (i := 5) (v := (.agg #[.string N, .slice Ax al.length cx, .string X, .int .i64 (k:Int), .int .i64 (-1), .int .i64 (-1), .int .i64 at0])) rfl (by kernel_rfl) (by kernel_rfl) (by kernel_rfl) (fun _ _ _ h => h) (Or.inl ⟨by rfl, by (intro w hS; try (obtain ⟨s0, s1, s2, s3, s4, s5, s6⟩ := hS); go_simp)⟩) hHeld ?_
   simp only [Act.put, List.getElem_toArray, List.getElem_cons_succ, List.getElem_cons_zero, List.setIfInBounds_toArray, List.set_cons_zero, List.set_cons_succ]
   refine wpAnyH_ready (rs := [4, 6]) (by kernel_rfl) (by simp) ?_
   refine AllReadyH.cons rfl (fun K hK => ?_) (AllReadyH.cons rfl (fun K hK => ?_) AllReadyH.nil)
   ·try simp only [List.getElem_toArray, List.getElem_cons_succ, List.getElem_cons_zero]
    go_simp
    refine hK.out _ _ hHeld (fun hHeld => ?_)
    clear hK K
    try simp only [Act.put, List.getElem_toArray, List.getElem_cons_succ, List.getElem_cons_zero, List.setIfInBounds_toArray, List.set_cons_zero, List.set_cons_succ]
    refine wpAnyH_ready (rs := [6]) (by kernel_rfl) (by simp) ?_
    refine AllReadyH.cons rfl (fun K hK => ?_) AllReadyH.nil
    try simp only [List.getElem_toArray, List.getElem_cons_succ, List.getElem_cons_zero]
    go_simp
    refine hK.out _ _ ⟨(World.cell?_alloc_lt _ _ _ (by show p < W4.heap.size; omega)).trans p0, (World.cell?_alloc_lt _ _ _ (by show p < W4.heap.size; omega)).trans p1, (World.cell?_alloc_lt _ _ _ (by show p < W4.heap.size; omega)).trans p2, (World.cell?_alloc_lt _ _ _ (by show p < W4.heap.size; omega)).trans p3, (World.cell?_alloc_lt _ _ _ (by show p < W4.heap.size; omega)).trans p4, (World.cell?_alloc_lt _ _ _ (by show p < W4.heap.size; omega)).trans p5, (World.cell?_alloc_lt _ _ _ (by show p < W4.heap.size; omega)).trans p6⟩ (fun hHeld => ?_)
    clear hK K
    try simp only [Act.put, List.getElem_toArray, List.getElem_cons_succ, List.getElem_cons_zero, List.setIfInBounds_toArray, List.set_cons_zero, List.set_cons_succ]
    refine wpAnyH_ready (rs := [7]) (by kernel_rfl) (by simp) ?_
    refine AllReadyH.cons rfl (fun K hK => ?_) AllReadyH.nil
    obtain ⟨W5, hW5⟩ : ∃ W5, W5 = (W4.alloc (.cells #[.string N, .slice Ax al.length cx, .string X, .int .i64 (k:Int), .int .i64 (-1), .int .i64 (-1), .int .i64 at0] 49)).drew := ⟨_, rfl⟩
    have hb5 : Below W4.heap.size W4 W5 := by rw [hW5]; exact ((Below.refl _ _).alloc (Nat.le_refl _) _).drew
    have hG5 := HB.out.2.1.below hb5
    have hown := hG5.nown
    simp only [lnkM_len] at hown
    rw [HC.out.nv] at hown
    rw [← hW5]
    have hs5 : B ≤ W5.heap.size := Nat.le_trans hB4 hb5.size
    have hz5 : W4.heap.size < W5.heap.size := by rw [hW5]; show W4.heap.size < (W4.alloc _).heap.size; simp
    have hq5 : ∀ i u, (#[.string N, .slice Ax al.length cx, .string X, .int .i64 (k:Int), .int .i64 (-1), .int .i64 (-1), .int .i64 at0] : Array Value).toList[i]? = some u → W5.cell? ((⟨W4.heap.size, 0, none⟩ : Addr).add i) = some u := by rw [hW5]; exact fun i u hu => news_at W4 _ _ _ rfl i u hu
    refine step_append_lies _ (by rfl) _ _ _ (by rfl) B 49 i0 _ 7 88 Tryz.underlying29 hi hz0 hz1 hz2 rfl (by omega) (.slice (some ⟨ng,0,none⟩) m.ns.length cn) m.ns.length ((lnkM m.ns (k:Int) el).flatMap ndV) (by rfl) (by exact hown) _ 1 _ [.string N, .slice Ax al.length cx, .string X, .int .i64 (k:Int), .int .i64 (-1), .int .i64 (-1), .int .i64 at0] (by rfl) rfl (by exact hq5) (by intro u hu; simp at hu; rcases hu with rfl | rfl | rfl | rfl | rfl | rfl | rfl <;> rfl) (by omega) hbig (by omega) hs5 _ rfl ?_
    intro g9 cap9 w9 hown9 hgr9 hat9 hlt9
    have hx4 := HB.out.1.fr.nd HX.out.1 HX.out.2
    have hx5 := (hx4.below hb5).more hb5.size
    have hT9 := GTo.napp hG5 (x := ⟨⟨nm, al, tx, (k:Int), -1, -1, at0⟩, Ax, cx⟩) (g1 := g9) (cap1 := cap9) (by rw [HC.out.nv]; exact hgr9) (by
     simp only [lnkM_len]
     have e : ndV ⟨⟨nm, al, tx, (k:Int), -1, -1, at0⟩, Ax, cx⟩ = [.string N, .slice Ax al.length cx, .string X, .int .i64 (k:Int), .int .i64 (-1), .int .i64 (-1), .int .i64 at0] := by rw [HNX.out.1, HNX.out.2]; rfl
     rw [e]; exact hown9) (by rw [HC.out.nv]; exact hat9.imp id (fun h => Nat.le_of_eq h.symm)) ⟨hx5.att, hx5.len, hx5.cap⟩ (fun h0 a ha => HX.out.2 h0 a ha)
    simp only [lnkM_len] at hT9
    have hfar : some p ≠ (Value.slice (some ⟨ng,0,none⟩) m.ns.length cn).ownBlock := by rw [← HC.out.nv]; exact fun e => HA.out.ne p (Or.inr (Or.inl e.symm)) rfl
    have hfr9 : some r ≠ (Value.slice (some ⟨ng,0,none⟩) m.ns.length cn).ownBlock := by rw [← HC.out.nv]; exact fun e => blk_apart HB.out.2.1.blk HB.out.2.1.nown (by decide) e.symm
    have hp9 : IsBlk w9 p 49 #[.string N, .slice Ax al.length cx, .string X, .int .i64 (k:Int), .int .i64 (-1), .int .i64 (-1), .int .i64 at0] := (HB.out.2.2.below hb5 hplt).grown hgr9 hfar
    have hr9 : IsBlk w9 r 74 #[.slice (some ⟨ng,0,none⟩) m.ns.length cn, m.ov] := by
     have := (HB.out.2.1.blk.below hb5 hrlt).grown hgr9 hfr9
     simp only [HC.out.nv] at this
     exact this
    have y0 : w9.cell? ⟨r, 0, none⟩ = some (.slice (some ⟨ng,0,none⟩) m.ns.length cn) := hr9.at_ 0
    have yf : w9.frozen? ⟨r, 0, none⟩ = false := hr9.fz 0
    have HT := Lib.hid (HB.out.1.trans ((GTo.below HB.out.2.1 hb5).trans hT9))
    have HP9 := Lib.hid hp9
    clear hT9 hG5 hx4 hx5 hfar hfr9 hr9 hp9 hown hown9 hgr9 hq5
    refine hK.out _ _ ⟨HP9.out.at_ 0, HP9.out.at_ 1, HP9.out.at_ 2, HP9.out.at_ 3, HP9.out.at_ 4, HP9.out.at_ 5, HP9.out.at_ 6⟩ (fun hHeld => ?_)
    clear hK K
    try simp only [Act.put, List.getElem_toArray, List.getElem_cons_succ, List.getElem_cons_zero, List.setIfInBounds_toArray, List.set_cons_zero, List.set_cons_succ]
    refine wpAnyH_take (i := 8) (v := (.pointer (some ⟨r,0,none⟩))) rfl (by kernel_rfl) (by kernel_rfl) (by kernel_rfl) (fun _ _ _ h => h) (Or.inl ⟨by rfl, by (intro w hS; try (obtain ⟨s0, s1, s2, s3, s4, s5, s6⟩ := hS); go_simp)⟩) hHeld ?_
    simp only [Act.put, List.getElem_toArray, List.getElem_cons_succ, List.getElem_cons_zero, List.setIfInBounds_toArray, List.set_cons_zero, List.set_cons_succ]
    refine wpAnyH_take (i := 9) (v := (.pointer (some ⟨r,0,none⟩))) rfl (by kernel_rfl) (by kernel_rfl) (by kernel_rfl) (fun _ _ _ h => h) (Or.inl ⟨by rfl, by (intro w hS; try (obtain ⟨s0, s1, s2, s3, s4, s5, s6⟩ := hS); go_simp)⟩) hHeld ?_
    simp only [Act.put, List.getElem_toArray, List.getElem_cons_succ, List.getElem_cons_zero, List.setIfInBounds_toArray, List.set_cons_zero, List.set_cons_succ]
    refine wpAnyH_ready (rs := [10]) (by kernel_rfl) (by simp) ?_
    refine AllReadyH.cons rfl (fun K hK => ?_) AllReadyH.nil
    try simp only [List.getElem_toArray, List.getElem_cons_succ, List.getElem_cons_zero]
    go_simp
    have HQ9 := Lib.hid (HP9.out.far (p := ⟨r, 0, none⟩) hpr (.slice (some ⟨g9, 0, none⟩) (m.ns.length + 1) cap9))
    refine hK.out _ _ ⟨HQ9.out.at_ 0, HQ9.out.at_ 1, HQ9.out.at_ 2, HQ9.out.at_ 3, HQ9.out.at_ 4, HQ9.out.at_ 5, HQ9.out.at_ 6⟩ (fun hHeld => ?_)
    clear hK K
    try simp only [Act.put, List.getElem_toArray, List.getElem_cons_succ, List.getElem_cons_zero, List.setIfInBounds_toArray, List.set_cons_zero, List.set_cons_succ]
    refine wpAnyH_done (by kernel_rfl) ?_ _
    clear hHeld y0 yf
    go_wp2
    go_ret
    exact ⟨_, rfl, by first | exact HT.out | exact HT.out.on (Below.refl _ _).drew⟩
   ·try simp only [List.getElem_toArray, List.getElem_cons_succ, List.getElem_cons_zero]
    go_simp
    refine hK.out _ _ ⟨(World.cell?_alloc_lt _ _ _ (by show p < W4.heap.size; omega)).trans p0, (World.cell?_alloc_lt _ _ _ (by show p < W4.heap.size; omega)).trans p1, (World.cell?_alloc_lt _ _ _ (by show p < W4.heap.size; omega)).trans p2, (World.cell?_alloc_lt _ _ _ (by show p < W4.heap.size; omega)).trans p3, (World.cell?_alloc_lt _ _ _ (by show p < W4.heap.size; omega)).trans p4, (World.cell?_alloc_lt _ _ _ (by show p < W4.heap.size; omega)).trans p5, (World.cell?_alloc_lt _ _ _ (by show p < W4.heap.size; omega)).trans p6⟩ (fun hHeld => ?_)
    clear hK K
    try simp only [Act.put, List.getElem_toArray, List.getElem_cons_succ, List.getElem_cons_zero, List.setIfInBounds_toArray, List.set_cons_zero, List.set_cons_succ]
    have l1 : (W4.alloc (.cells #[.string N, .slice Ax al.length cx, .string X, .int .i64 (k:Int), .int .i64 (-1), .int .i64 (-1), .int .i64 at0] 49)).cell? ⟨r, 0, none⟩ = some (.slice (some ⟨ng,0,none⟩) m.ns.length cn) := (World.cell?_alloc_lt _ _ _ (by show r < W4.heap.size; omega)).trans l0
    refine wpAnyH_ready (rs := [4]) (by kernel_rfl) (by simp) ?_
    refine AllReadyH.cons rfl (fun K hK => ?_) AllReadyH.nil
    try simp only [List.getElem_toArray, List.getElem_cons_succ, List.getElem_cons_zero]
    go_simp
    refine hK.out _ _ hHeld (fun hHeld => ?_)
    clear hK K l1
    try simp only [Act.put, List.getElem_toArray, List.getElem_cons_succ, List.getElem_cons_zero, List.setIfInBounds_toArray, List.set_cons_zero, List.set_cons_succ]
    refine wpAnyH_ready (rs := [7]) (by kernel_rfl) (by simp) ?_
    refine AllReadyH.cons rfl (fun K hK => ?_) AllReadyH.nil
    obtain ⟨W5, hW5⟩ : ∃ W5, W5 = (W4.alloc (.cells #[.string N, .slice Ax al.length cx, .string X, .int .i64 (k:Int), .int .i64 (-1), .int .i64 (-1), .int .i64 at0] 49)).drew := ⟨_, rfl⟩
    have hb5 : Below W4.heap.size W4 W5 := by rw [hW5]; exact ((Below.refl _ _).alloc (Nat.le_refl _) _).drew
    have hG5 := HB.out.2.1.below hb5
    have hown := hG5.nown
    simp only [lnkM_len] at hown
    rw [HC.out.nv] at hown
    rw [← hW5]
    have hs5 : B ≤ W5.heap.size := Nat.le_trans hB4 hb5.size
    have hz5 : W4.heap.size < W5.heap.size := by rw [hW5]; show W4.heap.size < (W4.alloc _).heap.size; simp
    have hq5 : ∀ i u, (#[.string N, .slice Ax al.length cx, .string X, .int .i64 (k:Int), .int .i64 (-1), .int .i64 (-1), .int .i64 at0] : Array Value).toList[i]? = some u → W5.cell? ((⟨W4.heap.size, 0, none⟩ : Addr).add i) = some u := by rw [hW5]; exact fun i u hu => news_at W4 _ _ _ rfl i u hu
    refine step_append_lies _ (by rfl) _ _ _ (by rfl) B 49 i0 _ 7 88 Tryz.underlying29 hi hz0 hz1 hz2 rfl (by omega) (.slice (some ⟨ng,0,none⟩) m.ns.length cn) m.ns.length ((lnkM m.ns (k:Int) el).flatMap ndV) (by rfl) (by exact hown) _ 1 _ [.string N, .slice Ax al.length cx, .string X, .int .i64 (k:Int), .int .i64 (-1), .int .i64 (-1), .int .i64 at0] (by rfl) rfl (by exact hq5) (by intro u hu; simp at hu; rcases hu with rfl | rfl | rfl | rfl | rfl | rfl | rfl <;> rfl) (by omega) hbig (by omega) hs5 _ rfl ?_
    intro g9 cap9 w9 hown9 hgr9 hat9 hlt9
    have hx4 := HB.out.1.fr.nd HX.out.1 HX.out.2
    have hx5 := (hx4.below hb5).more hb5.size
    have hT9 := GTo.napp hG5 (x := ⟨⟨nm, al, tx, (k:Int), -1, -1, at0⟩, Ax, cx⟩) (g1 := g9) (cap1 := cap9) (by rw [HC.out.nv]; exact hgr9) (by
     simp only [lnkM_len]
     have e : ndV ⟨⟨nm, al, tx, (k:Int), -1, -1, at0⟩, Ax, cx⟩ = [.string N, .slice Ax al.length cx, .string X, .int .i64 (k:Int), .int .i64 (-1), .int .i64 (-1), .int .i64 at0] := by rw [HNX.out.1, HNX.out.2]; rfl
     rw [e]; exact hown9) (by rw [HC.out.nv]; exact hat9.imp id (fun h => Nat.le_of_eq h.symm)) ⟨hx5.att, hx5.len, hx5.cap⟩ (fun h0 a ha => HX.out.2 h0 a ha)
    simp only [lnkM_len] at hT9
    have hfar : some p ≠ (Value.slice (some ⟨ng,0,none⟩) m.ns.length cn).ownBlock := by rw [← HC.out.nv]; exact fun e => HA.out.ne p (Or.inr (Or.inl e.symm)) rfl
    have hfr9 : some r ≠ (Value.slice (some ⟨ng,0,none⟩) m.ns.length cn).ownBlock := by rw [← HC.out.nv]; exact fun e => blk_apart HB.out.2.1.blk HB.out.2.1.nown (by decide) e.symm
    have hp9 : IsBlk w9 p 49 #[.string N, .slice Ax al.length cx, .string X, .int .i64 (k:Int), .int .i64 (-1), .int .i64 (-1), .int .i64 at0] := (HB.out.2.2.below hb5 hplt).grown hgr9 hfar
    have hr9 : IsBlk w9 r 74 #[.slice (some ⟨ng,0,none⟩) m.ns.length cn, m.ov] := by
     have := (HB.out.2.1.blk.below hb5 hrlt).grown hgr9 hfr9
     simp only [HC.out.nv] at this
     exact this
    have y0 : w9.cell? ⟨r, 0, none⟩ = some (.slice (some ⟨ng,0,none⟩) m.ns.length cn) := hr9.at_ 0
    have yf : w9.frozen? ⟨r, 0, none⟩ = false := hr9.fz 0
    have HT := Lib.hid (HB.out.1.trans ((GTo.below HB.out.2.1 hb5).trans hT9))
    have HP9 := Lib.hid hp9
    clear hT9 hG5 hx4 hx5 hfar hfr9 hr9 hp9 hown hown9 hgr9 hq5
    refine hK.out _ _ ⟨HP9.out.at_ 0, HP9.out.at_ 1, HP9.out.at_ 2, HP9.out.at_ 3, HP9.out.at_ 4, HP9.out.at_ 5, HP9.out.at_ 6⟩ (fun hHeld => ?_)
    clear hK K
    try simp only [Act.put, List.getElem_toArray, List.getElem_cons_succ, List.getElem_cons_zero, List.setIfInBounds_toArray, List.set_cons_zero, List.set_cons_succ]
    refine wpAnyH_take (i := 8) (v := (.pointer (some ⟨r,0,none⟩))) rfl (by kernel_rfl) (by kernel_rfl) (by kernel_rfl) (fun _ _ _ h => h) (Or.inl ⟨by rfl, by (intro w hS; try (obtain ⟨s0, s1, s2, s3, s4, s5, s6⟩ := hS); go_simp)⟩) hHeld ?_
    simp only [Act.put, List.getElem_toArray, List.getElem_cons_succ, List.getElem_cons_zero, List.setIfInBounds_toArray, List.set_cons_zero, List.set_cons_succ]
    refine wpAnyH_take (i := 9) (v := (.pointer (some ⟨r,0,none⟩))) rfl (by kernel_rfl) (by kernel_rfl) (by kernel_rfl) (fun _ _ _ h => h) (Or.inl ⟨by rfl, by (intro w hS; try (obtain ⟨s0, s1, s2, s3, s4, s5, s6⟩ := hS); go_simp)⟩) hHeld ?_
    simp only [Act.put, List.getElem_toArray, List.getElem_cons_succ, List.getElem_cons_zero, List.setIfInBounds_toArray, List.set_cons_zero, List.set_cons_succ]
    refine wpAnyH_ready (rs := [10]) (by kernel_rfl) (by simp) ?_
    refine AllReadyH.cons rfl (fun K hK => ?_) AllReadyH.nil
    try simp only [List.getElem_toArray, List.getElem_cons_succ, List.getElem_cons_zero]
    go_simp
    have HQ9 := Lib.hid (HP9.out.far (p := ⟨r, 0, none⟩) hpr (.slice (some ⟨g9, 0, none⟩) (m.ns.length + 1) cap9))
    refine hK.out _ _ ⟨HQ9.out.at_ 0, HQ9.out.at_ 1, HQ9.out.at_ 2, HQ9.out.at_ 3, HQ9.out.at_ 4, HQ9.out.at_ 5, HQ9.out.at_ 6⟩ (fun hHeld => ?_)
    clear hK K
    try simp only [Act.put, List.getElem_toArray, List.getElem_cons_succ, List.getElem_cons_zero, List.setIfInBounds_toArray, List.set_cons_zero, List.set_cons_succ]
    refine wpAnyH_done (by kernel_rfl) ?_ _
    clear hHeld y0 yf
    go_wp2
    go_ret
    exact ⟨_, rfl, by first | exact HT.out | exact HT.out.on (Below.refl _ _).drew⟩
  ·rw [decide_eq_false hpp]
   have hee := lnkM_no HNE.out hpp
   have HA := Lib.hid (HA0.out w3 B3.out)
   rw [← hee] at HA
   clear hpp hee
   obtain ⟨W3, hW3⟩ : ∃ W3, W3 = w3 := ⟨_, rfl⟩
   rw [← hW3] at HA
   have HW3 := Lib.hid hW3
   clear hW3
   have p3 : W3.cell? ⟨p, 3, none⟩ = some (.int .i64 pa0) := HA.out.box.at_ 3
   have p4 : W3.cell? ⟨p, 4, none⟩ = some (.int .i64 fi0) := HA.out.box.at_ 4
   have p5 : W3.cell? ⟨p, 5, none⟩ = some (.int .i64 nx0) := HA.out.box.at_ 5
   have z3 : W3.frozen? ⟨p, 3, none⟩ = false := HA.out.box.fz 3
   have z4 : W3.frozen? ⟨p, 4, none⟩ = false := HA.out.box.fz 4
   have z5 : W3.frozen? ⟨p, 5, none⟩ = false := HA.out.box.fz 5
   obtain ⟨W4, hW4⟩ : ∃ W4, W4 = ((W3.setCell ⟨p, 3, none⟩ (.int .i64 pa)).setCell ⟨p, 4, none⟩ (.int .i64 (-1))).setCell ⟨p, 5, none⟩ (.int .i64 (-1)) := ⟨_, rfl⟩
   have HB := Lib.hid (show GTo B r w m W4 { m with ns := lnkM m.ns pa el } ∧ GS B W4 r { m with ns := lnkM m.ns pa el } ∧ IsBlk W4 p 49 #[.string N, .slice Ax al.length cx, .string X, .int .i64 pa, .int .i64 (-1), .int .i64 (-1), .int .i64 at0] from by
    have q := fun (y : Nd) hy h0 a ha => (Nat.ne_of_lt (Nat.lt_of_lt_of_le (HA.out.fa y hy h0 a ha) HA.out.lo) : a.block ≠ p)
    have t1 := ((HA.out.st.aside (i := 3) (u := .int .i64 pa) HA.out.lo HA.out.ne q).aside (i := 4) (u := .int .i64 (-1)) HA.out.lo HA.out.ne q).aside (i := 5) (u := .int .i64 (-1)) HA.out.lo HA.out.ne q
    rw [← hW4] at t1
    exact ⟨t1, t1.gs, by rw [hW4]; exact ((HA.out.box.set 3 _).set 4 _).set 5 _⟩)
   rw [HW3.out] at hW4 p3 p4 p5 z3 z4 z5
   have HW4 := Lib.hid hW4
   clear hW4
   go_wp2
   rw [← HW4.out]
   clear p3 p4 p5 z3 z4 z5
   have l0 : W4.cell? ⟨r, 0, none⟩ = some (.slice An m.ns.length cn) := by
    have h0 := HB.out.2.1.blk.at_ 0
    rw [← HC.out.nv]
    exact h0
   have lf : W4.frozen? ⟨r, 0, none⟩ = false := HB.out.2.1.blk.fz 0
   have p0 : W4.cell? ⟨p, 0, none⟩ = some (.string N) := HB.out.2.2.at_ 0
   have p1 : W4.cell? ⟨p, 1, none⟩ = some (.slice Ax al.length cx) := HB.out.2.2.at_ 1
   have p2 : W4.cell? ⟨p, 2, none⟩ = some (.string X) := HB.out.2.2.at_ 2
   have p3 : W4.cell? ⟨p, 3, none⟩ = some (.int .i64 pa) := HB.out.2.2.at_ 3
   have p4 : W4.cell? ⟨p, 4, none⟩ = some (.int .i64 (-1)) := HB.out.2.2.at_ 4
   have p5 : W4.cell? ⟨p, 5, none⟩ = some (.int .i64 (-1)) := HB.out.2.2.at_ 5
   have p6 : W4.cell? ⟨p, 6, none⟩ = some (.int .i64 at0) := HB.out.2.2.at_ 6
   have hplt := HB.out.2.2.lt
   have hB4 : B ≤ W4.heap.size := Nat.le_trans HB.out.2.1.base (Nat.le_of_lt HB.out.2.1.blk.lt)
   have hrlt := HB.out.2.1.blk.lt
   obtain ⟨i0, hi, hz0, hz1, hz2⟩ := info_parts infoNd
   have hbig : m.ns.length + 1 ≤ maxLen := by unfold maxLen; omega
   have hpr : p ≠ r := fun e => HA.out.ne r (Or.inl rfl) e.symm
   have hrp : r ≠ p := HA.out.ne r (Or.inl rfl)
   refine wp_region_held_drew (S := (fun w' => w'.cell? ⟨p, 0, none⟩ = some (.string N) ∧ w'.cell? ⟨p, 1, none⟩ = some (.slice Ax al.length cx) ∧ w'.cell? ⟨p, 2, none⟩ = some (.string X) ∧ w'.cell? ⟨p, 3, none⟩ = some (.int .i64 pa) ∧ w'.cell? ⟨p, 4, none⟩ = some (.int .i64 (-1)) ∧ w'.cell? ⟨p, 5, none⟩ = some (.int .i64 (-1)) ∧ w'.cell? ⟨p, 6, none⟩ = some (.int .i64 at0))) (by kernel_rfl) ⟨p0, p1, p2, p3, p4, p5, p6⟩ (fun hHeld => ?_)
   refine wpAnyH_take (i := 0) (v := (.pointer (some ⟨r,0,none⟩))) rfl (by kernel_rfl) (by kernel_rfl) (by kernel_rfl) (fun _ _ _ h => h) (Or.inl ⟨by rfl, by (intro w hS; go_simp)⟩) hHeld ?_
   simp only [Act.put, List.getElem_toArray, List.getElem_cons_zero, List.setIfInBounds_toArray, List.set_cons_zero, List.set_cons_succ]
   refine wpAnyH_take (i := 1) (v := (.pointer (some ⟨r,0,none⟩))) rfl (by kernel_rfl) (by kernel_rfl) (by kernel_rfl) (fun _ _ _ h => h) (Or.inl ⟨by rfl, by (intro w hS; try (obtain ⟨s0, s1, s2, s3, s4, s5, s6⟩ := hS); go_simp)⟩) hHeld ?_
   simp only [Act.put, List.getElem_toArray, List.getElem_cons_succ, List.getElem_cons_zero, List.setIfInBounds_toArray, List.set_cons_zero, List.set_cons_succ]
   refine wpAnyH_take (i := 2) (v := (.pointer (some ⟨r,0,none⟩))) rfl (by kernel_rfl) (by kernel_rfl) (by kernel_rfl) (fun _ _ _ h => h) (Or.inl ⟨by rfl, by (intro w hS; try (obtain ⟨s0, s1, s2, s3, s4, s5, s6⟩ := hS); go_simp)⟩) hHeld ?_
   simp only [Act.put, List.getElem_toArray, List.getElem_cons_succ, List.getElem_cons_zero, List.setIfInBounds_toArray, List.set_cons_zero, List.set_cons_succ]
   refine wpAnyH_take (i := 3) (v := (.pointer (some ⟨r,0,none⟩))) rfl (by kernel_rfl) (by kernel_rfl) (by kernel_rfl) (fun _ _ _ h => h) (Or.inl ⟨by rfl, by (intro w hS; try (obtain ⟨s0, s1, s2, s3, s4, s5, s6⟩ := hS); go_simp)⟩) hHeld ?_
   simp only [Act.put, List.getElem_toArray, List.getElem_cons_succ, List.getElem_cons_zero, List.setIfInBounds_toArray, List.set_cons_zero, List.set_cons_succ]
   refine wpAnyH_take (i := 5) (v := (.agg #[.string N, .slice Ax al.length cx, .string X, .int .i64 pa, .int .i64 (-1), .int .i64 (-1), .int .i64 at0])) rfl (by kernel_rfl) (by kernel_rfl) (by kernel_rfl) (fun _ _ _ h => h) (Or.inl ⟨by rfl, by (intro w hS; try (obtain ⟨s0, s1, s2, s3, s4, s5, s6⟩ := hS); go_simp)⟩) hHeld ?_
   simp only [Act.put, List.getElem_toArray, List.getElem_cons_succ, List.getElem_cons_zero, List.setIfInBounds_toArray, List.set_cons_zero, List.set_cons_succ]
   refine wpAnyH_ready (rs := [4, 6]) (by kernel_rfl) (by simp) ?_
   refine AllReadyH.cons rfl (fun K hK => ?_) (AllReadyH.cons rfl (fun K hK => ?_) AllReadyH.nil)
   ·try simp only [List.getElem_toArray, List.getElem_cons_succ, List.getElem_cons_zero]
    go_simp
    refine hK.out _ _ hHeld (fun hHeld => ?_)
    clear hK K
    try simp only [Act.put, List.getElem_toArray, List.getElem_cons_succ, List.getElem_cons_zero, List.setIfInBounds_toArray, List.set_cons_zero, List.set_cons_succ]
    refine wpAnyH_ready (rs := [6]) (by kernel_rfl) (by simp) ?_
    refine AllReadyH.cons rfl (fun K hK => ?_) AllReadyH.nil
    try simp only [List.getElem_toArray, List.getElem_cons_succ, List.getElem_cons_zero]
    go_simp
    refine hK.out _ _ ⟨(World.cell?_alloc_lt _ _ _ (by show p < W4.heap.size; omega)).trans p0, (World.cell?_alloc_lt _ _ _ (by show p < W4.heap.size; omega)).trans p1, (World.cell?_alloc_lt _ _ _ (by show p < W4.heap.size; omega)).trans p2, (World.cell?_alloc_lt _ _ _ (by show p < W4.heap.size; omega)).trans p3, (World.cell?_alloc_lt _ _ _ (by show p < W4.heap.size; omega)).trans p4, (World.cell?_alloc_lt _ _ _ (by show p < W4.heap.size; omega)).trans p5, (World.cell?_alloc_lt _ _ _ (by show p < W4.heap.size; omega)).trans p6⟩ (fun hHeld => ?_)
    clear hK K
    try simp only [Act.put, List.getElem_toArray, List.getElem_cons_succ, List.getElem_cons_zero, List.setIfInBounds_toArray, List.set_cons_zero, List.set_cons_succ]
    refine wpAnyH_ready (rs := [7]) (by kernel_rfl) (by simp) ?_
    refine AllReadyH.cons rfl (fun K hK => ?_) AllReadyH.nil
    obtain ⟨W5, hW5⟩ : ∃ W5, W5 = (W4.alloc (.cells #[.string N, .slice Ax al.length cx, .string X, .int .i64 pa, .int .i64 (-1), .int .i64 (-1), .int .i64 at0] 49)).drew := ⟨_, rfl⟩
    have hb5 : Below W4.heap.size W4 W5 := by rw [hW5]; exact ((Below.refl _ _).alloc (Nat.le_refl _) _).drew
    have hG5 := HB.out.2.1.below hb5
    have hown := hG5.nown
    simp only [lnkM_len] at hown
    rw [HC.out.nv] at hown
    rw [← hW5]
    have hs5 : B ≤ W5.heap.size := Nat.le_trans hB4 hb5.size
    have hz5 : W4.heap.size < W5.heap.size := by rw [hW5]; show W4.heap.size < (W4.alloc _).heap.size; simp
    have hq5 : ∀ i u, (#[.string N, .slice Ax al.length cx, .string X, .int .i64 pa, .int .i64 (-1), .int .i64 (-1), .int .i64 at0] : Array Value).toList[i]? = some u → W5.cell? ((⟨W4.heap.size, 0, none⟩ : Addr).add i) = some u := by rw [hW5]; exact fun i u hu => news_at W4 _ _ _ rfl i u hu
    refine step_append_lies _ (by rfl) _ _ _ (by rfl) B 49 i0 _ 7 88 Tryz.underlying29 hi hz0 hz1 hz2 rfl (by omega) (.slice An m.ns.length cn) m.ns.length ((lnkM m.ns pa el).flatMap ndV) (by rfl) (by exact hown) _ 1 _ [.string N, .slice Ax al.length cx, .string X, .int .i64 pa, .int .i64 (-1), .int .i64 (-1), .int .i64 at0] (by rfl) rfl (by exact hq5) (by intro u hu; simp at hu; rcases hu with rfl | rfl | rfl | rfl | rfl | rfl | rfl <;> rfl) (by omega) hbig (by omega) hs5 _ rfl ?_
    intro g9 cap9 w9 hown9 hgr9 hat9 hlt9
    have hx4 := HB.out.1.fr.nd HX.out.1 HX.out.2
    have hx5 := (hx4.below hb5).more hb5.size
    have hT9 := GTo.napp hG5 (x := ⟨⟨nm, al, tx, pa, -1, -1, at0⟩, Ax, cx⟩) (g1 := g9) (cap1 := cap9) (by rw [HC.out.nv]; exact hgr9) (by
     simp only [lnkM_len]
     have e : ndV ⟨⟨nm, al, tx, pa, -1, -1, at0⟩, Ax, cx⟩ = [.string N, .slice Ax al.length cx, .string X, .int .i64 pa, .int .i64 (-1), .int .i64 (-1), .int .i64 at0] := by rw [HNX.out.1, HNX.out.2]; rfl
     rw [e]; exact hown9) (by rw [HC.out.nv]; exact hat9.imp id (fun h => Nat.le_of_eq h.symm)) ⟨hx5.att, hx5.len, hx5.cap⟩ (fun h0 a ha => HX.out.2 h0 a ha)
    simp only [lnkM_len] at hT9
    have hfar : some p ≠ (Value.slice An m.ns.length cn).ownBlock := by rw [← HC.out.nv]; exact fun e => HA.out.ne p (Or.inr (Or.inl e.symm)) rfl
    have hfr9 : some r ≠ (Value.slice An m.ns.length cn).ownBlock := by rw [← HC.out.nv]; exact fun e => blk_apart HB.out.2.1.blk HB.out.2.1.nown (by decide) e.symm
    have hp9 : IsBlk w9 p 49 #[.string N, .slice Ax al.length cx, .string X, .int .i64 pa, .int .i64 (-1), .int .i64 (-1), .int .i64 at0] := (HB.out.2.2.below hb5 hplt).grown hgr9 hfar
    have hr9 : IsBlk w9 r 74 #[.slice An m.ns.length cn, m.ov] := by
     have := (HB.out.2.1.blk.below hb5 hrlt).grown hgr9 hfr9
     simp only [HC.out.nv] at this
     exact this
    have y0 : w9.cell? ⟨r, 0, none⟩ = some (.slice An m.ns.length cn) := hr9.at_ 0
    have yf : w9.frozen? ⟨r, 0, none⟩ = false := hr9.fz 0
    have HT := Lib.hid (HB.out.1.trans ((GTo.below HB.out.2.1 hb5).trans hT9))
    have HP9 := Lib.hid hp9
    clear hT9 hG5 hx4 hx5 hfar hfr9 hr9 hp9 hown hown9 hgr9 hq5
    refine hK.out _ _ ⟨HP9.out.at_ 0, HP9.out.at_ 1, HP9.out.at_ 2, HP9.out.at_ 3, HP9.out.at_ 4, HP9.out.at_ 5, HP9.out.at_ 6⟩ (fun hHeld => ?_)
    clear hK K
    try simp only [Act.put, List.getElem_toArray, List.getElem_cons_succ, List.getElem_cons_zero, List.setIfInBounds_toArray, List.set_cons_zero, List.set_cons_succ]
    refine wpAnyH_take (i := 8) (v := (.pointer (some ⟨r,0,none⟩))) rfl (by kernel_rfl) (by kernel_rfl) (by kernel_rfl) (fun _ _ _ h => h) (Or.inl ⟨by rfl, by (intro w hS; try (obtain ⟨s0, s1, s2, s3, s4, s5, s6⟩ := hS); go_simp)⟩) hHeld ?_
    simp only [Act.put, List.getElem_toArray, List.getElem_cons_succ, List.getElem_cons_zero, List.setIfInBounds_toArray, List.set_cons_zero, List.set_cons_succ]
    refine wpAnyH_take (i := 9) (v := (.pointer (some ⟨r,0,none⟩))) rfl (by kernel_rfl) (by kernel_rfl) (by kernel_rfl) (fun _ _ _ h => h) (Or.inl ⟨by rfl, by (intro w hS; try (obtain ⟨s0, s1, s2, s3, s4, s5, s6⟩ := hS); go_simp)⟩) hHeld ?_
    simp only [Act.put, List.getElem_toArray, List.getElem_cons_succ, List.getElem_cons_zero, List.setIfInBounds_toArray, List.set_cons_zero, List.set_cons_succ]
    refine wpAnyH_ready (rs := [10]) (by kernel_rfl) (by simp) ?_
    refine AllReadyH.cons rfl (fun K hK => ?_) AllReadyH.nil
    try simp only [List.getElem_toArray, List.getElem_cons_succ, List.getElem_cons_zero]
    go_simp
    have HQ9 := Lib.hid (HP9.out.far (p := ⟨r, 0, none⟩) hpr (.slice (some ⟨g9, 0, none⟩) (m.ns.length + 1) cap9))
    refine hK.out _ _ ⟨HQ9.out.at_ 0, HQ9.out.at_ 1, HQ9.out.at_ 2, HQ9.out.at_ 3, HQ9.out.at_ 4, HQ9.out.at_ 5, HQ9.out.at_ 6⟩ (fun hHeld => ?_)
    clear hK K
    try simp only [Act.put, List.getElem_toArray, List.getElem_cons_succ, List.getElem_cons_zero, List.setIfInBounds_toArray, List.set_cons_zero, List.set_cons_succ]
    refine wpAnyH_done (by kernel_rfl) ?_ _
    clear hHeld y0 yf
    go_wp2
    go_ret
    exact ⟨_, rfl, by first | exact HT.out | exact HT.out.on (Below.refl _ _).drew⟩
   ·try simp only [List.getElem_toArray, List.getElem_cons_succ, List.getElem_cons_zero]
    go_simp
    refine hK.out _ _ ⟨(World.cell?_alloc_lt _ _ _ (by show p < W4.heap.size; omega)).trans p0, (World.cell?_alloc_lt _ _ _ (by show p < W4.heap.size; omega)).trans p1, (World.cell?_alloc_lt _ _ _ (by show p < W4.heap.size; omega)).trans p2, (World.cell?_alloc_lt _ _ _ (by show p < W4.heap.size; omega)).trans p3, (World.cell?_alloc_lt _ _ _ (by show p < W4.heap.size; omega)).trans p4, (World.cell?_alloc_lt _ _ _ (by show p < W4.heap.size; omega)).trans p5, (World.cell?_alloc_lt _ _ _ (by show p < W4.heap.size; omega)).trans p6⟩ (fun hHeld => ?_)
    clear hK K
    try simp only [Act.put, List.getElem_toArray, List.getElem_cons_succ, List.getElem_cons_zero, List.setIfInBounds_toArray, List.set_cons_zero, List.set_cons_succ]
    have l1 : (W4.alloc (.cells #[.string N, .slice Ax al.length cx, .string X, .int .i64 pa, .int .i64 (-1), .int .i64 (-1), .int .i64 at0] 49)).cell? ⟨r, 0, none⟩ = some (.slice An m.ns.length cn) := (World.cell?_alloc_lt _ _ _ (by show r < W4.heap.size; omega)).trans l0
    refine wpAnyH_ready (rs := [4]) (by kernel_rfl) (by simp) ?_
    refine AllReadyH.cons rfl (fun K hK => ?_) AllReadyH.nil
    try simp only [List.getElem_toArray, List.getElem_cons_succ, List.getElem_cons_zero]
    go_simp
    refine hK.out _ _ hHeld (fun hHeld => ?_)
    clear hK K l1
    try simp only [Act.put, List.getElem_toArray, List.getElem_cons_succ, List.getElem_cons_zero, List.setIfInBounds_toArray, List.set_cons_zero, List.set_cons_succ]
    refine wpAnyH_ready (rs := [7]) (by kernel_rfl) (by simp) ?_
    refine AllReadyH.cons rfl (fun K hK => ?_) AllReadyH.nil
    obtain ⟨W5, hW5⟩ : ∃ W5, W5 = (W4.alloc (.cells #[.string N, .slice Ax al.length cx, .string X, .int .i64 pa, .int .i64 (-1), .int .i64 (-1), .int .i64 at0] 49)).drew := ⟨_, rfl⟩
    have hb5 : Below W4.heap.size W4 W5 := by rw [hW5]; exact ((Below.refl _ _).alloc (Nat.le_refl _) _).drew
    have hG5 := HB.out.2.1.below hb5
    have hown := hG5.nown
    simp only [lnkM_len] at hown
    rw [HC.out.nv] at hown
    rw [← hW5]
    have hs5 : B ≤ W5.heap.size := Nat.le_trans hB4 hb5.size
    have hz5 : W4.heap.size < W5.heap.size := by rw [hW5]; show W4.heap.size < (W4.alloc _).heap.size; simp
    have hq5 : ∀ i u, (#[.string N, .slice Ax al.length cx, .string X, .int .i64 pa, .int .i64 (-1), .int .i64 (-1), .int .i64 at0] : Array Value).toList[i]? = some u → W5.cell? ((⟨W4.heap.size, 0, none⟩ : Addr).add i) = some u := by rw [hW5]; exact fun i u hu => news_at W4 _ _ _ rfl i u hu
    refine step_append_lies _ (by rfl) _ _ _ (by rfl) B 49 i0 _ 7 88 Tryz.underlying29 hi hz0 hz1 hz2 rfl (by omega) (.slice An m.ns.length cn) m.ns.length ((lnkM m.ns pa el).flatMap ndV) (by rfl) (by exact hown) _ 1 _ [.string N, .slice Ax al.length cx, .string X, .int .i64 pa, .int .i64 (-1), .int .i64 (-1), .int .i64 at0] (by rfl) rfl (by exact hq5) (by intro u hu; simp at hu; rcases hu with rfl | rfl | rfl | rfl | rfl | rfl | rfl <;> rfl) (by omega) hbig (by omega) hs5 _ rfl ?_
    intro g9 cap9 w9 hown9 hgr9 hat9 hlt9
    have hx4 := HB.out.1.fr.nd HX.out.1 HX.out.2
    have hx5 := (hx4.below hb5).more hb5.size
    have hT9 := GTo.napp hG5 (x := ⟨⟨nm, al, tx, pa, -1, -1, at0⟩, Ax, cx⟩) (g1 := g9) (cap1 := cap9) (by rw [HC.out.nv]; exact hgr9) (by
     simp only [lnkM_len]
     have e : ndV ⟨⟨nm, al, tx, pa, -1, -1, at0⟩, Ax, cx⟩ = [.string N, .slice Ax al.length cx, .string X, .int .i64 pa, .int .i64 (-1), .int .i64 (-1), .int .i64 at0] := by rw [HNX.out.1, HNX.out.2]; rfl
     rw [e]; exact hown9) (by rw [HC.out.nv]; exact hat9.imp id (fun h => Nat.le_of_eq h.symm)) ⟨hx5.att, hx5.len, hx5.cap⟩ (fun h0 a ha => HX.out.2 h0 a ha)
    simp only [lnkM_len] at hT9
    have hfar : some p ≠ (Value.slice An m.ns.length cn).ownBlock := by rw [← HC.out.nv]; exact fun e => HA.out.ne p (Or.inr (Or.inl e.symm)) rfl
    have hfr9 : some r ≠ (Value.slice An m.ns.length cn).ownBlock := by rw [← HC.out.nv]; exact fun e => blk_apart HB.out.2.1.blk HB.out.2.1.nown (by decide) e.symm
    have hp9 : IsBlk w9 p 49 #[.string N, .slice Ax al.length cx, .string X, .int .i64 pa, .int .i64 (-1), .int .i64 (-1), .int .i64 at0] := (HB.out.2.2.below hb5 hplt).grown hgr9 hfar
    have hr9 : IsBlk w9 r 74 #[.slice An m.ns.length cn, m.ov] := by
     have := (HB.out.2.1.blk.below hb5 hrlt).grown hgr9 hfr9
     simp only [HC.out.nv] at this
     exact this
    have y0 : w9.cell? ⟨r, 0, none⟩ = some (.slice An m.ns.length cn) := hr9.at_ 0
    have yf : w9.frozen? ⟨r, 0, none⟩ = false := hr9.fz 0
    have HT := Lib.hid (HB.out.1.trans ((GTo.below HB.out.2.1 hb5).trans hT9))
    have HP9 := Lib.hid hp9
    clear hT9 hG5 hx4 hx5 hfar hfr9 hr9 hp9 hown hown9 hgr9 hq5
    refine hK.out _ _ ⟨HP9.out.at_ 0, HP9.out.at_ 1, HP9.out.at_ 2, HP9.out.at_ 3, HP9.out.at_ 4, HP9.out.at_ 5, HP9.out.at_ 6⟩ (fun hHeld => ?_)
    clear hK K
    try simp only [Act.put, List.getElem_toArray, List.getElem_cons_succ, List.getElem_cons_zero, List.setIfInBounds_toArray, List.set_cons_zero, List.set_cons_succ]
    refine wpAnyH_take (i := 8) (v := (.pointer (some ⟨r,0,none⟩))) rfl (by kernel_rfl) (by kernel_rfl) (by kernel_rfl) (fun _ _ _ h => h) (Or.inl ⟨by rfl, by (intro w hS; try (obtain ⟨s0, s1, s2, s3, s4, s5, s6⟩ := hS); go_simp)⟩) hHeld ?_
    simp only [Act.put, List.getElem_toArray, List.getElem_cons_succ, List.getElem_cons_zero, List.setIfInBounds_toArray, List.set_cons_zero, List.set_cons_succ]
    refine wpAnyH_take (i := 9) (v := (.pointer (some ⟨r,0,none⟩))) rfl (by kernel_rfl) (by kernel_rfl) (by kernel_rfl) (fun _ _ _ h => h) (Or.inl ⟨by rfl, by (intro w hS; try (obtain ⟨s0, s1, s2, s3, s4, s5, s6⟩ := hS); go_simp)⟩) hHeld ?_
    simp only [Act.put, List.getElem_toArray, List.getElem_cons_succ, List.getElem_cons_zero, List.setIfInBounds_toArray, List.set_cons_zero, List.set_cons_succ]
    refine wpAnyH_ready (rs := [10]) (by kernel_rfl) (by simp) ?_
    refine AllReadyH.cons rfl (fun K hK => ?_) AllReadyH.nil
    try simp only [List.getElem_toArray, List.getElem_cons_succ, List.getElem_cons_zero]
    go_simp
    have HQ9 := Lib.hid (HP9.out.far (p := ⟨r, 0, none⟩) hpr (.slice (some ⟨g9, 0, none⟩) (m.ns.length + 1) cap9))
    refine hK.out _ _ ⟨HQ9.out.at_ 0, HQ9.out.at_ 1, HQ9.out.at_ 2, HQ9.out.at_ 3, HQ9.out.at_ 4, HQ9.out.at_ 5, HQ9.out.at_ 6⟩ (fun hHeld => ?_)
    clear hK K
    try simp only [Act.put, List.getElem_toArray, List.getElem_cons_succ, List.getElem_cons_zero, List.setIfInBounds_toArray, List.set_cons_zero, List.set_cons_succ]
    refine wpAnyH_done (by kernel_rfl) ?_ _
    clear hHeld y0 yf
    go_wp2
    go_ret
    exact ⟨_, rfl, by first | exact HT.out | exact HT.out.on (Below.refl _ _).drew⟩
end Go.Proofs.YteadfpkihhaadaaGreatDoor
