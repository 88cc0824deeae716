/- Layer 5: settle of a growing tree, walked. Conditions: the tree lies in memory as told; an element is open; its texts are of at most 2^46 bytes. -/
import Derived.Test.YtgidpcfaeekjhaaGreatDoorTrG5
import Derived.Test.YtgidpcfaeekjhaaGreatDoorTrPlain5
namespace Go.Proofs.YtgidpcfaeekjhaaGreatDoor
open Go.RowKit

def Nd.setTx (t : List UInt8) (x : Nd) : Nd := { x with n := { x.n with tx := t } }
theorem joined (xs : List (List UInt8)) : Lib.join xs [] = xs.flatten := by
  unfold Lib.join
  induction xs with
  | nil => rfl
  | cons a xs ih =>
    cases xs with
    | nil => simp [List.intercalate]
    | cons b xs =>
      rw [List.flatten_cons, ← ih]
      simp [List.intercalate, List.intersperse]
/-- What settle is handed, and what it leaves. -/
def SetP (B r : Nat) (w : World) (m : Gm) (f : Tr.G → Tr.G) (x : Option Nd) (e : Ending) (w' : World) : Prop :=
  ∃ m', e = .returned (.tuple #[]) ∧ GTo B r w m w' m' ∧ m'.g = f m.g ∧ TrIn m m' x
theorem strJoin_any (w : World) (v : Value) (B : Nat) (tx : List (List UInt8)) (A : Option Addr) (c : Nat) (h : OwnS B w (.slice A tx.length c) tx) (hl : tx.flatten.length ≤ 70368744177664) (hc : tx.length ≤ 140737488355328) (hv : v = .slice A tx.length c) :
    Calls Tryz.prog 106 #[v, .string ⟨#[]⟩] w fun e w' => e = .returned (.string ⟨tx.flatten.toArray⟩) ∧ Below w.heap.size w w' := by
  subst hv
  rcases own_form h with ⟨e1, e2⟩ | ⟨g, cap, e1, _, hg, h4, _⟩
  · injection e1 with e3 _ e4
    subst e3 e4
    rw [e2]
    obtain rfl : tx = [] := List.eq_nil_of_length_eq_zero e2
    exact (Tryz.strings_Join_none none 0 ⟨#[]⟩ w).mono fun e w' ⟨h1, h2⟩ => ⟨h1, by rw [h2]; exact Below.refl _ _⟩
  · injection e1 with e3 _ e4
    subst e3 e4
    have hj : (tx.map (fun t => (⟨t.toArray⟩ : ByteArray))).map (·.data.toList) = tx := by
      rw [List.map_map]
      conv => rhs; rw [← List.map_id tx]
      exact List.map_congr_left (fun t _ => by simp)
    have := Tryz.strings_Join g 0 c (tx.map (fun t => ⟨t.toArray⟩)) ⟨#[]⟩ w (by
      intro j x hx
      rw [List.getElem?_map, Option.map_eq_some_iff] at hx
      obtain ⟨t, ht, rfl⟩ := hx
      rw [Nat.zero_add]
      have hj : j < tx.length := (List.getElem?_eq_some_iff.1 ht).1
      rw [World.ownsRow.cellAt h j (by omega), List.getElem?_map, ht]
      rfl) hg (by rw [List.length_map]; exact hc) (by rw [List.length_map]; exact h4) (by rw [hj]; change (Lib.join tx []).length ≤ _; rw [joined]; omega)
    rw [hj, List.length_map] at this
    change Calls _ _ _ _ (fun e w' => e = .returned (.string ⟨(Lib.join tx []).toArray⟩) ∧ _) at this
    rw [joined] at this
    exact this
theorem settle_map {m : Gm} (k : Nat) (t : List UInt8) : (⟨m.nv, m.ns.modify k (Nd.setTx t), m.ov, m.es⟩ : Gm).g = ⟨m.g.ns.modify k (fun x => { x with tx := t }), m.g.op⟩ := by
  unfold Gm.g
  simp only
  rw [modify_map (Nd.setTx t) Nd.n (fun x => { x with tx := t }) (fun _ => rfl)]
set_option maxHeartbeats 4000000 in
set_option maxRecDepth 100000 in
theorem settle_any (B : Nat) (w : World) (r : Nat) (m : Gm) (h : GS B w r m) {l : List (Tr.E × Value)} {x : Tr.E × Value} (he : m.es = l ++ [x]) (hl : x.1.tx.flatten.length ≤ 70368744177664) (hc : x.1.tx.length ≤ 140737488355328) (hn : m.ns.length ≤ 1048576) :
    Calls Tryz.prog 66 #[.pointer (some ⟨r, 0, none⟩)] w (SetP B r w m Tr.settle none) := by
  obtain ⟨og, n, cap, hv⟩ : ∃ og n cap, m.ov = .slice (some ⟨og, 0, none⟩) n cap := by
    rcases own_form h.oown with ⟨e1, e2⟩ | ⟨g, c, e1, _⟩
    · rw [he] at e2; simp at e2
    · exact ⟨_, _, _, e1⟩
  have hxm : x ∈ m.es := by rw [he]; simp
  have htx := h.text x hxm
  obtain ⟨At, ct, hvt⟩ : ∃ At ct, x.2 = .slice At x.1.tx.length ct := by
    rcases own_form htx with ⟨e1, e2⟩ | ⟨g, c, e1, _⟩
    · exact ⟨none, 0, by rw [e1, e2]⟩
    · exact ⟨_, _, e1⟩
  rw [hvt] at htx
  have HI := Lib.hid (fun w' (hb : Below w.heap.size w w') => inner_some B w' r m (h.below hb) he hv)
  have HJ := Lib.hid (fun w' (hb : Below w.heap.size w w') => strJoin_any w' _ B x.1.tx At ct (own_below htx hb) hl hc rfl)
  have hk := h.ok.pl x.1 (List.mem_map.2 ⟨x, hxm, rfl⟩)
  obtain ⟨k, hkk⟩ : ∃ k : Nat, x.1.pl = k := ⟨x.1.pl.toNat, by omega⟩
  have hk2 : k < m.ns.length := by have := hk.2; rw [hkk] at this; simp only [Gm.g, List.length_map] at this; omega
  obtain ⟨An, cn, Ao, co, hgc⟩ := h.cells
  obtain ⟨ng, hng⟩ := hgc.an (by omega)
  subst hng
  have HC := Lib.hid (fun w' (hb : Below w.heap.size w w') => (show w'.cell? ⟨r, 0, none⟩ = some (.slice (some ⟨ng, 0, none⟩) m.ns.length cn) ∧ w'.cell? ⟨og, l.length * 3 + 2, none⟩ = some (.slice At x.1.tx.length ct) ∧ w'.cell? ⟨og, l.length * 3, none⟩ = some (.int .i64 k) from by
    have h' := h.below hb
    refine ⟨(hb.cell (p := ⟨r, 0, none⟩) h.blk.lt).trans hgc.c0, ?_, ?_⟩
    · rw [(h'.elcell he hv 2 (by omega)).1, ← hvt]; rfl
    · have := (h'.elcell he hv 0 (by omega)).1
      rw [Nat.add_zero] at this
      rw [this, ← hkk]; rfl))
  have HN := Lib.hid (fun w' (hb : Below w.heap.size w w') => (show w'.cell? ⟨ng, k * 7 + 2, none⟩ = some (.string ⟨m.ns[k].n.tx.toArray⟩) ∧ w'.frozen? ⟨ng, k * 7 + 2, none⟩ = false from by
    have h1 := (h.below hb).nown
    rw [hgc.nv] at h1
    exact ⟨by rw [h1.cellAt _ (by omega), fl_at ndV_len _ _ _ hk2 (by omega)]; rfl, h1.frozenAt _⟩))
  have HS := Lib.hid (fun w' (hb : Below w.heap.size w w') (t : List UInt8) => GTo.nset (h.below hb) (k := k) (j := 2) (u := .string ⟨t.toArray⟩) (f := Nd.setTx t) hgc.nv hk2 (by omega) (fun _ => rfl) (fun _ => ⟨rfl, rfl, rfl⟩))
  have HG := Lib.hid h
  have hln : (m.ns.length : Int) ≤ (cn : Int) := by have := hgc.ln; omega
  have hk2' : (k : Int) < (m.ns.length : Int) := by omega
  have HE := Lib.hid (show Tr.settle m.g = if Tk.allB x.1.tx.flatten then m.g else ⟨m.g.ns.modify k (fun y => { y with tx := x.1.tx.flatten }), m.g.op⟩ from by
    unfold Tr.settle
    rw [inn_last he, hkk, Int.toNat_natCast])
  obtain ⟨R, hR⟩ : ∃ R, R = Tr.settle m.g := ⟨_, rfl⟩
  unfold SetP
  rw [← hR] at HE ⊢
  have hml : x.1.tx.flatten.length ≤ 70368744177664 := hl
  obtain ⟨J, hJ⟩ : ∃ J, J = x.1.tx.flatten := ⟨_, rfl⟩
  rw [← hJ] at HE hml
  have HJ' := Lib.hid hJ
  have HV := Lib.hid (And.intro hgc.nv hv)
  generalize m.ns[k].n.tx = tx0 at HN
  clear h he hl hc hn hv hxm htx hvt hk hkk hk2 hgc hR hJ
  have HBK := Lib.hid (fun w' => blank_any ⟨J.toArray⟩ (by show J.toArray.size ≤ maxLen; unfold maxLen; simp only [List.size_toArray]; omega) w')
  go_enter Tryz.func66, Tryz.ntmps66
  go_wp2_with fail
  refine (HI.out _ (Below.refl _ _)).mono ?_
  rintro e w1 ⟨rfl, h1⟩
  have B1 := Lib.hid h1
  have q2 := (HC.out w1 h1).2.1
  clear h1
  go_wp2_with fail
  refine (HJ.out _ B1.out).mono ?_
  rw [← HJ'.out]
  rintro e w2 ⟨rfl, h2⟩
  have B2 := Lib.hid (B1.out.trans (h2.mono B1.out.size))
  clear h2 q2
  go_wp2_with fail
  refine (HBK.out _).mono ?_
  rintro e w3 ⟨rfl, h3⟩
  have B3 := Lib.hid (B2.out.trans (h3.mono B2.out.size))
  clear h3
  cases hb : Tk.allB J with
  | true =>
    have HR := Lib.hid (show m.g = R from by rw [HE.out, hb, if_pos rfl])
    clear hb
    go_wp2
    go_end0
    exact ⟨m, rfl, GTo.below HG.out B3.out, HR.out, TrIn.refl _ _⟩
  | false =>
    have HR := Lib.hid (show R = ⟨m.g.ns.modify k (fun y => { y with tx := J }), m.g.op⟩ from by rw [HE.out, hb, if_neg (by decide)])
    clear hb
    obtain ⟨r0, r1, r2⟩ := HC.out w3 B3.out
    clear r1
    obtain ⟨JB, hJB⟩ : ∃ JB : ByteArray, JB = ⟨J.toArray⟩ := ⟨_, rfl⟩
    rw [← hJB]
    have HJB := Lib.hid hJB
    clear hJB
    go_wp2_with fail
    refine wp_region_held_drew (S := (fun w' => w'.cell? ⟨r, 0, none⟩ = some (.slice (some ⟨ng, 0, none⟩) m.ns.length cn) ∧ w'.cell? ⟨og, l.length * 3, none⟩ = some (.int .i64 k))) (by kernel_rfl) ⟨r0, r2⟩ (fun hHeld => ?_)
    refine wpAnyH_take (i := 0) (v := (.pointer (some ⟨r,0,none⟩))) rfl (by kernel_rfl) (by kernel_rfl) (by kernel_rfl) (fun _ _ _ h => h) (Or.inl ⟨by rfl, by (intro w hS; go_simp)⟩) hHeld ?_
    try simp only [Act.put, List.getElem_toArray, List.getElem_cons_zero, List.setIfInBounds_toArray, List.set_cons_zero, List.set_cons_succ]
    refine wpAnyH_take (i := 1) (v := (.pointer (some ⟨r,0,none⟩))) rfl (by kernel_rfl) (by kernel_rfl) (by kernel_rfl) (fun _ _ _ h => h) (Or.inl ⟨by rfl, by (intro w hS; try (obtain ⟨s0, s1⟩ := hS); go_simp)⟩) hHeld ?_
    try simp only [Act.put, List.getElem_toArray, List.getElem_cons_succ, List.getElem_cons_zero, List.setIfInBounds_toArray, List.set_cons_zero, List.set_cons_succ]
    refine wpAnyH_take (i := 2) (v := (.pointer (some ⟨r,0,none⟩))) rfl (by kernel_rfl) (by kernel_rfl) (by kernel_rfl) (fun _ _ _ h => h) (Or.inl ⟨by rfl, by (intro w hS; try (obtain ⟨s0, s1⟩ := hS); go_simp)⟩) hHeld ?_
    try simp only [Act.put, List.getElem_toArray, List.getElem_cons_succ, List.getElem_cons_zero, List.setIfInBounds_toArray, List.set_cons_zero, List.set_cons_succ]
    refine wpAnyH_take (i := 3) (v := (.pointer (some ⟨r,0,none⟩))) rfl (by kernel_rfl) (by kernel_rfl) (by kernel_rfl) (fun _ _ _ h => h) (Or.inl ⟨by rfl, by (intro w hS; try (obtain ⟨s0, s1⟩ := hS); go_simp)⟩) hHeld ?_
    try simp only [Act.put, List.getElem_toArray, List.getElem_cons_succ, List.getElem_cons_zero, List.setIfInBounds_toArray, List.set_cons_zero, List.set_cons_succ]
    refine wpAnyH_take (i := 4) (v := (.slice (some ⟨ng,0,none⟩) m.ns.length cn)) rfl (by kernel_rfl) (by kernel_rfl) (by kernel_rfl) (fun _ _ _ h => h) (Or.inl ⟨by rfl, by (intro w hS; try (obtain ⟨s0, s1⟩ := hS); go_simp)⟩) hHeld ?_
    try simp only [Act.put, List.getElem_toArray, List.getElem_cons_succ, List.getElem_cons_zero, List.setIfInBounds_toArray, List.set_cons_zero, List.set_cons_succ]
    refine wpAnyH_take (i := 5) (v := (.pointer (some ⟨r,0,none⟩))) rfl (by kernel_rfl) (by kernel_rfl) (by kernel_rfl) (fun _ _ _ h => h) (Or.inl ⟨by rfl, by (intro w hS; try (obtain ⟨s0, s1⟩ := hS); go_simp)⟩) hHeld ?_
    try simp only [Act.put, List.getElem_toArray, List.getElem_cons_succ, List.getElem_cons_zero, List.setIfInBounds_toArray, List.set_cons_zero, List.set_cons_succ]
    refine wpAnyH_take (i := 10) (v := (.string JB)) rfl (by kernel_rfl) (by kernel_rfl) (by kernel_rfl) (fun _ _ _ h => h) (Or.inl ⟨by rfl, by (intro w hS; try (obtain ⟨s0, s1⟩ := hS); go_simp)⟩) hHeld ?_
    try simp only [Act.put, List.getElem_toArray, List.getElem_cons_succ, List.getElem_cons_zero, List.setIfInBounds_toArray, List.set_cons_zero, List.set_cons_succ]
    refine wpAnyH_ready (rs := [6]) (by kernel_rfl) (by simp) ?_
    refine AllReadyH.cons rfl (fun K hK => ?_) AllReadyH.nil
    try simp only [List.getElem_toArray, List.getElem_cons_succ, List.getElem_cons_zero]
    go_simp
    refine (HI.out w3.drew B3.out.drew).mono ?_
    rintro e w4 ⟨rfl, h4⟩
    have B4 := Lib.hid (B3.out.drew.trans (h4.mono B3.out.drew.size))
    obtain ⟨s0, s1, s2⟩ := HC.out w4 B4.out
    clear h4 s1
    refine hK.out _ _ ⟨s0, s2⟩ (fun hHeld => ?_)
    clear hK K
    try simp only [Act.put, List.getElem_toArray, List.getElem_cons_succ, List.getElem_cons_zero, List.setIfInBounds_toArray, List.set_cons_zero, List.set_cons_succ]
    refine wpAnyH_take (i := 7) (v := (.pointer (some ⟨og,l.length*3,none⟩))) rfl (by kernel_rfl) (by kernel_rfl) (by kernel_rfl) (fun _ _ _ h => h) (Or.inl ⟨by rfl, by (intro w hS; try (obtain ⟨s0, s1⟩ := hS); go_simp)⟩) hHeld ?_
    try simp only [Act.put, List.getElem_toArray, List.getElem_cons_succ, List.getElem_cons_zero, List.setIfInBounds_toArray, List.set_cons_zero, List.set_cons_succ]
    refine wpAnyH_take (i := 8) (v := (.pointer (some ⟨og,l.length*3,none⟩))) rfl (by kernel_rfl) (by kernel_rfl) (by kernel_rfl) (fun _ _ _ h => h) (Or.inl ⟨by rfl, by (intro w hS; try (obtain ⟨s0, s1⟩ := hS); go_simp)⟩) hHeld ?_
    try simp only [Act.put, List.getElem_toArray, List.getElem_cons_succ, List.getElem_cons_zero, List.setIfInBounds_toArray, List.set_cons_zero, List.set_cons_succ]
    refine wpAnyH_take (i := 9) (v := (.int .i64 k)) rfl (by kernel_rfl) (by kernel_rfl) (by kernel_rfl) (fun _ _ _ h => h) (Or.inl ⟨by rfl, by (intro w hS; try (obtain ⟨s0, s1⟩ := hS); go_simp)⟩) hHeld ?_
    try simp only [Act.put, List.getElem_toArray, List.getElem_cons_succ, List.getElem_cons_zero, List.setIfInBounds_toArray, List.set_cons_zero, List.set_cons_succ]
    refine wpAnyH_take (i := 11) (v := (.pointer (some ⟨ng,k*7,none⟩))) rfl (by kernel_rfl) (by kernel_rfl) (by kernel_rfl) (fun _ _ _ h => h) (Or.inl ⟨by rfl, by (intro w hS; try (obtain ⟨s0, s1⟩ := hS); go_simp)⟩) hHeld ?_
    try simp only [Act.put, List.getElem_toArray, List.getElem_cons_succ, List.getElem_cons_zero, List.setIfInBounds_toArray, List.set_cons_zero, List.set_cons_succ]
    refine wpAnyH_take (i := 12) (v := (.pointer (some ⟨ng,k*7+2,none⟩))) rfl (by kernel_rfl) (by kernel_rfl) (by kernel_rfl) (fun _ _ _ h => h) (Or.inl ⟨by rfl, by (intro w hS; try (obtain ⟨s0, s1⟩ := hS); go_simp)⟩) hHeld ?_
    try simp only [Act.put, List.getElem_toArray, List.getElem_cons_succ, List.getElem_cons_zero, List.setIfInBounds_toArray, List.set_cons_zero, List.set_cons_succ]
    obtain ⟨n0, n1⟩ := HN.out w4 B4.out
    refine wpAnyH_ready (rs := [13]) (by kernel_rfl) (by simp) ?_
    refine AllReadyH.cons rfl (fun K hK => ?_) AllReadyH.nil
    try simp only [List.getElem_toArray, List.getElem_cons_succ, List.getElem_cons_zero]
    go_simp
    have HF := Lib.hid (HS.out w4 B4.out J)
    rw [← HJB.out] at HF
    refine hK.out _ _ ⟨?_, ?_⟩ (fun hHeld => ?_)
    · exact (World.cell?_setCell_other _ _ _ _ (by intro e; injection e with e; exact blk_apart HG.out.blk HG.out.nown (by decide) (by rw [HV.out.1, ← e]; rfl))).trans s0
    · exact (World.cell?_setCell_other _ _ _ _ (by intro e; injection e with e; exact own_apart HG.out.oown HG.out.nown (by decide) (g := og) (by rw [HV.out.2]; rfl) (by rw [HV.out.1, ← e]; rfl))).trans s2
    clear hK K
    try simp only [Act.put, List.getElem_toArray, List.getElem_cons_succ, List.getElem_cons_zero, List.setIfInBounds_toArray, List.set_cons_zero, List.set_cons_succ]
    refine wpAnyH_done (by kernel_rfl) ?_ _
    clear hHeld s0 s2 n0 n1 r0 r2
    go_wp2
    go_end0
    exact ⟨_, rfl, GTo.first B4.out HG.out (by exact HF.out), by rw [HR.out]; exact settle_map k J, TrIn.mod (i := k) (f := Nd.setTx J) rfl (fun _ => rfl)⟩
end Go.Proofs.YtgidpcfaeekjhaaGreatDoor
