/- Facts and walks for the statement. -/
import Derived.Test.YteadfpkihhaadaaGreatDoorPz21
import Derived.Test.YteadfpkihhaadaaGreatDoorPz16
namespace Go.Proofs.YteadfpkihhaadaaGreatDoor
open Go.RowKit
def Nd.setTx (t : List UInt8) (x : Nd) : Nd := { x with n := { x.n with tx := t } }
theorem joined (xs : List (List UInt8)) : Lib.join xs [] = xs.flatten := by
 unfold Lib.join
 induction xs with
 | nil => rfl
 | cons a xs ih =>
  cases xs with
  | nil => simp [List.intercalate]
  | cons b xs =>
   rw [List.flatten_cons, ← ih]
   simp [List.intercalate, List.intersperse]
def SetP (B r : Nat) (w : World) (m : Gm) (f : Tr.G → Tr.G) (x : Option Nd) (e : Ending) (w' : World) : Prop :=
 ∃ m', e = .returned (.tuple #[]) ∧ GTo B r w m w' m' ∧ m'.g = f m.g ∧ TrIn m m' x
theorem strJoin_any (w : World) (v : Value) (B : Nat) (tx : List (List UInt8)) (A : Option Addr) (c : Nat) (h : OwnS B w (.slice A tx.length c) tx) (hl : tx.flatten.length ≤ 70368744177664) (hc : tx.length ≤ 140737488355328) (hv : v = .slice A tx.length c) :
  Calls Tryz.prog 106 #[v, .string ⟨#[]⟩] w fun e w' => e = .returned (.string ⟨tx.flatten.toArray⟩) ∧ Below w.heap.size w w' := by
 subst hv
 rcases own_form h with ⟨e1, e2⟩ | ⟨g, cap, e1, _, hg, h4, _⟩
 ·injection e1 with e3 _ e4
  subst e3 e4
  rw [e2]
  obtain rfl : tx = [] := List.eq_nil_of_length_eq_zero e2
  exact (Tryz.strings_Join_none none 0 ⟨#[]⟩ w).mono fun e w' ⟨h1, h2⟩ => ⟨h1, by rw [h2]; exact Below.refl _ _⟩
 ·injection e1 with e3 _ e4
  subst e3 e4
  have hj : (tx.map (fun t => (⟨t.toArray⟩ : ByteArray))).map (·.data.toList) = tx := by
   rw [List.map_map]
   conv => rhs; rw [← List.map_id tx]
   exact List.map_congr_left (fun t _ => by simp)
  have := Tryz.strings_Join g 0 c (tx.map (fun t => ⟨t.toArray⟩)) ⟨#[]⟩ w (by
   intro j x hx
   rw [List.getElem?_map, Option.map_eq_some_iff] at hx
   obtain ⟨t, ht, rfl⟩ := hx
   rw [Nat.zero_add]
   have hj : j < tx.length := (List.getElem?_eq_some_iff.1 ht).1
   rw [World.ownsRow.cellAt h j (by omega), List.getElem?_map, ht]
   rfl) hg (by rw [List.length_map]; exact hc) (by rw [List.length_map]; exact h4) (by rw [hj]; change (Lib.join tx []).length ≤ _; rw [joined]; omega)
  rw [hj, List.length_map] at this
  change Calls _ _ _ _ (fun e w' => e = .returned (.string ⟨(Lib.join tx []).toArray⟩) ∧ _) at this
  rw [joined] at this
  exact this
theorem settle_map {m : Gm} (k : Nat) (t : List UInt8) : (⟨m.nv, m.ns.modify k (Nd.setTx t), m.ov, m.es⟩ : Gm).g = ⟨m.g.ns.modify k (fun x => { x with tx := t }), m.g.op⟩ := by
 unfold Gm.g
 simp only
 rw [modify_map (Nd.setTx t) Nd.n (fun x => { x with tx := t }) (fun _ => rfl)]
set_option maxHeartbeats 4000000 in
set_option maxRecDepth 100000 in
theorem settle_any (B : Nat) (w : World) (r : Nat) (m : Gm) (h : GS B w r m) {l : List (Tr.E × Value)} {x : Tr.E × Value} (he : m.es = l ++ [x]) (hl : x.1.tx.flatten.length ≤ 70368744177664) (hc : x.1.tx.length ≤ 140737488355328) (hn : m.ns.length ≤ 1048576) :
  Calls Tryz.prog 66 #[.pointer (some ⟨r, 0, none⟩)] w (SetP B r w m Tr.settle none) := by
 obtain ⟨og, n, cap, hv⟩ : ∃ og n cap, m.ov = .slice (some ⟨og, 0, none⟩) n cap := by
  rcases own_form h.oown with ⟨e1, e2⟩ | ⟨g, c, e1, _⟩
  ·rw [he] at e2; simp at e2
  ·exact ⟨_, _, _, e1⟩
 have hxm : x ∈ m.es := by rw [he]; simp
 have htx := h.text x hxm
 obtain ⟨At, ct, hvt⟩ : ∃ At ct, x.2 = .slice At x.1.tx.length ct := by
  rcases own_form htx with ⟨e1, e2⟩ | ⟨g, c, e1, _⟩
  ·exact ⟨none, 0, by rw [e1, e2]⟩
  ·exact ⟨_, _, e1⟩
 rw [hvt] at htx
 have HI := Lib.hid (fun w' (hb : Below w.heap.size w w') => inner_some B w' r m (h.below hb) he hv)
 have HJ := Lib.hid (fun w' (hb : Below w.heap.size w w') => strJoin_any w' _ B x.1.tx At ct (own_below htx hb) hl hc rfl)
 have hk := h.ok.pl x.1 (List.mem_map.2 ⟨x, hxm, rfl⟩)
 obtain ⟨k, hkk⟩ : ∃ k : Nat, x.1.pl = k := ⟨x.1.pl.toNat, by omega⟩
 have hk2 : k < m.ns.length := by have := hk.2; rw [hkk] at this; simp only [Gm.g, List.length_map] at this; omega
 obtain ⟨An, cn, Ao, co, hgc⟩ := h.cells
 obtain ⟨ng, hng⟩ := hgc.an (by omega)
 subst hng
 have HC := Lib.hid (fun w' (hb : Below w.heap.size w w') => (show w'.cell? ⟨r, 0, none⟩ = some (.slice (some ⟨ng, 0, none⟩) m.ns.length cn) ∧ w'.cell? ⟨og, l.length * 3 + 2, none⟩ = some (.slice At x.1.tx.length ct) ∧ w'.cell? ⟨og, l.length * 3, none⟩ = some (.int .i64 k) from by
  have h' := h.below hb
  refine ⟨(hb.cell (p := ⟨r, 0, none⟩) h.blk.lt).trans hgc.c0, ?_, ?_⟩
  ·rw [(h'.elcell he hv 2 (by omega)).1, ← hvt]; rfl
  ·have := (h'.elcell he hv 0 (by omega)).1
   rw [Nat.add_zero] at this
   rw [this, ← hkk]; rfl))
 have HN := Lib.hid (fun w' (hb : Below w.heap.size w w') => (show w'.cell? ⟨ng, k * 7 + 2, none⟩ = some (.string ⟨m.ns[k].n.tx.toArray⟩) ∧ w'.frozen? ⟨ng, k * 7 + 2, none⟩ = false from by
  have h1 := (h.below hb).nown
  rw [hgc.nv] at h1
  exact ⟨by rw [h1.cellAt _ (by omega), fl_at ndV_len _ _ _ hk2 (by omega)]; rfl, h1.frozenAt _⟩))
 have HS := Lib.hid (fun w' (hb : Below w.heap.size w w') (t : List UInt8) => GTo.nset (h.below hb) (k := k) (j := 2) (u := .string ⟨t.toArray⟩) (f := Nd.setTx t) hgc.nv hk2 (by omega) (fun _ => rfl) (fun _ => ⟨rfl, rfl, rfl⟩))
 have HG := Lib.hid h
 have hln : (m.ns.length : Int) ≤ (cn : Int) := by have := hgc.ln; omega
 have hk2' : (k : Int) < (m.ns.length : Int) := by omega
 have HE := Lib.hid (show Tr.settle m.g = if Tk.allB x.1.tx.flatten then m.g else ⟨m.g.ns.modify k (fun y => { y with tx := x.1.tx.flatten }), m.g.op⟩ from by
  unfold Tr.settle
  rw [inn_last he, hkk, Int.toNat_natCast])
 obtain ⟨R, hR⟩ : ∃ R, R = Tr.settle m.g := ⟨_, rfl⟩
 unfold SetP
 rw [← hR] at HE ⊢
 have hml : x.1.tx.flatten.length ≤ 70368744177664 := hl
 obtain ⟨J, hJ⟩ : ∃ J, J = x.1.tx.flatten := ⟨_, rfl⟩
 rw [← hJ] at HE hml
 have HJ' := Lib.hid hJ
 have HV := Lib.hid (And.intro hgc.nv hv)
 generalize m.ns[k].n.tx = tx0 at HN
 clear h he hl hc hn hv hxm htx hvt hk hkk hk2 hgc hR hJ
 have HBK := Lib.hid (fun w' => blank_any ⟨J.toArray⟩ (by show J.toArray.size ≤ maxLen; unfold maxLen; simp only [List.size_toArray]; omega) w')
 go_enter Tryz.func66, Tryz.ntmps66
 go_wp2_with fail
 refine (HI.out _ (Below.refl _ _)).mono ?_
 rintro e w1 ⟨rfl, h1⟩
 have B1 := Lib.hid h1
 have q2 := (HC.out w1 h1).2.1
 clear h1
 go_wp2_with fail
 refine (HJ.out _ B1.out).mono ?_
 rw [← HJ'.out]
 rintro e w2 ⟨rfl, h2⟩
 have B2 := Lib.hid (B1.out.trans (h2.mono B1.out.size))
 clear h2 q2
 go_wp2_with fail
 refine (HBK.out _).mono ?_
 rintro e w3 ⟨rfl, h3⟩
 have B3 := Lib.hid (B2.out.trans (h3.mono B2.out.size))
 clear h3
 cases hb : Tk.allB J with
 | true =>
  have HR := Lib.hid (show m.g = R from by rw [HE.out, hb, if_pos rfl])
  clear hb
  go_wp2
  go_end0
  exact ⟨m, rfl, GTo.below HG.out B3.out, HR.out, TrIn.refl _ _⟩
 | false =>
  have HR := Lib.hid (show R = ⟨m.g.ns.modify k (fun y => { y with tx := J }), m.g.op⟩ from by rw [HE.out, hb, if_neg (by decide)])
  clear hb
  obtain ⟨r0, r1, r2⟩ := HC.out w3 B3.out
  clear r1
  obtain ⟨JB, hJB⟩ : ∃ JB : ByteArray, JB = ⟨J.toArray⟩ := ⟨_, rfl⟩
  rw [← hJB]
  have HJB := Lib.hid hJB
  clear hJB
  go_wp2_with fail
  refine wp_region_held_drew (S := (fun w' => w'.cell? ⟨r, 0, none⟩ = some (.slice (some ⟨ng, 0, none⟩) m.ns.length cn) ∧ w'.cell? ⟨og, l.length * 3, none⟩ = some (.int .i64 k))) (by kernel_rfl) ⟨r0, r2⟩ (fun hHeld => ?_)
  refine wpAnyH_take (i := 0) (v := (.pointer (some ⟨r,0,none⟩))) rfl (by kernel_rfl) (by kernel_rfl) (by kernel_rfl) (fun _ _ _ h => h) (Or.inl ⟨by rfl, by (intro w hS; go_simp)⟩) hHeld ?_
  try simp only [Act.put, List.getElem_toArray, List.getElem_cons_zero, List.setIfInBounds_toArray, List.set_cons_zero, List.set_cons_succ]
  refine wpAnyH_take (i := 1) (v := (.pointer (some ⟨r,0,none⟩))) rfl (by kernel_rfl) (by kernel_rfl) (by kernel_rfl) (fun _ _ _ h => h) (Or.inl ⟨by rfl, by (intro w hS; try (obtain ⟨s0, s1⟩ := hS); go_simp)⟩) hHeld ?_
  try simp only [Act.put, List.getElem_toArray, List.getElem_cons_succ, List.getElem_cons_zero, List.setIfInBounds_toArray, List.set_cons_zero, List.set_cons_succ]
  refine wpAnyH_take (i := 2) (v := (.pointer (some ⟨r,0,none⟩))) rfl (by kernel_rfl) (by kernel_rfl) (by kernel_rfl) (fun _ _ _ h => h) (Or.inl ⟨by rfl, by (intro w hS; try (obtain ⟨s0, s1⟩ := hS); go_simp)⟩) hHeld ?_
  try simp only [Act.put, List.getElem_toArray, List.getElem_cons_succ, List.getElem_cons_zero, List.setIfInBounds_toArray, List.set_cons_zero, List.set_cons_succ]
  refine wpAnyH_take (i := 3) (v := (.pointer (some ⟨r,0,none⟩))) rfl (by kernel_rfl) (by kernel_rfl) (by kernel_rfl) (fun _ _ _ h => h) (Or.inl ⟨by rfl, by (intro w hS; try (obtain ⟨s0, s1⟩ := hS); go_simp)⟩) hHeld ?_
  try simp only [Act.put, List.getElem_toArray, List.getElem_cons_succ, List.getElem_cons_zero, List.setIfInBounds_toArray, List.set_cons_zero, List.set_cons_succ]
  refine wpAnyH_take (i := 4) (v := (.slice (some ⟨ng,0,none⟩) m.ns.length cn)) rfl (by kernel_rfl) (by kernel_rfl) (by kernel_rfl) (fun _ _ _ h => h) (Or.inl ⟨by rfl, by (intro w hS; try (obtain ⟨s0, s1⟩ := hS); go_simp)⟩) hHeld ?_
  try simp only [Act.put, List.getElem_toArray, List.getElem_cons_succ, List.getElem_cons_zero, List.setIfInBounds_toArray, List.set_cons_zero, List.set_cons_succ]
  refine wpAnyH_take (i := 5) (v := (.pointer (some ⟨r,0,none⟩))) rfl (by kernel_rfl) (by kernel_rfl) (by kernel_rfl) (fun _ _ _ h => h) (Or.inl ⟨by rfl, by (intro w hS; try (obtain ⟨s0, s1⟩ := hS); go_simp)⟩) hHeld ?_
  try simp only [Act.put, List.getElem_toArray, List.getElem_cons_succ, List.getElem_cons_zero, List.setIfInBounds_toArray, List.set_cons_zero, List.set_cons_succ]
  refine wpAnyH_take (i := 10) (v := (.string JB)) rfl (by kernel_rfl) (by kernel_rfl) (by kernel_rfl) (fun _ _ _ h => h) (Or.inl ⟨by rfl, by (intro w hS; try (obtain ⟨s0, s1⟩ := hS); go_simp)⟩) hHeld ?_
  try simp only [Act.put, List.getElem_toArray, List.getElem_cons_succ, List.getElem_cons_zero, List.setIfInBounds_toArray, List.set_cons_zero, List.set_cons_succ]
  refine wpAnyH_ready (rs := [6]) (by kernel_rfl) (by simp) ?_
  refine AllReadyH.cons rfl (fun K hK => ?_) AllReadyH.nil
  try simp only [List.getElem_toArray, List.getElem_cons_succ, List.getElem_cons_zero]
  go_simp
  refine (HI.out w3.drew B3.out.drew).mono ?_
  rintro e w4 ⟨rfl, h4⟩
  have B4 := Lib.hid (B3.out.drew.trans (h4.mono B3.out.drew.size))
  obtain ⟨s0, s1, s2⟩ := HC.out w4 B4.out
  clear h4 s1
  refine hK.out _ _ ⟨s0, s2⟩ (fun hHeld => ?_)
  clear hK K
  try simp only [Act.put, List.getElem_toArray, List.getElem_cons_succ, List.getElem_cons_zero, List.setIfInBounds_toArray, List.set_cons_zero, List.set_cons_succ]
  refine wpAnyH_take (i := 7) (v := (.pointer (some ⟨og,l.length*3,none⟩))) rfl (by kernel_rfl) (by kernel_rfl) (by kernel_rfl) (fun _ _ _ h => h) (Or.inl ⟨by rfl, by (intro w hS; try (obtain ⟨s0, s1⟩ := hS); go_simp)⟩) hHeld ?_
  try simp only [Act.put, List.getElem_toArray, List.getElem_cons_succ, List.getElem_cons_zero, List.setIfInBounds_toArray, List.set_cons_zero, List.set_cons_succ]
  refine wpAnyH_take (i := 8) (v := (.pointer (some ⟨og,l.length*3,none⟩))) rfl (by kernel_rfl) (by kernel_rfl) (by kernel_rfl) (fun _ _ _ h => h) (Or.inl ⟨by rfl, by (intro w hS; try (obtain ⟨s0, s1⟩ := hS); go_simp)⟩) hHeld ?_
  try simp only [Act.put, List.getElem_toArray, List.getElem_cons_succ, List.getElem_cons_zero, List.setIfInBounds_toArray, List.set_cons_zero, List.set_cons_succ]
  refine wpAnyH_take (i := 9) (v := (.int .i64 k)) rfl (by kernel_rfl) (by kernel_rfl) (by kernel_rfl) (fun _ _ _ h => h) (Or.inl ⟨by rfl, by (intro w hS; try (obtain ⟨s0, s1⟩ := hS); go_simp)⟩) hHeld ?_
  try simp only [Act.put, List.getElem_toArray, List.getElem_cons_succ, List.getElem_cons_zero, List.setIfInBounds_toArray, List.set_cons_zero, List.set_cons_succ]
  refine wpAnyH_take (i := 11) (v := (.pointer (some ⟨ng,k*7,none⟩))) rfl (by kernel_rfl) (by kernel_rfl) (by kernel_rfl) (fun _ _ _ h => h) (Or.inl ⟨by rfl, by (intro w hS; try (obtain ⟨s0, s1⟩ := hS); go_simp)⟩) hHeld ?_
  try simp only [Act.put, List.getElem_toArray, List.getElem_cons_succ, List.getElem_cons_zero, List.setIfInBounds_toArray, List.set_cons_zero, List.set_cons_succ]
  refine wpAnyH_take (i := 12) (v := (.pointer (some ⟨ng,k*7+2,none⟩))) rfl (by kernel_rfl) (by kernel_rfl) (by kernel_rfl) (fun _ _ _ h => h) (Or.inl ⟨by rfl, by (intro w hS; try (obtain ⟨s0, s1⟩ := hS); go_simp)⟩) hHeld ?_
  try simp only [Act.put, List.getElem_toArray, List.getElem_cons_succ, List.getElem_cons_zero, List.setIfInBounds_toArray, List.set_cons_zero, List.set_cons_succ]
  obtain ⟨n0, n1⟩ := HN.out w4 B4.out
  refine wpAnyH_ready (rs := [13]) (by kernel_rfl) (by simp) ?_
  refine AllReadyH.cons rfl (fun K hK => ?_) AllReadyH.nil
  try simp only [List.getElem_toArray, List.getElem_cons_succ, List.getElem_cons_zero]
  go_simp
  have HF := Lib.hid (HS.out w4 B4.out J)
  rw [← HJB.out] at HF
  refine hK.out _ _ ⟨?_, ?_⟩ (fun hHeld => ?_)
  ·exact (World.cell?_setCell_other _ _ _ _ (by intro e; injection e with e; exact blk_apart HG.out.blk HG.out.nown (by decide) (by rw [HV.out.1, ← e]; rfl))).trans s0
  ·exact (World.cell?_setCell_other _ _ _ _ (by intro e; injection e with e; exact own_apart HG.out.oown HG.out.nown (by decide) (g := og) (by rw [HV.out.2]; rfl) (by rw [HV.out.1, ← e]; rfl))).trans s2
  clear hK K
  try simp only [Act.put, List.getElem_toArray, List.getElem_cons_succ, List.getElem_cons_zero, List.setIfInBounds_toArray, List.set_cons_zero, List.set_cons_succ]
  refine wpAnyH_done (by kernel_rfl) ?_ _
  clear hHeld s0 s2 n0 n1 r0 r2
  go_wp2
  go_end0
  exact ⟨_, rfl, GTo.first B4.out HG.out (by exact HF.out), by rw [HR.out]; exact settle_map k J, TrIn.mod (i := k) (f := Nd.setTx J) rfl (fun _ => rfl)⟩
end Go.Proofs.YteadfpkihhaadaaGreatDoor
namespace Go.Proofs.YteadfpkihhaadaaGreatDoor
open Go.RowKit
def txV (m : Gm) : Value := (m.es.getLast?.map (·.2)).getD (.slice none 0 0)
theorem txV_nil {m : Gm} (h : m.es = []) : txV m = .slice none 0 0 := by unfold txV; simp [h]
theorem txV_last {m : Gm} {l : List (Tr.E × Value)} {x : Tr.E × Value} (h : m.es = l ++ [x]) : txV m = x.2 := by unfold txV; simp [h]
theorem GS.txs {B : Nat} {w : World} {r : Nat} {m : Gm} (h : GS B w r m) : OwnS B w (txV m) (Tr.inn m.g).tx := by
 rcases List.eq_nil_or_concat m.es with he | ⟨l, x, he⟩
 ·rw [txV_nil he, inn_nil he]; exact World.ownsRow_nil _ _ _ _
 ·rw [List.concat_eq_append] at he
  rw [txV_last he, inn_last he]
  exact h.text x (by rw [he]; simp)
theorem InnP.c2 {B r : Nat} {w w2 : World} {m : Gm} {eb eo : Nat} (h : InnP B r w m eb eo w2) (hg : GS B w r m) : w2.cell? ⟨eb, eo + 2, none⟩ = some (txV m) := by
 rcases h.or with ⟨he, hb, rfl, _⟩ | ⟨l, x, n, cap, he, hv, rfl⟩
 ·rw [txV_nil he]; exact hb.at_ 2
 ·rw [txV_last he]; exact ((hg.below h.bl).elcell he hv 2 (by omega)).1
theorem InnP.text {B r : Nat} {w wA w5 w9 : World} {m : Gm} {ea oa g1 cap1 : Nat} {t : List UInt8} (h : InnP B r w m ea oa wA) (hg : GS B w r m) (h5 : Below wA.heap.size wA w5) (hgr : w5.grownBy w9 (txV m).ownBlock)
  (hown : w9.ownsRow B 9 1 (.slice (some ⟨g1, 0, none⟩) ((Tr.inn m.g).tx.length + 1) cap1) ((Tr.inn m.g).tx.length + 1) ((Tr.inn m.g).tx.map strV ++ [strV t])) (hnew : (txV m).ownBlock = some g1 ∨ w5.heap.size ≤ g1) :
  w9.cell? ⟨ea, oa + 2, none⟩ = some (txV m) ∧ w9.frozen? ⟨ea, oa + 2, none⟩ = false ∧
  ∃ m', GTo B r w m (w9.setCell ⟨ea, oa + 2, none⟩ (.slice (some ⟨g1, 0, none⟩) ((Tr.inn m.g).tx.length + 1) cap1)) m' ∧ m'.g = ⟨m.g.ns, Tr.more m.g.op t⟩ ∧ m'.ns = m.ns := by
 have b5 : Below w.heap.size w w5 := h.bl.trans (h5.mono h.bl.size)
 have h0 : GTo B r w m w5 m := GTo.below hg b5
 rcases h.or with ⟨he, hb, rfl, hle⟩ | ⟨l, y, n, cap, he, hv, rfl⟩
 ·rw [txV_nil he] at hgr hnew ⊢
  have b9 : Below w5.heap.size w5 w9 := below_of_grown hgr (Nat.le_refl _) (fun k hk => by cases hk)
  have hb9 := (hb.below h5 hb.lt).below b9 (hb.below h5 hb.lt).lt
  have h9 := h0.on b9
  refine ⟨hb9.at_ 2, hb9.fz 2, m, h9.aside (i := 0 + 2) hle (fun b hb' e => by have := (hg.kinds hb').2.1; omega) (fun y hy h0' a ha e => by have := hg.attlt y hy h0' a ha; omega), ?_, rfl⟩
  unfold Gm.g
  rw [he]; rfl
 ·rw [txV_last he] at hgr hnew ⊢
  rw [inn_last he] at hown ⊢
  have hc := h0.gs.elcell he hv 2 (by omega)
  have hym : y ∈ m.es := by rw [he]; simp
  have hne : some ea ≠ y.2.ownBlock := fun e => own_apart hg.oown (hg.text y hym) (by decide) (g := ea) (by rw [hv]; rfl) e.symm
  have hlt : ea < w5.heap.size := Nat.lt_of_lt_of_le h.lt h5.size
  refine ⟨(hgr.cell_far ⟨ea, _, none⟩ hlt hne).trans hc.1, (hgr.frozen_far ⟨ea, _, none⟩ hlt hne).trans hc.2, _, h0.trans (GTo.tapp h0.gs hv he hgr hown hnew), ?_, rfl⟩
  unfold Gm.g
  simp only [he, List.map_append, List.map_cons, List.map_nil]
  rw [Tr.more_snoc]
theorem infoStr : (Tryz.prog.info? 9).map (fun i => (i.zero, i.size, i.bytes)) = some (some (.string ⟨#[]⟩), 1, 16) := by kernel_rfl
def tokC5 (t : Tk.T) (A : Option Addr) (c : Nat) : Array Value := #[.int .u8 t.k, .string ⟨t.nm.toArray⟩, .slice A t.as.length c, .string ⟨t.tx.toArray⟩, .int .i64 t.p]
structure TokOk (w : World) (r : Nat) (m : Gm) (t : Tk.T) (A : Option Addr) (c : Nat) : Prop where
 nd : NdOk w w.heap.size ⟨Tr.nodeAs t, A, c⟩
 aw : 0 < t.as.length → ∀ a, A = some a → ¬ m.own r a.block
structure Fits5 (m : Gm) : Prop where
 ns : m.ns.length ≤ 1048575
 es : m.es.length ≤ 64
 tx : (Tr.inn m.g).tx.flatten.length ≤ 70368744177664
 tn : (Tr.inn m.g).tx.length ≤ 1048576
set_option maxHeartbeats 4000000 in
set_option maxRecDepth 100000 in
theorem take4_any (B : Nat) (w : World) (r : Nat) (m : Gm) (h : GS B w r m) (t : Tk.T) (A : Option Addr) (c : Nat) (hk : t.k = 4) (hf : Fits5 m) :
  Calls Tryz.prog 29 #[.pointer (some ⟨r, 0, none⟩), .agg (tokC5 t A c)] w (SetP B r w m (fun g => ⟨g.ns, Tr.more g.op t.tx⟩) none) := by
 obtain ⟨W1, hW1⟩ : ∃ W1, W1 = w.alloc (.cells (tokC5 t A c) 76) := ⟨_, rfl⟩
 obtain ⟨p, hp⟩ : ∃ p, p = w.heap.size := ⟨_, rfl⟩
 have hb1 : Below w.heap.size w W1 := by rw [hW1]; exact (Below.refl _ _).alloc (Nat.le_refl _) _
 have hk1 : IsBlk W1 p 76 (tokC5 t A c) := by rw [hW1, hp]; exact IsBlk.new _ _ _
 have HI := Lib.hid (fun w' (hb : Below w.heap.size w w') => inner_any B w' r m (h.below hb))
 have HG := Lib.hid (fun w' (hb : Below w.heap.size w w') => h.below hb)
 have HK1 := Lib.hid hk1
 have HB1 := Lib.hid hb1
 have HE1 := Lib.hid hW1
 have HP := Lib.hid hp
 have HNO := Lib.hid (show ¬ m.own r p from fun ho => by have := (h.kinds ho).2.1; omega)
 have htl : (Tr.inn m.g).tx.length ≤ 1048576 := hf.tn
 unfold tokC5 at HE1 HK1 ⊢
 obtain ⟨N, hN⟩ : ∃ N : ByteArray, N = ⟨t.nm.toArray⟩ := ⟨_, rfl⟩
 obtain ⟨X, hX⟩ : ∃ N : ByteArray, N = ⟨t.tx.toArray⟩ := ⟨_, rfl⟩
 rw [← hN, ← hX, hk] at HE1 HK1 ⊢
 have HX := Lib.hid hX
 obtain ⟨F, hF⟩ : ∃ F : Tr.G → Tr.G, F = fun g => ⟨g.ns, Tr.more g.op t.tx⟩ := ⟨_, rfl⟩
 rw [← hF]
 have HF := Lib.hid hF
 have x0 : W1.cell? ⟨p, 0, none⟩ = some (.int .u8 4) := HK1.out.at_ 0
 have x3 : W1.cell? ⟨p, 3, none⟩ = some (.string X) := HK1.out.at_ 3
 have hplt := hk1.lt
 have hkB : B ≤ W1.heap.size := Nat.le_trans (Nat.le_trans h.base (Nat.le_of_lt h.blk.lt)) hb1.size
 obtain ⟨At, ct, htv⟩ : ∃ At ct, txV m = .slice At (Tr.inn m.g).tx.length ct := by
  rcases own_form h.txs with ⟨e1, e2⟩ | ⟨g, c, e1, _⟩
  ·exact ⟨none, 0, by rw [e1, e2]⟩
  ·exact ⟨_, _, e1⟩
 have HTV := Lib.hid htv
 obtain ⟨i0, hi, hz0, hz1, hz2⟩ := info_parts infoStr
 have hbig : (Tr.inn m.g).tx.length + 1 ≤ maxLen := by unfold maxLen; omega
 rw [HE1.out] at x0 x3
 clear h hk hf hp hb1 hk1 hN hX hF htv hW1
 go_enter Tryz.func29, Tryz.ntmps29
 go_wp2_with fail
 rw [← HE1.out] at x3 ⊢
 rw [← HP.out]
 clear x0
 refine wp_region_held_drew (S := (fun w' => w'.cell? ⟨p, 3, none⟩ = some (.string X))) (by kernel_rfl) x3 (fun hHeld => ?_)
 refine wpAnyH_take (i := 0) (v := (.pointer (some ⟨r,0,none⟩))) rfl (by kernel_rfl) (by kernel_rfl) (by kernel_rfl) (fun _ _ _ h => h) (Or.inl ⟨by rfl, by (intro w hS; go_simp)⟩) hHeld ?_
 try simp only [Act.put, List.getElem_toArray, List.getElem_cons_zero, List.setIfInBounds_toArray, List.set_cons_zero, List.set_cons_succ]
 refine wpAnyH_take (i := 2) (v := (.pointer (some ⟨r,0,none⟩))) rfl (by kernel_rfl) (by kernel_rfl) (by kernel_rfl) (fun _ _ _ h => h) (Or.inl ⟨by rfl, by (intro w hS; go_simp)⟩) hHeld ?_
 try simp only [Act.put, List.getElem_toArray, List.getElem_cons_succ, List.getElem_cons_zero, List.setIfInBounds_toArray, List.set_cons_zero, List.set_cons_succ]
 refine wpAnyH_take (i := 7) (v := (.pointer (some ⟨p,3,none⟩))) rfl (by kernel_rfl) (by kernel_rfl) (by kernel_rfl) (fun _ _ _ h => h) (Or.inl ⟨by rfl, by (intro w hS; go_simp)⟩) hHeld ?_
 try simp only [Act.put, List.getElem_toArray, List.getElem_cons_succ, List.getElem_cons_zero, List.setIfInBounds_toArray, List.set_cons_zero, List.set_cons_succ]
 refine wpAnyH_take (i := 8) (v := (.string X)) rfl (by kernel_rfl) (by kernel_rfl) (by kernel_rfl) (fun _ _ _ h => h) (Or.inl ⟨by rfl, by (intro w hS; go_simp)⟩) hHeld ?_
 try simp only [Act.put, List.getElem_toArray, List.getElem_cons_succ, List.getElem_cons_zero, List.setIfInBounds_toArray, List.set_cons_zero, List.set_cons_succ]
 refine wpAnyH_ready (rs := [1, 9]) (by kernel_rfl) (by simp) ?_
 refine AllReadyH.cons rfl (fun K hK => ?_) (AllReadyH.cons rfl (fun K hK => ?_) AllReadyH.nil)
 ·skip
  try simp only [List.getElem_toArray, List.getElem_cons_succ, List.getElem_cons_zero]
  go_simp
  refine (HI.out W1.drew HB1.out.drew).mono ?_
  rintro e w2 ⟨ea, oa, rfl, hia⟩
  have HTX := Lib.hid (fun W5 (h5 : Below w2.heap.size w2 W5) (w9 : World) (g1 cap1 : Nat) hgr hown hnew => InnP.text (w9 := w9) (g1 := g1) (cap1 := cap1) (t := t.tx) hia (HG.out W1.drew HB1.out.drew) h5 hgr hown hnew)
  have HIA := Lib.hid hia
  have HAW := Lib.hid (show Below w.heap.size w W1.drew from HB1.out.drew)
  have hbl2 : Below w.heap.size w w2 := HAW.out.trans (hia.bl.mono HAW.out.size)
  have HB2 := Lib.hid hbl2
  have HBA := Lib.hid (show Below (W1.drew).heap.size W1.drew w2 from hia.bl)
  have hnea : p ≠ ea := fun e => hia.ne (p := p) (by have := HK1.out.lt; show p < (W1.drew).heap.size; exact hplt) HNO.out e.symm
  have y3 : w2.cell? ⟨p, 3, none⟩ = some (.string X) := (hia.bl.cell (p := ⟨p, 3, none⟩) (by show p < (W1.drew).heap.size; exact hplt)).trans x3
  have hp2 : p < w2.heap.size := Nat.lt_of_lt_of_le (show p < (W1.drew).heap.size from hplt) hia.bl.size
  clear hia hbl2
  refine hK.out _ _ y3 (fun hHeld => ?_)
  clear hK K
  try simp only [Act.put, List.getElem_toArray, List.getElem_cons_succ, List.getElem_cons_zero, List.setIfInBounds_toArray, List.set_cons_zero, List.set_cons_succ]
  refine wpAnyH_ready (rs := [3, 9]) (by kernel_rfl) (by simp) ?_
  refine AllReadyH.cons rfl (fun K hK => ?_) (AllReadyH.cons rfl (fun K hK => ?_) AllReadyH.nil)
  ·skip
   try simp only [List.getElem_toArray, List.getElem_cons_succ, List.getElem_cons_zero]
   go_simp
   refine (HI.out w2 HB2.out).mono ?_
   rintro e w3 ⟨eb, ob, rfl, hib⟩
   have q2 : w3.cell? ⟨eb, ob + 2, none⟩ = some (.slice At (Tr.inn m.g).tx.length ct) := by rw [← HTV.out]; exact hib.c2 (HG.out w2 HB2.out)
   have HB3 := Lib.hid (show Below (w2).heap.size w2 w3 from hib.bl)
   have heb := hib.lt
   have z3 : w3.cell? ⟨p, 3, none⟩ = some (.string X) := (hib.bl.cell (p := ⟨p, 3, none⟩) (by show p < (w2).heap.size; exact hp2)).trans y3
   clear hib
   refine hK.out _ _ z3 (fun hHeld => ?_)
   clear hK K
   try simp only [Act.put, List.getElem_toArray, List.getElem_cons_succ, List.getElem_cons_zero, List.setIfInBounds_toArray, List.set_cons_zero, List.set_cons_succ]
   refine wpAnyH_take (i := 4) (v := (.pointer (some ⟨eb,ob,none⟩))) rfl (by kernel_rfl) (by kernel_rfl) (by kernel_rfl) (fun _ _ _ h => h) (Or.inl ⟨by rfl, by (intro w hS; go_simp)⟩) hHeld ?_
   try simp only [Act.put, List.getElem_toArray, List.getElem_cons_succ, List.getElem_cons_zero, List.setIfInBounds_toArray, List.set_cons_zero, List.set_cons_succ]
   refine wpAnyH_take (i := 5) (v := (.pointer (some ⟨eb,ob+2,none⟩))) rfl (by kernel_rfl) (by kernel_rfl) (by kernel_rfl) (fun _ _ _ h => h) (Or.inl ⟨by rfl, by (intro w hS; go_simp)⟩) hHeld ?_
   try simp only [Act.put, List.getElem_toArray, List.getElem_cons_succ, List.getElem_cons_zero, List.setIfInBounds_toArray, List.set_cons_zero, List.set_cons_succ]
   refine wpAnyH_ready (rs := [6, 9]) (by kernel_rfl) (by simp) ?_
   refine AllReadyH.cons rfl (fun K hK => ?_) (AllReadyH.cons rfl (fun K hK => ?_) AllReadyH.nil)
   ·skip
    try simp only [List.getElem_toArray, List.getElem_cons_succ, List.getElem_cons_zero]
    go_simp
    refine hK.out _ _ z3 (fun hHeld => ?_)
    clear hK K
    try simp only [Act.put, List.getElem_toArray, List.getElem_cons_succ, List.getElem_cons_zero, List.setIfInBounds_toArray, List.set_cons_zero, List.set_cons_succ]
    refine wpAnyH_ready (rs := [9]) (by kernel_rfl) (by simp) ?_
    refine AllReadyH.cons rfl (fun K hK => ?_) AllReadyH.nil
    try simp only [List.getElem_toArray, List.getElem_cons_succ, List.getElem_cons_zero]
    go_simp
    refine hK.out _ _ ((World.cell?_alloc_lt _ _ _ (by show p < w3.heap.size; exact Nat.lt_of_lt_of_le hp2 HB3.out.size)).trans z3) (fun hHeld => ?_)
    clear hK K
    try simp only [Act.put, List.getElem_toArray, List.getElem_cons_succ, List.getElem_cons_zero, List.setIfInBounds_toArray, List.set_cons_zero, List.set_cons_succ]
    obtain ⟨W5, hW5⟩ : ∃ W5, W5 = w3.alloc (.cells #[.string X] 9) := ⟨_, rfl⟩
    rw [← hW5]
    have h35 : Below w3.heap.size w3 W5 := by rw [hW5]; exact (Below.refl _ _).alloc (Nat.le_refl _) _
    have h25 : Below w2.heap.size w2 W5 := HB3.out.trans (h35.mono HB3.out.size)
    have hb5 : Below w.heap.size w W5 := HB2.out.trans (h25.mono HB2.out.size)
    have hp5 : p < W5.heap.size := Nat.lt_of_lt_of_le hp2 h25.size
    have x5 : W5.cell? ⟨p, 3, none⟩ = some (.string X) := (h25.cell (p := ⟨p, 3, none⟩) hp2).trans y3
    have hq5 : ∀ i u, (#[.string X] : Array Value).toList[i]? = some u → W5.cell? ((⟨w3.heap.size, 0, none⟩ : Addr).add i) = some u := by rw [hW5]; exact fun i u hu => news_at w3 _ _ _ rfl i u hu
    have hg5 := HG.out W5 hb5
    have hs5 : B ≤ W5.heap.size := Nat.le_trans (Nat.le_trans hg5.base (Nat.le_of_lt hg5.blk.lt)) (Nat.le_refl _)
    have hown : W5.ownsRow B 9 1 (.slice At (Tr.inn m.g).tx.length ct) (Tr.inn m.g).tx.length ((Tr.inn m.g).tx.map strV) := by rw [← HTV.out]; exact hg5.txs
    have hfar : some p ≠ (Value.slice At (Tr.inn m.g).tx.length ct).ownBlock := by
     rw [← HTV.out]
     exact fun e => HNO.out (by
      rcases List.eq_nil_or_concat m.es with he | ⟨l, x, he⟩
      ·rw [txV_nil he] at e; cases e
      ·rw [List.concat_eq_append] at he
       rw [txV_last he] at e
       exact Or.inr (Or.inr (Or.inr ⟨x, by rw [he]; simp, e.symm⟩)))
    clear hg5
    refine wpAnyH_ready (rs := [10]) (by kernel_rfl) (by simp) ?_
    refine AllReadyH.cons rfl (fun K hK => ?_) AllReadyH.nil
    refine step_append_lies _ (by rfl) _ _ _ (by rfl) B 9 i0 _ 1 16 Tryz.underlying44 hi hz0 hz1 hz2 rfl (by omega) (.slice At (Tr.inn m.g).tx.length ct) (Tr.inn m.g).tx.length ((Tr.inn m.g).tx.map strV) (by rfl) (by exact hown) _ 1 _ [.string X] (by rfl) rfl (by exact hq5) (by intro u hu; simp at hu; rcases hu with rfl; rfl) (by omega) hbig (by omega) hs5 _ rfl ?_
    intro g9 cap9 w9 hown9 hgr9 hat9 hlt9
    obtain ⟨f1, f2, m', hT, hmg, hns⟩ := HTX.out W5 h25 w9 g9 cap9 (by rw [HTV.out]; exact hgr9) (by unfold strV; rw [← HX.out]; exact hown9) (by rw [HTV.out]; exact hat9.imp id (fun h => Nat.le_of_eq h.symm))
    rw [HTV.out] at f1
    have v3 : w9.cell? ⟨p, 3, none⟩ = some (.string X) := (hgr9.cell_far ⟨p, 3, none⟩ hp5 hfar).trans x5
    have v4 : (w9.setCell ⟨ea, oa + 2, none⟩ (.slice (some ⟨g9, 0, none⟩) ((Tr.inn m.g).tx.length + 1) cap9)).cell? ⟨p, 3, none⟩ = some (.string X) := (World.cell?_setCell_other _ _ _ _ (by intro e; injection e with e; first | exact hnea e | exact hnea e.symm)).trans v3
    have HT := Lib.hid (And.intro hT (And.intro hmg hns))
    clear hT hmg hns hown hown9 hgr9 hfar hq5
    refine hK.out _ _ v3 (fun hHeld => ?_)
    clear hK K
    try simp only [Act.put, List.getElem_toArray, List.getElem_cons_succ, List.getElem_cons_zero, List.setIfInBounds_toArray, List.set_cons_zero, List.set_cons_succ]
    refine wpAnyH_take (i := 11) (v := (.pointer (some ⟨ea,oa,none⟩))) rfl (by kernel_rfl) (by kernel_rfl) (by kernel_rfl) (fun _ _ _ h => h) (Or.inl ⟨by rfl, by (intro w hS; go_simp)⟩) hHeld ?_
    try simp only [Act.put, List.getElem_toArray, List.getElem_cons_succ, List.getElem_cons_zero, List.setIfInBounds_toArray, List.set_cons_zero, List.set_cons_succ]
    refine wpAnyH_take (i := 12) (v := (.pointer (some ⟨ea,oa+2,none⟩))) rfl (by kernel_rfl) (by kernel_rfl) (by kernel_rfl) (fun _ _ _ h => h) (Or.inl ⟨by rfl, by (intro w hS; go_simp)⟩) hHeld ?_
    try simp only [Act.put, List.getElem_toArray, List.getElem_cons_succ, List.getElem_cons_zero, List.setIfInBounds_toArray, List.set_cons_zero, List.set_cons_succ]
    refine wpAnyH_ready (rs := [13]) (by kernel_rfl) (by simp) ?_
    refine AllReadyH.cons rfl (fun K hK => ?_) AllReadyH.nil
    try simp only [List.getElem_toArray, List.getElem_cons_succ, List.getElem_cons_zero]
    go_simp
    refine hK.out _ _ v4 (fun hHeld => ?_)
    clear hK K
    try simp only [Act.put, List.getElem_toArray, List.getElem_cons_succ, List.getElem_cons_zero, List.setIfInBounds_toArray, List.set_cons_zero, List.set_cons_succ]
    refine wpAnyH_done (by kernel_rfl) ?_ _
    clear hHeld v3 v4 f1 f2
    go_wp2
    go_end0
    exact ⟨m', rfl, GTo.first HAW.out (HG.out w (Below.refl _ _)) (by exact HT.out.1), by rw [HF.out]; exact HT.out.2.1, TrIn.of_ns HT.out.2.2⟩
   ·skip
    try simp only [List.getElem_toArray, List.getElem_cons_succ, List.getElem_cons_zero]
    go_simp
    refine hK.out _ _ ((World.cell?_alloc_lt _ _ _ (by show p < w3.heap.size; exact Nat.lt_of_lt_of_le hp2 HB3.out.size)).trans z3) (fun hHeld => ?_)
    clear hK K
    try simp only [Act.put, List.getElem_toArray, List.getElem_cons_succ, List.getElem_cons_zero, List.setIfInBounds_toArray, List.set_cons_zero, List.set_cons_succ]
    have q2 : (w3.alloc (.cells #[.string X] 9)).cell? ⟨eb, ob + 2, none⟩ = some (.slice At (Tr.inn m.g).tx.length ct) := (World.cell?_alloc_lt _ _ _ (by show eb < w3.heap.size; exact heb)).trans q2
    refine wpAnyH_ready (rs := [6]) (by kernel_rfl) (by simp) ?_
    refine AllReadyH.cons rfl (fun K hK => ?_) AllReadyH.nil
    try simp only [List.getElem_toArray, List.getElem_cons_succ, List.getElem_cons_zero]
    go_simp
    refine hK.out _ _ ((World.cell?_alloc_lt _ _ _ (by show p < w3.heap.size; exact Nat.lt_of_lt_of_le hp2 HB3.out.size)).trans z3) (fun hHeld => ?_)
    clear hK K
    try simp only [Act.put, List.getElem_toArray, List.getElem_cons_succ, List.getElem_cons_zero, List.setIfInBounds_toArray, List.set_cons_zero, List.set_cons_succ]
    obtain ⟨W5, hW5⟩ : ∃ W5, W5 = w3.alloc (.cells #[.string X] 9) := ⟨_, rfl⟩
    rw [← hW5]
    have h35 : Below w3.heap.size w3 W5 := by rw [hW5]; exact (Below.refl _ _).alloc (Nat.le_refl _) _
    have h25 : Below w2.heap.size w2 W5 := HB3.out.trans (h35.mono HB3.out.size)
    have hb5 : Below w.heap.size w W5 := HB2.out.trans (h25.mono HB2.out.size)
    have hp5 : p < W5.heap.size := Nat.lt_of_lt_of_le hp2 h25.size
    have x5 : W5.cell? ⟨p, 3, none⟩ = some (.string X) := (h25.cell (p := ⟨p, 3, none⟩) hp2).trans y3
    have hq5 : ∀ i u, (#[.string X] : Array Value).toList[i]? = some u → W5.cell? ((⟨w3.heap.size, 0, none⟩ : Addr).add i) = some u := by rw [hW5]; exact fun i u hu => news_at w3 _ _ _ rfl i u hu
    have hg5 := HG.out W5 hb5
    have hs5 : B ≤ W5.heap.size := Nat.le_trans (Nat.le_trans hg5.base (Nat.le_of_lt hg5.blk.lt)) (Nat.le_refl _)
    have hown : W5.ownsRow B 9 1 (.slice At (Tr.inn m.g).tx.length ct) (Tr.inn m.g).tx.length ((Tr.inn m.g).tx.map strV) := by rw [← HTV.out]; exact hg5.txs
    have hfar : some p ≠ (Value.slice At (Tr.inn m.g).tx.length ct).ownBlock := by
     rw [← HTV.out]
     exact fun e => HNO.out (by
      rcases List.eq_nil_or_concat m.es with he | ⟨l, x, he⟩
      ·rw [txV_nil he] at e; cases e
      ·rw [List.concat_eq_append] at he
       rw [txV_last he] at e
       exact Or.inr (Or.inr (Or.inr ⟨x, by rw [he]; simp, e.symm⟩)))
    clear hg5
    refine wpAnyH_ready (rs := [10]) (by kernel_rfl) (by simp) ?_
    refine AllReadyH.cons rfl (fun K hK => ?_) AllReadyH.nil
    refine step_append_lies _ (by rfl) _ _ _ (by rfl) B 9 i0 _ 1 16 Tryz.underlying44 hi hz0 hz1 hz2 rfl (by omega) (.slice At (Tr.inn m.g).tx.length ct) (Tr.inn m.g).tx.length ((Tr.inn m.g).tx.map strV) (by rfl) (by exact hown) _ 1 _ [.string X] (by rfl) rfl (by exact hq5) (by intro u hu; simp at hu; rcases hu with rfl; rfl) (by omega) hbig (by omega) hs5 _ rfl ?_
    intro g9 cap9 w9 hown9 hgr9 hat9 hlt9
    obtain ⟨f1, f2, m', hT, hmg, hns⟩ := HTX.out W5 h25 w9 g9 cap9 (by rw [HTV.out]; exact hgr9) (by unfold strV; rw [← HX.out]; exact hown9) (by rw [HTV.out]; exact hat9.imp id (fun h => Nat.le_of_eq h.symm))
    rw [HTV.out] at f1
    have v3 : w9.cell? ⟨p, 3, none⟩ = some (.string X) := (hgr9.cell_far ⟨p, 3, none⟩ hp5 hfar).trans x5
    have v4 : (w9.setCell ⟨ea, oa + 2, none⟩ (.slice (some ⟨g9, 0, none⟩) ((Tr.inn m.g).tx.length + 1) cap9)).cell? ⟨p, 3, none⟩ = some (.string X) := (World.cell?_setCell_other _ _ _ _ (by intro e; injection e with e; first | exact hnea e | exact hnea e.symm)).trans v3
    have HT := Lib.hid (And.intro hT (And.intro hmg hns))
    clear hT hmg hns hown hown9 hgr9 hfar hq5
    refine hK.out _ _ v3 (fun hHeld => ?_)
    clear hK K
    try simp only [Act.put, List.getElem_toArray, List.getElem_cons_succ, List.getElem_cons_zero, List.setIfInBounds_toArray, List.set_cons_zero, List.set_cons_succ]
    refine wpAnyH_take (i := 11) (v := (.pointer (some ⟨ea,oa,none⟩))) rfl (by kernel_rfl) (by kernel_rfl) (by kernel_rfl) (fun _ _ _ h => h) (Or.inl ⟨by rfl, by (intro w hS; go_simp)⟩) hHeld ?_
    try simp only [Act.put, List.getElem_toArray, List.getElem_cons_succ, List.getElem_cons_zero, List.setIfInBounds_toArray, List.set_cons_zero, List.set_cons_succ]
    refine wpAnyH_take (i := 12) (v := (.pointer (some ⟨ea,oa+2,none⟩))) rfl (by kernel_rfl) (by kernel_rfl) (by kernel_rfl) (fun _ _ _ h => h) (Or.inl ⟨by rfl, by (intro w hS; go_simp)⟩) hHeld ?_
    try simp only [Act.put, List.getElem_toArray, List.getElem_cons_succ, List.getElem_cons_zero, List.setIfInBounds_toArray, List.set_cons_zero, List.set_cons_succ]
    refine wpAnyH_ready (rs := [13]) (by kernel_rfl) (by simp) ?_
    refine AllReadyH.cons rfl (fun K hK => ?_) AllReadyH.nil
    try simp only [List.getElem_toArray, List.getElem_cons_succ, List.getElem_cons_zero]
    go_simp
    refine hK.out _ _ v4 (fun hHeld => ?_)
    clear hK K
    try simp only [Act.put, List.getElem_toArray, List.getElem_cons_succ, List.getElem_cons_zero, List.setIfInBounds_toArray, List.set_cons_zero, List.set_cons_succ]
    refine wpAnyH_done (by kernel_rfl) ?_ _
    clear hHeld v3 v4 f1 f2
    go_wp2
    go_end0
    exact ⟨m', rfl, GTo.first HAW.out (HG.out w (Below.refl _ _)) (by exact HT.out.1), by rw [HF.out]; exact HT.out.2.1, TrIn.of_ns HT.out.2.2⟩
  ·skip
   try simp only [List.getElem_toArray, List.getElem_cons_succ, List.getElem_cons_zero]
   go_simp
   refine hK.out _ _ ((World.cell?_alloc_lt _ _ _ (by show p < w2.heap.size; exact hp2)).trans y3) (fun hHeld => ?_)
   clear hK K
   try simp only [Act.put, List.getElem_toArray, List.getElem_cons_succ, List.getElem_cons_zero, List.setIfInBounds_toArray, List.set_cons_zero, List.set_cons_succ]
   obtain ⟨WB, hWB⟩ : ∃ WB, WB = w2.alloc (.cells #[.string X] 9) := ⟨_, rfl⟩
   rw [← hWB]
   have h2B : Below w2.heap.size w2 WB := by rw [hWB]; exact (Below.refl _ _).alloc (Nat.le_refl _) _
   have hqB : ∀ i u, (#[.string X] : Array Value).toList[i]? = some u → WB.cell? ((⟨w2.heap.size, 0, none⟩ : Addr).add i) = some u := by rw [hWB]; exact fun i u hu => news_at w2 _ _ _ rfl i u hu
   have hsB : w2.heap.size < WB.heap.size := by rw [hWB]; simp
   clear hWB
   have yB : WB.cell? ⟨p, 3, none⟩ = some (.string X) := (h2B.cell (p := ⟨p, 3, none⟩) hp2).trans y3
   have HBW := Lib.hid (show Below w.heap.size w WB from HB2.out.trans (h2B.mono HB2.out.size))
   refine wpAnyH_ready (rs := [3]) (by kernel_rfl) (by simp) ?_
   refine AllReadyH.cons rfl (fun K hK => ?_) AllReadyH.nil
   try simp only [List.getElem_toArray, List.getElem_cons_succ, List.getElem_cons_zero]
   go_simp
   refine (HI.out WB HBW.out).mono ?_
   rintro e w3 ⟨eb, ob, rfl, hib⟩
   have q2 : w3.cell? ⟨eb, ob + 2, none⟩ = some (.slice At (Tr.inn m.g).tx.length ct) := by rw [← HTV.out]; exact hib.c2 (HG.out WB HBW.out)
   have HB3 := Lib.hid (show Below (WB).heap.size WB w3 from hib.bl)
   have heb := hib.lt
   have z3 : w3.cell? ⟨p, 3, none⟩ = some (.string X) := (hib.bl.cell (p := ⟨p, 3, none⟩) (by show p < (WB).heap.size; exact (Nat.lt_trans hp2 hsB))).trans yB
   clear hib
   refine hK.out _ _ z3 (fun hHeld => ?_)
   clear hK K
   try simp only [Act.put, List.getElem_toArray, List.getElem_cons_succ, List.getElem_cons_zero, List.setIfInBounds_toArray, List.set_cons_zero, List.set_cons_succ]
   refine wpAnyH_take (i := 4) (v := (.pointer (some ⟨eb,ob,none⟩))) rfl (by kernel_rfl) (by kernel_rfl) (by kernel_rfl) (fun _ _ _ h => h) (Or.inl ⟨by rfl, by (intro w hS; go_simp)⟩) hHeld ?_
   try simp only [Act.put, List.getElem_toArray, List.getElem_cons_succ, List.getElem_cons_zero, List.setIfInBounds_toArray, List.set_cons_zero, List.set_cons_succ]
   refine wpAnyH_take (i := 5) (v := (.pointer (some ⟨eb,ob+2,none⟩))) rfl (by kernel_rfl) (by kernel_rfl) (by kernel_rfl) (fun _ _ _ h => h) (Or.inl ⟨by rfl, by (intro w hS; go_simp)⟩) hHeld ?_
   try simp only [Act.put, List.getElem_toArray, List.getElem_cons_succ, List.getElem_cons_zero, List.setIfInBounds_toArray, List.set_cons_zero, List.set_cons_succ]
   refine wpAnyH_ready (rs := [6]) (by kernel_rfl) (by simp) ?_
   refine AllReadyH.cons rfl (fun K hK => ?_) AllReadyH.nil
   try simp only [List.getElem_toArray, List.getElem_cons_succ, List.getElem_cons_zero]
   go_simp
   refine hK.out _ _ z3 (fun hHeld => ?_)
   clear hK K
   try simp only [Act.put, List.getElem_toArray, List.getElem_cons_succ, List.getElem_cons_zero, List.setIfInBounds_toArray, List.set_cons_zero, List.set_cons_succ]
   obtain ⟨W5, hW5⟩ : ∃ W5, W5 = w3 := ⟨_, rfl⟩
   have h25 : Below w2.heap.size w2 W5 := by rw [hW5]; exact (h2B.trans (HB3.out.mono h2B.size))
   have hqb := HB3.out
   have hb5 : Below w.heap.size w W5 := HB2.out.trans (h25.mono HB2.out.size)
   have hp5 : p < W5.heap.size := Nat.lt_of_lt_of_le hp2 h25.size
   have x5 : W5.cell? ⟨p, 3, none⟩ = some (.string X) := (h25.cell (p := ⟨p, 3, none⟩) hp2).trans y3
   have hq5 : ∀ i u, (#[.string X] : Array Value).toList[i]? = some u → W5.cell? ((⟨w2.heap.size, 0, none⟩ : Addr).add i) = some u := by
    rw [hW5]
    intro i u hu
    have hadd : (⟨w2.heap.size, 0, none⟩ : Addr).add i = ⟨w2.heap.size, i, none⟩ := by unfold Addr.add; split <;> simp_all
    have := hqB i u hu
    rw [hadd] at this ⊢
    exact (hqb.cell (p := ⟨w2.heap.size, i, none⟩) hsB).trans this
   rw [← hW5]
   clear hW5 hqb
   have hg5 := HG.out W5 hb5
   have hs5 : B ≤ W5.heap.size := Nat.le_trans (Nat.le_trans hg5.base (Nat.le_of_lt hg5.blk.lt)) (Nat.le_refl _)
   have hown : W5.ownsRow B 9 1 (.slice At (Tr.inn m.g).tx.length ct) (Tr.inn m.g).tx.length ((Tr.inn m.g).tx.map strV) := by rw [← HTV.out]; exact hg5.txs
   have hfar : some p ≠ (Value.slice At (Tr.inn m.g).tx.length ct).ownBlock := by
    rw [← HTV.out]
    exact fun e => HNO.out (by
     rcases List.eq_nil_or_concat m.es with he | ⟨l, x, he⟩
     ·rw [txV_nil he] at e; cases e
     ·rw [List.concat_eq_append] at he
      rw [txV_last he] at e
      exact Or.inr (Or.inr (Or.inr ⟨x, by rw [he]; simp, e.symm⟩)))
   clear hg5
   refine wpAnyH_ready (rs := [10]) (by kernel_rfl) (by simp) ?_
   refine AllReadyH.cons rfl (fun K hK => ?_) AllReadyH.nil
   refine step_append_lies _ (by rfl) _ _ _ (by rfl) B 9 i0 _ 1 16 Tryz.underlying44 hi hz0 hz1 hz2 rfl (by omega) (.slice At (Tr.inn m.g).tx.length ct) (Tr.inn m.g).tx.length ((Tr.inn m.g).tx.map strV) (by rfl) (by exact hown) _ 1 _ [.string X] (by rfl) rfl (by exact hq5) (by intro u hu; simp at hu; rcases hu with rfl; rfl) (by omega) hbig (by omega) hs5 _ rfl ?_
   intro g9 cap9 w9 hown9 hgr9 hat9 hlt9
   obtain ⟨f1, f2, m', hT, hmg, hns⟩ := HTX.out W5 h25 w9 g9 cap9 (by rw [HTV.out]; exact hgr9) (by unfold strV; rw [← HX.out]; exact hown9) (by rw [HTV.out]; exact hat9.imp id (fun h => Nat.le_of_eq h.symm))
   rw [HTV.out] at f1
   have v3 : w9.cell? ⟨p, 3, none⟩ = some (.string X) := (hgr9.cell_far ⟨p, 3, none⟩ hp5 hfar).trans x5
   have v4 : (w9.setCell ⟨ea, oa + 2, none⟩ (.slice (some ⟨g9, 0, none⟩) ((Tr.inn m.g).tx.length + 1) cap9)).cell? ⟨p, 3, none⟩ = some (.string X) := (World.cell?_setCell_other _ _ _ _ (by intro e; injection e with e; first | exact hnea e | exact hnea e.symm)).trans v3
   have HT := Lib.hid (And.intro hT (And.intro hmg hns))
   clear hT hmg hns hown hown9 hgr9 hfar hq5
   refine hK.out _ _ v3 (fun hHeld => ?_)
   clear hK K
   try simp only [Act.put, List.getElem_toArray, List.getElem_cons_succ, List.getElem_cons_zero, List.setIfInBounds_toArray, List.set_cons_zero, List.set_cons_succ]
   refine wpAnyH_take (i := 11) (v := (.pointer (some ⟨ea,oa,none⟩))) rfl (by kernel_rfl) (by kernel_rfl) (by kernel_rfl) (fun _ _ _ h => h) (Or.inl ⟨by rfl, by (intro w hS; go_simp)⟩) hHeld ?_
   try simp only [Act.put, List.getElem_toArray, List.getElem_cons_succ, List.getElem_cons_zero, List.setIfInBounds_toArray, List.set_cons_zero, List.set_cons_succ]
   refine wpAnyH_take (i := 12) (v := (.pointer (some ⟨ea,oa+2,none⟩))) rfl (by kernel_rfl) (by kernel_rfl) (by kernel_rfl) (fun _ _ _ h => h) (Or.inl ⟨by rfl, by (intro w hS; go_simp)⟩) hHeld ?_
   try simp only [Act.put, List.getElem_toArray, List.getElem_cons_succ, List.getElem_cons_zero, List.setIfInBounds_toArray, List.set_cons_zero, List.set_cons_succ]
   refine wpAnyH_ready (rs := [13]) (by kernel_rfl) (by simp) ?_
   refine AllReadyH.cons rfl (fun K hK => ?_) AllReadyH.nil
   try simp only [List.getElem_toArray, List.getElem_cons_succ, List.getElem_cons_zero]
   go_simp
   refine hK.out _ _ v4 (fun hHeld => ?_)
   clear hK K
   try simp only [Act.put, List.getElem_toArray, List.getElem_cons_succ, List.getElem_cons_zero, List.setIfInBounds_toArray, List.set_cons_zero, List.set_cons_succ]
   refine wpAnyH_done (by kernel_rfl) ?_ _
   clear hHeld v3 v4 f1 f2
   go_wp2
   go_end0
   exact ⟨m', rfl, GTo.first HAW.out (HG.out w (Below.refl _ _)) (by exact HT.out.1), by rw [HF.out]; exact HT.out.2.1, TrIn.of_ns HT.out.2.2⟩
 ·skip
  try simp only [List.getElem_toArray, List.getElem_cons_succ, List.getElem_cons_zero]
  go_simp
  refine hK.out _ _ ((World.cell?_alloc_lt _ _ _ (by show p < W1.heap.size; exact hplt)).trans x3) (fun hHeld => ?_)
  clear hK K
  try simp only [Act.put, List.getElem_toArray, List.getElem_cons_succ, List.getElem_cons_zero, List.setIfInBounds_toArray, List.set_cons_zero, List.set_cons_succ]
  obtain ⟨WB, hWB⟩ : ∃ WB, WB = W1.drew.alloc (.cells #[.string X] 9) := ⟨_, rfl⟩
  first | rw [← hWB] | (change _ at hWB; rw [← show WB = (W1.alloc (.cells #[.string X] 9)).drew from hWB])
  have h2B : Below W1.heap.size W1 WB := by rw [hWB]; exact (Below.refl _ _).drew.alloc (Nat.le_refl _) _
  have hqB : ∀ i u, (#[.string X] : Array Value).toList[i]? = some u → WB.cell? ((⟨W1.heap.size, 0, none⟩ : Addr).add i) = some u := by rw [hWB]; exact fun i u hu => news_at W1.drew _ _ _ rfl i u hu
  have hsB : W1.heap.size < WB.heap.size := by rw [hWB]; show W1.heap.size < (W1.alloc _).heap.size; simp
  clear hWB
  have yB : WB.cell? ⟨p, 3, none⟩ = some (.string X) := (h2B.cell (p := ⟨p, 3, none⟩) hplt).trans x3
  have HBW := Lib.hid (show Below w.heap.size w WB from HB1.out.trans (h2B.mono HB1.out.size))
  refine wpAnyH_ready (rs := [1]) (by kernel_rfl) (by simp) ?_
  refine AllReadyH.cons rfl (fun K hK => ?_) AllReadyH.nil
  try simp only [List.getElem_toArray, List.getElem_cons_succ, List.getElem_cons_zero]
  go_simp
  refine (HI.out WB HBW.out).mono ?_
  rintro e w2 ⟨ea, oa, rfl, hia⟩
  have HTX := Lib.hid (fun W5 (h5 : Below w2.heap.size w2 W5) (w9 : World) (g1 cap1 : Nat) hgr hown hnew => InnP.text (w9 := w9) (g1 := g1) (cap1 := cap1) (t := t.tx) hia (HG.out WB HBW.out) h5 hgr hown hnew)
  have HIA := Lib.hid hia
  have HAW := Lib.hid (show Below w.heap.size w WB from HBW.out)
  have hbl2 : Below w.heap.size w w2 := HAW.out.trans (hia.bl.mono HAW.out.size)
  have HB2 := Lib.hid hbl2
  have HBA := Lib.hid (show Below (WB).heap.size WB w2 from hia.bl)
  have hnea : p ≠ ea := fun e => hia.ne (p := p) (by have := HK1.out.lt; show p < (WB).heap.size; exact (Nat.lt_trans hplt hsB)) HNO.out e.symm
  have y3 : w2.cell? ⟨p, 3, none⟩ = some (.string X) := (hia.bl.cell (p := ⟨p, 3, none⟩) (by show p < (WB).heap.size; exact (Nat.lt_trans hplt hsB))).trans yB
  have hp2 : p < w2.heap.size := Nat.lt_of_lt_of_le (show p < (WB).heap.size from (Nat.lt_trans hplt hsB)) hia.bl.size
  clear hia hbl2
  refine hK.out _ _ y3 (fun hHeld => ?_)
  clear hK K
  try simp only [Act.put, List.getElem_toArray, List.getElem_cons_succ, List.getElem_cons_zero, List.setIfInBounds_toArray, List.set_cons_zero, List.set_cons_succ]
  refine wpAnyH_ready (rs := [3]) (by kernel_rfl) (by simp) ?_
  refine AllReadyH.cons rfl (fun K hK => ?_) AllReadyH.nil
  try simp only [List.getElem_toArray, List.getElem_cons_succ, List.getElem_cons_zero]
  go_simp
  refine (HI.out w2 HB2.out).mono ?_
  rintro e w3 ⟨eb, ob, rfl, hib⟩
  have q2 : w3.cell? ⟨eb, ob + 2, none⟩ = some (.slice At (Tr.inn m.g).tx.length ct) := by rw [← HTV.out]; exact hib.c2 (HG.out w2 HB2.out)
  have HB3 := Lib.hid (show Below (w2).heap.size w2 w3 from hib.bl)
  have heb := hib.lt
  have z3 : w3.cell? ⟨p, 3, none⟩ = some (.string X) := (hib.bl.cell (p := ⟨p, 3, none⟩) (by show p < (w2).heap.size; exact hp2)).trans y3
  clear hib
  refine hK.out _ _ z3 (fun hHeld => ?_)
  clear hK K
  try simp only [Act.put, List.getElem_toArray, List.getElem_cons_succ, List.getElem_cons_zero, List.setIfInBounds_toArray, List.set_cons_zero, List.set_cons_succ]
  refine wpAnyH_take (i := 4) (v := (.pointer (some ⟨eb,ob,none⟩))) rfl (by kernel_rfl) (by kernel_rfl) (by kernel_rfl) (fun _ _ _ h => h) (Or.inl ⟨by rfl, by (intro w hS; go_simp)⟩) hHeld ?_
  try simp only [Act.put, List.getElem_toArray, List.getElem_cons_succ, List.getElem_cons_zero, List.setIfInBounds_toArray, List.set_cons_zero, List.set_cons_succ]
  refine wpAnyH_take (i := 5) (v := (.pointer (some ⟨eb,ob+2,none⟩))) rfl (by kernel_rfl) (by kernel_rfl) (by kernel_rfl) (fun _ _ _ h => h) (Or.inl ⟨by rfl, by (intro w hS; go_simp)⟩) hHeld ?_
  try simp only [Act.put, List.getElem_toArray, List.getElem_cons_succ, List.getElem_cons_zero, List.setIfInBounds_toArray, List.set_cons_zero, List.set_cons_succ]
  refine wpAnyH_ready (rs := [6]) (by kernel_rfl) (by simp) ?_
  refine AllReadyH.cons rfl (fun K hK => ?_) AllReadyH.nil
  try simp only [List.getElem_toArray, List.getElem_cons_succ, List.getElem_cons_zero]
  go_simp
  refine hK.out _ _ z3 (fun hHeld => ?_)
  clear hK K
  try simp only [Act.put, List.getElem_toArray, List.getElem_cons_succ, List.getElem_cons_zero, List.setIfInBounds_toArray, List.set_cons_zero, List.set_cons_succ]
  obtain ⟨W5, hW5⟩ : ∃ W5, W5 = w3 := ⟨_, rfl⟩
  have h25 : Below w2.heap.size w2 W5 := by rw [hW5]; exact HB3.out
  have hqb := (HBA.out.trans (HB3.out.mono HBA.out.size))
  have hb5 : Below w.heap.size w W5 := HB2.out.trans (h25.mono HB2.out.size)
  have hp5 : p < W5.heap.size := Nat.lt_of_lt_of_le hp2 h25.size
  have x5 : W5.cell? ⟨p, 3, none⟩ = some (.string X) := (h25.cell (p := ⟨p, 3, none⟩) hp2).trans y3
  have hq5 : ∀ i u, (#[.string X] : Array Value).toList[i]? = some u → W5.cell? ((⟨W1.heap.size, 0, none⟩ : Addr).add i) = some u := by
   rw [hW5]
   intro i u hu
   have hadd : (⟨W1.heap.size, 0, none⟩ : Addr).add i = ⟨W1.heap.size, i, none⟩ := by unfold Addr.add; split <;> simp_all
   have := hqB i u hu
   rw [hadd] at this ⊢
   exact (hqb.cell (p := ⟨W1.heap.size, i, none⟩) hsB).trans this
  rw [← hW5]
  clear hW5 hqb
  have hg5 := HG.out W5 hb5
  have hs5 : B ≤ W5.heap.size := Nat.le_trans (Nat.le_trans hg5.base (Nat.le_of_lt hg5.blk.lt)) (Nat.le_refl _)
  have hown : W5.ownsRow B 9 1 (.slice At (Tr.inn m.g).tx.length ct) (Tr.inn m.g).tx.length ((Tr.inn m.g).tx.map strV) := by rw [← HTV.out]; exact hg5.txs
  have hfar : some p ≠ (Value.slice At (Tr.inn m.g).tx.length ct).ownBlock := by
   rw [← HTV.out]
   exact fun e => HNO.out (by
    rcases List.eq_nil_or_concat m.es with he | ⟨l, x, he⟩
    ·rw [txV_nil he] at e; cases e
    ·rw [List.concat_eq_append] at he
     rw [txV_last he] at e
     exact Or.inr (Or.inr (Or.inr ⟨x, by rw [he]; simp, e.symm⟩)))
  clear hg5
  refine wpAnyH_ready (rs := [10]) (by kernel_rfl) (by simp) ?_
  refine AllReadyH.cons rfl (fun K hK => ?_) AllReadyH.nil
  refine step_append_lies _ (by rfl) _ _ _ (by rfl) B 9 i0 _ 1 16 Tryz.underlying44 hi hz0 hz1 hz2 rfl (by omega) (.slice At (Tr.inn m.g).tx.length ct) (Tr.inn m.g).tx.length ((Tr.inn m.g).tx.map strV) (by rfl) (by exact hown) _ 1 _ [.string X] (by rfl) rfl (by exact hq5) (by intro u hu; simp at hu; rcases hu with rfl; rfl) (by omega) hbig (by omega) hs5 _ rfl ?_
  intro g9 cap9 w9 hown9 hgr9 hat9 hlt9
  obtain ⟨f1, f2, m', hT, hmg, hns⟩ := HTX.out W5 h25 w9 g9 cap9 (by rw [HTV.out]; exact hgr9) (by unfold strV; rw [← HX.out]; exact hown9) (by rw [HTV.out]; exact hat9.imp id (fun h => Nat.le_of_eq h.symm))
  rw [HTV.out] at f1
  have v3 : w9.cell? ⟨p, 3, none⟩ = some (.string X) := (hgr9.cell_far ⟨p, 3, none⟩ hp5 hfar).trans x5
  have v4 : (w9.setCell ⟨ea, oa + 2, none⟩ (.slice (some ⟨g9, 0, none⟩) ((Tr.inn m.g).tx.length + 1) cap9)).cell? ⟨p, 3, none⟩ = some (.string X) := (World.cell?_setCell_other _ _ _ _ (by intro e; injection e with e; first | exact hnea e | exact hnea e.symm)).trans v3
  have HT := Lib.hid (And.intro hT (And.intro hmg hns))
  clear hT hmg hns hown hown9 hgr9 hfar hq5
  refine hK.out _ _ v3 (fun hHeld => ?_)
  clear hK K
  try simp only [Act.put, List.getElem_toArray, List.getElem_cons_succ, List.getElem_cons_zero, List.setIfInBounds_toArray, List.set_cons_zero, List.set_cons_succ]
  refine wpAnyH_take (i := 11) (v := (.pointer (some ⟨ea,oa,none⟩))) rfl (by kernel_rfl) (by kernel_rfl) (by kernel_rfl) (fun _ _ _ h => h) (Or.inl ⟨by rfl, by (intro w hS; go_simp)⟩) hHeld ?_
  try simp only [Act.put, List.getElem_toArray, List.getElem_cons_succ, List.getElem_cons_zero, List.setIfInBounds_toArray, List.set_cons_zero, List.set_cons_succ]
  refine wpAnyH_take (i := 12) (v := (.pointer (some ⟨ea,oa+2,none⟩))) rfl (by kernel_rfl) (by kernel_rfl) (by kernel_rfl) (fun _ _ _ h => h) (Or.inl ⟨by rfl, by (intro w hS; go_simp)⟩) hHeld ?_
  try simp only [Act.put, List.getElem_toArray, List.getElem_cons_succ, List.getElem_cons_zero, List.setIfInBounds_toArray, List.set_cons_zero, List.set_cons_succ]
  refine wpAnyH_ready (rs := [13]) (by kernel_rfl) (by simp) ?_
  refine AllReadyH.cons rfl (fun K hK => ?_) AllReadyH.nil
  try simp only [List.getElem_toArray, List.getElem_cons_succ, List.getElem_cons_zero]
  go_simp
  refine hK.out _ _ v4 (fun hHeld => ?_)
  clear hK K
  try simp only [Act.put, List.getElem_toArray, List.getElem_cons_succ, List.getElem_cons_zero, List.setIfInBounds_toArray, List.set_cons_zero, List.set_cons_succ]
  refine wpAnyH_done (by kernel_rfl) ?_ _
  clear hHeld v3 v4 f1 f2
  go_wp2
  go_end0
  exact ⟨m', rfl, GTo.first HAW.out (HG.out w (Below.refl _ _)) (by exact HT.out.1), by rw [HF.out]; exact HT.out.2.1, TrIn.of_ns HT.out.2.2⟩
end Go.Proofs.YteadfpkihhaadaaGreatDoor
namespace Go.Proofs.YteadfpkihhaadaaGreatDoor
open Go.RowKit
theorem map_snoc_inv {α β : Type} {f : α → β} {m : List α} {l : List β} {y : β} (h : m.map f = l ++ [y]) : ∃ l' x, m = l' ++ [x] ∧ l'.map f = l ∧ f x = y := by
 rcases List.eq_nil_or_concat m with rfl | ⟨l', x, rfl⟩
 ·rw [List.map_nil] at h; exact absurd h.symm (by simp)
 ·rw [List.concat_eq_append, List.map_append, List.map_cons, List.map_nil] at h
  have := List.append_inj' h rfl
  exact ⟨l', x, List.concat_eq_append, this.1, List.cons.inj this.2 |>.1⟩
theorem GS.ovform {B : Nat} {w : World} {r : Nat} {m : Gm} (h : GS B w r m) {l : List (Tr.E × Value)} {x : Tr.E × Value} (he : m.es = l ++ [x]) : ∃ og n cap, m.ov = .slice (some ⟨og, 0, none⟩) n cap := by
 rcases own_form h.oown with ⟨e1, e2⟩ | ⟨g, c, e1, _⟩
 ·rw [he] at e2; simp at e2
 ·exact ⟨_, _, _, e1⟩
theorem cls_of {m : Gm} {l : List (Tr.E × Value)} {x : Tr.E × Value} {ov : Value} (he : m.es = l ++ [x]) : ({ m with ov := ov, es := l } : Gm).g = Tr.cls m.g := by
 unfold Gm.g Tr.cls; simp [he]
theorem op_settle (g : Tr.G) : (Tr.settle g).op = g.op := by unfold Tr.settle; split <;> rfl
set_option maxHeartbeats 4000000 in
set_option maxRecDepth 100000 in
theorem take1_any (B : Nat) (w : World) (r : Nat) (m : Gm) (h : GS B w r m) (t : Tk.T) (A : Option Addr) (c : Nat) (hk : t.k = 1) (hf : Fits5 m) (ht : TokOk w r m t A c) :
  Calls Tryz.prog 29 #[.pointer (some ⟨r, 0, none⟩), .agg (tokC5 t A c)] w (SetP B r w m (fun g => Tr.takeAs g t) (some ⟨Tr.nodeAs t, A, c⟩)) := by
 obtain ⟨W1, hW1⟩ : ∃ W1, W1 = w.alloc (.cells (tokC5 t A c) 76) := ⟨_, rfl⟩
 have hb1 : Below w.heap.size w W1 := by rw [hW1]; exact (Below.refl _ _).alloc (Nat.le_refl _) _
 have hk1 : IsBlk W1 w.heap.size 76 (tokC5 t A c) := by rw [hW1]; exact IsBlk.new _ _ _
 have HG := Lib.hid h
 have HK1 := Lib.hid hk1
 have HB1 := Lib.hid hb1
 have HE1 := Lib.hid hW1
 have HO := Lib.hid (open_any B W1 r m (h.below hb1) ⟨Tr.nodeAs t, A, c⟩ hf.ns hf.es ((ht.nd.below hb1).more hb1.size) ht.aw)
 unfold Nd.cs Tr.nodeAs at HO
 simp only at HO
 have HF := Lib.hid (show Tr.takeAs m.g t = (if 1 = (1 : Int) then Tr.opn m.g (Tr.nodeAs t) else Tr.cls (Tr.opn m.g (Tr.nodeAs t))) from by unfold Tr.takeAs; rw [hk]; rfl)
 unfold tokC5 at HE1 HK1 ⊢
 obtain ⟨N, hN⟩ : ∃ N : ByteArray, N = ⟨t.nm.toArray⟩ := ⟨_, rfl⟩
 obtain ⟨X, hX⟩ : ∃ N : ByteArray, N = ⟨t.tx.toArray⟩ := ⟨_, rfl⟩
 rw [← hN, ← hX, hk] at HE1 HK1 ⊢
 rw [← hN] at HO
 obtain ⟨R, hR⟩ : ∃ R, R = Tr.takeAs m.g t := ⟨_, rfl⟩
 unfold SetP
 simp only
 rw [← hR] at HF ⊢
 have x0 : W1.cell? ⟨w.heap.size, 0, none⟩ = some (.int .u8 1) := HK1.out.at_ 0
 have x1 : W1.cell? ⟨w.heap.size, 1, none⟩ = some (.string N) := HK1.out.at_ 1
 have x2 : W1.cell? ⟨w.heap.size, 2, none⟩ = some (.slice A t.as.length c) := HK1.out.at_ 2
 have x4 : W1.cell? ⟨w.heap.size, 4, none⟩ = some (.int .i64 t.p) := HK1.out.at_ 4
 rw [HE1.out] at x0 x1 x2 x4
 clear h hk hf ht hb1 hk1 hN hX hR hW1
 go_enter Tryz.func29, Tryz.ntmps29
 go_wp2_with fail
 rw [← HE1.out]
 refine HO.out.mono ?_
 rintro e w2 ⟨m1, rfl, h1, hg1, htr⟩
 have H1 := Lib.hid (And.intro h1 hg1)
 have HTR := Lib.hid htr
 clear h1 hg1 htr x0 x1 x2 x4
 go_wp2
 go_end0
 exact ⟨m1, rfl, GTo.first HB1.out HG.out H1.out.1, by rw [HF.out]; exact H1.out.2.trans (by simp [Tr.nodeAs]), HTR.out⟩
set_option maxHeartbeats 4000000 in
set_option maxRecDepth 100000 in
theorem take3_any (B : Nat) (w : World) (r : Nat) (m : Gm) (h : GS B w r m) (t : Tk.T) (A : Option Addr) (c : Nat) (hk : t.k = 3) (hf : Fits5 m) (ht : TokOk w r m t A c) :
  Calls Tryz.prog 29 #[.pointer (some ⟨r, 0, none⟩), .agg (tokC5 t A c)] w (SetP B r w m (fun g => Tr.takeAs g t) (some ⟨Tr.nodeAs t, A, c⟩)) := by
 obtain ⟨W1, hW1⟩ : ∃ W1, W1 = w.alloc (.cells (tokC5 t A c) 76) := ⟨_, rfl⟩
 have hb1 : Below w.heap.size w W1 := by rw [hW1]; exact (Below.refl _ _).alloc (Nat.le_refl _) _
 have hk1 : IsBlk W1 w.heap.size 76 (tokC5 t A c) := by rw [hW1]; exact IsBlk.new _ _ _
 have HG := Lib.hid h
 have HK1 := Lib.hid hk1
 have HB1 := Lib.hid hb1
 have HE1 := Lib.hid hW1
 have HO := Lib.hid (open_any B W1 r m (h.below hb1) ⟨Tr.nodeAs t, A, c⟩ hf.ns hf.es ((ht.nd.below hb1).more hb1.size) ht.aw)
 unfold Nd.cs Tr.nodeAs at HO
 simp only at HO
 have HF := Lib.hid (show Tr.takeAs m.g t = (if 3 = (1 : Int) then Tr.opn m.g (Tr.nodeAs t) else Tr.cls (Tr.opn m.g (Tr.nodeAs t))) from by unfold Tr.takeAs; rw [hk]; rfl)
 unfold tokC5 at HE1 HK1 ⊢
 obtain ⟨N, hN⟩ : ∃ N : ByteArray, N = ⟨t.nm.toArray⟩ := ⟨_, rfl⟩
 obtain ⟨X, hX⟩ : ∃ N : ByteArray, N = ⟨t.tx.toArray⟩ := ⟨_, rfl⟩
 rw [← hN, ← hX, hk] at HE1 HK1 ⊢
 rw [← hN] at HO
 obtain ⟨R, hR⟩ : ∃ R, R = Tr.takeAs m.g t := ⟨_, rfl⟩
 unfold SetP
 simp only
 rw [← hR] at HF ⊢
 have x0 : W1.cell? ⟨w.heap.size, 0, none⟩ = some (.int .u8 3) := HK1.out.at_ 0
 have x1 : W1.cell? ⟨w.heap.size, 1, none⟩ = some (.string N) := HK1.out.at_ 1
 have x2 : W1.cell? ⟨w.heap.size, 2, none⟩ = some (.slice A t.as.length c) := HK1.out.at_ 2
 have x4 : W1.cell? ⟨w.heap.size, 4, none⟩ = some (.int .i64 t.p) := HK1.out.at_ 4
 rw [HE1.out] at x0 x1 x2 x4
 clear h hk hf ht hb1 hk1 hN hX hR hW1
 go_enter Tryz.func29, Tryz.ntmps29
 go_wp2_with fail
 rw [← HE1.out]
 refine HO.out.mono ?_
 rintro e w2 ⟨m1, rfl, h1, hg1, htr⟩
 obtain ⟨l, x, he, hel, hex⟩ := map_snoc_inv (f := Prod.fst) (m := m1.es) (show m1.g.op = _ from by rw [hg1]; rfl)
 obtain ⟨og, n, cap, hv⟩ := h1.gs.ovform he
 have HC := Lib.hid (close_any B w2 r m1 h1.gs he hv)
 have H1 := Lib.hid (And.intro h1 (And.intro hg1 he))
 have HTR := Lib.hid htr
 clear h1 hg1 htr x0 x1 x2 x4 he hel hex hv
 go_wp2_with fail
 refine HC.out.mono ?_
 rintro e w3 ⟨rfl, h3⟩
 have H3 := Lib.hid h3
 clear h3
 go_wp2
 go_end0
 exact ⟨_, rfl, (GTo.first HB1.out HG.out H1.out.1).trans H3.out, by rw [HF.out, cls_of H1.out.2.2, show m1.g = _ from H1.out.2.1]; simp [Tr.nodeAs], HTR.out.more rfl⟩
set_option maxHeartbeats 4000000 in
set_option maxRecDepth 100000 in
theorem take2_any (B : Nat) (w : World) (r : Nat) (m : Gm) (h : GS B w r m) (t : Tk.T) (A : Option Addr) (c : Nat) (hk : t.k = 2) (hf : Fits5 m) (hes : m.es ≠ []) :
  Calls Tryz.prog 29 #[.pointer (some ⟨r, 0, none⟩), .agg (tokC5 t A c)] w (SetP B r w m (fun g => Tr.takeAs g t) (some ⟨Tr.nodeAs t, A, c⟩)) := by
 obtain ⟨W1, hW1⟩ : ∃ W1, W1 = w.alloc (.cells (tokC5 t A c) 76) := ⟨_, rfl⟩
 have hb1 : Below w.heap.size w W1 := by rw [hW1]; exact (Below.refl _ _).alloc (Nat.le_refl _) _
 have hk1 : IsBlk W1 w.heap.size 76 (tokC5 t A c) := by rw [hW1]; exact IsBlk.new _ _ _
 have HG := Lib.hid h
 have HK1 := Lib.hid hk1
 have HB1 := Lib.hid hb1
 have HE1 := Lib.hid hW1
 obtain ⟨l0, x0, he0⟩ : ∃ l x, m.es = l ++ [x] := by
  rcases List.eq_nil_or_concat m.es with he | ⟨l, x, he⟩
  ·exact absurd he hes
  ·exact ⟨l, x, by rw [he, List.concat_eq_append]⟩
 have HO := Lib.hid (settle_any B W1 r m (h.below hb1) he0 (by have := hf.tx; rw [inn_last he0] at this; exact this) (by have := hf.tn; rw [inn_last he0] at this; omega) (by have := hf.ns; omega))
 have HF := Lib.hid (show Tr.takeAs m.g t = Tr.cls (Tr.settle m.g) from by unfold Tr.takeAs; rw [hk]; rfl)
 have HOP := Lib.hid (show (Tr.settle m.g).op = l0.map (·.1) ++ [x0.1] from by rw [op_settle]; unfold Gm.g; simp [he0])
 unfold tokC5 at HE1 HK1 ⊢
 obtain ⟨N, hN⟩ : ∃ N : ByteArray, N = ⟨t.nm.toArray⟩ := ⟨_, rfl⟩
 obtain ⟨X, hX⟩ : ∃ N : ByteArray, N = ⟨t.tx.toArray⟩ := ⟨_, rfl⟩
 rw [← hN, ← hX, hk] at HE1 HK1 ⊢
 obtain ⟨R, hR⟩ : ∃ R, R = Tr.takeAs m.g t := ⟨_, rfl⟩
 unfold SetP at HO ⊢
 simp only
 rw [← hR] at HF ⊢
 have x0 : W1.cell? ⟨w.heap.size, 0, none⟩ = some (.int .u8 2) := HK1.out.at_ 0
 rw [HE1.out] at x0
 clear h hk hf hb1 hk1 hN hX hR hW1 hes he0
 go_enter Tryz.func29, Tryz.ntmps29
 go_wp2_with fail
 rw [← HE1.out]
 refine HO.out.mono ?_
 rintro e w2 ⟨m1, rfl, h1, hg1, htr⟩
 obtain ⟨l, x, he, hel, hex⟩ := map_snoc_inv (f := Prod.fst) (m := m1.es) (show m1.g.op = _ from by rw [hg1]; exact HOP.out)
 obtain ⟨og, n, cap, hv⟩ := h1.gs.ovform he
 have HC := Lib.hid (close_any B w2 r m1 h1.gs he hv)
 have H1 := Lib.hid (And.intro h1 (And.intro hg1 he))
 have HTR := Lib.hid htr
 clear h1 hg1 htr x0 he hel hex hv
 go_wp2_with fail
 refine HC.out.mono ?_
 rintro e w3 ⟨rfl, h3⟩
 have H3 := Lib.hid h3
 clear h3
 go_wp2
 go_end0
 exact ⟨_, rfl, (GTo.first HB1.out HG.out H1.out.1).trans H3.out, by rw [HF.out, cls_of H1.out.2.2]; congr 1; exact H1.out.2.1, fun y hy => Or.inl ((HTR.out y hy).resolve_right (by rintro ⟨z, e, _⟩; cases e))⟩
theorem take_any (B : Nat) (w : World) (r : Nat) (m : Gm) (h : GS B w r m) (t : Tk.T) (A : Option Addr) (c : Nat) (hk : t.k = 1 ∨ t.k = 2 ∨ t.k = 3 ∨ t.k = 4) (h2 : t.k = 2 → m.es ≠ []) (hf : Fits5 m) (ht : TokOk w r m t A c) :
  Calls Tryz.prog 29 #[.pointer (some ⟨r, 0, none⟩), .agg (tokC5 t A c)] w (SetP B r w m (fun g => Tr.takeAs g t) (some ⟨Tr.nodeAs t, A, c⟩)) := by
 rcases hk with hk | hk | hk | hk
 ·exact take1_any B w r m h t A c hk hf ht
 ·exact take2_any B w r m h t A c hk hf (h2 hk)
 ·exact take3_any B w r m h t A c hk hf ht
 ·have := take4_any B w r m h t A c hk hf
  refine this.mono ?_
  rintro e w' ⟨m', h1, h3, h4, h5⟩
  exact ⟨m', h1, h3, by rw [h4]; unfold Tr.takeAs; simp only; rw [if_pos hk], fun y hy => Or.inl ((h5 y hy).resolve_right (by rintro ⟨z, e, _⟩; cases e))⟩
end Go.Proofs.YteadfpkihhaadaaGreatDoor
