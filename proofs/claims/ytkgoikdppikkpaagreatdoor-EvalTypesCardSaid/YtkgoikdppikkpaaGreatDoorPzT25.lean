/- Facts and walks for the statement. -/
import Derived.Test.YtkgoikdppikkpaaGreatDoorPzT23
import Derived.Test.YtkgoikdppikkpaaGreatDoorPzT24
namespace Go.Proofs.YtkgoikdppikkpaaGreatDoor
open Go.RowKit Ex
theorem eva_form {l : List Nd} {bs : List Ev.Bd} {X : Ev.Vl × Int} (hX : EvA l bs X) (hb : Ev.FitE bs) : (X.2 ≠ 0 → X.1 = ⟨0, 0, false⟩) ∧ (X.2 = 0 → (X.1.k = 1 ∧ X.1.b = false) ∨ (X.1.k = 2 ∧ X.1.n = 0)) := by
  rcases hX with ⟨hc, rfl⟩ | ⟨_, x, _, _, hs, _, rfl⟩
  · exact ⟨fun _ => rfl, fun h => absurd h hc⟩
  · have hf := Ev.wo_fine hb hs
    cases hw : Ev.wo bs x with
    | ok v =>
      rw [hw] at hf
      exact ⟨fun h => absurd rfl h, fun _ => hf.2⟩
    | er z =>
      rw [hw] at hf
      refine ⟨fun _ => rfl, fun h => ?_⟩
      have h : z = 0 := h
      rcases hf with hf | hf | hf <;> omega
theorem eva_kind {l : List Nd} {bs : List Ev.Bd} {X : Ev.Vl × Int} (hX : EvA l bs X) (h0 : (ofs (kds l (bs.map (·.1)))).2.2 = 0) : (X.2 = 0 ∧ X.1.k = (ofs (kds l (bs.map (·.1)))).1) ∨ X.2 = 60 ∨ X.2 = 61 := by
  have hk : (kds l (bs.map (·.1))).2.2 = 0 := by
    refine Decidable.byContradiction fun q => ?_
    unfold ofs at h0
    rw [if_pos q] at h0
    exact q h0
  obtain ⟨hc, _, _, _, _, e⟩ := kds_ok hk
  rcases hX with ⟨hc2, _⟩ | ⟨_, x, hw, _, _, hl, rfl⟩
  · exact absurd hc hc2
  · have e2 : ofs (kds l (bs.map (·.1))) = ((kds l (bs.map (·.1))).1.getLastD 0, 0, 0) := if_neg (fun q => q hk)
    rw [e] at hk
    rw [hl] at hk
    obtain ⟨h1, h2⟩ := Ev.kgo_kind hw hk
    rw [e2, e, hl, h1]
    have h3 := Ev.wo_kind (env := bs) hw h2
    cases hwo : Ev.wo bs x with
    | ok v =>
      rw [hwo] at h3
      exact Or.inl ⟨rfl, h3⟩
    | er z =>
      rw [hwo] at h3
      exact Or.inr h3
theorem eva_more {l : List Nd} {bs : List Ev.Bd} {X : Ev.Vl × Int} (hX : EvA l bs X) (q : Ev.Bd) (hq : ∀ n ∈ l, ¬ (n.op = 2 ∧ n.nm = q.1)) : EvA l (q :: bs) X := by
  rcases hX with h | ⟨hc, x, hw, hd, hs, hl, rfl⟩
  · exact Or.inl h
  · refine Or.inr ⟨hc, x, hw, hd, hs, hl, ?_⟩
    rw [Ev.wo_more (q := q) (fun h => ?_)]
    obtain ⟨n, h1, h2⟩ := Ev.hasN_flat (p := 0) h
    exact hq n (by rw [hl]; exact h1) h2
theorem fewv_fit {l : List Nd} {bs : List Ev.Bd} (h : FewV l bs) (ho : Okn l) (hb : ∀ q ∈ bs, Nu.fits q.2) : Fit l ∧ FitB bs :=
  ⟨⟨by have := h.1.1; omega, fun n hn => ⟨by have := h.2.1 n hn; omega, (ho n hn).1⟩⟩, ⟨by have := h.1.2; omega, fun q hq => ⟨by have := h.2.2 q hq; omega, hb q hq⟩⟩⟩
def bdV (q : Ev.Bd) : List Value := [.string ⟨q.1.toArray⟩, .int .i64 q.2]
theorem bdV_one (bs : List Ev.Bd) : ∀ u ∈ bs.flatMap bdV, u.oneCell' = true := by
  intro u hu
  obtain ⟨q, _, hq⟩ := List.mem_flatMap.1 hu
  simp [bdV] at hq
  rcases hq with rfl | rfl <;> rfl
theorem bdV_len (bs : List Ev.Bd) : (bs.flatMap bdV).length = bs.length * 2 := by
  induction bs with
  | nil => rfl
  | cons q r ih => rw [List.flatMap_cons, List.length_append, ih, List.length_cons]; simp [bdV]; omega
theorem own_bdr {w : World} {B n c : Nat} {A : Option Addr} {bs : List Ev.Bd} {t : TypeId} (h : w.ownsRow B t 2 (.slice A n c) n (bs.flatMap bdV)) (hn : n = bs.length) : BdR w w.heap.size A bs ∧ n ≤ c ∧ c ≤ maxLen := by
  obtain ⟨A', c', e, h1, h2, h3⟩ := own_sliced h
  injection e with e1 _ e3
  subst e1 e3
  refine ⟨fun j hj => ?_, h1, h2⟩
  obtain ⟨g, rfl, _, hg⟩ := h3 (by omega)
  have q := fun (k : Nat) (u : Value) (hk : k < 2) (hu : (bdV bs[j])[k]? = some u) => own_cell h ((fl_at (f := bdV) (k := 2) (fun _ => rfl) bs j k hj hk).trans hu)
  refine ⟨g, 0, rfl, hg, ?_, ?_⟩
  · simpa using q 0 _ (by omega) rfl
  · simpa using q 1 _ (by omega) rfl
theorem bdr_cells {w : World} {B : Nat} {A : Option Addr} {bs : List Ev.Bd} (h : BdR w B A bs) : ∀ ad, A = some ad → ∀ j u, (bs.flatMap bdV)[j]? = some u → w.cell? (ad.add j) = some u := by
  intro ad hA j u hu
  have hj : j < bs.length * 2 := by
    rw [← bdV_len bs]
    exact (List.getElem?_eq_some_iff.1 hu).1
  obtain ⟨g, o, e, _, c0, c1⟩ := h (j / 2) (by omega)
  rw [hA] at e
  injection e with e
  subst e
  have q := fl_at (f := bdV) (k := 2) (fun _ => rfl) bs (j / 2) (j % 2) (by omega) (Nat.mod_lt _ (by decide))
  rw [show j / 2 * 2 + j % 2 = j by omega, hu] at q
  rw [Addr.add_lit]
  rcases Nat.mod_two_eq_zero_or_one j with h0 | h0
  · rw [h0] at q
    have q : some u = some (.string ⟨(bs[j / 2].1).toArray⟩) := q
    rw [q, ← c0, show o + j = o + j / 2 * 2 by omega]
  · rw [h0] at q
    have q : some u = some (.int .i64 bs[j / 2].2) := q
    rw [q, ← c1, show o + j = o + j / 2 * 2 + 1 by omega]
end Go.Proofs.YtkgoikdppikkpaaGreatDoor
namespace Go.Proofs.YtkgoikdppikkpaaGreatDoor
open Go.RowKit Go.Shelf Go.Lib
open Go.ChangeShapes Go.WideShapes Go.ChangeAt
set_option maxRecDepth 100000
section
variable {H : Type} {enc : TypeId × Value → H} {W : World}
theorem binds_of {r : Reach} {b0 : Nat} {v : Value} {d : DataW H} {p : List MemPlace} (hv : Value.okWide Tryz.prog W r b0 69 v) (h : DataW.Trod enc Tryz.prog W 0 (fun _ => true) true 69 v d p) :
    ∃ A c bs, v = .slice A bs.length c ∧ bs.length ≤ c ∧ c ≤ maxLen ∧ (A = none → bs.length = 0 ∧ c = 0) ∧ BdR W W.heap.size A bs ∧ ∀ q ∈ bs, Nu.fits q.2 := by
  obtain ⟨a0, len0, cap0, rfl⟩ := okWide_slice Tryz.underlying69 hv
  obtain ⟨fuel, hf⟩ := h
  rcases Deep.open_slice Tryz.underlying69 hf with ⟨hc, _⟩ | ⟨a, len, cap, m, n, D, Pl, hcs, _, hl, hm, hmm, _, hi⟩
  · simp only [Value.cells, List.cons.injEq, and_true] at hc
    exact ⟨none, 0, [], hc, Nat.le_refl _, by decide, fun _ => ⟨rfl, rfl⟩, fun j hj => absurd hj (by simp), fun q hq => nomatch hq⟩
  · simp only [Value.cells, List.cons.injEq, and_true] at hcs
    have hi2 : ∀ i : Fin len, ∃ x : Ev.Bd, (W.cell? (a.add (i.1 * 2)) = some (.string ⟨x.1.toArray⟩) ∧ W.cell? (a.add (i.1 * 2 + 1)) = some (.int .i64 x.2)) ∧ Nu.fits x.2 := fun i => by
      obtain ⟨cs', hce, ht'⟩ := hi i.1 (by rw [hmm]; simp; have := i.2; omega)
      have h5 : Tryz.prog.cellsOf 88 = 2 := by kernel_rfl
      obtain ⟨_, hcl, hat⟩ := World.cells?_some hce
      obtain ⟨xs, n', _, _, _, hxl, hg⟩ := DataW.trod_struct Tryz.underlying88 ht'
      rw [h5] at hcl hat
      have hx5 : xs.length = 2 := hxl
      match cs', hcl with
      | [v0, v1], _ =>
        have t0 : DataW.trod enc Tryz.prog W 0 (fun _ => true) true n' 9 (List.take (Tryz.prog.cellsOf 9) (List.drop 0 [v0, v1])) = some (xs[0]'(by omega)) := (hg 0 _ rfl).trans (List.getElem?_eq_getElem (by omega))
        have t1 : DataW.trod enc Tryz.prog W 0 (fun _ => true) true n' 2 (List.take (Tryz.prog.cellsOf 2) (List.drop 1 [v0, v1])) = some (xs[1]'(by omega)) := (hg 1 _ rfl).trans (List.getElem?_eq_getElem (by omega))
        simp only [show Tryz.prog.cellsOf 2 = 1 by kernel_rfl, show Tryz.prog.cellsOf 9 = 1 by kernel_rfl, List.drop_zero, List.drop_succ_cons, List.take_succ_cons, List.take_zero] at t0 t1
        have c0 := hat 0 (by omega)
        have c1 := hat 1 (by omega)
        rw [Deep.add_add] at c0 c1
        obtain ⟨N, e0, _, _⟩ := DataW.trod_string Tryz.underlying9 t0
        obtain ⟨z1, e1, _, w1⟩ := DataW.trod_int Tryz.underlying2 t1
        simp only [List.cons.injEq, and_true] at e0 e1
        subst e0 e1
        simp [Lit.wf, IntKind.min, IntKind.max, IntKind.signed, IntKind.bits] at w1
        exact ⟨(N.data.toList, z1), ⟨c0, c1⟩, w1⟩
    obtain ⟨f, hf⟩ := Classical.skolem.1 hi2
    have hlen : (List.ofFn f).length = len := List.length_ofFn
    refine ⟨some a, cap, List.ofFn f, by rw [hlen]; exact hcs, by rw [hlen]; exact hl, hm, (fun h => (by cases h)), fun k hk => ?_, fun y hy => ?_⟩
    · have hk' : k < len := by rw [← hlen]; exact hk
      obtain ⟨ha, hb⟩ := cell_plain (hf ⟨0, by omega⟩).1.1
      have hz : a.add (0 * 2) = a := by unfold Addr.add; rw [if_pos (by omega)]
      rw [hz] at ha hb
      have h1 := (hf ⟨k, hk'⟩).1
      rw [ha, add_plain, add_plain] at h1
      rw [List.getElem_ofFn]
      exact ⟨a.block, a.off, by rw [← ha], hb, h1⟩
    · obtain ⟨i, rfl⟩ := List.mem_ofFn.1 hy
      exact (hf i).2
end
end Go.Proofs.YtkgoikdppikkpaaGreatDoor
