/- Layer 5: the innermost open element of a growing tree, and open, walked. Conditions: the tree lies in memory as told; it has at most 1,048,576 nodes. -/
import Derived.Test.YtgidpcfaeekjhaaGreatDoorTrG3
namespace Go.Proofs.YtgidpcfaeekjhaaGreatDoor
open Go.RowKit

/-- Where the innermost element lies (or the stranger). -/
structure InnP (B r : Nat) (w : World) (m : Gm) (eb eo : Nat) (w' : World) : Prop where
  bl : Below w.heap.size w w'
  c0 : w'.cell? ⟨eb, eo, none⟩ = some (.int .i64 (Tr.inn m.g).pl)
  c1 : w'.cell? ⟨eb, eo + 1, none⟩ = some (.int .i64 (Tr.inn m.g).yg)
  lt : eb < w'.heap.size
  or : (m.es = [] ∧ IsBlk w' eb 120 #[.int .i64 (-1), .int .i64 (-1), .slice none 0 0] ∧ eo = 0 ∧ w.heap.size ≤ eb) ∨ (∃ l x n cap, m.es = l ++ [x] ∧ m.ov = .slice (some ⟨eb, 0, none⟩) n cap ∧ eo = l.length * 3)
theorem inn_last {m : Gm} {l : List (Tr.E × Value)} {x : Tr.E × Value} (h : m.es = l ++ [x]) : Tr.inn m.g = x.1 := by
  unfold Tr.inn Gm.g; simp [h]
theorem inn_nil {m : Gm} (h : m.es = []) : Tr.inn m.g = Tr.noE := by
  unfold Tr.inn Gm.g; simp [h]
/-- An open element's three cells. -/
theorem GS.elcell {B : Nat} {w : World} {r : Nat} {m : Gm} (h : GS B w r m) {l : List (Tr.E × Value)} {x : Tr.E × Value} {og n cap : Nat} (he : m.es = l ++ [x]) (hv : m.ov = .slice (some ⟨og, 0, none⟩) n cap) (j : Nat) (hj : j < 3) :
    w.cell? ⟨og, l.length * 3 + j, none⟩ = (elV x)[j]? ∧ w.frozen? ⟨og, l.length * 3 + j, none⟩ = false := by
  have h1 := h.oown
  rw [hv] at h1
  have hn : n = m.es.length := by
    rcases own_form h1 with ⟨e1, _⟩ | ⟨g, c, e1, _⟩
    · cases e1
    · injection e1
  subst hn
  have hl : l.length < m.es.length := by rw [he]; simp
  refine ⟨?_, h1.frozenAt _⟩
  rw [h1.cellAt _ (by omega), fl_at elV_len _ _ _ hl hj]
  simp [he]
set_option maxHeartbeats 2000000 in
theorem inner_any (B : Nat) (w : World) (r : Nat) (m : Gm) (h : GS B w r m) :
    Calls Tryz.prog 64 #[.pointer (some ⟨r, 0, none⟩)] w fun e w' => ∃ eb eo, e = .returned (.pointer (some ⟨eb, eo, none⟩)) ∧ InnP B r w m eb eo w' := by
  rcases List.eq_nil_or_concat m.es with he | ⟨l, x, he⟩
  · refine (inner_none B w r m h he).mono ?_
    rintro e w' ⟨p, rfl, hp, hb, hw⟩
    refine ⟨p, 0, rfl, hw, ?_, ?_, hb.lt, Or.inl ⟨he, hb, rfl, hp⟩⟩
    · rw [inn_nil he]; exact hb.at_ 0
    · rw [inn_nil he]; exact hb.at_ 1
  · rw [List.concat_eq_append] at he
    obtain ⟨og, n, cap, hv⟩ : ∃ og n cap, m.ov = .slice (some ⟨og, 0, none⟩) n cap := by
      rcases own_form h.oown with ⟨e1, e2⟩ | ⟨g, c, e1, _⟩
      · rw [he] at e2; simp at e2
      · exact ⟨_, _, _, e1⟩
    refine (inner_some B w r m h he hv).mono ?_
    rintro e w' ⟨rfl, hw⟩
    have h' := h.below hw
    refine ⟨og, _, rfl, hw, ?_, ?_, Nat.lt_of_lt_of_le (h.oown.lt og (by rw [hv]; rfl)).2 hw.size, Or.inr ⟨l, x, n, cap, he, hv, rfl⟩⟩
    · rw [inn_last he]; exact (h'.elcell he hv 0 (by omega)).1
    · rw [inn_last he]; exact (h'.elcell he hv 1 (by omega)).1
theorem modify_snoc {α : Type} (l : List α) (x : α) (f : α → α) : (l ++ [x]).modify l.length f = l ++ [f x] := by
  induction l with
  | nil => rfl
  | cons a l ih => rw [List.cons_append, List.length_cons, List.modify_succ_cons, ih]; rfl
/-- The innermost element is told its youngest kid, behind an add. -/
theorem InnP.young {B r : Nat} {w w2 w3 : World} {m : Gm} {eb eo : Nat} {nv : Value} {x : Nd} (h : InnP B r w m eb eo w2) (hg : GS B w r m) (hxl : 0 < x.n.al.length → ∀ a, x.A = some a → a.block < w.heap.size) (h3 : GTo B r w2 m w3 { m with nv := nv, ns := lnkM m.ns (Tr.inn m.g).pl (Tr.inn m.g).yg ++ [x] }) :
    (w3.cell? ⟨eb, eo, none⟩ = some (.int .i64 (Tr.inn m.g).pl) ∧ (w3.setCell ⟨eb, eo + 1, none⟩ (.int .i64 m.ns.length)).cell? ⟨eb, eo, none⟩ = some (.int .i64 (Tr.inn m.g).pl)) ∧
    (∃ u, w3.cell? ⟨eb, eo + 1, none⟩ = some (.int .i64 u)) ∧ w3.frozen? ⟨eb, eo + 1, none⟩ = false ∧ (∃ u, (w3.setCell ⟨eb, eo + 1, none⟩ (.int .i64 m.ns.length)).cell? ⟨eb, eo + 1, none⟩ = some u ∧ u = .int .i64 m.ns.length) ∧
    ∃ es, GTo B r w m (w3.setCell ⟨eb, eo + 1, none⟩ (.int .i64 m.ns.length)) { m with nv := nv, ns := lnkM m.ns (Tr.inn m.g).pl (Tr.inn m.g).yg ++ [x], es := es } ∧ es.map (·.1) = Tr.young (m.es.map (·.1)) m.ns.length ∧ es.length = m.es.length := by
  have h0 : GTo B r w m w2 m := GTo.below hg h.bl
  have h03 := h0.trans h3
  rcases h.or with ⟨he, hb, rfl, hle⟩ | ⟨l, y, n, cap, he, hv, rfl⟩
  · have hnew : ∀ b, Gm.own { m with nv := nv, ns := lnkM m.ns (Tr.inn m.g).pl (Tr.inn m.g).yg ++ [x] } r b → b ≠ eb := fun b hb' e => by
      subst e
      rcases h3.new _ hb' with h4 | h4
      · have := (hg.kinds h4).2.1; omega
      · have := hb.lt; omega
    have hb3 : IsBlk w3 eb 120 #[.int .i64 (-1), .int .i64 (-1), .slice none 0 0] := h3.fr.blk hb (fun ho => by have := (hg.kinds ho).2.1; omega)
    have hA : ∀ y ∈ lnkM m.ns (Tr.inn m.g).pl (Tr.inn m.g).yg ++ [x], 0 < y.n.al.length → ∀ a, y.A = some a → a.block ≠ eb := fun y hy h0' a ha e => by
      have hlt : a.block < w.heap.size := by
        rcases List.mem_append.1 hy with hy | hy
        · obtain ⟨z, hz, e1, e2⟩ := lnkM_mem hy
          exact hg.attlt z hz (e2 ▸ h0') a (e1 ▸ ha)
        · simp only [List.mem_singleton] at hy
          subst hy
          exact hxl h0' a ha
      omega
    refine ⟨⟨by rw [inn_nil he]; exact hb3.at_ 0, by rw [inn_nil he]; exact (hb3.set 1 (.int .i64 m.ns.length)).at_ 0⟩, ⟨-1, hb3.at_ 1⟩, hb3.fz 1, ⟨_, (hb3.set 1 (.int .i64 m.ns.length)).at_ 1, rfl⟩, m.es, h03.aside (i := 0 + 1) (u := .int .i64 m.ns.length) hle hnew hA, ?_, rfl⟩
    rw [he]; rfl
  · have hv3 : ({ m with nv := nv, ns := lnkM m.ns (Tr.inn m.g).pl (Tr.inn m.g).yg ++ [x] } : Gm).ov = .slice (some ⟨eb, 0, none⟩) n cap := hv
    have hc := h3.gs.elcell (l := l) (x := y) he hv3 1 (by omega)
    have hy := GTo.young h3.gs (k := l.length) (y := m.ns.length) hv3 (by simp only; rw [he]; simp) (by simp only [List.length_append, lnkM_len, List.length_cons, List.length_nil]; omega)
    have hc0 := h3.gs.elcell (l := l) (x := y) he hv3 0 (by omega)
    have hc0' : w3.cell? ⟨eb, l.length * 3, none⟩ = some (.int .i64 (Tr.inn m.g).pl) := by rw [inn_last he]; exact hc0.1
    refine ⟨⟨hc0', (World.cell?_setCell_other _ _ _ _ (by intro e; injection e with _ e; omega)).trans hc0'⟩, ⟨_, hc.1⟩, hc.2, ?_, _, h03.trans hy, ?_, by simp⟩
    · refine ⟨_, World.cell?_setCell_same _ _ _ hc.1, rfl⟩
    · simp only [he]
      rw [modify_snoc, List.map_append, List.map_append]
      exact (Tr.young_snoc _ _ _).symm
theorem InnP.on {B r : Nat} {w w2 w3 : World} {m : Gm} {eb eo : Nat} (h : InnP B r w m eb eo w2) (hb : Below w2.heap.size w2 w3) : InnP B r w m eb eo w3 :=
  ⟨h.bl.trans (hb.mono h.bl.size), (hb.cell (p := ⟨eb, eo, none⟩) h.lt).trans h.c0, (hb.cell (p := ⟨eb, eo + 1, none⟩) h.lt).trans h.c1, Nat.lt_of_lt_of_le h.lt hb.size,
    h.or.imp (fun ⟨a, b, c, d⟩ => ⟨a, b.below hb b.lt, c, d⟩) id⟩
theorem InnP.ne {B r : Nat} {w w2 : World} {m : Gm} {eb eo p : Nat} (h : InnP B r w m eb eo w2) (hp : p < w.heap.size) (hn : ¬ m.own r p) : eb ≠ p := fun e => by
  rcases h.or with ⟨_, _, _, hle⟩ | ⟨l, x, n, cap, _, hv, _⟩
  · omega
  · exact hn (Or.inr (Or.inr (Or.inl (by rw [hv, ← e]; rfl))))
end Go.Proofs.YtgidpcfaeekjhaaGreatDoor
