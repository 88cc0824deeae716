/- Facts and walks for the statement. -/
import Derived.Test.YteadfpkihhaadaaGreatDoorPz17
import Derived.Deep.AppendLies
import Derived.Laws.OwnMore
import Derived.WalkSmall
namespace Go.Proofs.YteadfpkihhaadaaGreatDoor
open Go.RowKit
structure Fr (F : Nat → Prop) (w w' : World) : Prop where
 os : w'.os = w.os
 tape : w'.tape = w.tape
 output : w'.output = w.output
 size : w.heap.size ≤ w'.heap.size
 block : ∀ k, k < w.heap.size → ¬ F k → w'.heap[k]? = w.heap[k]?
theorem Fr.refl (F : Nat → Prop) (w : World) : Fr F w w := ⟨rfl, rfl, rfl, Nat.le_refl _, fun _ _ _ => rfl⟩
theorem Fr.of_below {F : Nat → Prop} {w w' : World} (h : Below w.heap.size w w') : Fr F w w' := ⟨h.os, h.tape, h.output, h.size, fun k hk _ => h.block k hk⟩
theorem Fr.of_grown {F : Nat → Prop} {w w' : World} {row : Option Nat} (h : w.grownBy w' row) (hr : ∀ k, row = some k → F k) : Fr F w w' :=
 ⟨h.os, h.tape, h.output, h.size, fun k hk hn => h.block k hk (fun e => hn (hr k e.symm))⟩
theorem Fr.set {F : Nat → Prop} (w : World) (p : Addr) (u : Value) (hp : F p.block) : Fr F w (w.setCell p u) :=
 ⟨rfl, rfl, rfl, by simp [World.setCell], fun k _ hn => Below.heap_setCell w p u k (fun e => hn (e ▸ hp))⟩
theorem Fr.trans {F G : Nat → Prop} {w w1 w2 : World} (h1 : Fr F w w1) (h2 : Fr G w1 w2) (hG : ∀ k, G k → F k ∨ w.heap.size ≤ k) : Fr F w w2 :=
 ⟨h2.os.trans h1.os, h2.tape.trans h1.tape, h2.output.trans h1.output, Nat.le_trans h1.size h2.size, fun k hk hn =>
  (h2.block k (Nat.lt_of_lt_of_le hk h1.size) (fun e => (hG k e).elim hn (by omega))).trans (h1.block k hk hn)⟩
theorem Fr.below {F : Nat → Prop} {B : Nat} {w w' : World} (h : Fr F w w') (hF : ∀ k, F k → B ≤ k) (hB : B ≤ w.heap.size) : Below B w w' :=
 ⟨h.os, h.tape, h.output, h.size, fun k hk => h.block k (by omega) (fun e => by have := hF k e; omega)⟩
theorem Fr.own {F : Nat → Prop} {w w' : World} {B : Nat} {e : TypeId} {size n : Nat} {v : Value} {xs : List Value} (h : w.ownsRow B e size v n xs) (hf : Fr F w w') (hn : ∀ g, v.ownBlock = some g → ¬ F g) : w'.ownsRow B e size v n xs := by
 refine ⟨h.1, ?_⟩
 rcases h.2 with h2 | ⟨g, cap, cur, e1, e2, e3, e4⟩
 ·exact Or.inl h2
 ·refine Or.inr ⟨g, cap, cur, e1, e2, ?_, e4⟩
  have hg : g < w.heap.size := by
   rcases Nat.lt_or_ge g w.heap.size with hlt | hge
   ·exact hlt
   ·rw [Array.getElem?_eq_none hge] at e3; cases e3
  rw [hf.block g hg (hn g (by rw [e1]; rfl))]
  exact e3
theorem Fr.blk {F : Nat → Prop} {w w' : World} {g : Nat} {t : TypeId} {cs : Array Value} (h : IsBlk w g t cs) (hf : Fr F w w') (hn : ¬ F g) : IsBlk w' g t cs := (hf.block g h.lt hn).trans h
theorem Fr.cell {F : Nat → Prop} {w w' : World} (hf : Fr F w w') {a : Addr} (ha : a.block < w.heap.size) (hn : ¬ F a.block) : w'.cell? a = w.cell? a := World.cell?_of_block (hf.block _ ha hn)
theorem Fr.nd {F : Nat → Prop} {w w' : World} (hf : Fr F w w') {x : Nd} (h : NdOk w w.heap.size x) (hn : 0 < x.n.al.length → ∀ a, x.A = some a → ¬ F a.block) : NdOk w' w'.heap.size x := by
 refine ⟨fun h0 => ?_, h.len, h.cap⟩
 obtain ⟨g, o, e, hg, hc⟩ := h.att h0
 have hn' := hn h0 _ e
 refine ⟨g, o, e, Nat.lt_of_lt_of_le hg hf.size, fun k hk => ?_⟩
 obtain ⟨c0, c1⟩ := hc k hk
 exact ⟨(hf.cell (a := ⟨g, o + k * 2, none⟩) hg hn').trans c0, (hf.cell (a := ⟨g, o + k * 2 + 1, none⟩) hg hn').trans c1⟩
def elV (x : Tr.E × Value) : List Value := [.int .i64 x.1.pl, .int .i64 x.1.yg, x.2]
def strV (t : List UInt8) : Value := .string ⟨t.toArray⟩
def OwnS (B : Nat) (w : World) (v : Value) (tx : List (List UInt8)) : Prop := w.ownsRow B 9 1 v tx.length (tx.map strV)
def ndV (x : Nd) : List Value := x.cs.toList
structure Gm where
 nv : Value
 ns : List Nd
 ov : Value
 es : List (Tr.E × Value)
def Gm.g (m : Gm) : Tr.G := ⟨m.ns.map Nd.n, m.es.map (·.1)⟩
def Gm.own (m : Gm) (r b : Nat) : Prop := b = r ∨ m.nv.ownBlock = some b ∨ m.ov.ownBlock = some b ∨ ∃ x ∈ m.es, x.2.ownBlock = some b
structure GS (B : Nat) (w : World) (r : Nat) (m : Gm) : Prop where
 base : B ≤ r
 blk : IsBlk w r 74 #[m.nv, m.ov]
 nown : w.ownsRow B 49 7 m.nv m.ns.length (m.ns.flatMap ndV)
 oown : w.ownsRow B 120 3 m.ov m.es.length (m.es.flatMap elV)
 text : ∀ x ∈ m.es, OwnS B w x.2 x.1.tx
 apart : m.es.Pairwise (fun x y => ∀ g h, x.2.ownBlock = some g → y.2.ownBlock = some h → g ≠ h)
 att : ∀ x ∈ m.ns, NdOk w w.heap.size x
 away : ∀ x ∈ m.ns, 0 < x.n.al.length → ∀ a, x.A = some a → ¬ m.own r a.block
 ok : Tr.Ok m.g
theorem own_heap {w : World} {B : Nat} {e : TypeId} {size n : Nat} {v : Value} {xs : List Value} (h : w.ownsRow B e size v n xs) {g : Nat} (hg : v.ownBlock = some g) : B ≤ g ∧ g < w.heap.size ∧ ∃ cs, w.heap[g]? = some (.cells cs e (0, 0)) := by
 have := h.lt g hg
 refine ⟨this.1, this.2, ?_⟩
 rcases h.2 with ⟨rfl, _⟩ | ⟨g', cap, cur, rfl, _, hb, _⟩
 ·cases hg
 ·injection hg with hg
  simp only at hg
  subst hg
  exact ⟨_, hb⟩
theorem GS.kinds {B : Nat} {w : World} {r : Nat} {m : Gm} (h : GS B w r m) {b : Nat} (hb : m.own r b) : B ≤ b ∧ b < w.heap.size ∧ ∃ cs t, w.heap[b]? = some (.cells cs t (0, 0)) ∧ (t = 74 ∨ t = 49 ∨ t = 120 ∨ t = 9) := by
 rcases hb with rfl | hb | hb | ⟨x, hx, hb⟩
 ·exact ⟨h.base, h.blk.lt, _, _, h.blk, Or.inl rfl⟩
 ·obtain ⟨h1, h2, cs, h3⟩ := own_heap h.nown hb
  exact ⟨h1, h2, cs, _, h3, Or.inr (Or.inl rfl)⟩
 ·obtain ⟨h1, h2, cs, h3⟩ := own_heap h.oown hb
  exact ⟨h1, h2, cs, _, h3, Or.inr (Or.inr (Or.inl rfl))⟩
 ·obtain ⟨h1, h2, cs, h3⟩ := own_heap (h.text x hx) hb
  exact ⟨h1, h2, cs, _, h3, Or.inr (Or.inr (Or.inr rfl))⟩
theorem GS.not_own {B : Nat} {w : World} {r : Nat} {m : Gm} (h : GS B w r m) {b : Nat} {cs : Array Value} {t : TypeId} {f : Nat × Nat} (hb : w.heap[b]? = some (.cells cs t f)) (h1 : t ≠ 74) (h2 : t ≠ 49) (h3 : t ≠ 120) (h4 : t ≠ 9) : ¬ m.own r b := fun ho => by
 obtain ⟨_, _, cs', t', e, ht⟩ := h.kinds ho
 rw [hb] at e
 injection e with e
 injection e with _ e
 subst e
 rcases ht with ht | ht | ht | ht <;> contradiction
theorem GS.not_row {B B' : Nat} {w : World} {r : Nat} {m : Gm} (h : GS B w r m) {e : TypeId} {size n : Nat} {v : Value} {xs : List Value} (hv : w.ownsRow B' e size v n xs) (h1 : e ≠ 74) (h2 : e ≠ 49) (h3 : e ≠ 120) (h4 : e ≠ 9) : ∀ g, v.ownBlock = some g → ¬ m.own r g := fun g hg => by
 obtain ⟨_, _, cs, hb⟩ := own_heap hv hg
 exact h.not_own hb h1 h2 h3 h4
theorem own_apart {B B' : Nat} {w : World} {e e' : TypeId} {size size' n n' : Nat} {v v' : Value} {xs xs' : List Value} (h : w.ownsRow B e size v n xs) (h' : w.ownsRow B' e' size' v' n' xs') (hne : e ≠ e') {g : Nat} (hg : v.ownBlock = some g) : v'.ownBlock ≠ some g := fun hg' => by
 rcases own_types h h' hne with e1 | e1
 ·rw [hg] at e1; cases e1
 ·exact e1 (hg.trans hg'.symm)
theorem blk_apart {B' : Nat} {w : World} {e e' : TypeId} {size' n' r : Nat} {cs : Array Value} {v' : Value} {xs' : List Value} (h : IsBlk w r e cs) (h' : w.ownsRow B' e' size' v' n' xs') (hne : e ≠ e') : v'.ownBlock ≠ some r := fun hg' => by
 obtain ⟨_, _, cs', hb⟩ := own_heap h' hg'
 unfold IsBlk at h
 rw [h] at hb
 injection hb with hb
 injection hb with _ hb
 exact hne hb
structure GTo (B r : Nat) (w : World) (m : Gm) (w' : World) (m' : Gm) : Prop where
 gs : GS B w' r m'
 fr : Fr (m.own r) w w'
 new : ∀ b, m'.own r b → m.own r b ∨ w.heap.size ≤ b
theorem GTo.refl {B r : Nat} {w : World} {m : Gm} (h : GS B w r m) : GTo B r w m w m := ⟨h, Fr.refl _ _, fun _ h => Or.inl h⟩
theorem GTo.trans {B r : Nat} {w w1 w2 : World} {m m1 m2 : Gm} (h1 : GTo B r w m w1 m1) (h2 : GTo B r w1 m1 w2 m2) : GTo B r w m w2 m2 :=
 ⟨h2.gs, h1.fr.trans h2.fr h1.new, fun b hb => (h2.new b hb).elim (h1.new b) (fun h => Or.inr (Nat.le_trans h1.fr.size h))⟩
theorem GS.fr {B r : Nat} {w w' : World} {m : Gm} {F : Nat → Prop} (h : GS B w r m) (hf : Fr F w w') (hF : ∀ b, m.own r b → ¬ F b) (hA : ∀ x ∈ m.ns, 0 < x.n.al.length → ∀ a, x.A = some a → ¬ F a.block) : GS B w' r m :=
 ⟨h.base, hf.blk h.blk (hF _ (Or.inl rfl)), hf.own h.nown (fun g hg => hF g (Or.inr (Or.inl hg))), hf.own h.oown (fun g hg => hF g (Or.inr (Or.inr (Or.inl hg)))),
  fun x hx => hf.own (h.text x hx) (fun g hg => hF g (Or.inr (Or.inr (Or.inr ⟨x, hx, hg⟩)))), h.apart, fun x hx => hf.nd (h.att x hx) (hA x hx), h.away, h.ok⟩
theorem GS.below {B r : Nat} {w w' : World} {m : Gm} (h : GS B w r m) (hb : Below w.heap.size w w') : GS B w' r m :=
 h.fr (F := fun _ => False) ⟨hb.os, hb.tape, hb.output, hb.size, fun k hk _ => hb.block k hk⟩ (fun _ _ h => h) (fun _ _ _ _ _ h => h)
theorem GTo.below {B r : Nat} {w w' : World} {m : Gm} (h : GS B w r m) (hb : Below w.heap.size w w') : GTo B r w m w' m := ⟨h.below hb, Fr.of_below hb, fun _ h => Or.inl h⟩
theorem GTo.on {B r : Nat} {w w1 w2 : World} {m m1 : Gm} (h : GTo B r w m w1 m1) (hb : Below w1.heap.size w1 w2) : GTo B r w m w2 m1 := h.trans (GTo.below h.gs hb)
/-! ### cells of rows -/
theorem fl_at {α : Type} {f : α → List Value} {k : Nat} (hf : ∀ x, (f x).length = k) : ∀ (l : List α) (i j : Nat) (hi : i < l.length), j < k → (l.flatMap f)[i * k + j]? = (f l[i])[j]?
 | [], i, _, hi, _ => by simp at hi
 | x :: l, 0, j, _, hj => by
  rw [List.flatMap_cons, Nat.zero_mul, Nat.zero_add, List.getElem?_append_left (by rw [hf]; exact hj)]; rfl
 | x :: l, i + 1, j, hi, hj => by
  rw [List.flatMap_cons, List.getElem?_append_right (by rw [hf, Nat.succ_mul]; omega), hf, show (i + 1) * k + j - k = i * k + j by rw [Nat.succ_mul]; omega, fl_at hf l i j (by simpa using hi) hj]; rfl
theorem fl_set {α : Type} {f : α → List Value} {k : Nat} (hf : ∀ x, (f x).length = k) {g : α → α} {j : Nat} {u : Value} (hg : ∀ x, f (g x) = (f x).set j u) (hj : j < k) : ∀ (l : List α) (i : Nat), i < l.length → (l.flatMap f).set (i * k + j) u = (l.modify i g).flatMap f
 | [], i, hi => by simp at hi
 | x :: l, 0, _ => by
  rw [List.flatMap_cons, Nat.zero_mul, Nat.zero_add, List.set_append_left _ _ (by rw [hf]; exact hj), List.modify_zero_cons, List.flatMap_cons, hg]
 | x :: l, i + 1, hi => by
  rw [List.flatMap_cons, List.set_append_right _ _ (by rw [hf, Nat.succ_mul]; omega), hf, show (i + 1) * k + j - k = i * k + j by rw [Nat.succ_mul]; omega, fl_set hf hg hj l i (by simpa using hi), List.modify_succ_cons, List.flatMap_cons]
theorem ndV_len (x : Nd) : (ndV x).length = 7 := rfl
theorem elV_len (x : Tr.E × Value) : (elV x).length = 3 := rfl
theorem own_form {w : World} {B : Nat} {e : TypeId} {size n : Nat} {v : Value} {xs : List Value} (h : w.ownsRow B e size v n xs) : (v = .slice none 0 0 ∧ n = 0) ∨ ∃ g cap, v = .slice (some ⟨g, 0, none⟩) n cap ∧ B ≤ g ∧ g < w.heap.size ∧ n ≤ cap ∧ cap ≤ maxLen := by
 rcases h.2 with h2 | ⟨g, cap, cur, e1, e2, e3, e4, e5, _⟩
 ·exact Or.inl h2
 ·subst e1
  exact Or.inr ⟨g, cap, rfl, e2, (h.lt g rfl).2, e4, e5⟩
/-! ### steps -/
theorem GTo.nset {B r : Nat} {w : World} {m : Gm} (h : GS B w r m) {ng n cap k j : Nat} {u : Value} {f : Nd → Nd} (hv : m.nv = .slice (some ⟨ng, 0, none⟩) n cap) (hk : k < m.ns.length) (hj : j < 7) (hf : ∀ x, ndV (f x) = (ndV x).set j u)
  (hA : ∀ x, (f x).A = x.A ∧ (f x).n.al = x.n.al ∧ (f x).c = x.c) : GTo B r w m (w.setCell ⟨ng, k * 7 + j, none⟩ u) { m with ns := m.ns.modify k f } := by
 have hown : m.own r ng := Or.inr (Or.inl (by rw [hv]; rfl))
 have hfr : Fr (m.own r) w (w.setCell ⟨ng, k * 7 + j, none⟩ u) := Fr.set w _ u hown
 have hn := h.nown
 have hl : n = m.ns.length := by
  rcases own_form hn with ⟨e1, _⟩ | ⟨g, c, e1, _⟩
  ·rw [hv] at e1; cases e1
  ·rw [hv] at e1; injection e1
 subst hl
 rw [hv] at hn
 have hng : m.nv.ownBlock = some ng := by rw [hv]; rfl
 have hmem : ∀ x ∈ m.ns.modify k f, ∃ y ∈ m.ns, x = y ∨ x = f y := by
  intro x hx
  obtain ⟨i, hi, rfl⟩ := List.mem_iff_getElem.1 hx
  rw [List.length_modify] at hi
  rw [List.getElem_modify]
  split
  ·exact ⟨_, List.getElem_mem hi, Or.inr rfl⟩
  ·exact ⟨_, List.getElem_mem hi, Or.inl rfl⟩
 have hx : ∀ x ∈ m.ns.modify k f, ∃ y ∈ m.ns, x.A = y.A ∧ x.n.al = y.n.al ∧ x.c = y.c := by
  intro x hx
  obtain ⟨y, hy, rfl | rfl⟩ := hmem x hx
  ·exact ⟨_, hy, rfl, rfl, rfl⟩
  ·exact ⟨_, hy, hA y⟩
 have hsz : (w.setCell ⟨ng, k * 7 + j, none⟩ u).heap.size = w.heap.size := by simp [World.setCell]
 refine ⟨⟨h.base, h.blk.far (fun e => blk_apart h.blk h.nown (by decide) (by rw [hng]; exact congrArg some e.symm)) u, ?_, ?_, ?_, h.apart, ?_, ?_, ?_⟩, hfr, fun b hb => Or.inl hb⟩
 ·have := (hn.stored (k * 7 + j) u).1
  rw [fl_set ndV_len hf hj _ _ hk] at this
  simp only [List.length_modify]
  rw [hv]; exact this
 ·exact World.ownsRow.kept h.oown (hn.stored (k * 7 + j) u).2 (Or.inr (own_apart h.nown h.oown (by decide) hng))
 ·exact fun x hx => World.ownsRow.kept (h.text x hx) (hn.stored (k * 7 + j) u).2 (Or.inr (own_apart h.nown (h.text x hx) (by decide) hng))
 ·intro x hx'
  obtain ⟨y, hy, e1, e2, e3⟩ := hx x hx'
  have := hfr.nd (h.att y hy) (h.away y hy)
  exact ⟨by rw [e1, e2]; exact this.att, by rw [e2, e3]; exact this.len, by rw [e3]; exact this.cap⟩
 ·intro x hx' h0 a ha
  obtain ⟨y, hy, e1, e2, _⟩ := hx x hx'
  exact h.away y hy (e2 ▸ h0) a (e1 ▸ ha)
 ·have := h.ok
  constructor
  ·intro e he
   have := this.pl e he
   simpa [Gm.g] using this
  ·intro e he
   have := this.yg e he
   simpa [Gm.g] using this
end Go.Proofs.YteadfpkihhaadaaGreatDoor
namespace Go.Proofs.YteadfpkihhaadaaGreatDoor
open Go.RowKit
theorem fl_len {α : Type} {f : α → List Value} {k : Nat} (hf : ∀ x, (f x).length = k) : ∀ l : List α, (l.flatMap f).length = l.length * k
 | [] => by simp
 | x :: l => by rw [List.flatMap_cons, List.length_append, hf, fl_len hf l, List.length_cons, Nat.succ_mul]; omega
theorem GTo.young {B r : Nat} {w : World} {m : Gm} (h : GS B w r m) {og n cap k : Nat} {y : Int} (hv : m.ov = .slice (some ⟨og, 0, none⟩) n cap) (hk : k < m.es.length) (hy : -1 ≤ y ∧ y < m.ns.length) :
  GTo B r w m (w.setCell ⟨og, k * 3 + 1, none⟩ (.int .i64 y)) { m with es := m.es.modify k (fun x => ({ x.1 with yg := y }, x.2)) } := by
 have hown : m.own r og := Or.inr (Or.inr (Or.inl (by rw [hv]; rfl)))
 have hfr : Fr (m.own r) w (w.setCell ⟨og, k * 3 + 1, none⟩ (.int .i64 y)) := Fr.set w _ _ hown
 have hn := h.oown
 have hl : n = m.es.length := by
  rcases own_form hn with ⟨e1, _⟩ | ⟨g, c, e1, _⟩
  ·rw [hv] at e1; cases e1
  ·rw [hv] at e1; injection e1
 subst hl
 rw [hv] at hn
 have hng : m.ov.ownBlock = some og := by rw [hv]; rfl
 have hx : ∀ x ∈ m.es.modify k (fun x => ({ x.1 with yg := y }, x.2)), ∃ z ∈ m.es, x.2 = z.2 ∧ x.1.tx = z.1.tx ∧ x.1.pl = z.1.pl ∧ (x.1.yg = z.1.yg ∨ x.1.yg = y) := by
  intro x hx
  obtain ⟨i, hi, rfl⟩ := List.mem_iff_getElem.1 hx
  rw [List.length_modify] at hi
  rw [List.getElem_modify]
  split
  ·exact ⟨_, List.getElem_mem hi, rfl, rfl, rfl, Or.inr rfl⟩
  ·exact ⟨_, List.getElem_mem hi, rfl, rfl, rfl, Or.inl rfl⟩
 have hsn : (m.es.modify k (fun x => ({ x.1 with yg := y }, x.2))).map (·.2) = m.es.map (·.2) := by
  apply List.ext_getElem
  ·simp
  ·intro i h1 h2
   simp only [List.getElem_map, List.getElem_modify]
   split <;> rfl
 have hap := h.apart
 rw [← List.pairwise_map (f := fun x : Tr.E × Value => x.2) (R := fun u v => ∀ g h, u.ownBlock = some g → v.ownBlock = some h → g ≠ h), ← hsn, List.pairwise_map] at hap
 have hmem : ∀ b, (∃ x ∈ m.es.modify k (fun x => ({ x.1 with yg := y }, x.2)), x.2.ownBlock = some b) → ∃ x ∈ m.es, x.2.ownBlock = some b := by
  rintro b ⟨x, hx', hb⟩
  obtain ⟨z, hz, e1, _⟩ := hx x hx'
  exact ⟨z, hz, e1 ▸ hb⟩
 have hnew : ∀ b, Gm.own { m with es := m.es.modify k (fun x => ({ x.1 with yg := y }, x.2)) } r b → m.own r b := by
  rintro b (hb | hb | hb | hb)
  ·exact Or.inl hb
  ·exact Or.inr (Or.inl hb)
  ·exact Or.inr (Or.inr (Or.inl hb))
  ·exact Or.inr (Or.inr (Or.inr (hmem b hb)))
 refine ⟨⟨h.base, h.blk.far (fun e => blk_apart h.blk h.oown (by decide) (by rw [hng]; exact congrArg some e.symm)) _, ?_, ?_, ?_, hap, ?_, ?_, ?_⟩, hfr, fun b hb => Or.inl (hnew b hb)⟩
 ·exact World.ownsRow.kept h.nown (hn.stored (k * 3 + 1) _).2 (Or.inr (own_apart h.oown h.nown (by decide) hng))
 ·have := (hn.stored (k * 3 + 1) (.int .i64 y)).1
  rw [fl_set (g := fun x : Tr.E × Value => ({ x.1 with yg := y }, x.2)) elV_len (fun x => rfl) (by omega) _ _ hk] at this
  simp only [List.length_modify]
  rw [hv]; exact this
 ·intro x hx'
  obtain ⟨z, hz, e1, e2, _⟩ := hx x hx'
  rw [e1, e2]
  exact World.ownsRow.kept (h.text z hz) (hn.stored (k * 3 + 1) _).2 (Or.inr (own_apart h.oown (h.text z hz) (by decide) hng))
 ·exact fun x hx' => hfr.nd (h.att x hx') (h.away x hx')
 ·exact fun x hx' h0 a ha ho => h.away x hx' h0 a ha (hnew _ ho)
 ·have hk' := h.ok
  constructor
  ·intro e he
   obtain ⟨x, hx', rfl⟩ := List.mem_map.1 he
   obtain ⟨z, hz, _, _, e3, _⟩ := hx x hx'
   have := hk'.pl z.1 (List.mem_map.2 ⟨z, hz, rfl⟩)
   rw [e3]; exact this
  ·intro e he
   obtain ⟨x, hx', rfl⟩ := List.mem_map.1 he
   obtain ⟨z, hz, _, _, _, e4⟩ := hx x hx'
   have := hk'.yg z.1 (List.mem_map.2 ⟨z, hz, rfl⟩)
   rcases e4 with e4 | e4
   ·rw [e4]; exact this
   ·rw [e4]; simp only [Gm.g, List.length_map]; exact hy
theorem GTo.napp {B r : Nat} {w w1 : World} {m : Gm} (h : GS B w r m) {g1 cap1 : Nat} {x : Nd} (hgr : w.grownBy w1 m.nv.ownBlock) (hown : w1.ownsRow B 49 7 (.slice (some ⟨g1, 0, none⟩) (m.ns.length + 1) cap1) (m.ns.length + 1) (m.ns.flatMap ndV ++ ndV x))
  (hnew : m.nv.ownBlock = some g1 ∨ w.heap.size ≤ g1) (hx : NdOk w w.heap.size x) (haw : 0 < x.n.al.length → ∀ a, x.A = some a → ¬ m.own r a.block) :
  GTo B r w m (w1.setCell ⟨r, 0, none⟩ (.slice (some ⟨g1, 0, none⟩) (m.ns.length + 1) cap1)) { m with nv := .slice (some ⟨g1, 0, none⟩) (m.ns.length + 1) cap1, ns := m.ns ++ [x] } := by
 have hrow : ∀ k, m.nv.ownBlock = some k → m.own r k := fun k hk => Or.inr (Or.inl hk)
 have hf1 : Fr (m.own r) w w1 := Fr.of_grown hgr hrow
 have hfr : Fr (m.own r) w (w1.setCell ⟨r, 0, none⟩ (.slice (some ⟨g1, 0, none⟩) (m.ns.length + 1) cap1)) := hf1.trans (Fr.set w1 ⟨r, 0, none⟩ _ (Or.inl rfl)) (fun _ h => Or.inl h)
 have hrn : m.nv.ownBlock ≠ some r := blk_apart h.blk h.nown (by decide)
 have hro : m.ov.ownBlock ≠ some r := blk_apart h.blk h.oown (by decide)
 have hkr : ∀ {B' : Nat} {e : TypeId} {size n : Nat} {v : Value} {xs : List Value}, w1.ownsRow B' e size v n xs → v.ownBlock ≠ some r → (w1.setCell ⟨r, 0, none⟩ (.slice (some ⟨g1, 0, none⟩) (m.ns.length + 1) cap1)).ownsRow B' e size v n xs :=
  fun h1 h2 => Fr.own h1 (Fr.set (F := fun b => b = r) w1 ⟨r, 0, none⟩ _ rfl) (fun g hg e => h2 (e ▸ hg))
 have hb1 : IsBlk w1 r 74 #[m.nv, m.ov] := h.blk.grown hgr (fun e => hrn e.symm)
 have hg1 : some g1 ≠ some r := fun e => by
  injection e with e
  rcases hnew with hn | hn
  ·exact hrn (by rw [hn, e])
  ·have := h.blk.lt; omega
 have hnew' : ∀ b, Gm.own { m with nv := .slice (some ⟨g1, 0, none⟩) (m.ns.length + 1) cap1, ns := m.ns ++ [x] } r b → m.own r b ∨ w.heap.size ≤ b := by
  rintro b (hb | hb | hb | hb)
  ·exact Or.inl (Or.inl hb)
  ·injection hb with hb
   simp only at hb
   subst hb
   exact hnew.imp (fun h => Or.inr (Or.inl h)) id
  ·exact Or.inl (Or.inr (Or.inr (Or.inl hb)))
  ·exact Or.inl (Or.inr (Or.inr (Or.inr hb)))
 have hlt : ∀ y ∈ m.ns ++ [x], NdOk w w.heap.size y ∧ (0 < y.n.al.length → ∀ a, y.A = some a → ¬ m.own r a.block) := by
  intro y hy
  rw [List.mem_append] at hy
  rcases hy with hy | hy
  ·exact ⟨h.att y hy, h.away y hy⟩
  ·simp only [List.mem_singleton] at hy
   subst hy
   exact ⟨hx, haw⟩
 have h0 : ∀ y ∈ m.ns ++ [x], 0 < y.n.al.length → ∀ a, y.A = some a → a.block < w.heap.size := fun y hy h0 a ha => by
  obtain ⟨g, o, e, hg, _⟩ := (hlt y hy).1.att h0
  rw [ha] at e
  injection e with e
  subst e
  exact hg
 refine ⟨⟨h.base, by have := hb1.set 0 (.slice (some ⟨g1, 0, none⟩) (m.ns.length + 1) cap1); exact this, ?_, ?_, ?_, h.apart, ?_, ?_, ?_⟩, hfr, hnew'⟩
 ·rw [List.length_append, List.flatMap_append]
  have := hkr hown hg1
  simpa using this
 ·exact hkr (World.ownsRow.kept h.oown hgr (own_types h.oown h.nown (by decide))) hro
 ·exact fun y hy => hkr (World.ownsRow.kept (h.text y hy) hgr (own_types (h.text y hy) h.nown (by decide))) (blk_apart h.blk (h.text y hy) (by decide))
 ·exact fun y hy => hfr.nd (hlt y hy).1 (hlt y hy).2
 ·intro y hy hp a ha ho
  rcases hnew' _ ho with ho | ho
  ·exact (hlt y hy).2 hp a ha ho
  ·have := h0 y hy hp a ha; omega
 ·have hk := h.ok
  constructor
  ·intro e he
   have := hk.pl e he
   simp only [Gm.g, List.length_map, List.length_append] at this ⊢; omega
  ·intro e he
   have := hk.yg e he
   simp only [Gm.g, List.length_map, List.length_append] at this ⊢; omega
theorem GTo.eapp {B r : Nat} {w w1 : World} {m : Gm} (h : GS B w r m) {g1 cap1 : Nat} {x : Tr.E} (hgr : w.grownBy w1 m.ov.ownBlock) (hown : w1.ownsRow B 120 3 (.slice (some ⟨g1, 0, none⟩) (m.es.length + 1) cap1) (m.es.length + 1) (m.es.flatMap elV ++ elV (x, .slice none 0 0)))
  (hnew : m.ov.ownBlock = some g1 ∨ w.heap.size ≤ g1) (hx : x.tx = []) (hpl : 0 ≤ x.pl ∧ x.pl < m.ns.length) (hyg : -1 ≤ x.yg ∧ x.yg < m.ns.length) :
  GTo B r w m (w1.setCell ⟨r, 1, none⟩ (.slice (some ⟨g1, 0, none⟩) (m.es.length + 1) cap1)) { m with ov := .slice (some ⟨g1, 0, none⟩) (m.es.length + 1) cap1, es := m.es ++ [(x, .slice none 0 0)] } := by
 have hrow : ∀ k, m.ov.ownBlock = some k → m.own r k := fun k hk => Or.inr (Or.inr (Or.inl hk))
 have hf1 : Fr (m.own r) w w1 := Fr.of_grown hgr hrow
 have hfr : Fr (m.own r) w (w1.setCell ⟨r, 1, none⟩ (.slice (some ⟨g1, 0, none⟩) (m.es.length + 1) cap1)) := hf1.trans (Fr.set w1 ⟨r, 1, none⟩ _ (Or.inl rfl)) (fun _ h => Or.inl h)
 have hrn : m.nv.ownBlock ≠ some r := blk_apart h.blk h.nown (by decide)
 have hro : m.ov.ownBlock ≠ some r := blk_apart h.blk h.oown (by decide)
 have hkr : ∀ {B' : Nat} {e : TypeId} {size n : Nat} {v : Value} {xs : List Value}, w1.ownsRow B' e size v n xs → v.ownBlock ≠ some r → (w1.setCell ⟨r, 1, none⟩ (.slice (some ⟨g1, 0, none⟩) (m.es.length + 1) cap1)).ownsRow B' e size v n xs :=
  fun h1 h2 => Fr.own h1 (Fr.set (F := fun b => b = r) w1 ⟨r, 1, none⟩ _ rfl) (fun g hg e => h2 (e ▸ hg))
 have hb1 : IsBlk w1 r 74 #[m.nv, m.ov] := h.blk.grown hgr (fun e => hro e.symm)
 have hg1 : some g1 ≠ some r := fun e => by
  injection e with e
  rcases hnew with hn | hn
  ·exact hro (by rw [hn, e])
  ·have := h.blk.lt; omega
 have hnew' : ∀ b, Gm.own { m with ov := .slice (some ⟨g1, 0, none⟩) (m.es.length + 1) cap1, es := m.es ++ [(x, .slice none 0 0)] } r b → m.own r b ∨ w.heap.size ≤ b := by
  rintro b (hb | hb | hb | ⟨y, hy, hb⟩)
  ·exact Or.inl (Or.inl hb)
  ·exact Or.inl (Or.inr (Or.inl hb))
  ·injection hb with hb
   simp only at hb
   subst hb
   exact hnew.imp (fun h => Or.inr (Or.inr (Or.inl h))) id
  ·rcases List.mem_append.1 hy with hy | hy
   ·exact Or.inl (Or.inr (Or.inr (Or.inr ⟨y, hy, hb⟩)))
   ·simp only [List.mem_singleton] at hy
    subst hy
    cases hb
 have h0 : ∀ y ∈ m.ns, 0 < y.n.al.length → ∀ a, y.A = some a → a.block < w.heap.size := fun y hy h0 a ha => by
  obtain ⟨g, o, e, hg, _⟩ := (h.att y hy).att h0
  rw [ha] at e
  injection e with e
  subst e
  exact hg
 refine ⟨⟨h.base, by have := hb1.set 1 (.slice (some ⟨g1, 0, none⟩) (m.es.length + 1) cap1); exact this, ?_, ?_, ?_, ?_, ?_, ?_, ?_⟩, hfr, hnew'⟩
 ·exact hkr (World.ownsRow.kept h.nown hgr (own_types h.nown h.oown (by decide))) hrn
 ·rw [List.length_append, List.flatMap_append]
  have := hkr hown hg1
  simpa using this
 ·intro y hy
  rcases List.mem_append.1 hy with hy | hy
  ·exact hkr (World.ownsRow.kept (h.text y hy) hgr (own_types (h.text y hy) h.oown (by decide))) (blk_apart h.blk (h.text y hy) (by decide))
  ·simp only [List.mem_singleton] at hy
   subst hy
   unfold OwnS
   rw [hx]
   exact World.ownsRow_nil _ _ _ _
 ·rw [List.pairwise_append]
  refine ⟨h.apart, by simp, fun a _ b hb g h' _ h2 => ?_⟩
  simp only [List.mem_singleton] at hb
  subst hb
  cases h2
 ·exact fun y hy => hfr.nd (h.att y hy) (h.away y hy)
 ·intro y hy hp a ha ho
  rcases hnew' _ ho with ho | ho
  ·exact h.away y hy hp a ha ho
  ·have := h0 y hy hp a ha; omega
 ·have hk := h.ok
  constructor
  ·intro e he
   simp only [Gm.g, List.map_append, List.mem_append, List.map_cons, List.map_nil, List.mem_singleton] at he
   rcases he with he | rfl
   ·exact hk.pl e he
   ·simpa [Gm.g] using hpl
  ·intro e he
   simp only [Gm.g, List.map_append, List.mem_append, List.map_cons, List.map_nil, List.mem_singleton] at he
   rcases he with he | rfl
   ·exact hk.yg e he
   ·simpa [Gm.g] using hyg
theorem GTo.pop {B r : Nat} {w : World} {m : Gm} (h : GS B w r m) {og n cap : Nat} {l : List (Tr.E × Value)} {x : Tr.E × Value} (hv : m.ov = .slice (some ⟨og, 0, none⟩) (n + 1) cap) (he : m.es = l ++ [x]) :
  GTo B r w m (w.setCell ⟨r, 1, none⟩ (.slice (some ⟨og, 0, none⟩) n cap)) { m with ov := .slice (some ⟨og, 0, none⟩) n cap, es := l } := by
 have hfr : Fr (m.own r) w (w.setCell ⟨r, 1, none⟩ (.slice (some ⟨og, 0, none⟩) n cap)) := Fr.set w _ _ (Or.inl rfl)
 have hln : l.length = n := by
  have h1 := h.oown
  rw [hv, he] at h1
  rcases own_form h1 with ⟨e1, _⟩ | ⟨g, c, e1, _⟩
  ·cases e1
  ·injection e1 with _ e2 _
   simp at e2; omega
 have hkr : ∀ {B' : Nat} {e : TypeId} {size n' : Nat} {v : Value} {xs : List Value}, w.ownsRow B' e size v n' xs → v.ownBlock ≠ some r → (w.setCell ⟨r, 1, none⟩ (.slice (some ⟨og, 0, none⟩) n cap)).ownsRow B' e size v n' xs :=
  fun h1 h2 => Fr.own h1 (Fr.set (F := fun b => b = r) w ⟨r, 1, none⟩ _ rfl) (fun g hg e => h2 (e ▸ hg))
 have hnew' : ∀ b, Gm.own { m with ov := .slice (some ⟨og, 0, none⟩) n cap, es := l } r b → m.own r b := by
  rintro b (hb | hb | hb | ⟨y, hy, hb⟩)
  ·exact Or.inl hb
  ·exact Or.inr (Or.inl hb)
  ·exact Or.inr (Or.inr (Or.inl (by rw [hv]; exact hb)))
  ·exact Or.inr (Or.inr (Or.inr ⟨y, by rw [he]; exact List.mem_append_left _ hy, hb⟩))
 have hml : ∀ y ∈ l, y ∈ m.es := fun y hy => by rw [he]; exact List.mem_append_left _ hy
 refine ⟨⟨h.base, by have := h.blk.set 1 (.slice (some ⟨og, 0, none⟩) n cap); exact this, ?_, ?_, ?_, ?_, ?_, ?_, ?_⟩, hfr, fun b hb => Or.inl (hnew' b hb)⟩
 ·exact hkr h.nown (blk_apart h.blk h.nown (by decide))
 ·have h1 := h.oown
  rw [hv, he, List.flatMap_append, List.length_append] at h1
  simp only [List.length_cons, List.length_nil, Nat.zero_add] at h1
  have h2 := ownsRow_pop (n := n) (xs := l.flatMap elV) (last := [x].flatMap elV) (by rw [fl_len elV_len, hln]) (by rw [hln] at h1; exact h1)
  simp only
  rw [hln]
  exact hkr h2 (by have := blk_apart h.blk h.oown (by decide); rw [hv] at this; exact this)
 ·exact fun y hy => hkr (h.text y (hml y hy)) (blk_apart h.blk (h.text y (hml y hy)) (by decide))
 ·have := h.apart
  rw [he, List.pairwise_append] at this
  exact this.1
 ·exact fun y hy => hfr.nd (h.att y hy) (h.away y hy)
 ·exact fun y hy hp a ha ho => h.away y hy hp a ha (hnew' _ ho)
 ·have hk := h.ok
  constructor
  ·intro e he'
   obtain ⟨y, hy, rfl⟩ := List.mem_map.1 he'
   exact hk.pl _ (List.mem_map.2 ⟨y, hml y hy, rfl⟩)
  ·intro e he'
   obtain ⟨y, hy, rfl⟩ := List.mem_map.1 he'
   exact hk.yg _ (List.mem_map.2 ⟨y, hml y hy, rfl⟩)
theorem GTo.tapp {B r : Nat} {w w1 : World} {m : Gm} (h : GS B w r m) {l : List (Tr.E × Value)} {x : Tr.E × Value} {og n cap g1 cap1 : Nat} {t : List UInt8} (hv : m.ov = .slice (some ⟨og, 0, none⟩) n cap) (he : m.es = l ++ [x]) (hgr : w.grownBy w1 x.2.ownBlock)
  (hown : w1.ownsRow B 9 1 (.slice (some ⟨g1, 0, none⟩) (x.1.tx.length + 1) cap1) (x.1.tx.length + 1) (x.1.tx.map strV ++ [strV t])) (hnew : x.2.ownBlock = some g1 ∨ w.heap.size ≤ g1) :
  GTo B r w m (w1.setCell ⟨og, l.length * 3 + 2, none⟩ (.slice (some ⟨g1, 0, none⟩) (x.1.tx.length + 1) cap1)) { m with es := l ++ [({ x.1 with tx := x.1.tx ++ [t] }, .slice (some ⟨g1, 0, none⟩) (x.1.tx.length + 1) cap1)] } := by
 have hxm : x ∈ m.es := by rw [he]; simp
 have hml : ∀ y ∈ l, y ∈ m.es := fun y hy => by rw [he]; exact List.mem_append_left _ hy
 have hog : m.ov.ownBlock = some og := by rw [hv]; rfl
 have hrow : ∀ k, x.2.ownBlock = some k → m.own r k := fun k hk => Or.inr (Or.inr (Or.inr ⟨x, hxm, hk⟩))
 have hf1 : Fr (m.own r) w w1 := Fr.of_grown hgr hrow
 have hfr : Fr (m.own r) w (w1.setCell ⟨og, l.length * 3 + 2, none⟩ (.slice (some ⟨g1, 0, none⟩) (x.1.tx.length + 1) cap1)) := hf1.trans (Fr.set w1 ⟨og, _, none⟩ _ (Or.inr (Or.inr (Or.inl hog)))) (fun _ h => Or.inl h)
 have hxo : x.2.ownBlock ≠ some og := own_apart h.oown (h.text x hxm) (by decide) hog
 have hkr : ∀ {B' : Nat} {e : TypeId} {size n' : Nat} {v : Value} {xs : List Value}, w1.ownsRow B' e size v n' xs → v.ownBlock ≠ some og → (w1.setCell ⟨og, l.length * 3 + 2, none⟩ (.slice (some ⟨g1, 0, none⟩) (x.1.tx.length + 1) cap1)).ownsRow B' e size v n' xs :=
  fun h1 h2 => Fr.own h1 (Fr.set (F := fun b => b = og) w1 ⟨og, _, none⟩ _ rfl) (fun g hg e => h2 (e ▸ hg))
 have hrx : x.2.ownBlock ≠ some r := blk_apart h.blk (h.text x hxm) (by decide)
 have hb1 : IsBlk w1 r 74 #[m.nv, m.ov] := h.blk.grown hgr (fun e => hrx e.symm)
 have hro : r ≠ og := fun e => blk_apart h.blk h.oown (by decide) (by rw [hog, e])
 have hg1 : some g1 ≠ some og := fun e => by
  injection e with e
  rcases hnew with hn | hn
  ·exact hxo (by rw [hn, e])
  ·have := (h.oown.lt og hog).2; omega
 have hln : l.length + 1 = n := by
  have h1 := h.oown
  rw [hv, he] at h1
  rcases own_form h1 with ⟨e1, _⟩ | ⟨g, c, e1, _⟩
  ·cases e1
  ·injection e1 with _ e2 _
   simp at e2; omega
 have hne : ∀ y ∈ l, y.2.ownBlock = none ∨ y.2.ownBlock ≠ x.2.ownBlock := fun y hy => by
  have := h.apart
  rw [he, List.pairwise_append] at this
  have h1 := this.2.2 y hy x (by simp)
  cases e : y.2.ownBlock with
  | none => exact Or.inl rfl
  | some g =>
   refine Or.inr fun e2 => h1 g g e e2.symm rfl
 have hnew' : ∀ b, Gm.own { m with es := l ++ [({ x.1 with tx := x.1.tx ++ [t] }, .slice (some ⟨g1, 0, none⟩) (x.1.tx.length + 1) cap1)] } r b → m.own r b ∨ w.heap.size ≤ b := by
  rintro b (hb | hb | hb | ⟨y, hy, hb⟩)
  ·exact Or.inl (Or.inl hb)
  ·exact Or.inl (Or.inr (Or.inl hb))
  ·exact Or.inl (Or.inr (Or.inr (Or.inl hb)))
  ·rcases List.mem_append.1 hy with hy | hy
   ·exact Or.inl (Or.inr (Or.inr (Or.inr ⟨y, hml y hy, hb⟩)))
   ·simp only [List.mem_singleton] at hy
    subst hy
    injection hb with hb
    simp only at hb
    subst hb
    exact hnew.imp (fun h => Or.inr (Or.inr (Or.inr ⟨x, hxm, h⟩))) id
 have h0 : ∀ y ∈ m.ns, 0 < y.n.al.length → ∀ a, y.A = some a → a.block < w.heap.size := fun y hy h0 a ha => by
  obtain ⟨g, o, e, hg, _⟩ := (h.att y hy).att h0
  rw [ha] at e
  injection e with e
  subst e
  exact hg
 have hxn : ∀ {B' : Nat} {e : TypeId} {size n' : Nat} {v : Value} {xs : List Value}, w.ownsRow B' e size v n' xs → e ≠ 9 → w1.ownsRow B' e size v n' xs :=
  fun h1 hne => World.ownsRow.kept h1 hgr (own_types h1 (h.text x hxm) hne)
 refine ⟨⟨h.base, hb1.far hro _, ?_, ?_, ?_, ?_, ?_, ?_, ?_⟩, hfr, hnew'⟩
 ·exact hkr (hxn h.nown (by decide)) (own_apart h.oown h.nown (by decide) hog)
 ·have h1 := hxn h.oown (by decide)
  rw [hv, he, List.flatMap_append, List.length_append] at h1
  simp only [List.length_cons, List.length_nil, Nat.zero_add, hln] at h1
  have h2 := (h1.stored (l.length * 3 + 2) (.slice (some ⟨g1, 0, none⟩) (x.1.tx.length + 1) cap1)).1
  have hl3 : (l.flatMap elV).length = l.length * 3 := fl_len elV_len l
  rw [List.set_append_right _ _ (by rw [hl3]; omega), hl3, show l.length * 3 + 2 - l.length * 3 = 2 by omega] at h2
  simp only [List.length_append, List.length_cons, List.length_nil, List.flatMap_append]
  rw [hv, hln]
  exact h2
 ·intro y hy
  rcases List.mem_append.1 hy with hy | hy
  ·exact hkr (World.ownsRow.kept (h.text y (hml y hy)) hgr (hne y hy)) (own_apart h.oown (h.text y (hml y hy)) (by decide) hog)
  ·simp only [List.mem_singleton] at hy
   subst hy
   unfold OwnS
   simp only [List.length_append, List.length_cons, List.length_nil, List.map_append, List.map_cons, List.map_nil]
   exact hkr hown hg1
 ·have := h.apart
  rw [he, List.pairwise_append] at this
  rw [List.pairwise_append]
  refine ⟨this.1, by simp, fun y hy z hz g h' e1 e2 => ?_⟩
  simp only [List.mem_singleton] at hz
  subst hz
  injection e2 with e2
  simp only at e2
  subst e2
  rcases hnew with hn | hn
  ·exact this.2.2 y hy x (by simp) g _ e1 hn
  ·have := ((h.text y (hml y hy)).lt g e1).2; omega
 ·exact fun y hy => hfr.nd (h.att y hy) (h.away y hy)
 ·intro y hy hp a ha ho
  rcases hnew' _ ho with ho | ho
  ·exact h.away y hy hp a ha ho
  ·have := h0 y hy hp a ha; omega
 ·have hk := h.ok
  have hes : ∀ e : Tr.E, e ∈ (l ++ [({ x.1 with tx := x.1.tx ++ [t] }, Value.slice (some ⟨g1, 0, none⟩) (x.1.tx.length + 1) cap1)]).map Prod.fst → ∃ e' : Tr.E, e' ∈ m.es.map Prod.fst ∧ e.pl = e'.pl ∧ e.yg = e'.yg := by
   intro e he'
   simp only [List.map_append, List.mem_append, List.map_cons, List.map_nil, List.mem_singleton] at he'
   rcases he' with he' | rfl
   ·exact ⟨e, by rw [he, List.map_append]; exact List.mem_append_left _ he', rfl, rfl⟩
   ·exact ⟨x.1, List.mem_map.2 ⟨x, hxm, rfl⟩, rfl, rfl⟩
  constructor
  ·intro e he'
   obtain ⟨e', h1, h2, _⟩ := hes e he'
   rw [h2]; exact hk.pl e' h1
  ·intro e he'
   obtain ⟨e', h1, _, h2⟩ := hes e he'
   rw [h2]; exact hk.yg e' h1
end Go.Proofs.YteadfpkihhaadaaGreatDoor
