/- Plain facts on memory: blocks, rows of one's own, what a step leaves as it was. No program is named here; no condition. -/
import Derived.WalkKit
import Derived.BigQuiet
import Derived.WalkSmall
import Derived.Lib.Bytealg
import Derived.Lib.IndexLaws
import Derived.Deep.AppendLies
import Derived.OwnWalk
import Derived.Lib.OthersKept
import Derived.Lib.Hide
namespace Go.Proofs.YtdcjpinbflmikaaGreatDoor
open Go.RowKit

/-- Block g is just these cells. -/
def IsBlk (w : World) (g : Nat) (t : TypeId) (cs : Array Value) : Prop := w.heap[g]? = some (.cells cs t (0, 0))
theorem IsBlk.lt {w : World} {g : Nat} {t : TypeId} {cs : Array Value} (h : IsBlk w g t cs) : g < w.heap.size := by
  rcases Nat.lt_or_ge g w.heap.size with hlt | hge
  · exact hlt
  · unfold IsBlk at h; rw [Array.getElem?_eq_none hge] at h; cases h
theorem IsBlk.at_ {w : World} {g : Nat} {t : TypeId} {cs : Array Value} (h : IsBlk w g t cs) (i : Nat) : w.cell? ⟨g, i, none⟩ = cs[i]? := Lib.cell_of_heap h i
theorem IsBlk.fz {w : World} {g : Nat} {t : TypeId} {cs : Array Value} (h : IsBlk w g t cs) (i : Nat) : w.frozen? ⟨g, i, none⟩ = false := by
  unfold IsBlk at h; simp [World.frozen?, h]
theorem IsBlk.new (w : World) (t : TypeId) (cs : Array Value) : IsBlk (w.alloc (.cells cs t)) w.heap.size t cs := heap_alloc_new w _
theorem IsBlk.below {B : Nat} {w w' : World} {g : Nat} {t : TypeId} {cs : Array Value} (h : IsBlk w g t cs) (hb : Below B w w') (hg : g < B) : IsBlk w' g t cs := (hb.block g hg).trans h
theorem IsBlk.grown {w w' : World} {g : Nat} {t : TypeId} {cs : Array Value} {row : Option Nat} (h : IsBlk w g t cs) (hb : w.grownBy w' row) (hg : some g ≠ row) : IsBlk w' g t cs := (hb.block g h.lt hg).trans h
theorem IsBlk.set {w : World} {g : Nat} {t : TypeId} {cs : Array Value} (h : IsBlk w g t cs) (i : Nat) (u : Value) : IsBlk (w.setCell ⟨g, i, none⟩ u) g t (cs.setIfInBounds i u) := by
  unfold IsBlk at h ⊢
  simp [World.setCell, Array.getElem?_modify, h]
theorem IsBlk.far {w : World} {g : Nat} {t : TypeId} {cs : Array Value} (h : IsBlk w g t cs) {p : Addr} (hp : g ≠ p.block) (u : Value) : IsBlk (w.setCell p u) g t cs := (Below.heap_setCell w p u g hp).trans h
theorem below_drewN {B : Nat} {w w' : World} (h : Below B w w') (n : Nat) : Below B w (w'.drewN n) := ⟨h.os, h.tape, h.output, h.size, h.block⟩
theorem own_cell {w : World} {B : Nat} {e : TypeId} {size g n cap : Nat} {xs : List Value} (h : w.ownsRow B e size (.slice (some ⟨g, 0, none⟩) n cap) n xs) {j : Nat} {u : Value} (hu : xs[j]? = some u) : w.cell? ⟨g, j, none⟩ = some u := by
  have := h.cells (g := g) rfl j u hu
  have hadd : (⟨g, 0, none⟩ : Addr).add j = ⟨g, j, none⟩ := by unfold Addr.add; split <;> simp_all
  rwa [hadd] at this
theorem own_slice {w : World} {B : Nat} {e : TypeId} {size n : Nat} {v : Value} {xs : List Value} (h : w.ownsRow B e size v n xs) :
    ∃ A cap, v = .slice A n cap ∧ (0 < n → ∃ g, A = some ⟨g, 0, none⟩ ∧ g < w.heap.size ∧ B ≤ g ∧ ∀ j u, xs[j]? = some u → w.cell? ⟨g, j, none⟩ = some u) ∧ (A = none → cap = 0 ∧ n = 0) ∧ n ≤ cap ∧ cap ≤ maxLen := by
  rcases h.2 with ⟨h1, h2⟩ | ⟨g, cap, cur, h1, h2, h3, h4, h5, _⟩
  · exact ⟨none, 0, by rw [h1, h2], fun h => by omega, fun _ => ⟨rfl, h2⟩, by omega, Nat.zero_le _⟩
  · subst h1
    exact ⟨some ⟨g, 0, none⟩, cap, rfl, fun _ => ⟨g, rfl, (Array.getElem?_eq_some_iff.1 h3).1, h2, fun j u hu => own_cell h hu⟩, fun h => (by cases h), h4, h5⟩
theorem own_less {B B' : Nat} {w : World} {e : TypeId} {size n : Nat} {v : Value} {xs : List Value} (h : w.ownsRow B e size v n xs) (hB : B' ≤ B) : w.ownsRow B' e size v n xs :=
  ⟨h.1, h.2.imp id fun ⟨g, cap, cur, e1, e2, e3⟩ => ⟨g, cap, cur, e1, Nat.le_trans hB e2, e3⟩⟩
theorem own_below {w w' : World} {B : Nat} {e : TypeId} {size n : Nat} {v : Value} {xs : List Value} (h : w.ownsRow B e size v n xs) (hb : Below w.heap.size w w') : w'.ownsRow B e size v n xs := h.kept (row := none) ⟨hb.os, hb.tape, hb.output, hb.size, fun k hk _ => hb.block k hk⟩ (by cases hv : v.ownBlock <;> simp)
/-- The cells of an element that was just laid. -/
theorem news_at (w : World) (cs : Array Value) (t : TypeId) (n : Nat) (hn : w.heap.size = n) : ∀ j u, cs.toList[j]? = some u → (w.alloc (.cells cs t)).cell? ((⟨n, 0, none⟩ : Addr).add j) = some u := by
  subst hn
  exact World.news_of_block (heap_alloc_new w _)
theorem take_data (s : ByteArray) (n : Nat) : (s.extract 0 n).data.toList = s.data.toList.take n := by
  rw [← Lib.toList_data, Lib.extract_toList]; simp

/-! ### what a step leaves as it was, by blocks' types -/
/-- All blocks are as they were, but those of these types. -/
structure Kt (L : List TypeId) (w w' : World) : Prop where
  os : w'.os = w.os
  tape : w'.tape = w.tape
  output : w'.output = w.output
  size : w.heap.size ≤ w'.heap.size
  block : ∀ (k : Nat) (cs : Array Value) (t : TypeId) (f : Nat × Nat), w.heap[k]? = some (.cells cs t f) → t ∉ L → w'.heap[k]? = some (.cells cs t f)
theorem heap_lt {w : World} {k : Nat} {o : Obj} (h : w.heap[k]? = some o) : k < w.heap.size := by
  rcases Nat.lt_or_ge k w.heap.size with h' | h'
  · exact h'
  · rw [Array.getElem?_eq_none h'] at h; cases h
theorem Kt.refl (L : List TypeId) (w : World) : Kt L w w := ⟨rfl, rfl, rfl, Nat.le_refl _, fun _ _ _ _ h _ => h⟩
theorem Kt.trans {L : List TypeId} {w w1 w2 : World} (h1 : Kt L w w1) (h2 : Kt L w1 w2) : Kt L w w2 :=
  ⟨h2.os.trans h1.os, h2.tape.trans h1.tape, h2.output.trans h1.output, Nat.le_trans h1.size h2.size, fun k cs t f h a => h2.block k cs t f (h1.block k cs t f h a) a⟩
theorem Kt.of_below {L : List TypeId} {w w' : World} (h : Below w.heap.size w w') : Kt L w w' := ⟨h.os, h.tape, h.output, h.size, fun k _ _ _ hk _ => (h.block k (heap_lt hk)).trans hk⟩
theorem Kt.on {L : List TypeId} {w w1 w2 : World} (h1 : Kt L w w1) (h2 : Below w1.heap.size w1 w2) : Kt L w w2 := h1.trans (Kt.of_below h2)
theorem Kt.more {L M : List TypeId} {w w' : World} (h : Kt L w w') (hs : ∀ t, t ∈ L → t ∈ M) : Kt M w w' := ⟨h.os, h.tape, h.output, h.size, fun k cs t f hk a => h.block k cs t f hk (fun q => a (hs t q))⟩
theorem Kt.blk {L : List TypeId} {w w' : World} {g : Nat} {t : TypeId} {cs : Array Value} (hk : Kt L w w') (h : IsBlk w g t cs) (h1 : t ∉ L) : IsBlk w' g t cs := hk.block g cs t (0, 0) h h1
theorem Kt.own {L : List TypeId} {w w' : World} {B : Nat} {e : TypeId} {size n : Nat} {v : Value} {xs : List Value} (hk : Kt L w w') (h : w.ownsRow B e size v n xs) (h1 : e ∉ L) : w'.ownsRow B e size v n xs := by
  refine ⟨h.1, ?_⟩
  rcases h.2 with h3 | ⟨g, cap, cur, e1, e2, e3, e4⟩
  · exact Or.inl h3
  · exact Or.inr ⟨g, cap, cur, e1, e2, hk.block g _ _ _ e3 h1, e4⟩
theorem Kt.set {L : List TypeId} {w : World} {p : Addr} {cs : Array Value} {t : TypeId} {f : Nat × Nat} (h : w.heap[p.block]? = some (.cells cs t f)) (ht : t ∈ L) (u : Value) : Kt L w (w.setCell p u) :=
  ⟨rfl, rfl, rfl, by simp [World.setCell], fun k cs' t' f' hk a => by
    rw [Below.heap_setCell w p u k (fun e => by
      rw [e, h] at hk
      injection hk with hk
      injection hk with _ hk _
      rw [hk] at ht
      exact a ht)]
    exact hk⟩
theorem own_heap {w : World} {B : Nat} {e : TypeId} {size n : Nat} {v : Value} {xs : List Value} (h : w.ownsRow B e size v n xs) {g : Nat} (hg : v.ownBlock = some g) : B ≤ g ∧ g < w.heap.size ∧ ∃ cs, w.heap[g]? = some (.cells cs e (0, 0)) := by
  have := h.lt g hg
  refine ⟨this.1, this.2, ?_⟩
  rcases h.2 with ⟨rfl, _⟩ | ⟨g', cap, cur, rfl, _, hb, _⟩
  · cases hg
  · injection hg with hg
    simp only at hg
    subst hg
    exact ⟨_, hb⟩
theorem Kt.grown {L : List TypeId} {w w' : World} {B : Nat} {e : TypeId} {size n : Nat} {v : Value} {xs : List Value} (h : w.grownBy w' v.ownBlock) (ho : w.ownsRow B e size v n xs) (he : e ∈ L) : Kt L w w' :=
  ⟨h.os, h.tape, h.output, h.size, fun k cs t f hk a => by
    rw [h.block k (heap_lt hk) (fun q => by
      obtain ⟨_, _, cs2, h2⟩ := own_heap ho q.symm
      rw [hk] at h2
      injection h2 with h2
      injection h2 with _ h2
      exact a (h2 ▸ he))]
    exact hk⟩
theorem blk_apart {B' : Nat} {w : World} {e e' : TypeId} {size' n' r : Nat} {cs : Array Value} {v' : Value} {xs' : List Value} (h : IsBlk w r e cs) (h' : w.ownsRow B' e' size' v' n' xs') (hne : e ≠ e') : v'.ownBlock ≠ some r := fun hg' => by
  obtain ⟨_, _, cs', hb⟩ := own_heap h' hg'
  unfold IsBlk at h
  rw [h] at hb
  injection hb with hb
  injection hb with _ hb
  exact hne hb
theorem own_sliced {w : World} {B : Nat} {e : TypeId} {size n : Nat} {v : Value} {xs : List Value} (h : w.ownsRow B e size v n xs) : ∃ A c, v = .slice A n c ∧ n ≤ c ∧ c ≤ maxLen ∧ (0 < n → ∃ g, A = some ⟨g, 0, none⟩ ∧ B ≤ g ∧ g < w.heap.size) := by
  obtain ⟨A, c, e1, h1, h2, h3, h4⟩ := own_slice h
  exact ⟨A, c, e1, h3, h4, fun h0 => by obtain ⟨g, e, h5, h6, _⟩ := h1 h0; exact ⟨g, e, h6, h5⟩⟩
theorem own_there {w : World} {B : Nat} {e : TypeId} {size g n c : Nat} {xs : List Value} (h : w.ownsRow B e size (.slice (some ⟨g, 0, none⟩) n c) n xs) {j : Nat} (hj : j < xs.length) : w.cell? ⟨g, j, none⟩ = some xs[j] ∧ w.frozen? ⟨g, j, none⟩ = false := by
  obtain ⟨_, _, cs, hb⟩ := own_heap h (g := g) rfl
  exact ⟨own_cell h (List.getElem?_eq_getElem hj), Lib.frozen_of_heap hb j⟩
/-- A store into a block of another kind. -/
theorem own_set {w : World} {B : Nat} {e t : TypeId} {size n r : Nat} {v : Value} {xs : List Value} {cs : Array Value} (h : w.ownsRow B e size v n xs) (hb : IsBlk w r t cs) (hne : t ≠ e) (i : Nat) (u : Value) : (w.setCell ⟨r, i, none⟩ u).ownsRow B e size v n xs :=
  (Kt.set (L := [t]) (p := ⟨r, i, none⟩) hb (by simp) u).own h (by simpa using fun q => hne q.symm)
/-- A row's beginning is a row. -/
theorem own_short {w : World} {B : Nat} {e : TypeId} {size n m c : Nat} {A : Option Addr} {xs : List Value} (h : w.ownsRow B e size (.slice A n c) n xs) (hm : m ≤ n) : w.ownsRow B e size (.slice A m c) m (xs.take (m * size)) := by
  have hl := h.1
  refine ⟨by rw [List.length_take, hl]; exact Nat.min_eq_left (Nat.mul_le_mul_right _ hm), ?_⟩
  rcases h.2 with ⟨e1, e2⟩ | ⟨g, cap, cur, e1, e2, e3, e4, e5, e6, e7⟩
  · injection e1 with a1 a2 a3
    subst e2
    have hm0 : m = 0 := by omega
    exact Or.inl ⟨by rw [a1, hm0, a3], hm0⟩
  · injection e1 with a1 a2 a3
    subst a1 a3
    exact Or.inr ⟨g, c, cur, rfl, e2, e3, by omega, e5, e6, by rw [← e7, List.take_take, Nat.min_eq_left (Nat.mul_le_mul_right _ hm)]⟩
theorem fl_at {α : Type} {f : α → List Value} {k : Nat} (hf : ∀ x, (f x).length = k) : ∀ (l : List α) (i j : Nat) (hi : i < l.length), j < k → (l.flatMap f)[i * k + j]? = (f l[i])[j]?
  | [], i, _, hi, _ => by simp at hi
  | x :: l, 0, j, _, hj => by
    rw [List.flatMap_cons, Nat.zero_mul, Nat.zero_add, List.getElem?_append_left (by rw [hf]; exact hj)]; rfl
  | x :: l, i + 1, j, hi, hj => by
    rw [List.flatMap_cons, List.getElem?_append_right (by rw [hf, Nat.succ_mul]; omega), hf, show (i + 1) * k + j - k = i * k + j by rw [Nat.succ_mul]; omega, fl_at hf l i j (by simpa using hi) hj]; rfl
theorem fl_len {α : Type} {f : α → List Value} {k : Nat} (hf : ∀ x, (f x).length = k) : ∀ l : List α, (l.flatMap f).length = l.length * k
  | [] => by simp
  | x :: l => by rw [List.flatMap_cons, List.length_append, hf, fl_len hf l, List.length_cons, Nat.succ_mul]; omega
theorem fl_take {α : Type} {f : α → List Value} {k : Nat} (hf : ∀ x, (f x).length = k) : ∀ (l : List α) (m : Nat), (l.flatMap f).take (m * k) = (l.take m).flatMap f
  | [], m => by simp
  | x :: l, 0 => by simp
  | x :: l, m + 1 => by rw [List.flatMap_cons, List.take_succ_cons, List.flatMap_cons, List.take_append, hf, Nat.succ_mul, List.take_of_length_le (by rw [hf]; omega), show m * k + k - k = m * k by omega, fl_take hf l m]
end Go.Proofs.YtdcjpinbflmikaaGreatDoor
