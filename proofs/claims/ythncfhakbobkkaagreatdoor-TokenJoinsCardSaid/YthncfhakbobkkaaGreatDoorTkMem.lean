/- Words for memory in the walks of package token: a block that is known whole; a row of a call's own; what a call leaves as it was. No condition. -/
import Derived.Test.YthncfhakbobkkaaGreatDoorTkCur
import Derived.Deep.AppendLies
namespace Go.Proofs.YthncfhakbobkkaaGreatDoor
open Go.RowKit

/-- Block g is just these cells. -/
def IsBlk (w : World) (g : Nat) (t : TypeId) (cs : Array Value) : Prop := w.heap[g]? = some (.cells cs t (0, 0))
theorem IsBlk.lt {w : World} {g : Nat} {t : TypeId} {cs : Array Value} (h : IsBlk w g t cs) : g < w.heap.size := by
  rcases Nat.lt_or_ge g w.heap.size with hlt | hge
  · exact hlt
  · unfold IsBlk at h; rw [Array.getElem?_eq_none hge] at h; cases h
theorem IsBlk.at_ {w : World} {g : Nat} {t : TypeId} {cs : Array Value} (h : IsBlk w g t cs) (i : Nat) : w.cell? ⟨g, i, none⟩ = cs[i]? := Lib.cell_of_heap h i
theorem IsBlk.fz {w : World} {g : Nat} {t : TypeId} {cs : Array Value} (h : IsBlk w g t cs) (i : Nat) : w.frozen? ⟨g, i, none⟩ = false := by
  unfold IsBlk at h; simp [World.frozen?, h]
theorem IsBlk.new (w : World) (t : TypeId) (cs : Array Value) : IsBlk (w.alloc (.cells cs t)) w.heap.size t cs := heap_alloc_new w _
theorem IsBlk.below {B : Nat} {w w' : World} {g : Nat} {t : TypeId} {cs : Array Value} (h : IsBlk w g t cs) (hb : Below B w w') (hg : g < B) : IsBlk w' g t cs := (hb.block g hg).trans h
theorem IsBlk.grown {w w' : World} {g : Nat} {t : TypeId} {cs : Array Value} {row : Option Nat} (h : IsBlk w g t cs) (hb : w.grownBy w' row) (hg : some g ≠ row) : IsBlk w' g t cs := (hb.block g h.lt hg).trans h
theorem IsBlk.set {w : World} {g : Nat} {t : TypeId} {cs : Array Value} (h : IsBlk w g t cs) (i : Nat) (u : Value) : IsBlk (w.setCell ⟨g, i, none⟩ u) g t (cs.setIfInBounds i u) := by
  unfold IsBlk at h ⊢
  simp [World.setCell, Array.getElem?_modify, h]
theorem IsBlk.far {w : World} {g : Nat} {t : TypeId} {cs : Array Value} (h : IsBlk w g t cs) {p : Addr} (hp : g ≠ p.block) (u : Value) : IsBlk (w.setCell p u) g t cs := (Below.heap_setCell w p u g hp).trans h
theorem IsCur.blk {g : Nat} {s : ByteArray} {p : Nat} {w : World} (h : IsCur g s p w) : IsBlk w g CT #[.string s, .int .i64 p] := h
theorem cur_alloc {w : World} {g : Nat} {s : ByteArray} {p : Nat} (h : IsCur g s p w) (o : Obj) : IsCur g s p (w.alloc o) := h.below ((Below.refl _ _).alloc (Nat.le_refl _) o)
theorem grown_alloc {w w1 : World} {r : Option Nat} (h : w.grownBy w1 r) (o : Obj) : w.grownBy (w1.alloc o) r := grown_trans h (grown_below ((Below.refl _ _).alloc (Nat.le_refl _) o) r)
theorem grown_setnew {w w1 : World} {r : Option Nat} (h : w.grownBy w1 r) {k : Nat} (hk : w.heap.size ≤ k) (i : Nat) (u : Value) : w.grownBy (w1.setCell ⟨k, i, none⟩ u) r :=
  ⟨h.os, h.tape, h.output, by simp [World.setCell]; exact h.size, fun j hj hn => (Below.heap_setCell w1 _ u j (by simp only; omega)).trans (h.block j hj hn)⟩
theorem CurTo.setnew {g : Nat} {s : ByteArray} {q : Nat} {w w1 : World} (h : CurTo g s q w w1) (hg : g < w.heap.size) {k : Nat} (hk : w.heap.size ≤ k) (i : Nat) (u : Value) : CurTo g s q w (w1.setCell ⟨k, i, none⟩ u) :=
  ⟨h.1.blk.far (by simp only; omega) u, grown_setnew h.2 hk i u⟩
theorem CurTo.alloc {g : Nat} {s : ByteArray} {q : Nat} {w w1 : World} (h : CurTo g s q w w1) (o : Obj) : CurTo g s q w (w1.alloc o) := ⟨cur_alloc h.1 o, grown_alloc h.2 o⟩
theorem CurTo.first {g : Nat} {s : ByteArray} {q : Nat} {w w1 : World} {o : Obj} (h : CurTo g s q (w.alloc o) w1) : CurTo g s q w w1 := ⟨h.1, grown_trans (grown_alloc (grown_refl w (some g)) o) h.2⟩
theorem below_of_grown {B : Nat} {w w' : World} {r : Option Nat} (h : w.grownBy w' r) (hB : B ≤ w.heap.size) (hr : ∀ k, r = some k → B ≤ k) : Below B w w' := (Below.refl B w).grown h hB hr
/-- The cells of an element that was just laid. -/
theorem news_at (w : World) (cs : Array Value) (t : TypeId) (n : Nat) (hn : w.heap.size = n) : ∀ j u, cs.toList[j]? = some u → (w.alloc (.cells cs t)).cell? ((⟨n, 0, none⟩ : Addr).add j) = some u := by
  subst hn
  exact World.news_of_block (heap_alloc_new w _)
end Go.Proofs.YthncfhakbobkkaaGreatDoor
