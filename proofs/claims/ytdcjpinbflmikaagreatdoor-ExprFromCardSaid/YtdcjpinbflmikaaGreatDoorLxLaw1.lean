/- Layer 7's statements: same and ref, walked. Conditions: the rows of tokens lie in memory and are short. -/
import Derived.Test.YtdcjpinbflmikaaGreatDoorLxRef5
namespace Go.Proofs.YtdcjpinbflmikaaGreatDoor
open Go.RowKit

/-- A row of tokens lies so, from a place in a block on. -/
def RdT (w : World) (B : Nat) (A : Option Addr) (l : List Lx.T) : Prop := 0 < l.length → ∃ g o, A = some ⟨g, o, none⟩ ∧ g < B ∧ ∀ j (hj : j < l.length), w.cell? ⟨g, o + j * 3, none⟩ = some (.int .u8 l[j].k) ∧ w.cell? ⟨g, o + j * 3 + 1, none⟩ = some (.string ⟨l[j].tx.toArray⟩) ∧ w.cell? ⟨g, o + j * 3 + 2, none⟩ = some (.int .i64 (l[j].p : Int))
theorem RdT.below {w w' : World} {B : Nat} {A : Option Addr} {l : List Lx.T} (h : RdT w B A l) (hb : Below B w w') : RdT w' B A l := fun h0 => by
  obtain ⟨g, o, e, hg, hc⟩ := h h0
  exact ⟨g, o, e, hg, fun j hj => ⟨(hb.cell (p := ⟨g, _, none⟩) hg).trans (hc j hj).1, (hb.cell (p := ⟨g, _, none⟩) hg).trans (hc j hj).2.1, (hb.cell (p := ⟨g, _, none⟩) hg).trans (hc j hj).2.2⟩⟩
theorem own_dr {w : World} {B : Nat} {e : TypeId} {size n : Nat} {v : Value} {xs : List Value} (h : w.ownsRow B e size v n xs) : w.drew.ownsRow B e size v n xs := own_below h (Below.refl _ _).drew
theorem news_dr (w : World) (cs : Array Value) (t : TypeId) (n : Nat) (hn : w.heap.size = n) : ∀ j u, cs.toList[j]? = some u → (w.alloc (.cells cs t)).drew.cell? ((⟨n, 0, none⟩ : Addr).add j) = some u := fun j u hu => news_at w cs t n hn j u hu
structure RfI (w : World) (wr : World) (v : Value) (k : Nat) (l : List Lx.T) : Prop where
  below : Below w.heap.size w wr
  own : wr.ownsRow w.heap.size 40 3 v k ((l.take k).flatMap tkV)
end Go.Proofs.YtdcjpinbflmikaaGreatDoor
