/- The statements' written of layer 4, walked: a part as it is written, and the token that it is. Conditions: the part fits (a text of at most 40 bytes, at most 5 attributes of at most 40 bytes), its row of attributes reads as told. -/
import Derived.Test.YtgidpcfaeekjhaaGreatDoorTkSame
import Derived.Test.YtgidpcfaeekjhaaGreatDoorTkBack
import Derived.Test.YtgidpcfaeekjhaaGreatDoorNmRef
import Derived.Test.YtgidpcfaeekjhaaGreatDoorEnR5
namespace Go.Proofs.YtgidpcfaeekjhaaGreatDoor
open Go.RowKit

/-- A row of attributes reads so, from a place in a block on. -/
def Reads2o (w : World) (B : Nat) (A : Option Addr) (al : List (List UInt8 × List UInt8)) : Prop := 0 < al.length → ∃ g o, A = some ⟨g, o, none⟩ ∧ g < B ∧ ∀ (k : Nat) (hk : k < al.length), w.cell? ⟨g, o + k * 2, none⟩ = some (.string ⟨al[k].1.toArray⟩) ∧ w.cell? ⟨g, o + k * 2 + 1, none⟩ = some (.string ⟨al[k].2.toArray⟩)
theorem Reads2o.below {w w' : World} {B : Nat} {A : Option Addr} {al : List (List UInt8 × List UInt8)} (h : Reads2o w B A al) (hb : Below B w w') : Reads2o w' B A al := fun h0 => by
  obtain ⟨g, o, e, hg, hc⟩ := h h0
  exact ⟨g, o, e, hg, fun k hk => ⟨(hb.cell (p := ⟨g, _, none⟩) hg).trans (hc k hk).1, (hb.cell (p := ⟨g, _, none⟩) hg).trans (hc k hk).2⟩⟩
def kOf (z : Int) : Nat := if z.tmod 4 = 0 then 0 else if z.tmod 4 = 2 then 2 else if z.tmod 4 = 3 then 3 else 1
/-- What written answers. -/
def WrP (c : Option (List UInt8 × Tk.T)) (w : World) (e : Ending) (w' : World) : Prop :=
  (c = none ∧ ∃ (S X : ByteArray) (K : Int), e = .returned (.tuple #[.string S, .agg #[.int .u8 K, .string ⟨#[]⟩, .slice none 0 0, .string X, .int .i64 0], .bool false]) ∧ Below w.heap.size w w') ∨
  (∃ t x A cap, c = some (t, x) ∧ e = .returned (.tuple #[.string ⟨t.toArray⟩, .agg #[.int .u8 x.k, .string ⟨x.nm.toArray⟩, .slice A x.as.length cap, .string ⟨x.tx.toArray⟩, .int .i64 0], .bool true]) ∧ OwnT w.heap.size w' (.slice A x.as.length cap) x.as ∧ Below w.heap.size w w')

theorem IsBlk.same2 {w : World} {g i : Nat} {t : TypeId} {cs : Array Value} {v : Value} (h : IsBlk w g t cs) (hv : cs[i]? = some v) : w.setCell ⟨g, i, none⟩ v = w := by
  have e1 : cs.setIfInBounds i v = cs := by
    apply Array.ext_getElem?
    intro j
    rw [Array.getElem?_setIfInBounds]
    split
    · rename_i hij
      subst hij
      split
      · exact hv.symm
      · rename_i hlt
        rw [Array.getElem?_eq_none (by omega)] at hv
        cases hv
    · rfl
  have e : (w.setCell ⟨g, i, none⟩ v).heap = w.heap := by
    unfold World.setCell
    simp only
    apply Array.ext_getElem?
    intro k
    rw [Array.getElem?_modify]
    split
    · rename_i hgk
      subst hgk
      rw [h]
      simp [e1]
    · rfl
  show { w with heap := (w.setCell ⟨g, i, none⟩ v).heap } = w
  rw [e]
end Go.Proofs.YtgidpcfaeekjhaaGreatDoor
