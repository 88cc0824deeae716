/- Facts and walks for the statement. -/
import Derived.Test.YteadfpkihhaadaaGreatDoorPz13
import Derived.Test.YteadfpkihhaadaaGreatDoorPz04
import Derived.Test.YteadfpkihhaadaaGreatDoorPz14
namespace Go.Proofs.YteadfpkihhaadaaGreatDoor
open Go.RowKit
def Reads2o (w : World) (B : Nat) (A : Option Addr) (al : List (List UInt8 × List UInt8)) : Prop := 0 < al.length → ∃ g o, A = some ⟨g, o, none⟩ ∧ g < B ∧ ∀ (k : Nat) (hk : k < al.length), w.cell? ⟨g, o + k * 2, none⟩ = some (.string ⟨al[k].1.toArray⟩) ∧ w.cell? ⟨g, o + k * 2 + 1, none⟩ = some (.string ⟨al[k].2.toArray⟩)
theorem Reads2o.below {w w' : World} {B : Nat} {A : Option Addr} {al : List (List UInt8 × List UInt8)} (h : Reads2o w B A al) (hb : Below B w w') : Reads2o w' B A al := fun h0 => by
 obtain ⟨g, o, e, hg, hc⟩ := h h0
 exact ⟨g, o, e, hg, fun k hk => ⟨(hb.cell (p := ⟨g, _, none⟩) hg).trans (hc k hk).1, (hb.cell (p := ⟨g, _, none⟩) hg).trans (hc k hk).2⟩⟩
end Go.Proofs.YteadfpkihhaadaaGreatDoor
