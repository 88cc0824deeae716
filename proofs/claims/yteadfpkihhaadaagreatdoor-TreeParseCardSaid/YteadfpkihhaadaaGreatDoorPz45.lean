/- Facts and walks for the statement. -/
import Derived.Test.YteadfpkihhaadaaGreatDoorPz44
import Derived.Test.YteadfpkihhaadaaGreatDoorPz28
namespace Go.Proofs.YteadfpkihhaadaaGreatDoor.Tr
open Go
theorem wAs_mem : ∀ {al : List At} {a : At}, a ∈ al → a.1.length + a.2.length ≤ Tk.wAs al
 | b :: al, a, h => by
  unfold Tk.wAs
  simp only [List.map_cons, List.sum_cons]
  rcases List.mem_cons.1 h with rfl | h
  ·omega
  ·have := wAs_mem h
   unfold Tk.wAs at this; omega
theorem parse_fit {L : List UInt8} (h : L.length ≤ 1000) : ∀ n ∈ (parse L).1, fitN n := fun n hn => by
 obtain ⟨h1, h2⟩ := parse_small h hn
 obtain ⟨_, _, _, h4, _, _⟩ := proper_iff.1 h1
 unfold wg1 at h2
 refine ⟨by omega, by omega, by omega, fun a ha => ?_⟩
 have := wAs_mem ha
 omega
end Go.Proofs.YteadfpkihhaadaaGreatDoor.Tr
