/- The statements' same of layer 5, places in the text not asked, of any two rows of the reference's nodes. Conditions: the rows are calls' own; lengths fit. -/
import Derived.Test.YtgidpcfaeekjhaaGreatDoorTrWorks
import Derived.Test.YtgidpcfaeekjhaaGreatDoorTrLsame
namespace Go.Proofs.YtgidpcfaeekjhaaGreatDoor
open Go.RowKit Go.Shelf

set_option maxHeartbeats 4000000 in
set_option maxRecDepth 100000 in
theorem lsame_ne (w : World) (A A2 : Option Addr) (c c2 n m : Nat) (f : Bool) (h : n ≠ m) :
    Calls Tryz.prog 10 #[.agg #[.slice A n c], .agg #[.slice A2 m c2], .bool f] w fun e w' => e = .returned (.bool false) ∧ Below w.heap.size w w' := by
  have hn : ((n : Int) == (m : Int)) = false := beq_eq_false_iff_ne.2 (by omega)
  have hn' : ((n : Int) != (m : Int)) = true := by simp [bne, hn]
  have HB := Lib.hid (((Below.refl w.heap.size w).alloc (Nat.le_refl _) (.cells #[.slice A n c] 25)).alloc (by simp) (.cells #[.slice A2 m c2] 25))
  go_enter Tryz.func10, Tryz.ntmps10
  go_wp2
  go_ret
  exact ⟨rfl, HB.out⟩
theorem lsame_all (w : World) (A A2 : Option Addr) (c c2 Ba Bb : Nat) (pa pb : List (Tr.N × Value)) (ha : NRow Ba w (.slice A pa.length c) pa) (hb : NRow Bb w (.slice A2 pb.length c2) pb) (hn : pa.length ≤ 1048576) :
    Calls Tryz.prog 10 #[.agg #[.slice A pa.length c], .agg #[.slice A2 pb.length c2], .bool false] w fun e w' => e = .returned (.bool (Tr.same (pa.map (·.1)) (pb.map (·.1)))) ∧ Below w.heap.size w w' := by
  by_cases h : pa.length = pb.length
  · exact lsame_any w A A2 c c2 Ba Bb pa pb ha hb hn h
  · rw [Tr.same_len (by rw [List.length_map, List.length_map]; exact h)]
    exact lsame_ne w A A2 c c2 _ _ false h
end Go.Proofs.YtgidpcfaeekjhaaGreatDoor
