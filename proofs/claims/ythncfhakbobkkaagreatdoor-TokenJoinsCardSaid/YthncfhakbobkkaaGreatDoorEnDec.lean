/- entity.Decode, Encode and Reference, walked. Conditions: the tables hold what their texts lay; strconv.ErrSyntax holds an error; a text's length fits (at most 10^9 bytes for Decode and Encode). -/
import Derived.Test.YthncfhakbobkkaaGreatDoorEnPiece
namespace Go.Proofs.YthncfhakbobkkaaGreatDoor
open Go.RowKit

theorem heap_two (w : World) (o o' : Obj) : ((w.alloc o).alloc o').heap[w.heap.size]? = some o := by
  have h : ((w.alloc o).alloc o').heap[w.heap.size]? = (w.alloc o).heap[w.heap.size]? := Lib.alloc_old _ _ _ (by simp)
  rw [h]; exact heap_alloc_new w o
theorem below_two (w : World) (o o' : Obj) : Below w.heap.size w ((w.alloc o).alloc o') := ((Below.refl _ _).alloc (Nat.le_refl _) _).alloc (by simp) _

set_option maxHeartbeats 1000000 in
theorem decode_ent (s : ByteArray) (hs : s.size ≤ 1000000000) (w : World) (T : Tb w) :
    Calls Tryz.prog 56 #[.string s] w fun e w' => e = .returned (tup3 (En.rep En.dF s.data.toList)) ∧ Below w.heap.size w w' := by
  have b0 := below_two w (.map nameEntries 5) (.cells #[.map (some w.heap.size)] 110)
  have hcell : ((w.alloc (.map nameEntries 5)).alloc (.cells #[.map (some w.heap.size)] 110)).cell? ⟨w.heap.size + 1, 0, none⟩ = some (.map (some w.heap.size)) := by
    have h := heap_alloc_new (w.alloc (.map nameEntries 5)) (.cells #[.map (some w.heap.size)] 110)
    have hz : (w.alloc (.map nameEntries 5)).heap.size = w.heap.size + 1 := by simp
    rw [hz] at h
    exact Lib.cell_of_heap h 0
  have I : InvD (w.heap.size + 1) w.heap.size ((w.alloc (.map nameEntries 5)).alloc (.cells #[.map (some w.heap.size)] 110)) := ⟨T.below b0 (Nat.le_refl _), heap_two _ _ _, hcell⟩
  have HR := Lib.hid (replacedD (w.heap.size + 1) w.heap.size s hs _ I)
  have HN := Lib.hid (names_any w)
  have HB := Lib.hid b0
  unfold tup3 at *
  clear I hcell b0 T
  go_enter Tryz.func56, Tryz.ntmps56
  go_wp2_with fail
  refine HN.out.mono ?_
  rintro e w1 ⟨rfl, rfl⟩
  go_wp2_with fail
  refine HR.out.mono ?_
  rintro e w1 ⟨rfl, h1⟩
  have b1 := HB.out.trans (h1.mono HB.out.size)
  clear h1
  go_wp2
  go_ret3
  exact ⟨rfl, b1⟩


end Go.Proofs.YthncfhakbobkkaaGreatDoor
