/- entity.Decode, Encode and Reference, walked. Conditions: the tables hold what their texts lay; strconv.ErrSyntax holds an error; a text's length fits (at most 10^9 bytes for Decode and Encode). -/
import Derived.Test.YthmkkinefokdpaaDoorEnPiece
namespace Go.Proofs.YthmkkinefokdpaaDoor
open Go.RowKit

theorem heap_two (w : World) (o o' : Obj) : ((w.alloc o).alloc o').heap[w.heap.size]? = some o := by
  have h : ((w.alloc o).alloc o').heap[w.heap.size]? = (w.alloc o).heap[w.heap.size]? := Lib.alloc_old _ _ _ (by simp)
  rw [h]; exact heap_alloc_new w o
theorem below_two (w : World) (o o' : Obj) : Below w.heap.size w ((w.alloc o).alloc o') := ((Below.refl _ _).alloc (Nat.le_refl _) _).alloc (by simp) _

set_option maxHeartbeats 1000000 in
theorem decode_ent (s : ByteArray) (hs : s.size ≤ 1000000000) (w : World) (T : Tb w) :
    Calls Tryd.prog 9 #[.string s] w fun e w' => e = .returned (tup3 (En.rep En.dF s.data.toList)) ∧ Below w.heap.size w w' := by
  have b0 := below_two w (.map nameEntries 5) (.cells #[.map (some w.heap.size)] 35)
  have hcell : ((w.alloc (.map nameEntries 5)).alloc (.cells #[.map (some w.heap.size)] 35)).cell? ⟨w.heap.size + 1, 0, none⟩ = some (.map (some w.heap.size)) := by
    have h := heap_alloc_new (w.alloc (.map nameEntries 5)) (.cells #[.map (some w.heap.size)] 35)
    have hz : (w.alloc (.map nameEntries 5)).heap.size = w.heap.size + 1 := by simp
    rw [hz] at h
    exact Lib.cell_of_heap h 0
  have I : InvD (w.heap.size + 1) w.heap.size ((w.alloc (.map nameEntries 5)).alloc (.cells #[.map (some w.heap.size)] 35)) := ⟨T.below b0 (Nat.le_refl _), heap_two _ _ _, hcell⟩
  have HR := Lib.hid (replacedD (w.heap.size + 1) w.heap.size s hs _ I)
  have HN := Lib.hid (names_any w)
  have HB := Lib.hid b0
  unfold tup3 at *
  clear I hcell b0 T
  go_enter Tryd.func9, Tryd.ntmps9
  go_wp2_with fail
  refine HN.out.mono ?_
  rintro e w1 ⟨rfl, rfl⟩
  go_wp2_with fail
  refine HR.out.mono ?_
  rintro e w1 ⟨rfl, h1⟩
  have b1 := HB.out.trans (h1.mono HB.out.size)
  clear h1
  go_wp2
  go_ret3
  exact ⟨rfl, b1⟩

set_option maxHeartbeats 1000000 in
theorem encode_ent (s : ByteArray) (attr : Bool) (hs : s.size ≤ 1000000000) (w : World) (T : Tb w) :
    Calls Tryd.prog 13 #[.string s, .bool attr] w fun e w' => e = .returned (.tuple #[.string ⟨(En.rep (En.eF attr) s.data.toList).1.toArray⟩, .int .i64 (En.rep (En.eF attr) s.data.toList).2.2]) ∧ Below w.heap.size w w' := by
  have b0 := (Below.refl w.heap.size w).alloc (Nat.le_refl _) (.cells #[.bool attr] 4)
  have I : InvE w.heap.size attr (w.alloc (.cells #[.bool attr] 4)) := ⟨T.below b0 (Nat.le_refl _), Lib.cell_of_heap (heap_alloc_new w _) 0⟩
  have HR := Lib.hid (replacedE w.heap.size attr s hs _ I)
  have HB := Lib.hid b0
  unfold tup3 at HR
  clear I b0 T
  go_enter Tryd.func13, Tryd.ntmps13
  go_wp2_with fail
  refine HR.out.mono ?_
  rintro e w1 ⟨rfl, h1⟩
  have b1 := HB.out.trans (h1.mono HB.out.size)
  clear h1
  go_wp2
  go_ret2
  exact ⟨rfl, b1⟩

set_option maxHeartbeats 1000000 in
theorem reference_ent (s : ByteArray) (hs : s.size ≤ maxLen) (w : World) (T : Tb w) :
    Calls Tryd.prog 11 #[.string s] w fun e w' => e = .returned (.tuple #[.string ⟨(En.rf s.data.toList).1.toArray⟩, .int .i64 (En.rf s.data.toList).2]) ∧ Below w.heap.size w w' := by
  have b0 := (Below.refl w.heap.size w).alloc (Nat.le_refl _) (.map nameEntries 5)
  have HR := Lib.hid (reference_any s hs w.heap.size (w.alloc (.map nameEntries 5)) (T.below b0 (Nat.le_refl _)) (heap_alloc_new w _))
  have HN := Lib.hid (names_any w)
  have HB := Lib.hid b0
  clear b0 T
  go_enter Tryd.func11, Tryd.ntmps11
  go_wp2_with fail
  refine HN.out.mono ?_
  rintro e w1 ⟨rfl, rfl⟩
  go_wp2_with fail
  refine HR.out.mono ?_
  rintro e w1 ⟨rfl, h1⟩
  have b1 := HB.out.trans (h1.mono HB.out.size)
  clear h1
  go_wp2
  go_ret2
  exact ⟨rfl, b1⟩
end Go.Proofs.YthmkkinefokdpaaDoor
