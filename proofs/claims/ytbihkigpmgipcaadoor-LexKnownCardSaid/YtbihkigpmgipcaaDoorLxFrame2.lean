/- Show, told of rows of tokens as the package's Tokens answers them. No condition besides. -/
import Derived.Test.YtbihkigpmgipcaaDoorLxFrame
import Derived.Test.YtbihkigpmgipcaaDoorLxLBack
namespace Go.Proofs.YtbihkigpmgipcaaDoor
open Go.RowKit

theorem showC : ShowC Sg := by
  intro A c l w hI h hc hn hx
  have hp : prs (l.map fun t => (t.k, (⟨t.tx.toArray⟩ : ByteArray))) = l.map Lx.kx := by
    unfold prs
    rw [List.map_map]
    rfl
  have hl : (l.map fun t => (t.k, (⟨t.tx.toArray⟩ : ByteArray))).length = l.length := by rw [List.length_map]
  have h2 : RdS w w.heap.size A (l.map fun t => (t.k, (⟨t.tx.toArray⟩ : ByteArray))) := fun h0 => by
    obtain ⟨g, o, e, hg, hd⟩ := h (by rw [← hl]; exact h0)
    refine ⟨g, o, e, hg, fun j hj => ?_⟩
    obtain ⟨a0, a1, a2⟩ := hd j (by rw [← hl]; exact hj)
    rw [List.getElem_map]
    exact ⟨a0, a1, _, a2⟩
  have := lshow_any w A c (l.map fun t => (t.k, (⟨t.tx.toArray⟩ : ByteArray))) hI h2 (by rw [hl]; exact hn) (by rw [hl]; exact hc) (fun x hxm => by
    obtain ⟨t, ht, rfl⟩ := List.mem_map.1 hxm
    have h3 := hx t ht
    show (ByteArray.mk t.tx.toArray).size ≤ 10000
    rw [Lib.size_eq]
    simpa using h3)
  rw [hp, hl] at this
  exact this
end Go.Proofs.YtbihkigpmgipcaaDoor
