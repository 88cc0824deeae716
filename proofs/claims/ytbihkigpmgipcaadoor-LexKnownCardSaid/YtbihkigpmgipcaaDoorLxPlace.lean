/- Plain facts on the tokens of expressions: places lie within the text. No program is named here; no condition. -/
import Derived.Test.YtbihkigpmgipcaaDoorLxBack
namespace Go.Proofs.YtbihkigpmgipcaaDoor
namespace Lx
theorem C_within : ∀ (n : Nat) (l : List UInt8) (p : Nat), l.length ≤ n → (C l p).2.1 ≤ p + l.length ∧ ∀ t ∈ (C l p).1, t.p + t.tx.length ≤ p + l.length
  | n, l, p, hn => by
    by_cases h : l = []
    · subst h; rw [C_nil]; exact ⟨Nat.zero_le _, fun t ht => by cases ht⟩
    · by_cases hb : lng l = 0 ∨ 64 < lng l
      · rw [C_bad _ h hb]; exact ⟨Nat.le_add_right _ _, fun t ht => by cases ht⟩
      · have h1 : 1 ≤ nx l := by unfold nx; omega
        have hpos : 0 < l.length := List.length_pos_iff.2 h
        obtain ⟨m, rfl⟩ : ∃ m, n = m + 1 := ⟨n - 1, by omega⟩
        have ih := C_within m (l.drop (nx l)) (p + nx l) (by rw [List.length_drop]; omega)
        have hle := nx_le l
        rw [List.length_drop] at ih
        have e : p + nx l + (l.length - nx l) = p + l.length := by omega
        rw [e] at ih
        rw [C_good _ h hb]
        unfold pt
        split
        · refine ⟨Nat.zero_le _, fun t ht => ?_⟩
          rcases List.mem_cons.1 ht with rfl | ht
          · show p + (l.take (lng l)).length ≤ p + l.length
            rw [List.length_take]; omega
          · exact ih.2 t ht
        · exact ⟨ih.1, fun t ht => by cases ht⟩
  termination_by n => n
theorem toks_within {l : List UInt8} (h : l.length ≤ 65536) : (toks l).2.1 ≤ l.length ∧ ∀ t ∈ (toks l).1, t.p + t.tx.length ≤ l.length := by
  have h1 := C_within _ (l.drop (blk false l)) (blk false l) (Nat.le_refl _)
  have h2 := blk_le false l
  rw [List.length_drop, show blk false l + (l.length - blk false l) = l.length by omega] at h1
  rw [toks_C h]
  exact h1
theorem toks_form {l : List UInt8} (h : l.length ≤ 65536) : Form (toks l) := by rw [toks_C h]; exact C_form _ _
end Lx
end Go.Proofs.YtbihkigpmgipcaaDoor
