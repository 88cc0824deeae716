/- Rows of tokens and attributes: what a value of a row looks like; where a token's cells lie. No condition. -/
import Derived.Test.YthncfhakbobkkaaGreatDoorTkWorks
namespace Go.Proofs.YthncfhakbobkkaaGreatDoor
open Go.RowKit

theorem own_slice {w : World} {B : Nat} {e : TypeId} {size n : Nat} {v : Value} {xs : List Value} (h : w.ownsRow B e size v n xs) :
    ∃ A cap, v = .slice A n cap ∧ (0 < n → ∃ g, A = some ⟨g, 0, none⟩ ∧ g < w.heap.size ∧ B ≤ g ∧ ∀ j u, xs[j]? = some u → w.cell? ⟨g, j, none⟩ = some u) ∧ (A = none → cap = 0 ∧ n = 0) ∧ n ≤ cap ∧ cap ≤ maxLen := by
  rcases h.2 with ⟨h1, h2⟩ | ⟨g, cap, cur, h1, h2, h3, h4, h5, _⟩
  · exact ⟨none, 0, by rw [h1, h2], fun h => by omega, fun _ => ⟨rfl, h2⟩, by omega, Nat.zero_le _⟩
  · subst h1
    exact ⟨some ⟨g, 0, none⟩, cap, rfl, fun _ => ⟨g, rfl, (Array.getElem?_eq_some_iff.1 h3).1, h2, fun j u hu => own_cell h hu⟩, fun h => (by cases h), h4, h5⟩
theorem tok_at (ps : List (Tk.T × Value)) (k j : Nat) (hk : k < ps.length) (hj : j < 5) : (ps.flatMap tokV)[k * 5 + j]? = (tokV ps[k])[j]? := flat_at tokV 5 (fun _ => rfl) ps k j hk hj
end Go.Proofs.YthncfhakbobkkaaGreatDoor
