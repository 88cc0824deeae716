/- Layer 7's statements: works, walked, from what the package's functions answer. Conditions: they do, in every world of a kind that stays. -/
import Derived.Test.YtdcjpinbflmikaaGreatDoorMem
import Derived.Test.YtdcjpinbflmikaaGreatDoorLxLaw1
namespace Go.Proofs.YtdcjpinbflmikaaGreatDoor
open Go.RowKit

/-- What the package's Tokens answers, in a row of its own. -/
def LlP (R : List Lx.T × Nat × Int) (w : World) (e : Ending) (w' : World) : Prop :=
  ∃ A c, w'.ownsRow w.heap.size 39 3 (.slice A R.1.length c) R.1.length (R.1.flatMap tkV) ∧ e = .returned (.tuple #[.slice A R.1.length c, .int .i64 R.2.1, .int .i64 R.2.2]) ∧ Below w.heap.size w w'
structure Kind7 (I : World → Prop) : Prop where
  stays : ∀ w w', I w → Below w.heap.size w w' → I w'
  toks : ∀ (s : ByteArray) w, s.size ≤ maxLen → I w → Calls Tryz.prog 63 #[.string s] w (LlP (Lx.toks s.data.toList) w)
  is : ∀ (s : ByteArray) w, s.size ≤ 1000000 → I w → Calls Tryz.prog 146 #[.string s] w fun e w' => e = .returned (.int .u8 (Lx.is s.data.toList)) ∧ Below w.heap.size w w'
theorem tk_at : ∀ (l : List Lx.T) (j : Nat) (h : j < l.length), (l.flatMap tkV)[j * 3]? = some (.int .u8 l[j].k) ∧ (l.flatMap tkV)[j * 3 + 1]? = some (.string ⟨l[j].tx.toArray⟩) ∧ (l.flatMap tkV)[j * 3 + 2]? = some (.int .i64 (l[j].p : Int))
  | [], _, h => absurd h (Nat.not_lt_zero _)
  | t :: r, 0, _ => ⟨rfl, rfl, rfl⟩
  | t :: r, j + 1, h => by
    have ih := tk_at r j (by simpa using h)
    rw [List.flatMap_cons]
    have e : ∀ k, (tkV t ++ r.flatMap tkV)[(j + 1) * 3 + k]? = (r.flatMap tkV)[j * 3 + k]? := fun k => by
      rw [List.getElem?_append_right (by show 3 ≤ _; omega)]
      congr 1
      show (j + 1) * 3 + k - 3 = j * 3 + k
      omega
    exact ⟨(e 0).trans ih.1, (e 1).trans ih.2.1, (e 2).trans ih.2.2⟩
/-- A row of one's own reads so. -/
theorem own_rd {w : World} {B n c : Nat} {e : TypeId} {A : Option Addr} {l : List Lx.T} (h : w.ownsRow B e 3 (.slice A n c) n (l.flatMap tkV)) (hn : n = l.length) : RdT w w.heap.size A l ∧ n ≤ c ∧ c ≤ maxLen := by
  obtain ⟨A', c', e1, h1, _, h3, h4⟩ := own_slice h
  injection e1 with e1 e2 e3
  subst e1 e3
  refine ⟨fun h0 => ?_, h3, h4⟩
  obtain ⟨g, hA, hg, _, hc⟩ := h1 (by omega)
  refine ⟨g, 0, hA, hg, fun j hj => ?_⟩
  obtain ⟨a0, a1, a2⟩ := tk_at l j hj
  simp only [Nat.zero_add]
  exact ⟨hc _ _ a0, hc _ _ a1, hc _ _ a2⟩
theorem w1 : Lx.toks [120, 58, 61, 120, 43, 49, 32, 45, 45, 32, 109, 111, 114, 101] = ([⟨2, [120], 0⟩, ⟨4, [58, 61], 1⟩, ⟨2, [120], 3⟩, ⟨4, [43], 4⟩, ⟨1, [49], 5⟩], 0, 0) := by kernel_rfl
theorem w2 : Lx.toks [97, 60, 61, 62, 98] = ([⟨2, [97], 0⟩, ⟨4, [60, 61], 1⟩, ⟨4, [62], 3⟩, ⟨2, [98], 4⟩], 0, 0) := by kernel_rfl
theorem w3 : Lx.toks [97, 32, 33, 32, 98] = ([], 2, 70) := by kernel_rfl
theorem w4 : Lx.toks [49, 97] = ([⟨1, [49], 0⟩, ⟨2, [97], 1⟩], 0, 0) := by kernel_rfl
theorem w5 : Lx.is [101, 109, 105, 116] = 3 ∧ Lx.is [101, 109, 105, 116, 115] = 2 ∧ Lx.is [45, 45] = 0 := ⟨by kernel_rfl, by kernel_rfl, by kernel_rfl⟩
end Go.Proofs.YtdcjpinbflmikaaGreatDoor
