/- Facts and walks for the statement. -/
import Derived.Test.YteadfpkihhaadaaGreatDoorPz16
namespace Go.Proofs.YteadfpkihhaadaaGreatDoor.Tr
open Go
theorem kd_nil (f sz : Nat) (nm : List UInt8) (base deep : Nat) (M : List N) (text : List UInt8) (last : Int) : kdP (f + 1) sz nm base deep [] M text last = .bad sz 50 := by unfold kdP; rfl
theorem kd_close {t : Tk.T} (h : t.k = 2) (f sz : Nat) (nm : List UInt8) (base deep : Nat) (r : List Tk.T) (M : List N) (text : List UInt8) (last : Int) : kdP (f + 1) sz nm base deep (t :: r) M text last = if t.nm ≠ nm then .bad t.p 50 else .ok r (if Tk.allB text = true then M else M.modify 0 (fun x => { x with tx := text })) := by
 conv => lhs; unfold kdP
 rw [if_pos h]
theorem kd_text {t : Tk.T} (h : t.k = 4) (f sz : Nat) (nm : List UInt8) (base deep : Nat) (r : List Tk.T) (M : List N) (text : List UInt8) (last : Int) : kdP (f + 1) sz nm base deep (t :: r) M text last = kdP f sz nm base deep r M (text ++ t.tx) last := by
 conv => lhs; unfold kdP
 rw [if_neg (by rw [h]; decide), if_pos h]
theorem kd_kid {t : Tk.T} (h2 : t.k ≠ 2) (h4 : t.k ≠ 4) (f sz : Nat) (nm : List UInt8) (base deep : Nat) (r : List Tk.T) (M : List N) (text : List UInt8) (last : Int) : kdP (f + 1) sz nm base deep (t :: r) M text last = match elP f sz (t :: r) (base + M.length) base (deep + 1) with
   | .bad a e => .bad a e
   | .ok r' K => kdP f sz nm base deep r' (lnk M base last (base + M.length) ++ K) text (base + M.length) := by
 conv => lhs; unfold kdP
 rw [if_neg h2, if_neg h4]
 cases elP f sz (t :: r) (base + M.length) base (deep + 1) <;> rfl
theorem mod_right {α : Type} (G : α → α) : ∀ (P M : List α) (k : Nat), (P ++ M).modify (P.length + k) G = P ++ M.modify k G
 | [], M, k => by simp
 | x :: P, M, k => by
  have ih := mod_right G P M k
  rw [List.cons_append, List.length_cons, show P.length + 1 + k = (P.length + k) + 1 by omega, List.modify_succ_cons, ih, List.cons_append]
theorem mod_left {α : Type} (G : α → α) : ∀ (M K : List α) (k : Nat), k < M.length → (M ++ K).modify k G = M.modify k G ++ K
 | [], _, _, h => absurd h (Nat.not_lt_zero _)
 | x :: M, K, 0, _ => by simp
 | x :: M, K, k + 1, h => by
  have ih := mod_left G M K k (by simpa using h)
  rw [List.cons_append, List.modify_succ_cons, ih, List.modify_succ_cons, List.cons_append]
theorem mod_map {α β : Type} (f : α → β) (G : α → α) (g : β → β) (h : ∀ x, f (G x) = g (f x)) : ∀ (l : List α) (k : Nat), (l.modify k G).map f = (l.map f).modify k g
 | [], k => by simp
 | x :: l, 0 => by simp [h]
 | x :: l, k + 1 => by
  have ih := mod_map f G g h l k
  rw [List.modify_succ_cons, List.map_cons, ih, List.map_cons, List.modify_succ_cons]
end Go.Proofs.YteadfpkihhaadaaGreatDoor.Tr
