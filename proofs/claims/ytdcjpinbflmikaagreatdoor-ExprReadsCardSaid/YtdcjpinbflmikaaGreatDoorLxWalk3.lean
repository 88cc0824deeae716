/- Layer 7's program: sign, isWord. Condition: the table of signs holds what its text lays. -/
import Derived.Test.YtdcjpinbflmikaaGreatDoorLxWalk2
namespace Go.Proofs.YtdcjpinbflmikaaGreatDoor
open Go.RowKit

/-- The length of the first sign with which a text begins. -/
def Lx.sgf (l : List UInt8) : List (List UInt8) → Nat
  | [] => 0
  | x :: r => if Lib.hasPrefix l x then x.length else Lx.sgf l r
theorem Lx.hp_nil (x : UInt8) (r : List UInt8) : Lib.hasPrefix [] (x :: r) = false := by
  cases h : Lib.hasPrefix [] (x :: r) with
  | false => rfl
  | true => exact absurd h (by simp [Lib.hasPrefix])
theorem Lx.sgf_sgn (l : List UInt8) : Lx.sgf l Lx.signs = Lx.sgn l := by
  match l with
  | [] => rfl
  | [c] =>
    simp only [Lx.sgf, Lx.signs, Lx.sgn, Lib.hasPrefix, List.contains_cons, List.contains_nil]
    by_cases h1 : c = 60
    · subst h1; rfl
    by_cases h2 : c = 62
    · subst h2; rfl
    by_cases h3 : c = 61
    · subst h3; rfl
    by_cases h4 : c = 43
    · subst h4; rfl
    by_cases h5 : c = 45
    · subst h5; rfl
    by_cases h6 : c = 42
    · subst h6; rfl
    by_cases h7 : c = 40
    · subst h7; rfl
    by_cases h8 : c = 41
    · subst h8; rfl
    by_cases h9 : c = 44
    · subst h9; rfl
    by_cases h10 : c = 59
    · subst h10; rfl
    have g := fun x : UInt8 => @eq_comm _ x c
    simp [h1, h2, h3, h4, h5, h6, h7, h8, h9, h10, g]
  | c :: d :: r =>
    simp only [Lx.sgf, Lx.signs, Lx.sgn, Lib.hasPrefix, List.contains_cons, List.contains_nil]
    have g := fun x : UInt8 => @eq_comm _ x c
    have g' := fun x : UInt8 => @eq_comm _ x d
    by_cases h0 : c = 58
    · subst h0
      by_cases k0 : d = 61
      · subst k0; simp
      · simp [k0, g']
    by_cases h1 : c = 60
    · subst h1
      by_cases k0 : d = 61
      · subst k0; simp
      by_cases k1 : d = 62
      · subst k1; simp
      · simp [k0, k1, g']
    by_cases h2 : c = 62
    · subst h2
      by_cases k0 : d = 61
      · subst k0; simp
      · simp [k0, g']
    by_cases h3 : c = 61
    · subst h3; simp
    by_cases h4 : c = 43
    · subst h4; simp
    by_cases h5 : c = 45
    · subst h5; simp
    by_cases h6 : c = 42
    · subst h6; simp
    by_cases h7 : c = 40
    · subst h7; simp
    by_cases h8 : c = 41
    · subst h8; simp
    by_cases h9 : c = 44
    · subst h9; simp
    by_cases h10 : c = 59
    · subst h10; simp
    simp [h0, h1, h2, h3, h4, h5, h6, h7, h8, h9, h10, g]
/-- The table of signs, as its text lays it. -/
def Sg (w : World) : Prop := SrR w 2 sgB
theorem Sg.below {B : Nat} {w w' : World} (h : Sg w) (hb : Below B w w') (hB : w.heap.size ≤ B) : Sg w' := fun j hj => cell_below hb hB (h j hj)
def sgV : Array Value := (sgB.map Value.string).toArray
theorem sg_index : ∀ (k : Nat), k < 14 → ∃ X : ByteArray, Lx.signs.drop k = X.data.toList :: Lx.signs.drop (k + 1) ∧ ∀ w, (Instr.index 278 (.agg sgV) (.int .i64 (k : Int))).run Tryz.prog w = .ok (.string X) w
  | 0, _ => ⟨⟨#[58, 61]⟩, rfl, fun w => by show _ = _; kernel_rfl⟩
  | 1, _ => ⟨⟨#[60, 62]⟩, rfl, fun w => by show _ = _; kernel_rfl⟩
  | 2, _ => ⟨⟨#[60, 61]⟩, rfl, fun w => by show _ = _; kernel_rfl⟩
  | 3, _ => ⟨⟨#[62, 61]⟩, rfl, fun w => by show _ = _; kernel_rfl⟩
  | 4, _ => ⟨⟨#[60]⟩, rfl, fun w => by show _ = _; kernel_rfl⟩
  | 5, _ => ⟨⟨#[62]⟩, rfl, fun w => by show _ = _; kernel_rfl⟩
  | 6, _ => ⟨⟨#[61]⟩, rfl, fun w => by show _ = _; kernel_rfl⟩
  | 7, _ => ⟨⟨#[43]⟩, rfl, fun w => by show _ = _; kernel_rfl⟩
  | 8, _ => ⟨⟨#[45]⟩, rfl, fun w => by show _ = _; kernel_rfl⟩
  | 9, _ => ⟨⟨#[42]⟩, rfl, fun w => by show _ = _; kernel_rfl⟩
  | 10, _ => ⟨⟨#[40]⟩, rfl, fun w => by show _ = _; kernel_rfl⟩
  | 11, _ => ⟨⟨#[41]⟩, rfl, fun w => by show _ = _; kernel_rfl⟩
  | 12, _ => ⟨⟨#[44]⟩, rfl, fun w => by show _ = _; kernel_rfl⟩
  | 13, _ => ⟨⟨#[59]⟩, rfl, fun w => by show _ = _; kernel_rfl⟩
  | k + 14, h => absurd h (by omega)
set_option maxHeartbeats 2000000 in
set_option maxRecDepth 100000 in
theorem sign_any (s : ByteArray) (w : World) (h : Sg w) :
    Calls Tryz.prog 173 #[.string s] w fun e w' => e = .returned (.int .i64 (Lx.sgn s.data.toList)) ∧ w = w' := by
  obtain ⟨R, hR⟩ : ∃ R, R = Lx.sgn s.data.toList := ⟨_, rfl⟩
  rw [← hR]
  have HR := Lib.hid (hR.trans (Lx.sgf_sgn s.data.toList).symm)
  have HX := Lib.hid sg_index
  have HP := Lib.hid (fun p => Tryz.strings_HasPrefix s p w)
  have h0 := h 0 (by decide)
  have h1 := h 1 (by decide)
  have h2 := h 2 (by decide)
  have h3 := h 3 (by decide)
  have h4 := h 4 (by decide)
  have h5 := h 5 (by decide)
  have h6 := h 6 (by decide)
  have h7 := h 7 (by decide)
  have h8 := h 8 (by decide)
  have h9 := h 9 (by decide)
  have h10 := h 10 (by decide)
  have h11 := h 11 (by decide)
  have h12 := h 12 (by decide)
  have h13 := h 13 (by decide)
  simp only [sgB, List.getElem_cons_zero, List.getElem_cons_succ] at h0 h1 h2 h3 h4 h5 h6 h7 h8 h9 h10 h11 h12 h13
  simp only [sgV, sgB, List.map_cons, List.map_nil] at HX
  clear h hR
  go_enter Tryz.func173, Tryz.ntmps173
  go_wp2
  go_loop [6] (fun i => ∃ k : Nat, i = .int .i64 k ∧ k ≤ 14 ∧ Hid (R = Lx.sgf s.data.toList (Lx.signs.drop k))) (fun i => 14 - (intOf i).toNat)
  case atStart => exact ⟨0, rfl, Nat.zero_le _, Lib.hid HR.out⟩
  case round =>
    obtain ⟨k, rfl, hk, HI⟩ := hrel
    by_cases hlt : k < 14
    · have hlt' : (k : Int) < 14 := by omega
      obtain ⟨X, hX, hix⟩ := HX.out k hlt
      replace hix := hix w
      have HPk := Lib.hid (HP.out X)
      have HS := Lib.hid (show R = (if Lib.hasPrefix s.data.toList X.data.toList then X.size else Lx.sgf s.data.toList (Lx.signs.drop (k + 1))) by
        rw [HI.out, hX, Lx.sgf, ← Lib.size_eq])
      clear hX
      cases hp : Lib.hasPrefix s.data.toList X.data.toList with
      | true =>
        rw [hp] at HPk HS
        have HE := Lib.hid (show R = X.size by rw [HS.out, if_pos rfl])
        clear HS HI hp
        go_wp2_with fail
        refine HPk.out.mono ?_
        rintro e w1 ⟨rfl, rfl⟩
        go_wp2
        go_ret
        exact ⟨ret_int (by rw [HE.out]), rfl⟩
      | false =>
        rw [hp] at HPk HS
        have HE := Lib.hid (show R = Lx.sgf s.data.toList (Lx.signs.drop (k + 1)) by rw [HS.out, if_neg (by decide)])
        clear HS HI hp
        go_wp2_with fail
        refine HPk.out.mono ?_
        rintro e w1 ⟨rfl, rfl⟩
        go_wp2
        go_round
        case rel => exact ⟨k + 1, by go_num, hlt, HE⟩
        case measure => simp [intOf]; omega
    · obtain rfl : k = 14 := by omega
      have HE := Lib.hid (show R = 0 by rw [HI.out]; rfl)
      clear hlt
      go_wp2
      go_ret
      exact ⟨ret_int (by rw [HE.out]; rfl), rfl⟩
set_option maxHeartbeats 4000000 in
set_option maxRecDepth 100000 in
theorem isWord_any (s : ByteArray) (w : World) :
    Calls Tryz.prog 174 #[.string s] w fun e w' => e = .returned (.bool (Lx.words.contains s.data.toList)) ∧ w = w' := by
  obtain ⟨R, hR⟩ : ∃ R, R = Lx.words.contains s.data.toList := ⟨_, rfl⟩
  rw [← hR]
  rw [← Lib.toList_data] at hR
  have HR := Lib.hid hR
  clear hR
  go_enter Tryz.func174, Tryz.ntmps174
  go_wp2
  all_goals go_ret
  all_goals refine ⟨ret_bool ?_, rfl⟩
  all_goals first
    | (exfalso; simp_all; done)
    | (rw [HR.out]; simp only [Lx.words, List.contains_cons, List.contains_nil]; simp_all)
end Go.Proofs.YtdcjpinbflmikaaGreatDoor
