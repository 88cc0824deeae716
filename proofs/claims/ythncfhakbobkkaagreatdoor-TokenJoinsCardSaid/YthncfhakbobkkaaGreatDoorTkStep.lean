/- Words for what a call answers that reads one token of package token; text, walked. Conditions: the tables hold what their texts lay; a text's length fits (at most 1,000,000 bytes). -/
import Derived.Test.YthncfhakbobkkaaGreatDoorTkDec
namespace Go.Proofs.YthncfhakbobkkaaGreatDoor
open Go.RowKit

abbrev zT : Array Value := #[.int .u8 0, .string ⟨#[]⟩, .slice none 0 0, .string ⟨#[]⟩, .int .i64 0]
def tokC (t : Tk.T) (av : Value) (at_ : Int) : Array Value := #[.int .u8 t.k, .string ⟨t.nm.toArray⟩, av, .string ⟨t.tx.toArray⟩, .int .i64 at_]
/-- What a call answers that reads one token: its fault, or the token and how many bytes it has. -/
def StepP (S : Tk.S) (w : World) (e : Ending) (w' : World) : Prop :=
  (S.e ≠ 0 ∧ e = .returned (.tuple #[.agg zT, .int .i64 S.n, .int .i64 S.e]) ∧ Below w.heap.size w w') ∨
  (S.e = 0 ∧ ∃ t av, S.t = some t ∧ OwnT w.heap.size w' av t.as ∧ e = .returned (.tuple #[.agg (tokC t av 0), .int .i64 S.n, .int .i64 0]) ∧ Below w.heap.size w w')
theorem below_five {B : Nat} {w w' : World} {r : Nat} (h : Below B w w') (hr : B ≤ r) (a b c d e : Value) : Below B w (((((w'.setCell ⟨r, 0, none⟩ a).setCell ⟨r, 1, none⟩ b).setCell ⟨r, 2, none⟩ c).setCell ⟨r, 3, none⟩ d).setCell ⟨r, 4, none⟩ e) :=
  ((((h.setCell (p := ⟨r, 0, none⟩) hr a).setCell (p := ⟨r, 1, none⟩) hr b).setCell (p := ⟨r, 2, none⟩) hr c).setCell (p := ⟨r, 3, none⟩) hr d).setCell (p := ⟨r, 4, none⟩) hr e
theorem own_five {B : Nat} {w' : World} {r : Nat} {cs : Array Value} {v : Value} {al : List (List UInt8 × List UInt8)} (h : OwnT B w' v al) (hb : IsBlk w' r 33 cs) (a b c d e : Value) :
    OwnT B (((((w'.setCell ⟨r, 0, none⟩ a).setCell ⟨r, 1, none⟩ b).setCell ⟨r, 2, none⟩ c).setCell ⟨r, 3, none⟩ d).setCell ⟨r, 4, none⟩ e) v al := by
  have hne : v.ownBlock = none ∨ v.ownBlock ≠ some r := by
    rcases h.2 with ⟨rfl, _⟩ | ⟨g, cap, cur, rfl, _, hg, _⟩
    · exact Or.inl rfl
    · right
      intro e
      have e1 : g = r := Option.some.inj e
      subst e1
      unfold IsBlk at hb
      rw [hg] at hb
      injection hb with hb
      injection hb with _ ht
      exact absurd ht (by decide)
  have st : ∀ (w1 : World) (i : Nat) (u : Value), w1.grownBy (w1.setCell ⟨r, i, none⟩ u) (some r) := fun w1 i u => grown_set w1 r i u
  exact ((((World.ownsRow.kept h (st _ 0 a) hne).kept (st _ 1 b) hne).kept (st _ 2 c) hne).kept (st _ 3 d) hne).kept (st _ 4 e) hne

set_option maxHeartbeats 4000000 in
set_option maxRecDepth 100000 in
theorem text_any (s : ByteArray) (hs : s.size ≤ 1000000) (w : World) (T : Tb w) :
    Calls Tryz.prog 36 #[.string s] w (StepP (Tk.txt s.data.toList) w) := by
  obtain ⟨l, hl⟩ : ∃ l, l = s.data.toList := ⟨_, rfl⟩
  obtain ⟨U, hU, hC⟩ : ∃ U : ByteArray, U.data.toList = l.take (Tk.upto l) ∧ ∀ w0, Calls Tryz.prog 55 #[.string s, .string ⟨#[60]⟩] w0 fun e w' => (∃ x b, e = .returned (.tuple #[.string U, .string x, .bool b])) ∧ Below w0.heap.size w0 w' := by
    rcases En.idx_cases l 60 with h | ⟨j, h⟩
    · refine ⟨s, ?_, fun w0 => (cut1_miss s 60 w0 (by rw [← hl]; exact h)).mono fun e w' he => ⟨⟨_, _, he.1⟩, by rw [← he.2]; exact Below.refl _ _⟩⟩
      unfold Tk.upto; rw [if_pos h, List.take_length, hl]
    · have hj := En.idx_lt h
      refine ⟨s.extract 0 j, ?_, fun w0 => (cut1_hit s 60 w0 j (by rw [← hl]; exact h) (by rw [hl, ← Lib.size_eq] at hj; omega) (by unfold maxLen; omega)).mono fun e w' he => ⟨⟨_, _, he.1⟩, he.2⟩⟩
      unfold Tk.upto; rw [if_neg (by omega), h, take_data, hl]; simp
  have hUs : U.size = Tk.upto l := by rw [Lib.size_eq, hU, List.length_take]; have := Tk.upto_le l; omega
  have hUl : U.size ≤ 1000000 := by rw [hUs]; have := Tk.upto_le l; rw [hl, ← Lib.size_eq] at this; rw [hl]; omega
  have HD := Lib.hid (fun w0 (T0 : Tb w0) => decode_ent U (by omega) w0 T0)
  unfold tup3 at HD
  rw [hU] at HD
  have HC := Lib.hid hC
  have T0 := T.below ((Below.refl _ _).alloc (Nat.le_refl _) (.cells zT 33)) (Nat.le_refl _)
  have HT := Lib.hid T0
  have HB0 := Lib.hid (IsBlk.new w 33 zT)
  rw [← hl]
  obtain ⟨S, hS⟩ : ∃ S, S = Tk.txt l := ⟨_, rfl⟩
  rw [← hS]
  unfold Tk.txt at hS
  rw [← hUs] at hS HD
  generalize En.rep En.dF (l.take U.size) = X at *
  obtain ⟨x, z, E⟩ := X
  simp only at hS HD
  by_cases hE : E = 0
  · subst hE
    rw [if_neg (by simp)] at hS
    have HS := Lib.hid hS
    clear hS hl hU hUs hC T0 T
    go_enter Tryz.func36, Tryz.ntmps36
    go_wp2_with fail
    refine (HC.out _).mono ?_
    rintro e w1 ⟨⟨y, b, rfl⟩, h1⟩
    have T1 := HT.out.below h1 (Nat.le_refl _)
    go_wp2_with fail
    refine (HD.out _ T1).mono ?_
    rintro e w2 ⟨rfl, h2⟩
    have b2 := h1.trans (h2.mono h1.size)
    have kb := HB0.out.below b2 (by simp)
    have B2 := Lib.hid (show Below w.heap.size w w2 from ((Below.refl _ _).alloc (Nat.le_refl _) _).trans (b2.mono (by simp)))
    have KB := Lib.hid kb
    clear T1 h1 h2 b2
    have k0 : w2.cell? ⟨w.heap.size, 0, none⟩ = some (.int .u8 0) := kb.at_ 0
    have k1 : w2.cell? ⟨w.heap.size, 1, none⟩ = some (.string ⟨#[]⟩) := kb.at_ 1
    have k2 : w2.cell? ⟨w.heap.size, 2, none⟩ = some (.slice none 0 0) := kb.at_ 2
    have k3 : w2.cell? ⟨w.heap.size, 3, none⟩ = some (.string ⟨#[]⟩) := kb.at_ 3
    have k4 : w2.cell? ⟨w.heap.size, 4, none⟩ = some (.int .i64 0) := kb.at_ 4
    have f0 := kb.fz 0
    have f1 := kb.fz 1
    have f2 := kb.fz 2
    have f3 := kb.fz 3
    have f4 := kb.fz 4
    clear kb
    go_wp2
    exact bodyPost_ret (v := .tuple #[.agg #[.int .u8 4, .string ⟨#[]⟩, .slice none 0 0, .string ⟨x.toArray⟩, .int .i64 0], .int .i64 (U.size : Int), .int .i64 0]) (by simp [results, Tryz.results36, go_sem, k0, k1, k2, k3, k4]) rfl (Or.inr ⟨by rw [HS.out], ⟨4, [], [], x, 0⟩, .slice none 0 0, by rw [HS.out], World.ownsRow_nil _ _ _ _, by rw [HS.out]; rfl, below_five B2.out (Nat.le_refl _) _ _ _ _ _⟩)
  · rw [if_pos hE] at hS
    have HS := Lib.hid hS
    have HEN := Lib.hid hE
    have hE' : (E == 0) = false := beq_eq_false_iff_ne.2 hE
    clear hS hl hU hUs hC T0 T hE
    go_enter Tryz.func36, Tryz.ntmps36
    go_wp2_with fail
    refine (HC.out _).mono ?_
    rintro e w1 ⟨⟨y, b, rfl⟩, h1⟩
    have T1 := HT.out.below h1 (Nat.le_refl _)
    go_wp2_with fail
    refine (HD.out _ T1).mono ?_
    rintro e w2 ⟨rfl, h2⟩
    have b2 := h1.trans (h2.mono h1.size)
    have kb := HB0.out.below b2 (by simp)
    have B2 := Lib.hid (show Below w.heap.size w w2 from ((Below.refl _ _).alloc (Nat.le_refl _) _).trans (b2.mono (by simp)))
    clear T1 h1 h2 b2
    have k0 : w2.cell? ⟨w.heap.size, 0, none⟩ = some (.int .u8 0) := kb.at_ 0
    have k1 : w2.cell? ⟨w.heap.size, 1, none⟩ = some (.string ⟨#[]⟩) := kb.at_ 1
    have k2 : w2.cell? ⟨w.heap.size, 2, none⟩ = some (.slice none 0 0) := kb.at_ 2
    have k3 : w2.cell? ⟨w.heap.size, 3, none⟩ = some (.string ⟨#[]⟩) := kb.at_ 3
    have k4 : w2.cell? ⟨w.heap.size, 4, none⟩ = some (.int .i64 0) := kb.at_ 4
    have f0 := kb.fz 0
    have f1 := kb.fz 1
    have f2 := kb.fz 2
    have f3 := kb.fz 3
    have f4 := kb.fz 4
    clear kb
    go_wp2
    exact bodyPost_ret (v := .tuple #[.agg zT, .int .i64 (z : Int), .int .i64 E]) (by simp [results, Tryz.results36, go_sem, k0, k1, k2, k3, k4]) rfl (Or.inl ⟨by rw [HS.out]; exact HEN.out, by rw [HS.out]; rfl, below_five B2.out (Nat.le_refl _) _ _ _ _ _⟩)
end Go.Proofs.YthncfhakbobkkaaGreatDoor
