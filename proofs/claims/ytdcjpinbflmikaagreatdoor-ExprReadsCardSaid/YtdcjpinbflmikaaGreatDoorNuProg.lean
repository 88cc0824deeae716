/- The functions of package num that reckon, walked: each does, of every two numbers of 64 bits, what the plain facts tell, and turns nothing that was there. -/
import Derived.Test.YtdcjpinbflmikaaGreatDoorShelf
import Derived.Test.YtdcjpinbflmikaaGreatDoorNuPlain
import Derived.WalkKit
import Derived.WalkLawsBesides
import Derived.Outline
import Derived.Handy
import Derived.Lib.OthersKept
import Derived.Lib.Hide
import Derived.WalkSmall
import Derived.Deep.DeepFit
import Derived.Deep.QuietTactic
import Derived.BigQuiet
import Derived.WalkSpells
import Derived.IntWalk
namespace Go.Proofs.YtdcjpinbflmikaaGreatDoor
open Go.RowKit

def tv (p : Int × Int) : Value := .tuple #[.int .i64 p.1, .int .i64 p.2]

set_option maxHeartbeats 1000000 in
theorem add_any (a b : Int) (w : World) (ha : Nu.fits a) (hb : Nu.fits b) :
    Calls Tryz.prog 130 #[.int .i64 a, .int .i64 b] w fun e w' => e = .returned (tv (Nu.tell (a + b))) ∧ w = w' := by
  by_cases h : Nu.fits (a + b)
  · rw [Nu.tell_in h]
    have ht : (decide (a < a + b) == decide (0 < b)) = true := Nu.add_in
    unfold Nu.fits at h ha hb
    go_enter Tryz.func130, Tryz.ntmps130
    go_wp2
    go_ret2
    exact ⟨rfl, rfl⟩
  · rw [Nu.tell_out h]
    have ht : (decide (a < wrap64 (a + b)) == decide (0 < b)) = false := by rw [← IntWalk.i64_left]; exact Nu.add_out ha hb h
    unfold Nu.fits at h ha hb
    go_enter Tryz.func130, Tryz.ntmps130
    go_wp2
    go_ret2
    exact ⟨rfl, rfl⟩

set_option maxHeartbeats 1000000 in
theorem sub_any (a b : Int) (w : World) (ha : Nu.fits a) (hb : Nu.fits b) :
    Calls Tryz.prog 132 #[.int .i64 a, .int .i64 b] w fun e w' => e = .returned (tv (Nu.tell (a - b))) ∧ w = w' := by
  by_cases h : Nu.fits (a - b)
  · rw [Nu.tell_in h]
    have ht : (decide (a - b < a) == decide (0 < b)) = true := Nu.sub_in
    unfold Nu.fits at h ha hb
    go_enter Tryz.func132, Tryz.ntmps132
    go_wp2
    go_ret2
    exact ⟨rfl, rfl⟩
  · rw [Nu.tell_out h]
    have ht : (decide (wrap64 (a - b) < a) == decide (0 < b)) = false := by rw [← IntWalk.i64_left]; exact Nu.sub_out ha hb h
    unfold Nu.fits at h ha hb
    go_enter Tryz.func132, Tryz.ntmps132
    go_wp2
    go_ret2
    exact ⟨rfl, rfl⟩

set_option maxHeartbeats 1000000 in
theorem neg_any (a : Int) (w : World) (ha : Nu.fits a) :
    Calls Tryz.prog 189 #[.int .i64 a] w fun e w' => e = .returned (tv (Nu.tell (-a))) ∧ w = w' := by
  have HS := Lib.hid (sub_any 0 a w (by unfold Nu.fits; omega) ha)
  rw [show (0 : Int) - a = -a by omega] at HS
  generalize Nu.tell (-a) = p at *
  obtain ⟨x, y⟩ := p
  unfold tv at *
  go_enter Tryz.func189, Tryz.ntmps189
  go_wp2_with fail
  refine HS.out.mono ?_
  rintro e w1 ⟨rfl, rfl⟩
  go_wp2
  go_ret2
  exact ⟨rfl, rfl⟩

/-- What Div tells. -/
def Nu.div (a b : Int) : Int × Int := if b = 0 then (0, 61) else Nu.tell (a.tdiv b)
def Nu.mod (a b : Int) : Int × Int := if b = 0 then (0, 61) else Nu.tell (a.tmod b)
set_option maxHeartbeats 1000000 in
theorem div_any (a b : Int) (w : World) (ha : Nu.fits a) (hb : Nu.fits b) :
    Calls Tryz.prog 126 #[.int .i64 a, .int .i64 b] w fun e w' => e = .returned (tv (Nu.div a b)) ∧ w = w' := by
  by_cases h0 : b = 0
  · subst h0
    unfold Nu.div
    rw [if_pos rfl]
    go_enter Tryz.func126, Tryz.ntmps126
    go_wp2
    go_ret2
    exact ⟨rfl, rfl⟩
  · unfold Nu.div
    rw [if_neg h0]
    by_cases h1 : b = -1
    · subst h1
      rw [Nu.neg_one]
      have HN := Lib.hid (neg_any a w ha)
      generalize Nu.tell (-a) = p at *
      obtain ⟨x, y⟩ := p
      unfold tv at *
      go_enter Tryz.func126, Tryz.ntmps126
      go_wp2_with fail
      refine HN.out.mono ?_
      rintro e w1 ⟨rfl, rfl⟩
      go_wp2
      go_ret2
      exact ⟨rfl, rfl⟩
    · rw [Nu.tell_in (Nu.tdiv_fits ha h0 h1)]
      have hf := Nu.tdiv_fits ha h0 h1
      have hw := Nu.wrap_of hf
      unfold Nu.fits at hf
      generalize hq : a.tdiv b = q at *
      go_enter Tryz.func126, Tryz.ntmps126
      go_wp2
      go_ret2
      exact ⟨rfl, rfl⟩

set_option maxHeartbeats 1000000 in
theorem mod_any (a b : Int) (w : World) (hb : Nu.fits b) :
    Calls Tryz.prog 128 #[.int .i64 a, .int .i64 b] w fun e w' => e = .returned (tv (Nu.mod a b)) ∧ w = w' := by
  by_cases h0 : b = 0
  · subst h0
    unfold Nu.mod
    rw [if_pos rfl]
    go_enter Tryz.func128, Tryz.ntmps128
    go_wp2
    go_ret2
    exact ⟨rfl, rfl⟩
  · unfold Nu.mod
    rw [if_neg h0, Nu.tell_in (Nu.tmod_fits hb h0)]
    go_enter Tryz.func128, Tryz.ntmps128
    go_wp2
    go_ret2
    exact ⟨rfl, rfl⟩
set_option maxHeartbeats 1000000 in
theorem mul_any (a b : Int) (w : World) (ha : Nu.fits a) (hb : Nu.fits b) :
    Calls Tryz.prog 124 #[.int .i64 a, .int .i64 b] w fun e w' => e = .returned (tv (Nu.tell (a * b))) ∧ w = w' := by
  by_cases h0 : b = 0
  · subst h0
    rw [show a * 0 = 0 by omega, Nu.tell_in (by unfold Nu.fits; omega)]
    go_enter Tryz.func124, Tryz.ntmps124
    go_wp2
    go_ret2
    exact ⟨rfl, rfl⟩
  · have HD := Lib.hid (div_any (IntKind.i64.wrap (a * b)) b w (Nu.wrap_fits _) hb)
    unfold Nu.div at HD
    rw [if_neg h0] at HD
    by_cases h : Nu.fits (a * b)
    · rw [Nu.tell_in h]
      rw [Nu.wrap_of h, Nu.mul_back_in h0, Nu.tell_in ha] at HD
      have hw := Nu.wrap_of h
      generalize hp : a * b = p at *
      unfold tv at *
      go_enter Tryz.func124, Tryz.ntmps124
      go_wp2_with fail
      refine HD.out.mono ?_
      rintro e w1 ⟨rfl, rfl⟩
      go_wp2
      go_ret2
      exact ⟨rfl, rfl⟩
    · rw [Nu.tell_out h]
      have hne : (Nu.tell ((IntKind.i64.wrap (a * b)).tdiv b)).2 ≠ 0 ∨ (Nu.tell ((IntKind.i64.wrap (a * b)).tdiv b)).1 ≠ a := by
        by_cases hf : Nu.fits ((IntKind.i64.wrap (a * b)).tdiv b)
        · rw [Nu.tell_in hf]; exact Or.inr (Nu.mul_back_out hb h0 h)
        · rw [Nu.tell_out hf]; exact Or.inl (by decide)
      generalize Nu.tell ((IntKind.i64.wrap (a * b)).tdiv b) = p at *
      obtain ⟨x, y⟩ := p
      unfold tv at *
      simp only at HD hne
      have HD := HD
      rw [IntWalk.i64_left] at HD
      generalize hp : wrap64 (a * b) = p at *
      rcases hne with hne | hne
      ·
        go_enter Tryz.func124, Tryz.ntmps124
        go_wp2_with fail
        refine HD.out.mono ?_
        rintro e w1 ⟨rfl, rfl⟩
        go_wp2
        go_ret2
        exact ⟨rfl, rfl⟩
      · by_cases hy : y = 0
        · subst hy
          go_enter Tryz.func124, Tryz.ntmps124
          go_wp2_with fail
          refine HD.out.mono ?_
          rintro e w1 ⟨rfl, rfl⟩
          go_wp2
          go_ret2
          exact ⟨rfl, rfl⟩
        ·
          go_enter Tryz.func124, Tryz.ntmps124
          go_wp2_with fail
          refine HD.out.mono ?_
          rintro e w1 ⟨rfl, rfl⟩
          go_wp2
          go_ret2
          exact ⟨rfl, rfl⟩
end Go.Proofs.YtdcjpinbflmikaaGreatDoor
