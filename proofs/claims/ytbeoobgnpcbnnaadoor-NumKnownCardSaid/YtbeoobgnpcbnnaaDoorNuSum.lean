/- Sum of package num, and of layer 6's reference, walked. Conditions: the row reads so; its numbers are of 64 bits; its length fits. -/
import Derived.Test.YtbeoobgnpcbnnaaDoorNuRef
namespace Go.Proofs.YtbeoobgnpcbnnaaDoor
open Go.RowKit

/-- A row of numbers lies in memory. -/
def RzI (w : World) (A : Option Addr) (l : List Int) : Prop := ∀ j (hj : j < l.length), ∃ g o, A = some ⟨g, o, none⟩ ∧ g < w.heap.size ∧ w.cell? ⟨g, o + j, none⟩ = some (.int .i64 l[j])
theorem RzI.below {w w' : World} {A : Option Addr} {l : List Int} (h : RzI w A l) (hb : Below w.heap.size w w') : RzI w' A l := fun j hj => by
  obtain ⟨g, o, h1, h2, h3⟩ := h j hj
  exact ⟨g, o, h1, Nat.lt_of_lt_of_le h2 hb.size, by rw [hb.cell (p := ⟨g, o + j, none⟩) h2]; exact h3⟩
/-- What Sum tells. -/
def Nu.sumz (n : Int) : List Int → Int × Int
  | [] => (n, 0)
  | a :: l => if Nu.fits (n + a) then Nu.sumz (n + a) l else (0, 60)
theorem Nu.sumz_drop {l : List Int} {k : Nat} (hk : k < l.length) (n : Int) : Nu.sumz n (l.drop k) = if Nu.fits (n + l[k]) then Nu.sumz (n + l[k]) (l.drop (k + 1)) else (0, 60) := by
  rw [List.drop_eq_getElem_cons hk]; rfl
set_option maxHeartbeats 2000000 in
set_option maxRecDepth 100000 in
theorem sum_any (w : World) (A : Option Addr) (c : Nat) (l : List Int) (hc : l.length ≤ 1000000000) (h : RzI w A l) (hf : ∀ a ∈ l, Nu.fits a) :
    Calls Tryd.prog 21 #[.slice A l.length c] w fun e w' => e = .returned (tv (Nu.sumz 0 l)) ∧ w = w' := by
  have H := Lib.hid h
  have HF := Lib.hid (fun (k : Nat) (hk : k < l.length) => hf _ (List.getElem_mem hk))
  obtain ⟨R, hR⟩ : ∃ R, R = Nu.sumz 0 l := ⟨_, rfl⟩
  rw [← hR]
  have H0 := Lib.hid (show R = Nu.sumz 0 (l.drop 0) from hR)
  have HAD := Lib.hid (fun (n : Int) (hn : Nu.fits n) (k : Nat) (hk : k < l.length) => add_any n l[k] w hn (hf _ (List.getElem_mem hk)))
  clear h hf hR
  go_enter Tryd.func21, Tryd.ntmps21
  go_wp2
  go_loop [4, 11] (fun nv iv => ∃ (k : Nat) (n : Int), nv = .int .i64 n ∧ iv = .int .i64 k ∧ k ≤ l.length ∧ Hid (Nu.fits n ∧ R = Nu.sumz n (l.drop k))) (fun _ iv => l.length - (intOf iv).toNat)
  case atStart => exact ⟨0, 0, rfl, rfl, Nat.zero_le _, Lib.hid ⟨by unfold Nu.fits; omega, H0.out⟩⟩
  case round =>
    obtain ⟨k, n, rfl, rfl, hk, HI⟩ := hrel
    by_cases hlt : k < l.length
    · have hlt' : (k : Int) < (l.length : Int) := by omega
      obtain ⟨g, o, hA, hg, hcell⟩ := H.out k hlt
      subst hA
      have HC := Lib.hid (HAD.out n HI.out.1 k hlt)
      have HS := Lib.hid (Nu.sumz_drop hlt n)
      have HL := Lib.hid hlt
      generalize l[k] = a at *
      clear hlt
      by_cases hfa : Nu.fits (n + a)
      · rw [Nu.tell_in hfa] at HC
        rw [if_pos hfa] at HS
        have HFA := Lib.hid hfa
        clear hfa
        unfold tv at HC
        go_wp2_with fail
        refine HC.out.mono ?_
        rintro e w1 ⟨rfl, rfl⟩
        go_wp2
        go_round
        case rel => exact ⟨k + 1, n + a, rfl, by go_num, HL.out, Lib.hid ⟨HFA.out, HI.out.2.trans HS.out⟩⟩
        case measure => have := HL.out; simp [intOf]; omega
      · rw [Nu.tell_out hfa] at HC
        rw [if_neg hfa] at HS
        clear hfa
        unfold tv at HC
        have HE := Lib.hid (HI.out.2.trans HS.out)
        go_wp2_with fail
        refine HC.out.mono ?_
        rintro e w1 ⟨rfl, rfl⟩
        go_wp2
        go_ret2
        exact ⟨by rw [HE.out]; rfl, rfl⟩
    · obtain rfl : k = l.length := by omega
      have HE := Lib.hid (show R = (n, 0) from HI.out.2.trans (by rw [List.drop_length]; rfl))
      have hlt' : ¬ ((l.length : Nat) : Int) < (l.length : Int) := by omega
      clear hlt
      go_wp2
      go_ret2
      exact ⟨by rw [HE.out]; rfl, rfl⟩

set_option maxHeartbeats 2000000 in
set_option maxRecDepth 100000 in
theorem rsum_any (w : World) (A : Option Addr) (c : Nat) (l : List Int) (hc : l.length ≤ 1000000000) (h : RzI w A l) (hf : ∀ a ∈ l, Nu.fits a) :
    Calls Tryd.prog 22 #[.slice A l.length c] w fun e w' => e = .returned (tv (Nu.sumz 0 l)) ∧ Below w.heap.size w w' := by
  have H := Lib.hid h
  obtain ⟨R, hR⟩ : ∃ R, R = Nu.sumz 0 l := ⟨_, rfl⟩
  rw [← hR]
  have H0 := Lib.hid (show R = Nu.sumz 0 (l.drop 0) from hR)
  have HAD := Lib.hid (fun (w1 : World) (n : Int) (hn : Nu.fits n) (k : Nat) (hk : k < l.length) => radd_any n l[k] w1 hn (hf _ (List.getElem_mem hk)))
  clear h hf hR
  go_enter Tryd.func22, Tryd.ntmps22
  go_wp2
  go_loopw [4, 5] (fun nv iv wr => ∃ (k : Nat) (n : Int), nv = .int .i64 n ∧ iv = .int .i64 k ∧ k ≤ l.length ∧ Hid (Nu.fits n ∧ R = Nu.sumz n (l.drop k) ∧ Below w.heap.size w wr)) (fun _ iv _ => l.length - (intOf iv).toNat)
  case atStart => exact ⟨0, 0, rfl, rfl, Nat.zero_le _, Lib.hid ⟨by unfold Nu.fits; omega, H0.out, Below.refl _ _⟩⟩
  case round =>
    obtain ⟨k, n, rfl, rfl, hk, HI⟩ := hrel
    by_cases hlt : k < l.length
    · have hlt' : (k : Int) < (l.length : Int) := by omega
      obtain ⟨g, o, hA, hg, hcell⟩ := (H.out.below HI.out.2.2) k hlt
      subst hA
      have HC := Lib.hid (HAD.out wr n HI.out.1 k hlt)
      have HS := Lib.hid (Nu.sumz_drop hlt n)
      have HL := Lib.hid hlt
      generalize l[k] = a at *
      clear hlt
      by_cases hfa : Nu.fits (n + a)
      · rw [Nu.tell_in hfa] at HC
        rw [if_pos hfa] at HS
        have HFA := Lib.hid hfa
        clear hfa
        unfold tv at HC
        go_wp2_with fail
        refine HC.out.mono ?_
        rintro e w1 ⟨rfl, h1⟩
        have HB := Lib.hid (HI.out.2.2.trans (h1.mono HI.out.2.2.size))
        clear h1
        go_wp2
        go_roundw
        case rel => exact ⟨k + 1, n + a, rfl, by go_num, HL.out, Lib.hid ⟨HFA.out, HI.out.2.1.trans HS.out, HB.out⟩⟩
        case measure => have := HL.out; simp [intOf]; omega
      · rw [Nu.tell_out hfa] at HC
        rw [if_neg hfa] at HS
        clear hfa
        unfold tv at HC
        have HE := Lib.hid (HI.out.2.1.trans HS.out)
        go_wp2_with fail
        refine HC.out.mono ?_
        rintro e w1 ⟨rfl, h1⟩
        have HB := Lib.hid (HI.out.2.2.trans (h1.mono HI.out.2.2.size))
        clear h1
        go_wp2
        go_ret2
        exact ⟨by rw [HE.out]; rfl, HB.out⟩
    · obtain rfl : k = l.length := by omega
      have HE := Lib.hid (show R = (n, 0) from HI.out.2.1.trans (by rw [List.drop_length]; rfl))
      have hlt' : ¬ ((l.length : Nat) : Int) < (l.length : Int) := by omega
      have HB := Lib.hid HI.out.2.2
      clear hlt
      go_wp2
      go_ret2
      exact ⟨by rw [HE.out]; rfl, HB.out⟩
end Go.Proofs.YtbeoobgnpcbnnaaDoor
