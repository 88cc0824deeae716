/- The statements' works of layer 4, walked: it answers true. Conditions: the tables hold what their texts lay; internal/bytealg.MaxLen holds a number. -/
import Derived.Test.YthncfhakbobkkaaGreatDoorTkTok
namespace Go.Proofs.YthncfhakbobkkaaGreatDoor
open Go.RowKit

theorem own_cell {w : World} {B : Nat} {e : TypeId} {size g n cap : Nat} {xs : List Value} (h : w.ownsRow B e size (.slice (some ⟨g, 0, none⟩) n cap) n xs) {j : Nat} {u : Value} (hu : xs[j]? = some u) : w.cell? ⟨g, j, none⟩ = some u := by
  have := h.cells (g := g) rfl j u hu
  have hadd : (⟨g, 0, none⟩ : Addr).add j = ⟨g, j, none⟩ := by unfold Addr.add; split <;> simp_all
  rwa [hadd] at this
theorem map_nil_ {ps : List (Tk.T × Value)} (h : ps.map (·.1) = []) : ps = [] := List.map_eq_nil_iff.1 h
theorem map_cons_ {ps : List (Tk.T × Value)} {x : Tk.T} {l : List Tk.T} (h : ps.map (·.1) = x :: l) : ∃ a qs, ps = (x, a) :: qs ∧ qs.map (·.1) = l := by
  cases ps with
  | nil => cases h
  | cons p qs =>
    obtain ⟨y, a⟩ := p
    rw [List.map_cons] at h
    injection h with h1 h2
    subst h1
    exact ⟨a, qs, rfl, h2⟩
abbrev b1 : ByteArray := ⟨#[60, 97, 32, 120, 61, 34, 49, 34, 32, 121, 61, 39, 38, 108, 116, 59, 39, 47, 62, 98]⟩
abbrev b2 : ByteArray := ⟨#[60, 63, 120, 109, 108, 63, 62, 60, 97, 62, 116, 60, 33, 45, 45, 32, 110, 32, 45, 45, 62, 60, 47, 97, 32, 62]⟩
abbrev b3 : ByteArray := ⟨#[97, 60, 98, 32, 99, 61, 100, 62]⟩
abbrev b4 : ByteArray := ⟨#[97, 38, 98, 59]⟩
theorem toks1 : Tk.toks b1.data.toList = ([⟨3, [97], [([120], [49]), ([121], [60])], [], 0⟩, ⟨4, [], [], [98], 19⟩], 0, 0) := by kernel_rfl
theorem toks2 : Tk.toks b2.data.toList = ([⟨1, [97], [], [], 7⟩, ⟨4, [], [], [116], 10⟩, ⟨2, [97], [], [], 21⟩], 0, 0) := by kernel_rfl
theorem toks3 : Tk.toks b3.data.toList = ([], 1, 40) := by kernel_rfl
theorem toks4 : Tk.toks b4.data.toList = ([], 1, 30) := by kernel_rfl

set_option maxHeartbeats 4000000 in
set_option maxRecDepth 100000 in
theorem works_tk (w : World) (T : Tb w) (hmx : Mx w) :
    Calls Tryz.prog 8 #[] w fun e w' => e = .returned (.bool true) ∧ Below w.heap.size w w' := by
  have H1 := Lib.hid (tokens_any b1 (by decide) w T hmx)
  have H2 := Lib.hid (fun w0 (T0 : Tb w0) (M0 : Mx w0) => tokens_any b2 (by decide) w0 T0 M0)
  have H3 := Lib.hid (fun w0 (T0 : Tb w0) (M0 : Mx w0) => tokens_any b3 (by decide) w0 T0 M0)
  have H4 := Lib.hid (fun w0 (T0 : Tb w0) (M0 : Mx w0) => tokens_any b4 (by decide) w0 T0 M0)
  have HB1 := Lib.hid (fun w0 => blank_any ⟨#[32, 10]⟩ (by decide) w0)
  have HB2 := Lib.hid (fun w0 => blank_any ⟨#[97]⟩ (by decide) w0)
  rw [toks1] at H1
  rw [toks2] at H2
  rw [toks3] at H3
  rw [toks4] at H4
  rw [show Tk.allB (⟨#[32, 10]⟩ : ByteArray).data.toList = true by decide] at HB1
  rw [show Tk.allB (⟨#[97]⟩ : ByteArray).data.toList = false by decide] at HB2
  have HT := Lib.hid (And.intro T hmx)
  clear T hmx
  go_enter Tryz.func8, Tryz.ntmps8
  go_wp2_with fail
  refine H1.out.mono ?_
  rintro e w1 ⟨v1, ps1, hm1, hr1, rfl, hb1⟩
  have HX1 := Lib.hid (And.intro hm1 (And.intro hr1 hb1))
  have HT1 := Lib.hid (And.intro (HT.out.1.below hb1 (Nat.le_refl _)) (HT.out.2.below hb1))
  clear hm1 hr1 hb1
  go_wp2_with fail
  refine (H2.out _ HT1.out.1 HT1.out.2).mono ?_
  rintro e w2 ⟨v2, ps2, hm2, hr2, rfl, hb2⟩
  have HX2 := Lib.hid (And.intro hm2 (And.intro hr2 hb2))
  have HT2 := Lib.hid (And.intro (HT1.out.1.below hb2 (Nat.le_refl _)) (HT1.out.2.below hb2))
  clear hm2 hr2 hb2
  go_wp2_with fail
  refine (H3.out _ HT2.out.1 HT2.out.2).mono ?_
  rintro e w3 ⟨v3, ps3, hm3, hr3, rfl, hb3⟩
  have HX3 := Lib.hid (And.intro hm3 (And.intro hr3 hb3))
  have HT3 := Lib.hid (And.intro (HT2.out.1.below hb3 (Nat.le_refl _)) (HT2.out.2.below hb3))
  clear hm3 hr3 hb3
  go_wp2_with fail
  refine (H4.out _ HT3.out.1 HT3.out.2).mono ?_
  rintro e w4 ⟨v4, ps4, hm4, hr4, rfl, hb4⟩
  have B4 := Lib.hid (((HX1.out.2.2.trans (HX2.out.2.2.mono HX1.out.2.2.size)).trans (HX3.out.2.2.mono (Nat.le_trans HX1.out.2.2.size HX2.out.2.2.size))).trans (hb4.mono (Nat.le_trans (Nat.le_trans HX1.out.2.2.size HX2.out.2.2.size) HX3.out.2.2.size)))
  obtain ⟨a1, q1, rfl, hq1⟩ := map_cons_ HX1.out.1
  obtain ⟨a2, q2, rfl, hq2⟩ := map_cons_ hq1
  obtain rfl := map_nil_ hq2
  obtain ⟨a3, q3, rfl, hq3⟩ := map_cons_ HX2.out.1
  obtain ⟨a4, q4, rfl, hq4⟩ := map_cons_ hq3
  obtain ⟨a5, q5, rfl, hq5⟩ := map_cons_ hq4
  obtain rfl := map_nil_ hq5
  have r1 := ((HX1.out.2.1.below HX2.out.2.2).below HX3.out.2.2).below hb4
  have r2 := (HX2.out.2.1.below HX3.out.2.2).below hb4
  have o1 : w4.ownsRow w.heap.size 33 5 v1 2 _ := r1.own
  have o2 : w4.ownsRow w1.heap.size 33 5 v2 3 _ := r2.own
  have t1 : w4.ownsRow w.heap.size 38 2 a1 2 (attrV [([120], [49]), ([121], [60])]) := r1.att _ (List.mem_cons_self ..)
  clear r1 r2
  obtain ⟨g1, cp1, rfl, _, _⟩ := o1.form (by decide)
  obtain ⟨g2, cp2, rfl, _, _⟩ := o2.form (by decide)
  obtain ⟨ga, cpa, rfl, _, _⟩ := t1.form (by decide)
  have c10 := own_cell o1 (j := 0) rfl
  have c11 := own_cell o1 (j := 1) rfl
  have c12 := own_cell o1 (j := 2) rfl
  have c18 := own_cell o1 (j := 8) rfl
  have c19 := own_cell o1 (j := 9) rfl
  have d2 := own_cell t1 (j := 2) rfl
  have d3 := own_cell t1 (j := 3) rfl
  have c24 := own_cell o2 (j := 4) rfl
  have c28 := own_cell o2 (j := 8) rfl
  have c210 := own_cell o2 (j := 10) rfl
  have c214 := own_cell o2 (j := 14) rfl
  clear hq1 hq2 hq3 hq4 hq5 o1 o2 t1 hm4 hr4 hb4
  go_wp2_with fail
  refine (HB1.out _).mono ?_
  rintro e w5 ⟨rfl, h5⟩
  have B5 := Lib.hid (B4.out.trans (h5.mono B4.out.size))
  clear h5
  go_wp2_with fail
  refine (HB2.out _).mono ?_
  rintro e w6 ⟨rfl, h6⟩
  have B6 := Lib.hid (B5.out.trans (h6.mono B5.out.size))
  clear h6
  go_wp2
  go_ret
  exact ⟨rfl, B6.out⟩
end Go.Proofs.YthncfhakbobkkaaGreatDoor
