/- The closed statement NameKnown, walked: it answers true. No condition. -/
import Derived.Test.YtgccffhnblhopaaNmBack
namespace Go.Proofs.Ytgccffhnblhopaa
open Go.RowKit

theorem size_app (a b : ByteArray) : (a ++ b).size = a.size + b.size := ByteArray.size_append
/-- A row of short texts. -/
def Texts (w : World) (b n : Nat) : Prop := ∀ j, j < n → ∃ x : ByteArray, x.size ≤ 300 ∧ w.cell? ⟨b, j, none⟩ = some (.string x)

theorem block_lt {w : World} {a : Addr} {v : Value} (hc : w.cell? a = some v) : a.block < w.heap.size := by
  rcases Nat.lt_or_ge a.block w.heap.size with h | h
  · exact h
  · simp [World.cell?, Array.getElem?_eq_none h] at hc
theorem cell_below {B : Nat} {w w' : World} (hb : Below B w w') (hB : w.heap.size ≤ B) {a : Addr} {v : Value} (hc : w.cell? a = some v) : w'.cell? a = some v := by
  rw [hb.cell (Nat.lt_of_lt_of_le (block_lt hc) hB)]; exact hc
theorem Texts.below {w w' : World} {b n : Nat} (h : Texts w b n) (hb : Below w.heap.size w w') : Texts w' b n := fun j hj => by
  obtain ⟨x, h1, h2⟩ := h j hj
  exact ⟨x, h1, cell_below hb (Nat.le_refl _) h2⟩
theorem texts_of (w : World) (t : TypeId) (xs : List ByteArray) (h : ∀ x ∈ xs, x.size ≤ 300) : Texts (w.alloc (.cells (xs.map Value.string).toArray t)) w.heap.size xs.length := fun j hj => by
  refine ⟨xs[j], h _ (List.getElem_mem _), str_cell _ _ _ j ?_⟩
  rw [List.getElem?_toArray, List.getElem?_map, List.getElem?_eq_getElem hj]; rfl
def nine (a : Int) : List ByteArray := [⟨#[toB a]⟩, ⟨#[toB a]⟩ ++ ⟨#[97]⟩, ⟨#[97]⟩ ++ ⟨#[toB a]⟩, ⟨#[97]⟩ ++ ⟨#[toB a]⟩ ++ ⟨#[98]⟩, ⟨#[97, 58]⟩ ++ ⟨#[toB a]⟩, ⟨#[toB a]⟩ ++ ⟨#[58, 97]⟩, ⟨#[97, 58, 98]⟩ ++ ⟨#[toB a]⟩, ⟨#[97, 58, 98]⟩ ++ ⟨#[toB a]⟩ ++ ⟨#[99]⟩, ⟨#[toB a]⟩ ++ ⟨#[toB a]⟩]
theorem nine_size (a : Int) : ∀ x ∈ nine a, x.size ≤ 300 := by
  intro x hx
  have h1 : (ByteArray.mk #[toB a]).size = 1 := rfl
  simp only [nine, List.mem_cons, List.not_mem_nil, or_false] at hx
  rcases hx with rfl | rfl | rfl | rfl | rfl | rfl | rfl | rfl | rfl
  all_goals
    simp only [size_app, h1]
    try decide

set_option maxHeartbeats 2000000 in
set_option maxRecDepth 100000 in
theorem lawKnown (w : World) :
    Calls Try.prog 6 #[] w fun e w' => e = .returned (.bool true) ∧ Below w.heap.size w w' := by
  have k1 := conv1
  have W := Lib.hid works_any
  have HS := Lib.hid (fun x w0 h => lawSplits x w0 (size_lit x h))
  have HB := Lib.hid (fun x w0 h => lawBegins x w0 (size_lit x h))
  have HK := Lib.hid (fun x y c w0 h h' a b => lawBack x y c w0 (size_lit x h) (size_lit y h') a b)
  go_enter Try.func6, Try.ntmps6
  go_wp2
  go_loopw [1] (fun v wr => ∃ a : Nat, v = .int .i64 a ∧ a ≤ 256 ∧ Below w.heap.size w wr) (fun v _ => 256 - (intOf v).toNat)
  case atStart => exact ⟨0, rfl, by omega, Below.refl _ _⟩
  case round =>
    obtain ⟨a, rfl, ha, hbw⟩ := hrel
    by_cases hlt : a < 256
    · have hlt' : (a : Int) < 256 := by omega
      have hA : Texts ((wr.alloc (.cells #[.int .u8 a] 5)).alloc (.cells ((nine a).map Value.string).toArray 9)) (wr.alloc (.cells #[.int .u8 a] 5)).heap.size 9 := texts_of _ _ _ (nine_size a)
      rw [show (wr.alloc (.cells #[.int .u8 a] 5)).heap.size = wr.heap.size + 1 by simp] at hA
      have hbA := hbw.trans ((((Below.refl wr.heap.size wr).alloc (Nat.le_refl _) (.cells #[.int .u8 a] 5)).alloc (by simp) (.cells ((nine a).map Value.string).toArray 9)).mono hbw.size)
      have HA := Lib.hid hA
      clear hA
      go_wp2
      obtain ⟨wo, rfl⟩ : ∃ wo : World, wo = wr := ⟨_, rfl⟩
      clear hbw
      go_loopw [37] (fun v wr => ∃ j : Nat, v = .int .i64 j ∧ j ≤ 9 ∧ Below w.heap.size w wr ∧ Hid (Texts wr (wo.heap.size + 1) 9)) (fun v _ => 9 - (intOf v).toNat)
      case atStart => exact ⟨0, rfl, by omega, hbA, HA⟩
      case round =>
        obtain ⟨j, rfl, hj, hbw1, HC⟩ := hrel
        clear hbA HA
        by_cases hlj : j < 9
        · have hlj' : (j : Int) < 9 := by omega
          obtain ⟨x, hx, hcell⟩ := HC.out j hlj
          have ha0 : (0 : Int) ≤ (a : Int) := by omega
          have ha1 : (a : Int) ≤ 255 := by omega
          have HX := Lib.hid hx
          clear hx
          go_wp2_with fail
          refine (HS.out x _ HX.out).mono ?_
          rintro e w1 ⟨rfl, b1⟩
          go_wp2_with fail
          refine (HB.out x _ HX.out).mono ?_
          rintro e w2 ⟨rfl, h2⟩
          have b2 := b1.trans (h2.mono b1.size)
          clear b1 h2
          go_wp2_with fail
          refine (HK.out x _ _ _ HX.out (by decide) ha0 ha1).mono ?_
          rintro e w3 ⟨rfl, h3⟩
          have b3 := b2.trans (h3.mono b2.size)
          clear b2 h3
          go_wp2_with fail
          refine (HK.out _ x _ _ (by decide) HX.out ha0 ha1).mono ?_
          rintro e w4 ⟨rfl, h4⟩
          have b4 := b3.trans (h4.mono b3.size)
          clear b3 h4
          have HC2 := Lib.hid (HC.out.below b4)
          have b5 := hbw1.trans (b4.mono hbw1.size)
          clear b4 HC hbw1 hcell
          go_wp2
          go_roundw
          case rel => exact ⟨j + 1, by go_num, by omega, b5, HC2⟩
          case measure => simp [intOf]; omega
        · have hlj' : ¬ (j : Int) < 9 := by omega
          clear HC
          go_wp2
          exact ⟨⟨a + 1, by go_num, by omega, hbw1⟩, by simp [intOf]; omega⟩
    · have hlt' : ¬ (a : Int) < 256 := by omega
      go_wp2
      obtain ⟨wo, rfl⟩ : ∃ wo : World, wo = wr := ⟨_, rfl⟩
      go_loopw [5, 6] (fun u v wr => ∃ (L : ByteArray) (n : Nat), u = .string L ∧ v = .int .i64 n ∧ n ≤ 70 ∧ L.size ≤ n ∧ Below w.heap.size w wr) (fun _ v _ => 70 - (intOf v).toNat)
      case atStart => exact ⟨⟨#[]⟩, 0, rfl, rfl, by omega, Nat.le_refl _, hbw⟩
      case round =>
        obtain ⟨L, n, rfl, rfl, hn, hL, hb0⟩ := hrel
        clear hbw
        by_cases hln : n < 70
        · have hln' : (n : Int) < 70 := by omega
          have HX := Lib.hid (show L.size ≤ 300 ∧ (ByteArray.mk #[97, 58] ++ L).size ≤ 300 ∧ (L ++ ByteArray.mk #[58, 98]).size ≤ 300 ∧ (L ++ ByteArray.mk #[58, 98, 58, 99]).size ≤ 300 ∧ (L ++ ByteArray.mk #[120]).size ≤ n + 1 by
            rw [size_app, size_app, size_app, size_app, show (ByteArray.mk #[97, 58]).size = 2 from rfl, show (ByteArray.mk #[58, 98]).size = 2 from rfl, show (ByteArray.mk #[58, 98, 58, 99]).size = 4 from rfl, show (ByteArray.mk #[120]).size = 1 from rfl]
            omega)
          go_wp2_with fail
          refine (HS.out _ _ HX.out.1).mono ?_
          rintro e w1 ⟨rfl, h1⟩
          have b1 := hb0.trans (h1.mono hb0.size)
          clear hb0 h1
          go_wp2_with fail
          refine (HS.out _ _ HX.out.2.1).mono ?_
          rintro e w2 ⟨rfl, h2⟩
          have b2 := b1.trans (h2.mono b1.size)
          clear b1 h2
          go_wp2_with fail
          refine (HS.out _ _ HX.out.2.2.1).mono ?_
          rintro e w3 ⟨rfl, h3⟩
          have b3 := b2.trans (h3.mono b2.size)
          clear b2 h3
          go_wp2_with fail
          refine (HB.out _ _ HX.out.1).mono ?_
          rintro e w4 ⟨rfl, h4⟩
          have b4 := b3.trans (h4.mono b3.size)
          clear b3 h4
          go_wp2_with fail
          refine (HB.out _ _ HX.out.2.2.2.1).mono ?_
          rintro e w5 ⟨rfl, h5⟩
          have b5 := b4.trans (h5.mono b4.size)
          clear b4 h5
          go_wp2_with fail
          refine (HK.out _ _ _ _ HX.out.1 (by decide) (by omega) (by omega)).mono ?_
          rintro e w6 ⟨rfl, h6⟩
          have b6 := b5.trans (h6.mono b5.size)
          clear b5 h6
          go_wp2_with fail
          refine (HK.out _ _ _ _ HX.out.1 HX.out.1 (by omega) (by omega)).mono ?_
          rintro e w7 ⟨rfl, h7⟩
          have b7 := b6.trans (h7.mono b6.size)
          clear b6 h7
          go_wp2
          go_roundw
          case rel => exact ⟨_, n + 1, rfl, by go_num, by omega, HX.out.2.2.2.2, b7⟩
          case measure => simp [intOf]; omega
        · have hln' : ¬ (n : Int) < 70 := by omega
          go_wp2_with fail
          refine (W.out _).mono ?_
          rintro e w1 ⟨rfl, h1⟩
          have b1 := hb0.trans (h1.mono hb0.size)
          clear hb0 h1
          go_wp2
          go_ret
          exact ⟨rfl, b1⟩
end Go.Proofs.Ytgccffhnblhopaa
