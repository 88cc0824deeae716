/- Layer 7's reference: digit, letter, among, Whole, Is, walked. Condition: a text's length fits. -/
import Derived.Test.YtdcjpinbflmikaaGreatDoorChecked
import Derived.Test.YtdcjpinbflmikaaGreatDoorLxPlain
import Derived.WalkKit
import Derived.WalkLawsBesides
import Derived.Outline
import Derived.Handy
import Derived.Lib.OthersKept
import Derived.Lib.Hide
import Derived.WalkSmall
import Derived.Deep.DeepFit
import Derived.Deep.QuietTactic
import Derived.BigQuiet
import Derived.WalkSpells
import Derived.IntWalk
namespace Go.Proofs.YtdcjpinbflmikaaGreatDoor
open Go.RowKit

theorem ret_bool {a b : Bool} (h : a = b) : Ending.returned (.bool a) = .returned (.bool b) := by rw [h]
theorem u8_bd (b : UInt8) : 0 ≤ (b.toNat : Int) ∧ (b.toNat : Int) ≤ 255 := by
  have := UInt8.toNat_lt b; omega
theorem isD_iff (c : UInt8) : Lx.isD c = true ↔ 48 ≤ (c.toNat : Int) ∧ (c.toNat : Int) ≤ 57 := by unfold Lx.isD; rw [decide_eq_true_iff]; omega
theorem isL_iff (c : UInt8) : Lx.isL c = true ↔ (65 ≤ (c.toNat : Int) ∧ (c.toNat : Int) ≤ 90) ∨ (97 ≤ (c.toNat : Int) ∧ (c.toNat : Int) ≤ 122) ∨ (c.toNat : Int) = 95 := by unfold Lx.isL; rw [decide_eq_true_iff]; omega
set_option maxHeartbeats 1000000 in
theorem rdigit_any (c : UInt8) (w : World) :
    Calls Tryz.prog 166 #[.int .u8 (c.toNat : Int)] w fun e w' => e = .returned (.bool (Lx.isD c)) ∧ w = w' := by
  have hb := u8_bd c
  have HI := Lib.hid (isD_iff c)
  generalize Lx.isD c = R at *
  generalize (c.toNat : Int) = z at *
  go_enter Tryz.func166, Tryz.ntmps166
  go_wp2
  all_goals go_ret
  all_goals exact ⟨ret_bool (by rw [Bool.eq_iff_iff, HI.out]; simp; try omega), rfl⟩
set_option maxHeartbeats 1000000 in
theorem rletter_any (c : UInt8) (w : World) :
    Calls Tryz.prog 165 #[.int .u8 (c.toNat : Int)] w fun e w' => e = .returned (.bool (Lx.isL c)) ∧ w = w' := by
  have hb := u8_bd c
  have HI := Lib.hid (isL_iff c)
  generalize Lx.isL c = R at *
  generalize (c.toNat : Int) = z at *
  go_enter Tryz.func165, Tryz.ntmps165
  go_wp2
  all_goals go_ret
  all_goals exact ⟨ret_bool (by rw [Bool.eq_iff_iff, HI.out]; simp; try omega), rfl⟩

/-- A row of texts lies in memory. -/
def SrR (w : World) (g : Nat) (l : List ByteArray) : Prop := ∀ j (hj : j < l.length), w.cell? ⟨g, j, none⟩ = some (.string l[j])
theorem sr_new (w : World) (t : TypeId) (l : List ByteArray) : SrR (w.alloc (.cells (l.map Value.string).toArray t)) w.heap.size l := fun j hj => by
  rw [World.cell?_alloc_mark w _ t (0, 0) j, List.getElem?_toArray, List.getElem?_map, List.getElem?_eq_getElem hj]; rfl
set_option maxHeartbeats 2000000 in
theorem among_any (s : ByteArray) (w : World) (g c : Nat) (l : List ByteArray) (h : SrR w g l) (hlc : l.length ≤ c) (hl : l.length ≤ 1000) :
    Calls Tryz.prog 164 #[.string s, .slice (some ⟨g, 0, none⟩) l.length c] w fun e w' => e = .returned (.bool ((l.map (·.toList)).contains s.toList)) ∧ w = w' := by
  have H := Lib.hid h
  obtain ⟨R, hR⟩ : ∃ R, R = (l.map (·.toList)).contains s.toList := ⟨_, rfl⟩
  rw [← hR]
  have HR := Lib.hid hR
  clear h hR
  obtain ⟨n, hn⟩ : ∃ n, n = l.length := ⟨_, rfl⟩
  rw [← hn] at hlc hl ⊢
  have HN := Lib.hid hn
  clear hn
  go_enter Tryz.func164, Tryz.ntmps164
  go_wp2
  go_loop [5] (fun i => ∃ k : Nat, i = .int .i64 k ∧ k ≤ n ∧ Hid (R = ((l.drop k).map (·.toList)).contains s.toList)) (fun i => n - (intOf i).toNat)
  case atStart => exact ⟨0, rfl, Nat.zero_le _, HR⟩
  case round =>
    obtain ⟨k, rfl, hk, HI⟩ := hrel
    by_cases hlt : k < n
    · have hlt' : (k : Int) < (n : Int) := by omega
      have hkl : k < l.length := by rw [← HN.out]; exact hlt
      have hc := H.out k hkl
      have HS := Lib.hid (show ((l.drop k).map (·.toList)).contains s.toList = ((s.toList == l[k].toList) || ((l.drop (k + 1)).map (·.toList)).contains s.toList) by rw [List.drop_eq_getElem_cons hkl]; simp only [List.map_cons, List.contains_cons])
      generalize l[k] = x at *
      by_cases he : x.toList = s.toList
      · have he' : (x.toList == s.toList) = true := beq_iff_eq.2 he
        have HE := Lib.hid (show R = true by rw [HI.out, HS.out, he]; simp)
        clear he
        go_wp2
        go_ret
        exact ⟨by rw [HE.out]; rfl, rfl⟩
      · have he' : (x.toList == s.toList) = false := beq_eq_false_iff_ne.2 he
        have HE := Lib.hid (show R = ((l.drop (k + 1)).map (·.toList)).contains s.toList by rw [HI.out, HS.out, show (s.toList == x.toList) = false from beq_eq_false_iff_ne.2 (fun h => he h.symm)]; rfl)
        clear he
        go_wp2
        go_round
        case rel => exact ⟨k + 1, by go_num, hlt, HE⟩
        case measure => simp [intOf]; omega
    · obtain rfl : k = n := by omega
      have HE := Lib.hid (show R = false by rw [HI.out, List.drop_of_length_le (by rw [← HN.out]; exact Nat.le_refl _)]; rfl)
      have hlt' : ¬ (k : Int) < (k : Int) := by omega
      clear hlt
      go_wp2
      go_ret
      exact ⟨by rw [HE.out]; rfl, rfl⟩

def sgB : List ByteArray := [⟨#[58, 61]⟩, ⟨#[60, 62]⟩, ⟨#[60, 61]⟩, ⟨#[62, 61]⟩, ⟨#[60]⟩, ⟨#[62]⟩, ⟨#[61]⟩, ⟨#[43]⟩, ⟨#[45]⟩, ⟨#[42]⟩, ⟨#[40]⟩, ⟨#[41]⟩, ⟨#[44]⟩, ⟨#[59]⟩]
def wdB : List ByteArray := [⟨#[97, 110, 100]⟩, ⟨#[100, 105, 118]⟩, ⟨#[101, 108, 115, 101]⟩, ⟨#[101, 109, 105, 116]⟩, ⟨#[101, 110, 100, 105, 102]⟩, ⟨#[102, 97, 108, 115, 101]⟩, ⟨#[105, 102]⟩, ⟨#[105, 109, 112, 108, 105, 101, 115]⟩, ⟨#[109, 111, 100]⟩, ⟨#[110, 111, 116]⟩, ⟨#[111, 114]⟩, ⟨#[116, 104, 101, 110]⟩, ⟨#[116, 114, 117, 101]⟩, ⟨#[120, 111, 114]⟩]
theorem sgB_eq : sgB.map (·.toList) = Lx.signs := by simp only [sgB, List.map_cons, List.map_nil, Lib.toList_data]; rfl
theorem wdB_eq : wdB.map (·.toList) = Lx.words := by simp only [wdB, List.map_cons, List.map_nil, Lib.toList_data]; rfl
theorem signs_in (s : ByteArray) (w : World) : Calls Tryz.prog 164 #[.string s, .slice (some ⟨w.heap.size, 0, none⟩) 14 14] (w.alloc (.cells (sgB.map Value.string).toArray 9)) fun e w' => e = .returned (.bool (Lx.signs.contains s.data.toList)) ∧ w.alloc (.cells (sgB.map Value.string).toArray 9) = w' := by
  have := among_any s (w.alloc (.cells (sgB.map Value.string).toArray 9)) w.heap.size 14 sgB (sr_new w _ _) (by decide) (by decide)
  rw [sgB_eq, Lib.toList_data] at this
  exact this
theorem words_in (s : ByteArray) (w : World) : Calls Tryz.prog 164 #[.string s, .slice (some ⟨w.heap.size, 0, none⟩) 14 14] (w.alloc (.cells (wdB.map Value.string).toArray 9)) fun e w' => e = .returned (.bool (Lx.words.contains s.data.toList)) ∧ w.alloc (.cells (wdB.map Value.string).toArray 9) = w' := by
  have := among_any s (w.alloc (.cells (wdB.map Value.string).toArray 9)) w.heap.size 14 wdB (sr_new w _ _) (by decide) (by decide)
  rw [wdB_eq, Lib.toList_data] at this
  exact this
theorem take_all_succ {l : List UInt8} {p : UInt8 → Bool} {k : Nat} (h : k < l.length) : (l.take (k + 1)).all p = ((l.take k).all p && p l[k]) := by
  rw [List.take_succ_eq_append_getElem h, List.all_append]; simp
set_option maxHeartbeats 4000000 in
set_option maxRecDepth 100000 in
theorem whole_any (s : ByteArray) (w : World) (hs : s.size ≤ 1000000000) :
    Calls Tryz.prog 107 #[.string s] w fun e w' => e = .returned (.int .u8 (Lx.whole s.data.toList)) ∧ Below w.heap.size w w' := by
  have HL := Lib.hid (Lib.size_eq s)
  have HS := Lib.hid (fun w0 => signs_in s w0)
  have HW := Lib.hid (fun w0 => words_in s w0)
  cases h1 : Lx.signs.contains s.data.toList with
  | true =>
    rw [h1] at HS
    have HE := Lib.hid (show Lx.whole s.data.toList = 4 by unfold Lx.whole; rw [if_pos h1])
    clear h1
    go_enter Tryz.func107, Tryz.ntmps107
    go_wp2_with fail
    refine (HS.out w).mono ?_
    rintro e w1 ⟨rfl, rfl⟩
    go_wp2
    go_ret
    exact ⟨by rw [HE.out]; rfl, (Below.refl _ _).alloc (Nat.le_refl _) _⟩
  | false =>
    rw [h1] at HS
    have H1 := Lib.hid h1
    cases h2 : Lx.words.contains s.data.toList with
    | true =>
      rw [h2] at HW
      have HE := Lib.hid (show Lx.whole s.data.toList = 3 by unfold Lx.whole; rw [if_neg (by rw [H1.out]; decide), if_pos h2])
      clear h1 h2
      go_enter Tryz.func107, Tryz.ntmps107
      go_wp2_with fail
      refine (HS.out w).mono ?_
      rintro e W1 ⟨rfl, hw1⟩
      have HB1 := Lib.hid (show Below w.heap.size w W1 from hw1 ▸ (Below.refl _ _).alloc (Nat.le_refl _) _)
      clear hw1
      go_wp2_with fail
      refine (HW.out W1).mono ?_
      rintro e W2 ⟨rfl, hw2⟩
      have HB2 := Lib.hid (show Below w.heap.size w W2 from hw2 ▸ HB1.out.alloc HB1.out.size _)
      clear hw2
      go_wp2
      go_ret
      exact ⟨by rw [HE.out]; rfl, HB2.out⟩
    | false =>
      rw [h2] at HW
      have H2 := Lib.hid h2
      clear h1 h2
      by_cases h0 : s.size = 0
      · have hn : s.toList = [] := by rw [Lib.toList_data]; exact List.length_eq_zero_iff.1 (by rw [← HL.out]; exact h0)
        have HE := Lib.hid (show Lx.whole s.data.toList = 0 by unfold Lx.whole; rw [if_neg (by rw [H1.out]; decide), if_neg (by rw [H2.out]; decide), if_pos (by rw [← Lib.toList_data]; exact hn)])
        clear h0
        go_enter Tryz.func107, Tryz.ntmps107
        go_wp2_with fail
        refine (HS.out w).mono ?_
        rintro e W1 ⟨rfl, hw1⟩
        have HB1 := Lib.hid (show Below w.heap.size w W1 from hw1 ▸ (Below.refl _ _).alloc (Nat.le_refl _) _)
        clear hw1
        go_wp2_with fail
        refine (HW.out W1).mono ?_
        rintro e W2 ⟨rfl, hw2⟩
        have HB2 := Lib.hid (show Below w.heap.size w W2 from hw2 ▸ HB1.out.alloc HB1.out.size _)
        clear hw2
        go_wp2
        go_ret
        exact ⟨by rw [HE.out]; rfl, HB2.out⟩
      · have hpos : 0 < s.size := by omega
        have hlpos : 0 < s.data.toList.length := by rw [← HL.out]; exact hpos
        have hnn : s.data.toList ≠ [] := fun e => by rw [e] at hlpos; cases hlpos
        have hn : s.toList.isEmpty = false := by rw [Lib.toList_data]; cases hh : s.data.toList with
          | nil => exact absurd hh hnn
          | cons _ _ => rfl
        have HLD := Lib.hid (show Lx.lead s.data.toList = Lx.isL s[0] by
          have h3 := List.drop_eq_getElem_cons hlpos
          rw [List.drop_zero] at h3
          exact (congrArg Lx.lead h3).trans rfl)
        have HE := Lib.hid (show Lx.whole s.data.toList = if s.data.toList.all Lx.isD then (1 : Int) else if Lx.isL s[0] && s.data.toList.all Lx.isN then 2 else 0 by
          unfold Lx.whole; rw [if_neg (by rw [H1.out]; decide), if_neg (by rw [H2.out]; decide), if_neg hnn, HLD.out])
        have HL0 := Lib.hid (fun w0 => rletter_any s[0] w0)
        obtain ⟨R, hR⟩ : ∃ R, R = Lx.whole s.data.toList := ⟨_, rfl⟩
        rw [← hR] at HE ⊢
        obtain ⟨q, hq⟩ : ∃ q, q = Lx.isL s[0] := ⟨_, rfl⟩
        rw [← hq] at HE HL0
        clear h0 hR hnn hq HLD
        go_enter Tryz.func107, Tryz.ntmps107
        go_wp2_with fail
        refine (HS.out w).mono ?_
        rintro e W1 ⟨rfl, hw1⟩
        have HB1 := Lib.hid (show Below w.heap.size w W1 from hw1 ▸ (Below.refl _ _).alloc (Nat.le_refl _) _)
        clear hw1
        go_wp2_with fail
        refine (HW.out W1).mono ?_
        rintro e W2 ⟨rfl, hw2⟩
        have HB2 := Lib.hid (show Below w.heap.size w W2 from hw2 ▸ HB1.out.alloc HB1.out.size _)
        clear hw2
        go_wp2_with fail
        refine (HL0.out _).mono ?_
        rintro e w3 ⟨rfl, rfl⟩
        go_wp2
        go_loop [3, 4, 5] (fun a b i => ∃ (k : Nat) (x y : Bool), i = .int .i64 k ∧ k ≤ s.size ∧ a = .bool x ∧ b = .bool y ∧ Hid (x = (s.data.toList.take k).all Lx.isD ∧ y = (q && (s.data.toList.take k).all Lx.isN))) (fun _ _ i => s.size - (intOf i).toNat)
        case atStart => exact ⟨0, true, q, rfl, Nat.zero_le _, rfl, rfl, Lib.hid ⟨by simp, by simp⟩⟩
        case round =>
          obtain ⟨k, x, y, rfl, hk, rfl, rfl, HI⟩ := hrel
          by_cases hlt : k < s.size
          · have hkl : k < s.data.toList.length := by rw [← HL.out]; exact hlt
            have HN := Lib.hid (show (x && Lx.isD s[k]) = (s.data.toList.take (k + 1)).all Lx.isD ∧ (y && (Lx.isL s[k] || Lx.isD s[k])) = (q && (s.data.toList.take (k + 1)).all Lx.isN) by
              rw [take_all_succ hkl, take_all_succ hkl, HI.out.1, HI.out.2, Bool.and_assoc]
              exact ⟨rfl, rfl⟩)
            have HD := Lib.hid (fun w0 => rdigit_any s[k] w0)
            have HLT := Lib.hid (fun w0 => rletter_any s[k] w0)
            generalize Lx.isD s[k] = D at *
            generalize Lx.isL s[k] = L at *
            have hlt' : (k : Int) < (s.size : Int) := by omega
            clear HI
            cases x <;> cases y <;> cases D <;> cases L
            all_goals
              go_wp2_with (first | (go_at_call 166; refine (HD.out _).mono ?_; rintro e w5 ⟨rfl, rfl⟩) | (go_at_call 165; refine (HLT.out _).mono ?_; rintro e w5 ⟨rfl, rfl⟩))
              go_round
              case rel => exact ⟨k + 1, _, _, by go_num, hlt, rfl, rfl, HN⟩
              case measure => simp [intOf]; omega
          · obtain rfl : k = s.size := by omega
            have hlt' : ¬ ((s.size : Nat) : Int) < (s.size : Int) := by omega
            have HF := Lib.hid (show x = s.data.toList.all Lx.isD ∧ y = (q && s.data.toList.all Lx.isN) by
              have h3 := HI.out
              rw [List.take_of_length_le (by rw [← HL.out]; exact Nat.le_refl _)] at h3
              exact h3)
            clear hlt
            cases x with
            | true =>
              have HR := Lib.hid (show R = 1 by rw [HE.out, ← HF.out.1]; rfl)
              go_wp2
              go_ret
              exact ⟨by rw [HR.out]; rfl, HB2.out⟩
            | false =>
              cases y with
              | true =>
                have HR := Lib.hid (show R = 2 by rw [HE.out, ← HF.out.1, ← HF.out.2]; rfl)
                go_wp2
                go_ret
                exact ⟨by rw [HR.out]; rfl, HB2.out⟩
              | false =>
                have HR := Lib.hid (show R = 0 by rw [HE.out, ← HF.out.1, ← HF.out.2]; rfl)
                go_wp2
                go_ret
                exact ⟨by rw [HR.out]; rfl, HB2.out⟩

theorem ris_any (s : ByteArray) (w : World) (hs : s.size ≤ 1000000000) :
    Calls Tryz.prog 100 #[.string s] w fun e w' => e = .returned (.int .u8 (Lx.is s.data.toList)) ∧ Below w.heap.size w w' := by
  have HW := Lib.hid (whole_any s w hs)
  unfold Lx.is
  rw [← Lib.size_eq]
  by_cases h : 64 < s.size
  · rw [if_pos h]
    have h' : (s.size : Int) > 64 := by omega
    clear h
    go_enter Tryz.func100, Tryz.ntmps100
    go_wp2
    go_ret
    exact ⟨rfl, Below.refl _ _⟩
  · rw [if_neg h]
    have h' : ¬ (s.size : Int) > 64 := by omega
    generalize Lx.whole s.data.toList = R at *
    clear h
    go_enter Tryz.func100, Tryz.ntmps100
    go_wp2_with fail
    refine HW.out.mono ?_
    rintro e w1 ⟨rfl, h1⟩
    have HB := Lib.hid h1
    clear h1
    go_wp2
    go_ret
    exact ⟨rfl, HB.out⟩
end Go.Proofs.YtdcjpinbflmikaaGreatDoor
