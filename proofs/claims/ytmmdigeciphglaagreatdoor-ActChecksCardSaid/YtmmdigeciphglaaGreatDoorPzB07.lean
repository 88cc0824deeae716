/- Facts and walks for the statement. -/
import Derived.Test.YtmmdigeciphglaaGreatDoorPzB02
import Derived.Test.YtmmdigeciphglaaGreatDoorPzB03
import Derived.Test.YtmmdigeciphglaaGreatDoorPzB06
namespace Go.Proofs.YtmmdigeciphglaaGreatDoor
namespace Lx
def chk (l : List UInt8) (k : Int) (n : Nat) : Int × Nat := if n = 0 ∨ 64 < n then (0, 0) else (if words.contains (l.take n) then 3 else k, n)
def fst (l : List UInt8) : Int × Nat := if run isD l ≠ 0 then chk l 1 (run isD l) else if run isN l ≠ 0 then chk l 2 (run isN l) else chk l 4 (sgn l)
theorem words_signs : ∀ w ∈ signs, words.contains w = false := by decide
theorem whole_digits {l : List UInt8} (h : l ≠ []) (ha : l.all isD = true) : whole l = if words.contains l then 3 else 1 := by
  unfold whole
  rw [if_neg (fun e => by
    have := (signs_len _ (List.contains_iff_mem.1 e)).2.2.2
    rw [ha] at this; cases this), if_neg h, if_pos ha]
theorem whole_name {l : List UInt8} (h : lead l = true) (ha : l.all isN = true) : whole l = if words.contains l then 3 else 2 := by
  unfold whole
  have hne : l ≠ [] := fun e => by rw [e] at h; cases h
  rw [if_neg (fun e => by
    have := (signs_len _ (List.contains_iff_mem.1 e)).2.2.1
    rw [h] at this; cases this), if_neg hne, if_neg (show ¬ (l.all isD = true) from fun e => by
    cases l with
    | nil => exact hne rfl
    | cons c r =>
      have h1 : isL c = true := h
      rw [List.all_cons, Bool.and_eq_true] at e
      rw [isD_not e.1] at h1; cases h1), if_pos (show (lead l && l.all isN) = true by rw [h, ha]; rfl)]
theorem whole_sign {l : List UInt8} (h : l ∈ signs) : whole l = 4 := by
  unfold whole
  rw [if_pos (List.contains_iff_mem.2 h)]
theorem fst_lng (l : List UInt8) : fst l = if lng l = 0 ∨ 64 < lng l then (0, 0) else (whole (l.take (lng l)), lng l) := by
  have hch : ∀ (k : Int), (lng l ≠ 0 → whole (l.take (lng l)) = if words.contains (l.take (lng l)) then 3 else k) → chk l k (lng l) = if lng l = 0 ∨ 64 < lng l then (0, 0) else (whole (l.take (lng l)), lng l) := fun k hk => by
    unfold chk
    split
    · rfl
    · rename_i hn
      rw [hk (by omega)]
  cases hl : l with
  | nil => decide
  | cons c r =>
    rw [← hl]
    cases hd : isD c with
    | true =>
      have hg : lng l = run isD l := by rw [hl]; exact lng_digit hd
      have hr : run isD l ≠ 0 := by rw [hl]; unfold run; rw [if_pos hd]; omega
      unfold fst
      rw [if_pos hr, ← hg]
      refine hch 1 fun hn => whole_digits (fun e => ?_) ((run_all isD l _ (lng_le l)).2 (by omega))
      rcases List.take_eq_nil_iff.1 e with e | e
      · exact hn e
      · rw [hl] at e; cases e
    | false =>
      have hr : run isD l = 0 := by rw [hl]; unfold run; rw [if_neg (by rw [hd]; decide)]
      unfold fst
      rw [if_neg (by omega)]
      cases hL : isL c with
      | true =>
        have hg : lng l = run isN l := by rw [hl]; exact lng_letter hL
        have hr2 : run isN l ≠ 0 := by rw [hl]; unfold run; rw [if_pos (by unfold isN; rw [hL]; rfl)]; omega
        rw [if_pos hr2, ← hg]
        refine hch 2 fun hn => whole_name ?_ ((run_all isN l _ (lng_le l)).2 (by omega))
        obtain ⟨m, hm⟩ : ∃ m, lng l = m + 1 := ⟨lng l - 1, by omega⟩
        rw [hm, hl, List.take_succ_cons]
        exact hL
      | false =>
        have hg : lng l = sgn l := by rw [hl]; exact lng_other hd hL
        have hr2 : run isN l = 0 := by rw [hl]; unfold run; rw [if_neg (by unfold isN; rw [hL, hd]; decide)]
        rw [if_neg (by omega), ← hg]
        refine hch 4 fun hn => ?_
        have hw := lng_good hn
        have hm : l.take (lng l) ∈ signs := by
          obtain ⟨m, hm⟩ : ∃ m, lng l = m + 1 := ⟨lng l - 1, by omega⟩
          have h3 := hw
          rw [hm, hl, List.take_succ_cons] at h3 ⊢
          exact (kind_other hd hL).1 h3
        rw [whole_sign hm, words_signs _ hm]
        rfl
theorem fst_le (l : List UInt8) : (fst l).2 ≤ l.length ∧ (fst l).2 ≤ 64 ∧ 0 ≤ (fst l).1 := by
  rw [fst_lng]
  have := lng_le l
  split
  · exact ⟨Nat.zero_le _, by decide, by decide⟩
  · refine ⟨this, ?_, ?_⟩
    · show lng l ≤ 64
      omega
    · show 0 ≤ whole _
      unfold whole
      repeat (first | split | omega)
theorem is_fst (l : List UInt8) : is l = if (fst l).2 < l.length then 0 else (fst l).1 := by
  rw [fst_lng]
  have hle := lng_le l
  have hno : lng l ≠ l.length → whole l = 0 := fun h => Decidable.byContradiction fun hn => h (lng_tok hn)
  unfold is
  by_cases h : lng l = 0 ∨ 64 < lng l
  · rw [if_pos h]
    simp only
    rw [show (if 0 < l.length then (0 : Int) else 0) = 0 from ite_self _]
    split
    · rfl
    · by_cases he : lng l = l.length
      · have h0 : l = [] := List.length_eq_zero_iff.1 (by omega)
        rw [h0]; rfl
      · exact hno he
  · rw [if_neg h]
    simp only
    by_cases he : lng l = l.length
    · rw [if_neg (by omega), if_neg (by omega), he, List.take_length]
    · rw [if_pos (show lng l < l.length by omega), hno he, ite_self]
theorem fst_no {l : List UInt8} : (fst l).1 = 0 ↔ (lng l = 0 ∨ 64 < lng l) := by
  rw [fst_lng]
  split
  · rename_i h; exact ⟨fun _ => h, fun _ => rfl⟩
  · rename_i h
    exact ⟨fun e => absurd e (lng_good (by omega)), fun e => absurd e h⟩
end Lx
end Go.Proofs.YtmmdigeciphglaaGreatDoor
namespace Go.Proofs.YtmmdigeciphglaaGreatDoor
open Go.RowKit
theorem cell_new (w : World) (v : Value) (t : TypeId) : (w.alloc (.cells #[v] t)).cell? ⟨w.heap.size, 0, none⟩ = some v := by
  rw [World.cell?_alloc_mark w _ t (0, 0) 0]; rfl
set_option maxHeartbeats 1000000 in
theorem among_new (a : ByteArray) (w : World) : Calls Tryz.prog 94 #[.string a] w fun e w' => ∃ b, e = .returned (fAm b) ∧ w'.cell? ⟨b, 0, none⟩ = some (.string a) ∧ Below w.heap.size w w' := by
  have H1 := Lib.hid (cell_new w (.string a) 9)
  have H2 := Lib.hid (show Below w.heap.size w (w.alloc (.cells #[.string a] 9)) from (Below.refl _ _).alloc (Nat.le_refl _) _)
  go_enter Tryz.func94, Tryz.ntmps94
  go_wp2
  go_ret
  exact ⟨_, rfl, H1.out, H2.out⟩
set_option maxHeartbeats 1000000 in
theorem either_new (g n : Nat) (w : World) : Calls Tryz.prog 99 #[.slice (some ⟨g, 0, none⟩) n n] w fun e w' => ∃ b, e = .returned (fEi b) ∧ w'.cell? ⟨b, 0, none⟩ = some (.slice (some ⟨g, 0, none⟩) n n) ∧ Below w.heap.size w w' := by
  have H1 := Lib.hid (cell_new w (.slice (some ⟨g, 0, none⟩) n n) 216)
  have H2 := Lib.hid (show Below w.heap.size w (w.alloc (.cells #[.slice (some ⟨g, 0, none⟩) n n] 216)) from (Below.refl _ _).alloc (Nat.le_refl _) _)
  go_enter Tryz.func99, Tryz.ntmps99
  go_wp2
  go_ret
  exact ⟨_, rfl, H1.out, H2.out⟩
set_option maxHeartbeats 1000000 in
theorem between_new (x y : Int) (w : World) : Calls Tryz.prog 98 #[.int .u8 x, .int .u8 y] w fun e w' => ∃ b1 b2, e = .returned (fBt b1 b2) ∧ IsBt w' b1 b2 x y ∧ Below w.heap.size w w' := by
  have H1 := Lib.hid (cell_new w (.int .u8 x) 5)
  have H2 := Lib.hid (show Below w.heap.size w (w.alloc (.cells #[.int .u8 x] 5)) from (Below.refl _ _).alloc (Nat.le_refl _) _)
  have H3 := Lib.hid (cell_new (w.alloc (.cells #[.int .u8 x] 5)) (.int .u8 y) 5)
  have H4 := Lib.hid (show Below (w.alloc (.cells #[.int .u8 x] 5)).heap.size (w.alloc (.cells #[.int .u8 x] 5)) ((w.alloc (.cells #[.int .u8 x] 5)).alloc (.cells #[.int .u8 y] 5)) from (Below.refl _ _).alloc (Nat.le_refl _) _)
  have H5 := Lib.hid (show IsBt ((w.alloc (.cells #[.int .u8 x] 5)).alloc (.cells #[.int .u8 y] 5)) w.heap.size (w.heap.size + 1) x y from ⟨cell_below H4.out (Nat.le_refl _) H1.out, by have := H3.out; rwa [show (w.alloc (.cells #[.int .u8 x] 5)).heap.size = w.heap.size + 1 by simp] at this⟩)
  have H6 := Lib.hid (show Below w.heap.size w ((w.alloc (.cells #[.int .u8 x] 5)).alloc (.cells #[.int .u8 y] 5)) from H2.out.trans (H4.out.mono H2.out.size))
  go_enter Tryz.func98, Tryz.ntmps98
  go_wp2
  go_ret
  exact ⟨w.heap.size, w.heap.size + 1, rfl, H5.out, H6.out⟩
theorem cells_new (w : World) (l : List Value) (t : TypeId) (j : Nat) (v : Value) (h : l[j]? = some v) : (w.alloc (.cells l.toArray t)).cell? ⟨w.heap.size, j, none⟩ = some v := by
  rw [World.cell?_alloc_mark w _ t (0, 0) j, List.getElem?_toArray, h]
set_option maxHeartbeats 8000000 in
set_option maxRecDepth 100000 in
theorem first_any (s : ByteArray) (w : World) (hs : s.size ≤ maxLen) (h : Sg w) :
    Calls Tryz.prog 68 #[.string s] w fun e w' => e = .returned (.tuple #[.int .u8 (Lx.fst s.data.toList).1, .int .i64 (Lx.fst s.data.toList).2]) ∧ Below w.heap.size w w' := by
  have HSG := Lib.hid h
  have HLD := Lib.hid (fun (d1 d2 : Nat) w0 (h0 : IsBt w0 d1 d2 48 57) => lead_between (I := fun w => IsBt w d1 d2 48 57) (fun _ _ h b => h.below b) #[.pointer (some ⟨d1, 0, none⟩), .pointer (some ⟨d2, 0, none⟩)] Lx.isD (between_fits d1 d2 48 57 Lx.isD (fun c => isD_iff c)) s w0 hs h0)
  have HLN := Lib.hid (fun (b' g' d1 d2 b g p1 p2 q1 q2 a : Nat) w0 (h0 : IsLd w0 b' g' d1 d2 b g p1 p2 q1 q2 a) => lead_either (I := fun w => IsLd w b' g' d1 d2 b g p1 p2 q1 q2 a) (fun _ _ h b => h.below b) #[.pointer (some ⟨b', 0, none⟩)] Lx.isN (ld_fits b' g' d1 d2 b g p1 p2 q1 q2 a) s w0 hs h0)
  have HSN := Lib.hid (fun w0 h0 => sign_any s w0 h0)
  have HWD := Lib.hid (fun (n : Nat) w0 => show Calls Tryz.prog 101 #[.string (s.extract 0 n)] w0 fun e w' => e = .returned (.bool (Lx.words.contains (s.data.toList.take n))) ∧ w0 = w' from by
    have := isWord_any (s.extract 0 n) w0
    rwa [take_data] at this)
  have hr1 := Lx.run_le Lx.isD s.data.toList
  have hr2 := Lx.run_le Lx.isN s.data.toList
  have hf := Lx.fst_le s.data.toList
  rw [← Lib.size_eq] at hr1 hr2 hf
  obtain ⟨R, hR⟩ : ∃ R, R = Lx.fst s.data.toList := ⟨_, rfl⟩
  rw [← hR] at hf ⊢
  obtain ⟨RK, RN⟩ := R
  unfold Lx.fst at hR
  generalize Lx.run Lx.isD s.data.toList = m1 at *
  generalize Lx.run Lx.isN s.data.toList = m2 at *
  have HR := Lib.hid hR
  clear hR h
  simp only at hf ⊢
  by_cases c1 : m1 = 0
  · subst c1
    have e1 : (((0 : Nat) : Int) == 0) = true := rfl
    by_cases c2 : m2 = 0
    · subst c2
      have HR1 := Lib.hid (show (RK, RN) = Lx.chk s.data.toList 4 (Lx.sgn s.data.toList) by rw [HR.out, if_neg (by decide), if_neg (by decide)])
      go_enter Tryz.func68, Tryz.ntmps68
      go_wp2_with fail
      refine (between_new 48 57 w).mono ?_
      rintro e w1 ⟨d1, d2, rfl, hd, b⟩
      have H1 := Lib.hid (And.intro b hd)
      clear b hd
      go_wp2_with fail
      refine (between_new 65 90 w1).mono ?_
      rintro e w2 ⟨p1, p2, rfl, hd, b⟩
      have H2 := Lib.hid (And.intro (H1.out.1.trans (b.mono H1.out.1.size)) (And.intro (H1.out.2.below b) hd))
      clear b hd H1
      go_wp2_with fail
      refine (between_new 97 122 w2).mono ?_
      rintro e w3 ⟨q1, q2, rfl, hd, b⟩
      have H3 := Lib.hid (And.intro (H2.out.1.trans (b.mono H2.out.1.size)) (And.intro (H2.out.2.1.below b) (And.intro (H2.out.2.2.below b) hd)))
      clear b hd H2
      go_wp2_with fail
      refine (among_new ⟨#[95]⟩ w3).mono ?_
      rintro e w4 ⟨a, rfl, hd, b⟩
      have H4 := Lib.hid (And.intro (H3.out.1.trans (b.mono H3.out.1.size)) (And.intro (H3.out.2.1.below b) (And.intro (H3.out.2.2.1.below b) (And.intro (H3.out.2.2.2.below b) hd))))
      clear b hd H3
      go_wp2_with fail
      obtain ⟨w5, hw5⟩ : ∃ w5, w5 = w4.alloc (.cells #[fBt p1 p2, fBt q1 q2, fAm a] 186) := ⟨_, rfl⟩
      rw [← hw5]
      have H5 := Lib.hid (show Below w4.heap.size w4 w5 ∧ w5.cell? ⟨w4.heap.size, 0, none⟩ = some (fBt p1 p2) ∧ w5.cell? ⟨w4.heap.size, 1, none⟩ = some (fBt q1 q2) ∧ w5.cell? ⟨w4.heap.size, 2, none⟩ = some (fAm a) by
        subst hw5
        exact ⟨(Below.refl _ _).alloc (Nat.le_refl _) _, cells_new _ [_, _, _] _ 0 _ rfl, cells_new _ [_, _, _] _ 1 _ rfl, cells_new _ [_, _, _] _ 2 _ rfl⟩)
      clear hw5
      refine (either_new w4.heap.size 3 w5).mono ?_
      rintro e w6 ⟨b0, rfl, hd, b⟩
      have H6 := Lib.hid (show Below w.heap.size w w6 ∧ IsBt w6 d1 d2 48 57 ∧ IsLet w6 b0 w4.heap.size p1 p2 q1 q2 a from by
        have b5 := H5.out.1.trans (b.mono H5.out.1.size)
        exact ⟨H4.out.1.trans (b5.mono H4.out.1.size), H4.out.2.1.below b5, ⟨hd, cell_below b (Nat.le_refl _) H5.out.2.1, cell_below b (Nat.le_refl _) H5.out.2.2.1, cell_below b (Nat.le_refl _) H5.out.2.2.2, H4.out.2.2.1.below b5, H4.out.2.2.2.1.below b5, cell_below b5 (Nat.le_refl _) H4.out.2.2.2.2⟩⟩)
      generalize w4.heap.size = g0 at *
      clear b hd H4 H5
      go_wp2_with fail
      refine (HLD.out d1 d2 w6 H6.out.2.1).mono ?_
      rintro e w7 ⟨rfl, b⟩
      have H7 := Lib.hid (And.intro (H6.out.1.trans (b.mono H6.out.1.size)) (And.intro (H6.out.2.1.below b) (H6.out.2.2.below b)))
      clear b H6
      go_wp2_with fail
      obtain ⟨w8, hw8⟩ : ∃ w8, w8 = w7.alloc (.cells #[fEi b0, fBt d1 d2] 186) := ⟨_, rfl⟩
      rw [← hw8]
      have H8 := Lib.hid (show Below w7.heap.size w7 w8 ∧ w8.cell? ⟨w7.heap.size, 0, none⟩ = some (fEi b0) ∧ w8.cell? ⟨w7.heap.size, 1, none⟩ = some (fBt d1 d2) by
        subst hw8
        exact ⟨(Below.refl _ _).alloc (Nat.le_refl _) _, cells_new _ [_, _] _ 0 _ rfl, cells_new _ [_, _] _ 1 _ rfl⟩)
      clear hw8
      refine (either_new w7.heap.size 2 w8).mono ?_
      rintro e w9 ⟨b2, rfl, hd, b⟩
      have H9 := Lib.hid (show Below w.heap.size w w9 ∧ IsLd w9 b2 w7.heap.size d1 d2 b0 g0 p1 p2 q1 q2 a from by
        have b5 := H8.out.1.trans (b.mono H8.out.1.size)
        exact ⟨H7.out.1.trans (b5.mono H7.out.1.size), ⟨hd, cell_below b (Nat.le_refl _) H8.out.2.1, cell_below b (Nat.le_refl _) H8.out.2.2, H7.out.2.2.below b5, H7.out.2.1.below b5⟩⟩)
      generalize w7.heap.size = g7 at *
      clear b hd H7 H8
      go_wp2_with fail
      refine (HLN.out b2 g7 d1 d2 b0 g0 p1 p2 q1 q2 a w9 H9.out.2).mono ?_
      rintro e w10 ⟨rfl, b⟩
      have H10 := Lib.hid (H9.out.1.trans (b.mono H9.out.1.size))
      clear b H9
      go_wp2_with fail
      refine (HSN.out w10 (HSG.out.below H10.out (Nat.le_refl _))).mono ?_
      rintro e w11 ⟨rfl, rfl⟩
      generalize Lx.sgn s.data.toList = m at *
      by_cases c3 : m = 0
      · subst c3
        have HE := Lib.hid (show RK = 0 ∧ RN = 0 by
          have h1 := HR1.out
          unfold Lx.chk at h1
          rw [if_pos (by omega)] at h1
          injection h1 with h2 h3
          exact ⟨h2, h3⟩)
        go_wp2
        go_ret2
        exact ⟨by rw [HE.out.1, HE.out.2]; rfl, H10.out⟩
      · have e3 : ((m : Int) == 0) = false := by simp; omega
        by_cases c4 : 64 < m
        · have c4' : (m : Int) > 64 := by omega
          have HE := Lib.hid (show RK = 0 ∧ RN = 0 by
            have h1 := HR1.out
            unfold Lx.chk at h1
            rw [if_pos (by omega)] at h1
            injection h1 with h2 h3
            exact ⟨h2, h3⟩)
          clear c4
          go_wp2
          go_ret2
          exact ⟨by rw [HE.out.1, HE.out.2]; rfl, H10.out⟩
        · have c4' : ¬ (m : Int) > 64 := by omega
          have HE := Lib.hid (show RN = m by
            have h1 := HR1.out
            unfold Lx.chk at h1
            rw [if_neg (by omega)] at h1
            injection h1 with h2 h3)
          have hms : (m : Int) ≤ (s.size : Int) := by have := HE.out; omega
          clear c4
          cases hw : Lx.words.contains (s.data.toList.take m) with
          | true =>
            have HW := Lib.hid (HWD.out m)
            rw [hw] at HW
            have HE2 := Lib.hid (show RK = 3 by
              have h1 := HR1.out
              unfold Lx.chk at h1
              rw [if_neg (by omega), hw] at h1
              injection h1 with h2 h3)
            clear hw
            go_wp2_with fail
            refine (HW.out w10).mono ?_
            rintro e w12 ⟨rfl, rfl⟩
            go_wp2
            go_ret2
            exact ⟨by rw [HE.out, HE2.out]; rfl, H10.out⟩
          | false =>
            have HW := Lib.hid (HWD.out m)
            rw [hw] at HW
            have HE2 := Lib.hid (show (RK, RN) = (_, m) by
              have h1 := HR1.out
              unfold Lx.chk at h1
              rw [if_neg (by omega), hw, if_neg (by decide)] at h1
              exact h1)
            clear hw
            go_wp2_with fail
            refine (HW.out w10).mono ?_
            rintro e w12 ⟨rfl, rfl⟩
            go_wp2
            go_ret2
            have HE3 := HE2.out
            injection HE3 with g1 g2
            exact ⟨by rw [g1, g2]; rfl, H10.out⟩
    · have HR1 := Lib.hid (show (RK, RN) = Lx.chk s.data.toList 2 m2 by rw [HR.out, if_neg (by decide), if_pos c2])
      have e2 : ((m2 : Int) == 0) = false := by simp; omega
      go_enter Tryz.func68, Tryz.ntmps68
      go_wp2_with fail
      refine (between_new 48 57 w).mono ?_
      rintro e w1 ⟨d1, d2, rfl, hd, b⟩
      have H1 := Lib.hid (And.intro b hd)
      clear b hd
      go_wp2_with fail
      refine (between_new 65 90 w1).mono ?_
      rintro e w2 ⟨p1, p2, rfl, hd, b⟩
      have H2 := Lib.hid (And.intro (H1.out.1.trans (b.mono H1.out.1.size)) (And.intro (H1.out.2.below b) hd))
      clear b hd H1
      go_wp2_with fail
      refine (between_new 97 122 w2).mono ?_
      rintro e w3 ⟨q1, q2, rfl, hd, b⟩
      have H3 := Lib.hid (And.intro (H2.out.1.trans (b.mono H2.out.1.size)) (And.intro (H2.out.2.1.below b) (And.intro (H2.out.2.2.below b) hd)))
      clear b hd H2
      go_wp2_with fail
      refine (among_new ⟨#[95]⟩ w3).mono ?_
      rintro e w4 ⟨a, rfl, hd, b⟩
      have H4 := Lib.hid (And.intro (H3.out.1.trans (b.mono H3.out.1.size)) (And.intro (H3.out.2.1.below b) (And.intro (H3.out.2.2.1.below b) (And.intro (H3.out.2.2.2.below b) hd))))
      clear b hd H3
      go_wp2_with fail
      obtain ⟨w5, hw5⟩ : ∃ w5, w5 = w4.alloc (.cells #[fBt p1 p2, fBt q1 q2, fAm a] 186) := ⟨_, rfl⟩
      rw [← hw5]
      have H5 := Lib.hid (show Below w4.heap.size w4 w5 ∧ w5.cell? ⟨w4.heap.size, 0, none⟩ = some (fBt p1 p2) ∧ w5.cell? ⟨w4.heap.size, 1, none⟩ = some (fBt q1 q2) ∧ w5.cell? ⟨w4.heap.size, 2, none⟩ = some (fAm a) by
        subst hw5
        exact ⟨(Below.refl _ _).alloc (Nat.le_refl _) _, cells_new _ [_, _, _] _ 0 _ rfl, cells_new _ [_, _, _] _ 1 _ rfl, cells_new _ [_, _, _] _ 2 _ rfl⟩)
      clear hw5
      refine (either_new w4.heap.size 3 w5).mono ?_
      rintro e w6 ⟨b0, rfl, hd, b⟩
      have H6 := Lib.hid (show Below w.heap.size w w6 ∧ IsBt w6 d1 d2 48 57 ∧ IsLet w6 b0 w4.heap.size p1 p2 q1 q2 a from by
        have b5 := H5.out.1.trans (b.mono H5.out.1.size)
        exact ⟨H4.out.1.trans (b5.mono H4.out.1.size), H4.out.2.1.below b5, ⟨hd, cell_below b (Nat.le_refl _) H5.out.2.1, cell_below b (Nat.le_refl _) H5.out.2.2.1, cell_below b (Nat.le_refl _) H5.out.2.2.2, H4.out.2.2.1.below b5, H4.out.2.2.2.1.below b5, cell_below b5 (Nat.le_refl _) H4.out.2.2.2.2⟩⟩)
      generalize w4.heap.size = g0 at *
      clear b hd H4 H5
      go_wp2_with fail
      refine (HLD.out d1 d2 w6 H6.out.2.1).mono ?_
      rintro e w7 ⟨rfl, b⟩
      have H7 := Lib.hid (And.intro (H6.out.1.trans (b.mono H6.out.1.size)) (And.intro (H6.out.2.1.below b) (H6.out.2.2.below b)))
      clear b H6
      go_wp2_with fail
      obtain ⟨w8, hw8⟩ : ∃ w8, w8 = w7.alloc (.cells #[fEi b0, fBt d1 d2] 186) := ⟨_, rfl⟩
      rw [← hw8]
      have H8 := Lib.hid (show Below w7.heap.size w7 w8 ∧ w8.cell? ⟨w7.heap.size, 0, none⟩ = some (fEi b0) ∧ w8.cell? ⟨w7.heap.size, 1, none⟩ = some (fBt d1 d2) by
        subst hw8
        exact ⟨(Below.refl _ _).alloc (Nat.le_refl _) _, cells_new _ [_, _] _ 0 _ rfl, cells_new _ [_, _] _ 1 _ rfl⟩)
      clear hw8
      refine (either_new w7.heap.size 2 w8).mono ?_
      rintro e w9 ⟨b2, rfl, hd, b⟩
      have H9 := Lib.hid (show Below w.heap.size w w9 ∧ IsLd w9 b2 w7.heap.size d1 d2 b0 g0 p1 p2 q1 q2 a from by
        have b5 := H8.out.1.trans (b.mono H8.out.1.size)
        exact ⟨H7.out.1.trans (b5.mono H7.out.1.size), ⟨hd, cell_below b (Nat.le_refl _) H8.out.2.1, cell_below b (Nat.le_refl _) H8.out.2.2, H7.out.2.2.below b5, H7.out.2.1.below b5⟩⟩)
      generalize w7.heap.size = g7 at *
      clear b hd H7 H8
      go_wp2_with fail
      refine (HLN.out b2 g7 d1 d2 b0 g0 p1 p2 q1 q2 a w9 H9.out.2).mono ?_
      rintro e w10 ⟨rfl, b⟩
      have H10 := Lib.hid (H9.out.1.trans (b.mono H9.out.1.size))
      clear b H9
      generalize m2 = m at *
      by_cases c4 : 64 < m
      · have c4' : (m : Int) > 64 := by omega
        have HE := Lib.hid (show RK = 0 ∧ RN = 0 by
          have h1 := HR1.out
          unfold Lx.chk at h1
          rw [if_pos (by omega)] at h1
          injection h1 with h2 h3
          exact ⟨h2, h3⟩)
        clear c4
        go_wp2
        go_ret2
        exact ⟨by rw [HE.out.1, HE.out.2]; rfl, H10.out⟩
      · have c4' : ¬ (m : Int) > 64 := by omega
        have HE := Lib.hid (show RN = m by
          have h1 := HR1.out
          unfold Lx.chk at h1
          rw [if_neg (by omega)] at h1
          injection h1 with h2 h3)
        have hms : (m : Int) ≤ (s.size : Int) := by have := HE.out; omega
        clear c4
        cases hw : Lx.words.contains (s.data.toList.take m) with
        | true =>
          have HW := Lib.hid (HWD.out m)
          rw [hw] at HW
          have HE2 := Lib.hid (show RK = 3 by
            have h1 := HR1.out
            unfold Lx.chk at h1
            rw [if_neg (by omega), hw] at h1
            injection h1 with h2 h3)
          clear hw
          go_wp2_with fail
          refine (HW.out w10).mono ?_
          rintro e w12 ⟨rfl, rfl⟩
          go_wp2
          go_ret2
          exact ⟨by rw [HE.out, HE2.out]; rfl, H10.out⟩
        | false =>
          have HW := Lib.hid (HWD.out m)
          rw [hw] at HW
          have HE2 := Lib.hid (show (RK, RN) = (_, m) by
            have h1 := HR1.out
            unfold Lx.chk at h1
            rw [if_neg (by omega), hw, if_neg (by decide)] at h1
            exact h1)
          clear hw
          go_wp2_with fail
          refine (HW.out w10).mono ?_
          rintro e w12 ⟨rfl, rfl⟩
          go_wp2
          go_ret2
          have HE3 := HE2.out
          injection HE3 with g1 g2
          exact ⟨by rw [g1, g2]; rfl, H10.out⟩
  · have HR1 := Lib.hid (show (RK, RN) = Lx.chk s.data.toList 1 m1 by rw [HR.out, if_pos c1])
    have e1 : ((m1 : Int) == 0) = false := by simp; omega
    go_enter Tryz.func68, Tryz.ntmps68
    go_wp2_with fail
    refine (between_new 48 57 w).mono ?_
    rintro e w1 ⟨d1, d2, rfl, hd, b⟩
    have H1 := Lib.hid (And.intro b hd)
    clear b hd
    go_wp2_with fail
    refine (between_new 65 90 w1).mono ?_
    rintro e w2 ⟨p1, p2, rfl, hd, b⟩
    have H2 := Lib.hid (And.intro (H1.out.1.trans (b.mono H1.out.1.size)) (And.intro (H1.out.2.below b) hd))
    clear b hd H1
    go_wp2_with fail
    refine (between_new 97 122 w2).mono ?_
    rintro e w3 ⟨q1, q2, rfl, hd, b⟩
    have H3 := Lib.hid (And.intro (H2.out.1.trans (b.mono H2.out.1.size)) (And.intro (H2.out.2.1.below b) (And.intro (H2.out.2.2.below b) hd)))
    clear b hd H2
    go_wp2_with fail
    refine (among_new ⟨#[95]⟩ w3).mono ?_
    rintro e w4 ⟨a, rfl, hd, b⟩
    have H4 := Lib.hid (And.intro (H3.out.1.trans (b.mono H3.out.1.size)) (And.intro (H3.out.2.1.below b) (And.intro (H3.out.2.2.1.below b) (And.intro (H3.out.2.2.2.below b) hd))))
    clear b hd H3
    go_wp2_with fail
    obtain ⟨w5, hw5⟩ : ∃ w5, w5 = w4.alloc (.cells #[fBt p1 p2, fBt q1 q2, fAm a] 186) := ⟨_, rfl⟩
    rw [← hw5]
    have H5 := Lib.hid (show Below w4.heap.size w4 w5 ∧ w5.cell? ⟨w4.heap.size, 0, none⟩ = some (fBt p1 p2) ∧ w5.cell? ⟨w4.heap.size, 1, none⟩ = some (fBt q1 q2) ∧ w5.cell? ⟨w4.heap.size, 2, none⟩ = some (fAm a) by
      subst hw5
      exact ⟨(Below.refl _ _).alloc (Nat.le_refl _) _, cells_new _ [_, _, _] _ 0 _ rfl, cells_new _ [_, _, _] _ 1 _ rfl, cells_new _ [_, _, _] _ 2 _ rfl⟩)
    clear hw5
    refine (either_new w4.heap.size 3 w5).mono ?_
    rintro e w6 ⟨b0, rfl, hd, b⟩
    have H6 := Lib.hid (show Below w.heap.size w w6 ∧ IsBt w6 d1 d2 48 57 ∧ IsLet w6 b0 w4.heap.size p1 p2 q1 q2 a from by
      have b5 := H5.out.1.trans (b.mono H5.out.1.size)
      exact ⟨H4.out.1.trans (b5.mono H4.out.1.size), H4.out.2.1.below b5, ⟨hd, cell_below b (Nat.le_refl _) H5.out.2.1, cell_below b (Nat.le_refl _) H5.out.2.2.1, cell_below b (Nat.le_refl _) H5.out.2.2.2, H4.out.2.2.1.below b5, H4.out.2.2.2.1.below b5, cell_below b5 (Nat.le_refl _) H4.out.2.2.2.2⟩⟩)
    generalize w4.heap.size = g0 at *
    clear b hd H4 H5
    go_wp2_with fail
    refine (HLD.out d1 d2 w6 H6.out.2.1).mono ?_
    rintro e w7 ⟨rfl, b⟩
    have H7 := Lib.hid (And.intro (H6.out.1.trans (b.mono H6.out.1.size)) (And.intro (H6.out.2.1.below b) (H6.out.2.2.below b)))
    clear b H6
    obtain ⟨w10, hw10⟩ : ∃ w10, w10 = w7 := ⟨_, rfl⟩
    have H10 := Lib.hid H7.out.1
    rw [← hw10] at H10 ⊢
    clear hw10 H7
    generalize m1 = m at *
    by_cases c4 : 64 < m
    · have c4' : (m : Int) > 64 := by omega
      have HE := Lib.hid (show RK = 0 ∧ RN = 0 by
        have h1 := HR1.out
        unfold Lx.chk at h1
        rw [if_pos (by omega)] at h1
        injection h1 with h2 h3
        exact ⟨h2, h3⟩)
      clear c4
      go_wp2
      go_ret2
      exact ⟨by rw [HE.out.1, HE.out.2]; rfl, H10.out⟩
    · have c4' : ¬ (m : Int) > 64 := by omega
      have HE := Lib.hid (show RN = m by
        have h1 := HR1.out
        unfold Lx.chk at h1
        rw [if_neg (by omega)] at h1
        injection h1 with h2 h3)
      have hms : (m : Int) ≤ (s.size : Int) := by have := HE.out; omega
      clear c4
      cases hw : Lx.words.contains (s.data.toList.take m) with
      | true =>
        have HW := Lib.hid (HWD.out m)
        rw [hw] at HW
        have HE2 := Lib.hid (show RK = 3 by
          have h1 := HR1.out
          unfold Lx.chk at h1
          rw [if_neg (by omega), hw] at h1
          injection h1 with h2 h3)
        clear hw
        go_wp2_with fail
        refine (HW.out w10).mono ?_
        rintro e w12 ⟨rfl, rfl⟩
        go_wp2
        go_ret2
        exact ⟨by rw [HE.out, HE2.out]; rfl, H10.out⟩
      | false =>
        have HW := Lib.hid (HWD.out m)
        rw [hw] at HW
        have HE2 := Lib.hid (show (RK, RN) = (_, m) by
          have h1 := HR1.out
          unfold Lx.chk at h1
          rw [if_neg (by omega), hw, if_neg (by decide)] at h1
          exact h1)
        clear hw
        go_wp2_with fail
        refine (HW.out w10).mono ?_
        rintro e w12 ⟨rfl, rfl⟩
        go_wp2
        go_ret2
        have HE3 := HE2.out
        injection HE3 with g1 g2
        exact ⟨by rw [g1, g2]; rfl, H10.out⟩
end Go.Proofs.YtmmdigeciphglaaGreatDoor
