/- Facts and walks for the statement. -/
import Derived.Test.YtdcjpinbflmikaaGreatDoorPzW03
import Derived.Test.YtdcjpinbflmikaaGreatDoorPzW07
import Derived.Test.YtdcjpinbflmikaaGreatDoorPzW06
import Derived.Lib.CutLaws
namespace Go.Proofs.YtdcjpinbflmikaaGreatDoor
open Go.RowKit
theorem cell_new (w : World) (v : Value) (t : TypeId) : (w.alloc (.cells #[v] t)).cell? ⟨w.heap.size, 0, none⟩ = some v := by
  rw [World.cell?_alloc_mark w _ t (0, 0) 0]; rfl
set_option maxHeartbeats 1000000 in
theorem among_new (a : ByteArray) (w : World) : Calls Tryz.prog 167 #[.string a] w fun e w' => ∃ b, e = .returned (fAm b) ∧ w'.cell? ⟨b, 0, none⟩ = some (.string a) ∧ Below w.heap.size w w' := by
  have H1 := Lib.hid (cell_new w (.string a) 9)
  have H2 := Lib.hid (show Below w.heap.size w (w.alloc (.cells #[.string a] 9)) from (Below.refl _ _).alloc (Nat.le_refl _) _)
  go_enter Tryz.func167, Tryz.ntmps167
  go_wp2
  go_ret
  exact ⟨_, rfl, H1.out, H2.out⟩
set_option maxHeartbeats 1000000 in
theorem either_new (g n : Nat) (w : World) : Calls Tryz.prog 172 #[.slice (some ⟨g, 0, none⟩) n n] w fun e w' => ∃ b, e = .returned (fEi b) ∧ w'.cell? ⟨b, 0, none⟩ = some (.slice (some ⟨g, 0, none⟩) n n) ∧ Below w.heap.size w w' := by
  have H1 := Lib.hid (cell_new w (.slice (some ⟨g, 0, none⟩) n n) 277)
  have H2 := Lib.hid (show Below w.heap.size w (w.alloc (.cells #[.slice (some ⟨g, 0, none⟩) n n] 277)) from (Below.refl _ _).alloc (Nat.le_refl _) _)
  go_enter Tryz.func172, Tryz.ntmps172
  go_wp2
  go_ret
  exact ⟨_, rfl, H1.out, H2.out⟩
set_option maxHeartbeats 1000000 in
theorem between_new (x y : Int) (w : World) : Calls Tryz.prog 171 #[.int .u8 x, .int .u8 y] w fun e w' => ∃ b1 b2, e = .returned (fBt b1 b2) ∧ IsBt w' b1 b2 x y ∧ Below w.heap.size w w' := by
  have H1 := Lib.hid (cell_new w (.int .u8 x) 5)
  have H2 := Lib.hid (show Below w.heap.size w (w.alloc (.cells #[.int .u8 x] 5)) from (Below.refl _ _).alloc (Nat.le_refl _) _)
  have H3 := Lib.hid (cell_new (w.alloc (.cells #[.int .u8 x] 5)) (.int .u8 y) 5)
  have H4 := Lib.hid (show Below (w.alloc (.cells #[.int .u8 x] 5)).heap.size (w.alloc (.cells #[.int .u8 x] 5)) ((w.alloc (.cells #[.int .u8 x] 5)).alloc (.cells #[.int .u8 y] 5)) from (Below.refl _ _).alloc (Nat.le_refl _) _)
  have H5 := Lib.hid (show IsBt ((w.alloc (.cells #[.int .u8 x] 5)).alloc (.cells #[.int .u8 y] 5)) w.heap.size (w.heap.size + 1) x y from ⟨cell_below H4.out (Nat.le_refl _) H1.out, by have := H3.out; rwa [show (w.alloc (.cells #[.int .u8 x] 5)).heap.size = w.heap.size + 1 by simp] at this⟩)
  have H6 := Lib.hid (show Below w.heap.size w ((w.alloc (.cells #[.int .u8 x] 5)).alloc (.cells #[.int .u8 y] 5)) from H2.out.trans (H4.out.mono H2.out.size))
  go_enter Tryz.func171, Tryz.ntmps171
  go_wp2
  go_ret
  exact ⟨w.heap.size, w.heap.size + 1, rfl, H5.out, H6.out⟩
theorem cells_new (w : World) (l : List Value) (t : TypeId) (j : Nat) (v : Value) (h : l[j]? = some v) : (w.alloc (.cells l.toArray t)).cell? ⟨w.heap.size, j, none⟩ = some v := by
  rw [World.cell?_alloc_mark w _ t (0, 0) j, List.getElem?_toArray, h]
set_option maxHeartbeats 8000000 in
set_option maxRecDepth 100000 in
theorem first_any (s : ByteArray) (w : World) (hs : s.size ≤ maxLen) (h : Sg w) :
    Calls Tryz.prog 109 #[.string s] w fun e w' => e = .returned (.tuple #[.int .u8 (Lx.fst s.data.toList).1, .int .i64 (Lx.fst s.data.toList).2]) ∧ Below w.heap.size w w' := by
  have HSG := Lib.hid h
  have HLD := Lib.hid (fun (d1 d2 : Nat) w0 (h0 : IsBt w0 d1 d2 48 57) => lead_between (I := fun w => IsBt w d1 d2 48 57) (fun _ _ h b => h.below b) #[.pointer (some ⟨d1, 0, none⟩), .pointer (some ⟨d2, 0, none⟩)] Lx.isD (between_fits d1 d2 48 57 Lx.isD (fun c => isD_iff c)) s w0 hs h0)
  have HLN := Lib.hid (fun (b' g' d1 d2 b g p1 p2 q1 q2 a : Nat) w0 (h0 : IsLd w0 b' g' d1 d2 b g p1 p2 q1 q2 a) => lead_either (I := fun w => IsLd w b' g' d1 d2 b g p1 p2 q1 q2 a) (fun _ _ h b => h.below b) #[.pointer (some ⟨b', 0, none⟩)] Lx.isN (ld_fits b' g' d1 d2 b g p1 p2 q1 q2 a) s w0 hs h0)
  have HSN := Lib.hid (fun w0 h0 => sign_any s w0 h0)
  have HWD := Lib.hid (fun (n : Nat) w0 => show Calls Tryz.prog 174 #[.string (s.extract 0 n)] w0 fun e w' => e = .returned (.bool (Lx.words.contains (s.data.toList.take n))) ∧ w0 = w' from by
    have := isWord_any (s.extract 0 n) w0
    rwa [take_data] at this)
  have hr1 := Lx.run_le Lx.isD s.data.toList
  have hr2 := Lx.run_le Lx.isN s.data.toList
  have hf := Lx.fst_le s.data.toList
  rw [← Lib.size_eq] at hr1 hr2 hf
  obtain ⟨R, hR⟩ : ∃ R, R = Lx.fst s.data.toList := ⟨_, rfl⟩
  rw [← hR] at hf ⊢
  obtain ⟨RK, RN⟩ := R
  unfold Lx.fst at hR
  generalize Lx.run Lx.isD s.data.toList = m1 at *
  generalize Lx.run Lx.isN s.data.toList = m2 at *
  have HR := Lib.hid hR
  clear hR h
  simp only at hf ⊢
  by_cases c1 : m1 = 0
  · subst c1
    have e1 : (((0 : Nat) : Int) == 0) = true := rfl
    by_cases c2 : m2 = 0
    · subst c2
      have HR1 := Lib.hid (show (RK, RN) = Lx.chk s.data.toList 4 (Lx.sgn s.data.toList) by rw [HR.out, if_neg (by decide), if_neg (by decide)])
      go_enter Tryz.func109, Tryz.ntmps109
      go_wp2_with fail
      refine (between_new 48 57 w).mono ?_
      rintro e w1 ⟨d1, d2, rfl, hd, b⟩
      have H1 := Lib.hid (And.intro b hd)
      clear b hd
      go_wp2_with fail
      refine (between_new 65 90 w1).mono ?_
      rintro e w2 ⟨p1, p2, rfl, hd, b⟩
      have H2 := Lib.hid (And.intro (H1.out.1.trans (b.mono H1.out.1.size)) (And.intro (H1.out.2.below b) hd))
      clear b hd H1
      go_wp2_with fail
      refine (between_new 97 122 w2).mono ?_
      rintro e w3 ⟨q1, q2, rfl, hd, b⟩
      have H3 := Lib.hid (And.intro (H2.out.1.trans (b.mono H2.out.1.size)) (And.intro (H2.out.2.1.below b) (And.intro (H2.out.2.2.below b) hd)))
      clear b hd H2
      go_wp2_with fail
      refine (among_new ⟨#[95]⟩ w3).mono ?_
      rintro e w4 ⟨a, rfl, hd, b⟩
      have H4 := Lib.hid (And.intro (H3.out.1.trans (b.mono H3.out.1.size)) (And.intro (H3.out.2.1.below b) (And.intro (H3.out.2.2.1.below b) (And.intro (H3.out.2.2.2.below b) hd))))
      clear b hd H3
      go_wp2_with fail
      obtain ⟨w5, hw5⟩ : ∃ w5, w5 = w4.alloc (.cells #[fBt p1 p2, fBt q1 q2, fAm a] 251) := ⟨_, rfl⟩
      rw [← hw5]
      have H5 := Lib.hid (show Below w4.heap.size w4 w5 ∧ w5.cell? ⟨w4.heap.size, 0, none⟩ = some (fBt p1 p2) ∧ w5.cell? ⟨w4.heap.size, 1, none⟩ = some (fBt q1 q2) ∧ w5.cell? ⟨w4.heap.size, 2, none⟩ = some (fAm a) by
        subst hw5
        exact ⟨(Below.refl _ _).alloc (Nat.le_refl _) _, cells_new _ [_, _, _] _ 0 _ rfl, cells_new _ [_, _, _] _ 1 _ rfl, cells_new _ [_, _, _] _ 2 _ rfl⟩)
      clear hw5
      refine (either_new w4.heap.size 3 w5).mono ?_
      rintro e w6 ⟨b0, rfl, hd, b⟩
      have H6 := Lib.hid (show Below w.heap.size w w6 ∧ IsBt w6 d1 d2 48 57 ∧ IsLet w6 b0 w4.heap.size p1 p2 q1 q2 a from by
        have b5 := H5.out.1.trans (b.mono H5.out.1.size)
        exact ⟨H4.out.1.trans (b5.mono H4.out.1.size), H4.out.2.1.below b5, ⟨hd, cell_below b (Nat.le_refl _) H5.out.2.1, cell_below b (Nat.le_refl _) H5.out.2.2.1, cell_below b (Nat.le_refl _) H5.out.2.2.2, H4.out.2.2.1.below b5, H4.out.2.2.2.1.below b5, cell_below b5 (Nat.le_refl _) H4.out.2.2.2.2⟩⟩)
      generalize w4.heap.size = g0 at *
      clear b hd H4 H5
      go_wp2_with fail
      refine (HLD.out d1 d2 w6 H6.out.2.1).mono ?_
      rintro e w7 ⟨rfl, b⟩
      have H7 := Lib.hid (And.intro (H6.out.1.trans (b.mono H6.out.1.size)) (And.intro (H6.out.2.1.below b) (H6.out.2.2.below b)))
      clear b H6
      go_wp2_with fail
      obtain ⟨w8, hw8⟩ : ∃ w8, w8 = w7.alloc (.cells #[fEi b0, fBt d1 d2] 251) := ⟨_, rfl⟩
      rw [← hw8]
      have H8 := Lib.hid (show Below w7.heap.size w7 w8 ∧ w8.cell? ⟨w7.heap.size, 0, none⟩ = some (fEi b0) ∧ w8.cell? ⟨w7.heap.size, 1, none⟩ = some (fBt d1 d2) by
        subst hw8
        exact ⟨(Below.refl _ _).alloc (Nat.le_refl _) _, cells_new _ [_, _] _ 0 _ rfl, cells_new _ [_, _] _ 1 _ rfl⟩)
      clear hw8
      refine (either_new w7.heap.size 2 w8).mono ?_
      rintro e w9 ⟨b2, rfl, hd, b⟩
      have H9 := Lib.hid (show Below w.heap.size w w9 ∧ IsLd w9 b2 w7.heap.size d1 d2 b0 g0 p1 p2 q1 q2 a from by
        have b5 := H8.out.1.trans (b.mono H8.out.1.size)
        exact ⟨H7.out.1.trans (b5.mono H7.out.1.size), ⟨hd, cell_below b (Nat.le_refl _) H8.out.2.1, cell_below b (Nat.le_refl _) H8.out.2.2, H7.out.2.2.below b5, H7.out.2.1.below b5⟩⟩)
      generalize w7.heap.size = g7 at *
      clear b hd H7 H8
      go_wp2_with fail
      refine (HLN.out b2 g7 d1 d2 b0 g0 p1 p2 q1 q2 a w9 H9.out.2).mono ?_
      rintro e w10 ⟨rfl, b⟩
      have H10 := Lib.hid (H9.out.1.trans (b.mono H9.out.1.size))
      clear b H9
      go_wp2_with fail
      refine (HSN.out w10 (HSG.out.below H10.out (Nat.le_refl _))).mono ?_
      rintro e w11 ⟨rfl, rfl⟩
      generalize Lx.sgn s.data.toList = m at *
      by_cases c3 : m = 0
      · subst c3
        have HE := Lib.hid (show RK = 0 ∧ RN = 0 by
          have h1 := HR1.out
          unfold Lx.chk at h1
          rw [if_pos (by omega)] at h1
          injection h1 with h2 h3
          exact ⟨h2, h3⟩)
        go_wp2
        go_ret2
        exact ⟨by rw [HE.out.1, HE.out.2]; rfl, H10.out⟩
      · have e3 : ((m : Int) == 0) = false := by simp; omega
        by_cases c4 : 64 < m
        · have c4' : (m : Int) > 64 := by omega
          have HE := Lib.hid (show RK = 0 ∧ RN = 0 by
            have h1 := HR1.out
            unfold Lx.chk at h1
            rw [if_pos (by omega)] at h1
            injection h1 with h2 h3
            exact ⟨h2, h3⟩)
          clear c4
          go_wp2
          go_ret2
          exact ⟨by rw [HE.out.1, HE.out.2]; rfl, H10.out⟩
        · have c4' : ¬ (m : Int) > 64 := by omega
          have HE := Lib.hid (show RN = m by
            have h1 := HR1.out
            unfold Lx.chk at h1
            rw [if_neg (by omega)] at h1
            injection h1 with h2 h3)
          have hms : (m : Int) ≤ (s.size : Int) := by have := HE.out; omega
          clear c4
          cases hw : Lx.words.contains (s.data.toList.take m) with
          | true =>
            have HW := Lib.hid (HWD.out m)
            rw [hw] at HW
            have HE2 := Lib.hid (show RK = 3 by
              have h1 := HR1.out
              unfold Lx.chk at h1
              rw [if_neg (by omega), hw] at h1
              injection h1 with h2 h3)
            clear hw
            go_wp2_with fail
            refine (HW.out w10).mono ?_
            rintro e w12 ⟨rfl, rfl⟩
            go_wp2
            go_ret2
            exact ⟨by rw [HE.out, HE2.out]; rfl, H10.out⟩
          | false =>
            have HW := Lib.hid (HWD.out m)
            rw [hw] at HW
            have HE2 := Lib.hid (show (RK, RN) = (_, m) by
              have h1 := HR1.out
              unfold Lx.chk at h1
              rw [if_neg (by omega), hw, if_neg (by decide)] at h1
              exact h1)
            clear hw
            go_wp2_with fail
            refine (HW.out w10).mono ?_
            rintro e w12 ⟨rfl, rfl⟩
            go_wp2
            go_ret2
            have HE3 := HE2.out
            injection HE3 with g1 g2
            exact ⟨by rw [g1, g2]; rfl, H10.out⟩
    · have HR1 := Lib.hid (show (RK, RN) = Lx.chk s.data.toList 2 m2 by rw [HR.out, if_neg (by decide), if_pos c2])
      have e2 : ((m2 : Int) == 0) = false := by simp; omega
      go_enter Tryz.func109, Tryz.ntmps109
      go_wp2_with fail
      refine (between_new 48 57 w).mono ?_
      rintro e w1 ⟨d1, d2, rfl, hd, b⟩
      have H1 := Lib.hid (And.intro b hd)
      clear b hd
      go_wp2_with fail
      refine (between_new 65 90 w1).mono ?_
      rintro e w2 ⟨p1, p2, rfl, hd, b⟩
      have H2 := Lib.hid (And.intro (H1.out.1.trans (b.mono H1.out.1.size)) (And.intro (H1.out.2.below b) hd))
      clear b hd H1
      go_wp2_with fail
      refine (between_new 97 122 w2).mono ?_
      rintro e w3 ⟨q1, q2, rfl, hd, b⟩
      have H3 := Lib.hid (And.intro (H2.out.1.trans (b.mono H2.out.1.size)) (And.intro (H2.out.2.1.below b) (And.intro (H2.out.2.2.below b) hd)))
      clear b hd H2
      go_wp2_with fail
      refine (among_new ⟨#[95]⟩ w3).mono ?_
      rintro e w4 ⟨a, rfl, hd, b⟩
      have H4 := Lib.hid (And.intro (H3.out.1.trans (b.mono H3.out.1.size)) (And.intro (H3.out.2.1.below b) (And.intro (H3.out.2.2.1.below b) (And.intro (H3.out.2.2.2.below b) hd))))
      clear b hd H3
      go_wp2_with fail
      obtain ⟨w5, hw5⟩ : ∃ w5, w5 = w4.alloc (.cells #[fBt p1 p2, fBt q1 q2, fAm a] 251) := ⟨_, rfl⟩
      rw [← hw5]
      have H5 := Lib.hid (show Below w4.heap.size w4 w5 ∧ w5.cell? ⟨w4.heap.size, 0, none⟩ = some (fBt p1 p2) ∧ w5.cell? ⟨w4.heap.size, 1, none⟩ = some (fBt q1 q2) ∧ w5.cell? ⟨w4.heap.size, 2, none⟩ = some (fAm a) by
        subst hw5
        exact ⟨(Below.refl _ _).alloc (Nat.le_refl _) _, cells_new _ [_, _, _] _ 0 _ rfl, cells_new _ [_, _, _] _ 1 _ rfl, cells_new _ [_, _, _] _ 2 _ rfl⟩)
      clear hw5
      refine (either_new w4.heap.size 3 w5).mono ?_
      rintro e w6 ⟨b0, rfl, hd, b⟩
      have H6 := Lib.hid (show Below w.heap.size w w6 ∧ IsBt w6 d1 d2 48 57 ∧ IsLet w6 b0 w4.heap.size p1 p2 q1 q2 a from by
        have b5 := H5.out.1.trans (b.mono H5.out.1.size)
        exact ⟨H4.out.1.trans (b5.mono H4.out.1.size), H4.out.2.1.below b5, ⟨hd, cell_below b (Nat.le_refl _) H5.out.2.1, cell_below b (Nat.le_refl _) H5.out.2.2.1, cell_below b (Nat.le_refl _) H5.out.2.2.2, H4.out.2.2.1.below b5, H4.out.2.2.2.1.below b5, cell_below b5 (Nat.le_refl _) H4.out.2.2.2.2⟩⟩)
      generalize w4.heap.size = g0 at *
      clear b hd H4 H5
      go_wp2_with fail
      refine (HLD.out d1 d2 w6 H6.out.2.1).mono ?_
      rintro e w7 ⟨rfl, b⟩
      have H7 := Lib.hid (And.intro (H6.out.1.trans (b.mono H6.out.1.size)) (And.intro (H6.out.2.1.below b) (H6.out.2.2.below b)))
      clear b H6
      go_wp2_with fail
      obtain ⟨w8, hw8⟩ : ∃ w8, w8 = w7.alloc (.cells #[fEi b0, fBt d1 d2] 251) := ⟨_, rfl⟩
      rw [← hw8]
      have H8 := Lib.hid (show Below w7.heap.size w7 w8 ∧ w8.cell? ⟨w7.heap.size, 0, none⟩ = some (fEi b0) ∧ w8.cell? ⟨w7.heap.size, 1, none⟩ = some (fBt d1 d2) by
        subst hw8
        exact ⟨(Below.refl _ _).alloc (Nat.le_refl _) _, cells_new _ [_, _] _ 0 _ rfl, cells_new _ [_, _] _ 1 _ rfl⟩)
      clear hw8
      refine (either_new w7.heap.size 2 w8).mono ?_
      rintro e w9 ⟨b2, rfl, hd, b⟩
      have H9 := Lib.hid (show Below w.heap.size w w9 ∧ IsLd w9 b2 w7.heap.size d1 d2 b0 g0 p1 p2 q1 q2 a from by
        have b5 := H8.out.1.trans (b.mono H8.out.1.size)
        exact ⟨H7.out.1.trans (b5.mono H7.out.1.size), ⟨hd, cell_below b (Nat.le_refl _) H8.out.2.1, cell_below b (Nat.le_refl _) H8.out.2.2, H7.out.2.2.below b5, H7.out.2.1.below b5⟩⟩)
      generalize w7.heap.size = g7 at *
      clear b hd H7 H8
      go_wp2_with fail
      refine (HLN.out b2 g7 d1 d2 b0 g0 p1 p2 q1 q2 a w9 H9.out.2).mono ?_
      rintro e w10 ⟨rfl, b⟩
      have H10 := Lib.hid (H9.out.1.trans (b.mono H9.out.1.size))
      clear b H9
      generalize m2 = m at *
      by_cases c4 : 64 < m
      · have c4' : (m : Int) > 64 := by omega
        have HE := Lib.hid (show RK = 0 ∧ RN = 0 by
          have h1 := HR1.out
          unfold Lx.chk at h1
          rw [if_pos (by omega)] at h1
          injection h1 with h2 h3
          exact ⟨h2, h3⟩)
        clear c4
        go_wp2
        go_ret2
        exact ⟨by rw [HE.out.1, HE.out.2]; rfl, H10.out⟩
      · have c4' : ¬ (m : Int) > 64 := by omega
        have HE := Lib.hid (show RN = m by
          have h1 := HR1.out
          unfold Lx.chk at h1
          rw [if_neg (by omega)] at h1
          injection h1 with h2 h3)
        have hms : (m : Int) ≤ (s.size : Int) := by have := HE.out; omega
        clear c4
        cases hw : Lx.words.contains (s.data.toList.take m) with
        | true =>
          have HW := Lib.hid (HWD.out m)
          rw [hw] at HW
          have HE2 := Lib.hid (show RK = 3 by
            have h1 := HR1.out
            unfold Lx.chk at h1
            rw [if_neg (by omega), hw] at h1
            injection h1 with h2 h3)
          clear hw
          go_wp2_with fail
          refine (HW.out w10).mono ?_
          rintro e w12 ⟨rfl, rfl⟩
          go_wp2
          go_ret2
          exact ⟨by rw [HE.out, HE2.out]; rfl, H10.out⟩
        | false =>
          have HW := Lib.hid (HWD.out m)
          rw [hw] at HW
          have HE2 := Lib.hid (show (RK, RN) = (_, m) by
            have h1 := HR1.out
            unfold Lx.chk at h1
            rw [if_neg (by omega), hw, if_neg (by decide)] at h1
            exact h1)
          clear hw
          go_wp2_with fail
          refine (HW.out w10).mono ?_
          rintro e w12 ⟨rfl, rfl⟩
          go_wp2
          go_ret2
          have HE3 := HE2.out
          injection HE3 with g1 g2
          exact ⟨by rw [g1, g2]; rfl, H10.out⟩
  · have HR1 := Lib.hid (show (RK, RN) = Lx.chk s.data.toList 1 m1 by rw [HR.out, if_pos c1])
    have e1 : ((m1 : Int) == 0) = false := by simp; omega
    go_enter Tryz.func109, Tryz.ntmps109
    go_wp2_with fail
    refine (between_new 48 57 w).mono ?_
    rintro e w1 ⟨d1, d2, rfl, hd, b⟩
    have H1 := Lib.hid (And.intro b hd)
    clear b hd
    go_wp2_with fail
    refine (between_new 65 90 w1).mono ?_
    rintro e w2 ⟨p1, p2, rfl, hd, b⟩
    have H2 := Lib.hid (And.intro (H1.out.1.trans (b.mono H1.out.1.size)) (And.intro (H1.out.2.below b) hd))
    clear b hd H1
    go_wp2_with fail
    refine (between_new 97 122 w2).mono ?_
    rintro e w3 ⟨q1, q2, rfl, hd, b⟩
    have H3 := Lib.hid (And.intro (H2.out.1.trans (b.mono H2.out.1.size)) (And.intro (H2.out.2.1.below b) (And.intro (H2.out.2.2.below b) hd)))
    clear b hd H2
    go_wp2_with fail
    refine (among_new ⟨#[95]⟩ w3).mono ?_
    rintro e w4 ⟨a, rfl, hd, b⟩
    have H4 := Lib.hid (And.intro (H3.out.1.trans (b.mono H3.out.1.size)) (And.intro (H3.out.2.1.below b) (And.intro (H3.out.2.2.1.below b) (And.intro (H3.out.2.2.2.below b) hd))))
    clear b hd H3
    go_wp2_with fail
    obtain ⟨w5, hw5⟩ : ∃ w5, w5 = w4.alloc (.cells #[fBt p1 p2, fBt q1 q2, fAm a] 251) := ⟨_, rfl⟩
    rw [← hw5]
    have H5 := Lib.hid (show Below w4.heap.size w4 w5 ∧ w5.cell? ⟨w4.heap.size, 0, none⟩ = some (fBt p1 p2) ∧ w5.cell? ⟨w4.heap.size, 1, none⟩ = some (fBt q1 q2) ∧ w5.cell? ⟨w4.heap.size, 2, none⟩ = some (fAm a) by
      subst hw5
      exact ⟨(Below.refl _ _).alloc (Nat.le_refl _) _, cells_new _ [_, _, _] _ 0 _ rfl, cells_new _ [_, _, _] _ 1 _ rfl, cells_new _ [_, _, _] _ 2 _ rfl⟩)
    clear hw5
    refine (either_new w4.heap.size 3 w5).mono ?_
    rintro e w6 ⟨b0, rfl, hd, b⟩
    have H6 := Lib.hid (show Below w.heap.size w w6 ∧ IsBt w6 d1 d2 48 57 ∧ IsLet w6 b0 w4.heap.size p1 p2 q1 q2 a from by
      have b5 := H5.out.1.trans (b.mono H5.out.1.size)
      exact ⟨H4.out.1.trans (b5.mono H4.out.1.size), H4.out.2.1.below b5, ⟨hd, cell_below b (Nat.le_refl _) H5.out.2.1, cell_below b (Nat.le_refl _) H5.out.2.2.1, cell_below b (Nat.le_refl _) H5.out.2.2.2, H4.out.2.2.1.below b5, H4.out.2.2.2.1.below b5, cell_below b5 (Nat.le_refl _) H4.out.2.2.2.2⟩⟩)
    generalize w4.heap.size = g0 at *
    clear b hd H4 H5
    go_wp2_with fail
    refine (HLD.out d1 d2 w6 H6.out.2.1).mono ?_
    rintro e w7 ⟨rfl, b⟩
    have H7 := Lib.hid (And.intro (H6.out.1.trans (b.mono H6.out.1.size)) (And.intro (H6.out.2.1.below b) (H6.out.2.2.below b)))
    clear b H6
    obtain ⟨w10, hw10⟩ : ∃ w10, w10 = w7 := ⟨_, rfl⟩
    have H10 := Lib.hid H7.out.1
    rw [← hw10] at H10 ⊢
    clear hw10 H7
    generalize m1 = m at *
    by_cases c4 : 64 < m
    · have c4' : (m : Int) > 64 := by omega
      have HE := Lib.hid (show RK = 0 ∧ RN = 0 by
        have h1 := HR1.out
        unfold Lx.chk at h1
        rw [if_pos (by omega)] at h1
        injection h1 with h2 h3
        exact ⟨h2, h3⟩)
      clear c4
      go_wp2
      go_ret2
      exact ⟨by rw [HE.out.1, HE.out.2]; rfl, H10.out⟩
    · have c4' : ¬ (m : Int) > 64 := by omega
      have HE := Lib.hid (show RN = m by
        have h1 := HR1.out
        unfold Lx.chk at h1
        rw [if_neg (by omega)] at h1
        injection h1 with h2 h3)
      have hms : (m : Int) ≤ (s.size : Int) := by have := HE.out; omega
      clear c4
      cases hw : Lx.words.contains (s.data.toList.take m) with
      | true =>
        have HW := Lib.hid (HWD.out m)
        rw [hw] at HW
        have HE2 := Lib.hid (show RK = 3 by
          have h1 := HR1.out
          unfold Lx.chk at h1
          rw [if_neg (by omega), hw] at h1
          injection h1 with h2 h3)
        clear hw
        go_wp2_with fail
        refine (HW.out w10).mono ?_
        rintro e w12 ⟨rfl, rfl⟩
        go_wp2
        go_ret2
        exact ⟨by rw [HE.out, HE2.out]; rfl, H10.out⟩
      | false =>
        have HW := Lib.hid (HWD.out m)
        rw [hw] at HW
        have HE2 := Lib.hid (show (RK, RN) = (_, m) by
          have h1 := HR1.out
          unfold Lx.chk at h1
          rw [if_neg (by omega), hw, if_neg (by decide)] at h1
          exact h1)
        clear hw
        go_wp2_with fail
        refine (HW.out w10).mono ?_
        rintro e w12 ⟨rfl, rfl⟩
        go_wp2
        go_ret2
        have HE3 := HE2.out
        injection HE3 with g1 g2
        exact ⟨by rw [g1, g2]; rfl, H10.out⟩
end Go.Proofs.YtdcjpinbflmikaaGreatDoor
namespace Go.Proofs.YtdcjpinbflmikaaGreatDoor
open Go.RowKit
def rmk (l : List UInt8) : Bool := match l with
  | c :: d :: _ => decide (c.toNat = 45) && decide (d.toNat = 45)
  | _ => false
theorem blk_b {c : UInt8} {r : List UInt8} (h : Lx.isB c = true) : Lx.blk false (c :: r) = 1 + Lx.blk false r := by simp only [Lx.blk]; rw [if_pos h]
theorem blk_stop {c : UInt8} {r : List UInt8} (h : Lx.isB c = false) (h2 : rmk (c :: r) = false) : Lx.blk false (c :: r) = 0 := by
  simp only [Lx.blk]
  rw [if_neg (by rw [h]; decide), if_neg]
  rintro ⟨h3, h4⟩
  cases r with
  | nil => cases h4
  | cons d r =>
    simp only [List.head?_cons, Option.some.injEq] at h4
    subst h4
    unfold rmk at h2
    simp [h3] at h2
theorem blk_rem {c : UInt8} {r : List UInt8} (h2 : rmk (c :: r) = true) : Lx.blk false (c :: r) = Lx.blk true (c :: r) ∧ c.toNat = 45 := by
  cases r with
  | nil => cases h2
  | cons d r =>
    unfold rmk at h2
    simp only [Bool.and_eq_true, decide_eq_true_eq] at h2
    refine ⟨?_, h2.1⟩
    have hb : Lx.isB c = false := decide_eq_false (by omega)
    have hd : d = 45 := UInt8.toNat_inj.1 h2.2
    subst hd
    simp only [Lx.blk]
    rw [if_neg (by rw [hb]; decide), if_pos ⟨h2.1, rfl⟩, if_neg (show ¬ c.toNat = 10 by omega)]
theorem blk_ten {c : UInt8} {r : List UInt8} (h : c.toNat = 10) : Lx.blk true (c :: r) = Lx.blk false (c :: r) := by
  rw [blk_b (show Lx.isB c = true from decide_eq_true (by omega))]
  simp only [Lx.blk]
  rw [if_pos h]
theorem blk_on {c : UInt8} {r : List UInt8} (h : c.toNat ≠ 10) : Lx.blk true (c :: r) = 1 + Lx.blk true r := by
  simp only [Lx.blk]
  rw [if_neg h]
end Go.Proofs.YtdcjpinbflmikaaGreatDoor
namespace Go.Proofs.YtdcjpinbflmikaaGreatDoor
open Go.RowKit
set_option maxHeartbeats 1000000 in
theorem is_any (s : ByteArray) (w : World) (hs : s.size ≤ maxLen) (h : Sg w) :
    Calls Tryz.prog 146 #[.string s] w fun e w' => e = .returned (.int .u8 (Lx.is s.data.toList)) ∧ Below w.heap.size w w' := by
  have HF := Lib.hid (first_any s w hs h)
  have HE := Lib.hid (Lx.is_fst s.data.toList)
  rw [← Lib.size_eq] at HE
  generalize Lx.is s.data.toList = R at *
  generalize Lx.fst s.data.toList = d at *
  obtain ⟨k, n⟩ := d
  simp only at HF HE
  clear h
  by_cases c : n < s.size
  · have c' : (n : Int) < (s.size : Int) := by omega
    have HR := Lib.hid (show R = 0 by rw [HE.out, if_pos c])
    clear c HE
    go_enter Tryz.func146, Tryz.ntmps146
    go_wp2_with fail
    refine HF.out.mono ?_
    rintro e w1 ⟨rfl, b⟩
    go_wp2
    go_ret
    exact ⟨by rw [HR.out]; rfl, b⟩
  · have c' : ¬ (n : Int) < (s.size : Int) := by omega
    have HR := Lib.hid (show R = k by rw [HE.out, if_neg c])
    clear c HE
    go_enter Tryz.func146, Tryz.ntmps146
    go_wp2_with fail
    refine HF.out.mono ?_
    rintro e w1 ⟨rfl, b⟩
    go_wp2
    go_ret
    exact ⟨by rw [HR.out]; rfl, b⟩
/-! ### blanks -/
namespace Lx
def nt (c : UInt8) : Bool := decide (c.toNat ≠ 10)
def dash (l : List UInt8) : Bool := Lib.hasPrefix l [45, 45]
def stop (l : List UInt8) : Nat := if dash l then blk true l else 0
theorem blk_run : ∀ l : List UInt8, blk false l = run isB l + stop (l.drop (run isB l))
  | [] => rfl
  | c :: r => by
    have ih := blk_run r
    cases hb : isB c with
    | true =>
      rw [blk_b hb]
      unfold run
      rw [if_pos hb, Nat.add_comm 1 (run isB r), List.drop_succ_cons]
      omega
    | false =>
      have hr : run isB (c :: r) = 0 := by unfold run; rw [if_neg (by rw [hb]; decide)]
      rw [hr, List.drop_zero, Nat.zero_add]
      unfold stop
      have hm : dash (c :: r) = rmk (c :: r) := by
        unfold dash rmk Lib.hasPrefix
        cases r with
        | nil => simp [List.isPrefixOf]
        | cons d r =>
          have e : ∀ x : UInt8, ((45 : UInt8) == x) = decide (x.toNat = 45) := fun x => by
            rw [Bool.eq_iff_iff, beq_iff_eq, decide_eq_true_iff]
            exact ⟨fun h => by rw [← h]; rfl, fun h => (UInt8.toNat_inj.1 h).symm⟩
          show ((45 == c) && ((45 == d) && List.isPrefixOf [] r)) = _
          rw [e, e, show List.isPrefixOf [] r = true from rfl, Bool.and_true]
      cases hk : rmk (c :: r) with
      | true => rw [hm, hk, if_pos rfl, (blk_rem hk).1]
      | false => rw [hm, hk, if_neg (by decide), blk_stop hb hk]
theorem blk_line : ∀ l : List UInt8, blk true l = run nt l + blk false (l.drop (run nt l))
  | [] => rfl
  | c :: r => by
    have ih := blk_line r
    by_cases h : c.toNat = 10
    · have hr : run nt (c :: r) = 0 := by unfold run; rw [if_neg (by unfold nt; simp [h])]
      rw [hr, blk_ten h, List.drop_zero, Nat.zero_add]
    · rw [blk_on h]
      unfold run
      rw [if_pos (by unfold nt; simp [h]), Nat.add_comm 1 (run nt r), List.drop_succ_cons]
      omega
theorem dash_one {l : List UInt8} (h : dash l = true) : 1 ≤ run nt l := by
  cases l with
  | nil => exact absurd h (by decide)
  | cons c r =>
    have hc : c = 45 := by
      unfold dash Lib.hasPrefix at h
      simp [List.isPrefixOf] at h
      exact h.1.symm
    subst hc
    unfold run
    rw [if_pos (by decide)]
    omega
end Lx
def spB : ByteArray := ⟨#[32, 9, 10, 13]⟩
theorem sp_mem (c : UInt8) : Lx.isB c = true ↔ c ∈ spB.data.toList := by
  have e : ∀ (x : UInt8), c = x ↔ c.toNat = x.toNat := fun x => ⟨fun h => by rw [h], fun h => UInt8.toNat_inj.1 h⟩
  show Lx.isB c = true ↔ c ∈ [32, 9, 10, 13]
  unfold Lx.isB
  rw [decide_eq_true_iff]
  simp only [List.mem_cons, List.not_mem_nil, or_false]
  rw [e, e, e, e]
  show _ ↔ c.toNat = 32 ∨ c.toNat = 9 ∨ c.toNat = 10 ∨ c.toNat = 13
  omega
theorem nt_iff (c : UInt8) : Lx.nt c = true ↔ c.toNat ≠ 10 := by unfold Lx.nt; rw [decide_eq_true_iff]
set_option maxHeartbeats 4000000 in
set_option maxRecDepth 100000 in
theorem blanks_any (s : ByteArray) (w : World) (hs : s.size ≤ 1000000000) :
    Calls Tryz.prog 108 #[.string s] w fun e w' => e = .returned (.int .i64 (Lx.blk false s.data.toList)) ∧ Below w.heap.size w w' := by
  have HL := Lib.hid (Lib.size_eq s)
  have HSP := Lib.hid (fun (b : Nat) (t : ByteArray) w0 (ht : t.size ≤ maxLen) (h0 : w0.cell? ⟨b, 0, none⟩ = some (.string spB)) => lead_among (I := fun w => w.cell? ⟨b, 0, none⟩ = some (.string spB)) (fun _ _ h b => cell_below b (Nat.le_refl _) h) #[.pointer (some ⟨b, 0, none⟩)] Lx.isB (among_fits b spB Lx.isB sp_mem) t w0 ht h0)
  have HLI := Lib.hid (fun (t : ByteArray) w0 (ht : t.size ≤ maxLen) => lead_line (I := fun _ => True) (fun _ _ _ _ => True.intro) #[] Lx.nt (line_fits _ Lx.nt nt_iff) t w0 ht True.intro)
  have HPX := Lib.hid (fun (t : ByteArray) w0 => show Calls Tryz.prog 170 #[.string t, .string ⟨#[45, 45]⟩] w0 fun e w' => e = .returned (.bool (Lx.dash t.data.toList)) ∧ w' = w0 from Tryz.strings_HasPrefix t ⟨#[45, 45]⟩ w0)
  have hsm : s.size ≤ maxLen := by unfold maxLen; omega
  obtain ⟨R, hR⟩ : ∃ R, R = Lx.blk false s.data.toList := ⟨_, rfl⟩
  rw [← hR]
  have HR := Lib.hid (hR.trans (Lx.blk_run _))
  have hr1 := Lx.run_le Lx.isB s.data.toList
  rw [← HL.out] at hr1
  obtain ⟨n0, hn0⟩ : ∃ n0, n0 = Lx.run Lx.isB s.data.toList := ⟨_, rfl⟩
  rw [← hn0] at HR hr1
  have HN0 := Lib.hid hn0
  clear hR hn0
  go_enter Tryz.func108, Tryz.ntmps108
  go_wp2_with fail
  refine (among_new spB w).mono ?_
  rintro e w1 ⟨b, rfl, hc, b1⟩
  have H1 := Lib.hid (And.intro b1 hc)
  clear hc b1
  go_wp2_with fail
  refine (HSP.out b s w1 hsm H1.out.2).mono ?_
  rintro e w2 ⟨rfl, b1⟩
  have H2 := Lib.hid (And.intro (H1.out.1.trans (b1.mono H1.out.1.size)) (cell_below b1 (Nat.le_refl _) H1.out.2))
  rw [← HN0.out]
  clear b1 H1
  go_wp2
  go_loopw [5] (fun i wr => ∃ n : Nat, i = .int .i64 n ∧ n ≤ s.size ∧ Hid (R = n + Lx.stop (s.data.toList.drop n)) ∧ Hid (Below w.heap.size w wr ∧ wr.cell? ⟨b, 0, none⟩ = some (.string spB))) (fun i _ => s.size - (intOf i).toNat)
  case atStart => exact ⟨n0, rfl, hr1, HR, H2⟩
  case round =>
    clear hr1 H2
    obtain ⟨n, rfl, hn, HI, HB⟩ := hrel
    have hn' : (n : Int) ≤ (s.size : Int) := by omega
    have hd : (s.extract n s.size).data.toList = s.data.toList.drop n := Lib.extract_to_end s n
    have HP := Lib.hid (HPX.out (s.extract n s.size) wr)
    have HLN := Lib.hid (fun w0 => HLI.out (s.extract n s.size) w0 (by rw [ByteArray.size_extract]; unfold maxLen; omega))
    rw [hd] at HP HLN
    cases hp : Lx.dash (s.data.toList.drop n) with
    | false =>
      rw [hp] at HP
      have HE := Lib.hid (show R = n by rw [HI.out]; unfold Lx.stop; rw [hp, if_neg (by decide)]; rfl)
      clear hp hd
      go_wp2_with fail
      refine HP.out.mono ?_
      rintro e w3 ⟨rfl, rfl⟩
      go_wp2
      go_ret
      exact ⟨ret_int (by rw [HE.out]), HB.out.1⟩
    | true =>
      rw [hp] at HP
      have h1 := Lx.dash_one hp
      have h2 := Lx.run_le Lx.nt (s.data.toList.drop n)
      rw [List.length_drop, ← HL.out] at h2
      have h3 : R = n + Lx.blk true (s.data.toList.drop n) := by rw [HI.out]; unfold Lx.stop; rw [hp, if_pos rfl]
      rw [Lx.blk_line] at h3
      obtain ⟨m, hm⟩ : ∃ m, m = Lx.run Lx.nt (s.data.toList.drop n) := ⟨_, rfl⟩
      rw [← hm] at h1 h2 h3 HLN
      rw [List.drop_drop, Lx.blk_run, List.drop_drop] at h3
      have hnm : n + m ≤ s.size := by omega
      have h4 := Lx.run_le Lx.isB (s.data.toList.drop (n + m))
      rw [List.length_drop, ← HL.out] at h4
      have hd2 : (s.extract (n + m) s.size).data.toList = s.data.toList.drop (n + m) := Lib.extract_to_end s (n + m)
      have HSX := Lib.hid (fun w0 h0 => HSP.out b (s.extract (n + m) s.size) w0 (by rw [ByteArray.size_extract]; unfold maxLen; omega) h0)
      rw [hd2] at HSX
      obtain ⟨q, hq⟩ : ∃ q, q = Lx.run Lx.isB (s.data.toList.drop (n + m)) := ⟨_, rfl⟩
      rw [← hq] at h3 h4 HSX
      have HE := Lib.hid (show R = (n + m + q : Nat) + Lx.stop (s.data.toList.drop (n + m + q)) by omega)
      have h5 : n + m + q ≤ s.size := by omega
      clear h3 hm hq hd hd2 hp
      have hnm' : (n : Int) + (m : Int) ≤ (s.size : Int) := by omega
      have hz : ((n : Int) + (m : Int)).toNat = n + m := by omega
      go_wp2_with fail
      refine HP.out.mono ?_
      rintro e w3 ⟨rfl, rfl⟩
      go_wp2_with fail
      refine (HLN.out _).mono ?_
      rintro e w4 ⟨rfl, b1⟩
      have H4 := Lib.hid (And.intro (HB.out.1.trans (b1.mono HB.out.1.size)) (cell_below b1 (Nat.le_refl _) HB.out.2))
      clear b1
      go_wp2_with fail
      refine (HSX.out _ H4.out.2).mono ?_
      rintro e w5 ⟨rfl, b1⟩
      have H5 := Lib.hid (And.intro (H4.out.1.trans (b1.mono H4.out.1.size)) (cell_below b1 (Nat.le_refl _) H4.out.2))
      clear b1 H4
      go_wp2
      go_roundw
      case rel => exact ⟨n + m + q, by go_num, h5, HE, H5⟩
      case measure => simp [intOf]; omega
end Go.Proofs.YtdcjpinbflmikaaGreatDoor
