/- The statement EntityPieces, walked: it answers true. Conditions: the tables hold what their texts lay; strconv.ErrSyntax holds an error; a text's length fits. -/
import Derived.Test.YthmkkinefokdpaaDoorEnLaws
namespace Go.Proofs.YthmkkinefokdpaaDoor
open Go.RowKit

theorem rep_at_le {F : En.Piece} (hF : En.Moves F) : ∀ (n : Nat) (l : List UInt8), l.length ≤ n → (En.rep F l).2.1 ≤ l.length := by
  intro n
  induction n with
  | zero =>
    intro l hl
    have : l = [] := List.eq_nil_of_length_eq_zero (by omega)
    subst this; exact Nat.le_refl _
  | succ n ih =>
    intro l hl
    by_cases hne : l = []
    · subst hne; exact Nat.le_refl _
    · by_cases hf : (F l).2.2 = 0
      · have hm := hF l hne hf
        obtain ⟨g1, g2⟩ := En.rep_good hF hne hf
        have := ih (l.drop (F l).2.1) (by rw [List.length_drop]; omega)
        rw [List.length_drop] at this
        by_cases hz : (En.rep F (l.drop (F l).2.1)).2.2 = 0
        · rw [g1 hz]; exact Nat.zero_le _
        · rw [g2 hz]; simp only; omega
      · rw [En.rep_bad hne hf]; exact Nat.zero_le _


set_option maxHeartbeats 8000000 in
set_option maxRecDepth 100000 in
theorem lawPieces (a b : ByteArray) (attr : Bool) (w : World) (T : Tb w) (ha : a.size ≤ maxLen) (hb : b.size ≤ maxLen) :
    Calls Tryd.prog 6 #[.string a, .string b, .bool attr] w fun e w' => e = .returned (.bool true) ∧ Below w.heap.size w w' := by
  unfold maxLen at ha hb
  have HLa := Lib.hid (Lib.size_eq a)
  have HLb := Lib.hid (Lib.size_eq b)
  have W := Lib.hid works_any
  by_cases hla : a.size ≤ 300
  · have hla' : ¬ (300 : Int) < (a.size : Int) := by omega
    by_cases hlb : b.size ≤ 300
    · have hlb' : ¬ (300 : Int) < (b.size : Int) := by omega
      have HA := Lib.hid (fun w0 T0 => encode_ent a attr (by omega) w0 T0)
      have HB := Lib.hid (fun w0 T0 => encode_ent b attr (by omega) w0 T0)
      by_cases hza : (En.rep (En.eF attr) a.data.toList).2.2 = 0
      · by_cases hzb : (En.rep (En.eF attr) b.data.toList).2.2 = 0
        · have HZ := Lib.hid (fun w0 T0 => encode_ent (a ++ b) attr (by rw [size_append]; omega) w0 T0)
          rw [ba_append] at HZ
          have hap := En.rep_append (En.moves_eF attr) (En.local_eF attr) a.data.toList.length a.data.toList b.data.toList (Nat.le_refl _) hza
          have hxl := rep_long attr a.data.toList
          have hyl := rep_long attr b.data.toList
          rw [hap.1, hap.2.1 hzb, hzb] at HZ
          rw [(En.rep_eF_ok hza).2, (En.rep_eF_ok hzb).2] at HZ
          rw [(En.rep_eF_ok hza).2] at HA
          rw [(En.rep_eF_ok hzb).2] at HB
          simp only at HA HB HZ
          obtain ⟨X, hX⟩ : ∃ X, X = ByteArray.mk (En.encB attr a.data.toList).toArray := ⟨_, rfl⟩
          obtain ⟨Y, hY⟩ : ∃ Y, Y = ByteArray.mk (En.encB attr b.data.toList).toArray := ⟨_, rfl⟩
          have hxy : ByteArray.mk (En.encB attr a.data.toList ++ En.encB attr b.data.toList).toArray = X ++ Y := ba_eq (by rw [data_mk, ba_append, hX, hY, data_mk, data_mk])
          rw [hxy] at HZ
          rw [← hX] at HA
          rw [← hY] at HB
          have hXs : X.size ≤ 3000 := by rw [hX, size_mk]; have := HLa.out; omega
          have hYs : Y.size ≤ 3000 := by rw [hY, size_mk]; have := HLb.out; omega
          clear hza hzb hap hxl hyl hX hY hxy
          go_enter Tryd.func6, Tryd.ntmps6
          go_wp2_with fail
          refine (HA.out _ T).mono ?_
          rintro e w1 ⟨rfl, h1⟩
          have T1 := T.below h1 (Nat.le_refl _)
          have b1 := h1
          clear h1
          go_wp2_with fail
          refine (HB.out _ T1).mono ?_
          rintro e w2 ⟨rfl, h2⟩
          have T2 := T1.below h2 (Nat.le_refl _)
          have b2 := b1.trans (h2.mono b1.size)
          clear T1 h2 b1
          go_wp2_with fail
          refine (HZ.out _ T2).mono ?_
          rintro e w3 ⟨rfl, h3⟩
          have T3 := T2.below h3 (Nat.le_refl _)
          have b3 := b2.trans (h3.mono b2.size)
          clear T2 h3 b2
          by_cases hdz : (En.rep En.dF a.data.toList).2.2 = 0
          · have hap := En.rep_append En.moves_dF En.local_dF a.data.toList.length a.data.toList b.data.toList (Nat.le_refl _) hdz
            have hpl := dec_long _ hdz
            have hql := dec_long b.data.toList
            have hat := rep_at_le En.moves_dF _ b.data.toList (Nat.le_refl _)
            have HD := Lib.hid (fun w0 T0 => decode_ent a (by omega) w0 T0)
            have HQ := Lib.hid (fun w0 T0 => decode_ent b (by omega) w0 T0)
            have HR := Lib.hid (fun w0 T0 => decode_ent (a ++ b) (by rw [size_append]; omega) w0 T0)
            rw [ba_append] at HR
            unfold tup3 at HD HQ HR
            generalize En.rep En.dF (a.data.toList ++ b.data.toList) = dr at *
            generalize En.rep En.dF a.data.toList = dp at *
            generalize En.rep En.dF b.data.toList = dq at *
            obtain ⟨p, np, zp⟩ := dp
            obtain ⟨q, nq, zq⟩ := dq
            obtain ⟨r, nr, zr⟩ := dr
            simp only at HD HQ HR hdz hap hpl hql hat
            subst hdz
            obtain ⟨k1, k2, k3⟩ := hap
            subst k1
            obtain ⟨P, hP⟩ : ∃ P, P = ByteArray.mk p.toArray := ⟨_, rfl⟩
            obtain ⟨Q, hQ⟩ : ∃ Q, Q = ByteArray.mk q.toArray := ⟨_, rfl⟩
            rw [← hP] at HD
            rw [← hQ] at HQ
            have hPs : P.size ≤ 3000 := by rw [hP, size_mk]; have := HLa.out; omega
            by_cases hqz : zr = 0
            · subst hqz
              have hQs : Q.size ≤ 3000 := by rw [hQ, size_mk]; have := hql rfl; have := HLb.out; omega
              have hr : ByteArray.mk r.toArray = P ++ Q := ba_eq (by rw [data_mk, ba_append, k2 rfl, hP, hQ, data_mk, data_mk])
              rw [hr] at HR
              clear k2 k3 hpl hql hat hP hQ hr
              go_wp2_with fail
              refine (HD.out _ T3).mono ?_
              rintro e x1 ⟨rfl, h1⟩
              have X1 := (T3).below h1 (Nat.le_refl _)
              have y1 := (b3).trans (h1.mono (b3).size)
              clear h1
              go_wp2_with fail
              refine (HQ.out _ X1).mono ?_
              rintro e x2 ⟨rfl, h2⟩
              have X2 := X1.below h2 (Nat.le_refl _)
              have y2 := y1.trans (h2.mono y1.size)
              clear h2 X1 y1
              go_wp2_with fail
              refine (HR.out _ X2).mono ?_
              rintro e x3 ⟨rfl, h3⟩
              have X3 := X2.below h3 (Nat.le_refl _)
              have y3 := y2.trans (h3.mono y2.size)
              clear h3 X2 y2
              go_wp2_with fail
              refine (W.out _ X3).mono ?_
              rintro e x4 ⟨rfl, h4⟩
              have y4 := y3.trans (h4.mono y3.size)
              clear h4
              go_wp2
              go_ret
              exact ⟨rfl, y4⟩
            · have hnr := k3 hqz
              have hna : nq ≤ 300 := by have := HLb.out; omega
              have hnr2 : (nr : Int) = (nq : Int) + (a.size : Int) := by have := HLa.out; omega
              rw [hnr2] at HR
              have z1 : (zr == 0) = false := by simpa using hqz
              have z2 : (zr != 0) = true := by simpa using hqz
              clear k2 k3 hpl hql hat hP hQ hqz hnr hnr2
              go_wp2_with fail
              refine (HD.out _ T3).mono ?_
              rintro e x1 ⟨rfl, h1⟩
              have X1 := (T3).below h1 (Nat.le_refl _)
              have y1 := (b3).trans (h1.mono (b3).size)
              clear h1
              go_wp2_with fail
              refine (HQ.out _ X1).mono ?_
              rintro e x2 ⟨rfl, h2⟩
              have X2 := X1.below h2 (Nat.le_refl _)
              have y2 := y1.trans (h2.mono y1.size)
              clear h2 X1 y1
              go_wp2_with fail
              refine (HR.out _ X2).mono ?_
              rintro e x3 ⟨rfl, h3⟩
              have X3 := X2.below h3 (Nat.le_refl _)
              have y3 := y2.trans (h3.mono y2.size)
              clear h3 X2 y2
              go_wp2_with fail
              refine (W.out _ X3).mono ?_
              rintro e x4 ⟨rfl, h4⟩
              have y4 := y3.trans (h4.mono y3.size)
              clear h4
              go_wp2
              go_ret
              exact ⟨rfl, y4⟩
          · have HD := Lib.hid (fun w0 T0 => decode_ent a (by omega) w0 T0)
            have HQ := Lib.hid (fun w0 T0 => decode_ent b (by omega) w0 T0)
            unfold tup3 at HD HQ
            generalize En.rep En.dF a.data.toList = dp at *
            generalize En.rep En.dF b.data.toList = dq at *
            obtain ⟨p, np, zp⟩ := dp
            obtain ⟨q, nq, zq⟩ := dq
            simp only at HD HQ hdz
            have z1 : (zp == 0) = false := by simpa using hdz
            have z2 : (zp != 0) = true := by simpa using hdz
            clear hdz
            go_wp2_with fail
            refine (HD.out _ T3).mono ?_
            rintro e x1 ⟨rfl, h1⟩
            have X1 := (T3).below h1 (Nat.le_refl _)
            have y1 := (b3).trans (h1.mono (b3).size)
            clear h1
            go_wp2_with fail
            refine (HQ.out _ X1).mono ?_
            rintro e x2 ⟨rfl, h2⟩
            have X2 := X1.below h2 (Nat.le_refl _)
            have y2 := y1.trans (h2.mono y1.size)
            clear h2 X1 y1
            go_wp2_with fail
            refine (W.out _ X2).mono ?_
            rintro e x4 ⟨rfl, h4⟩
            have y4 := y2.trans (h4.mono y2.size)
            clear h4
            go_wp2
            go_ret
            exact ⟨rfl, y4⟩
        · generalize En.rep (En.eF attr) a.data.toList = d at *
          obtain ⟨x, nx, zx⟩ := d
          generalize En.rep (En.eF attr) b.data.toList = d2 at *
          obtain ⟨y, ny, zy⟩ := d2
          simp only at HA HB hza hzb
          subst hza
          have e1 : (zy == 0) = false := by simpa using hzb
          clear hzb
          go_enter Tryd.func6, Tryd.ntmps6
          go_wp2_with fail
          refine (HA.out _ T).mono ?_
          rintro e w1 ⟨rfl, h1⟩
          have T1 := T.below h1 (Nat.le_refl _)
          have b1 := h1
          clear h1
          go_wp2_with fail
          refine (HB.out _ T1).mono ?_
          rintro e w2 ⟨rfl, h2⟩
          have T2 := T1.below h2 (Nat.le_refl _)
          have b2 := b1.trans (h2.mono b1.size)
          clear T1 h2 b1
          by_cases hdz : (En.rep En.dF a.data.toList).2.2 = 0
          · have hap := En.rep_append En.moves_dF En.local_dF a.data.toList.length a.data.toList b.data.toList (Nat.le_refl _) hdz
            have hpl := dec_long _ hdz
            have hql := dec_long b.data.toList
            have hat := rep_at_le En.moves_dF _ b.data.toList (Nat.le_refl _)
            have HD := Lib.hid (fun w0 T0 => decode_ent a (by omega) w0 T0)
            have HQ := Lib.hid (fun w0 T0 => decode_ent b (by omega) w0 T0)
            have HR := Lib.hid (fun w0 T0 => decode_ent (a ++ b) (by rw [size_append]; omega) w0 T0)
            rw [ba_append] at HR
            unfold tup3 at HD HQ HR
            generalize En.rep En.dF (a.data.toList ++ b.data.toList) = dr at *
            generalize En.rep En.dF a.data.toList = dp at *
            generalize En.rep En.dF b.data.toList = dq at *
            obtain ⟨p, np, zp⟩ := dp
            obtain ⟨q, nq, zq⟩ := dq
            obtain ⟨r, nr, zr⟩ := dr
            simp only at HD HQ HR hdz hap hpl hql hat
            subst hdz
            obtain ⟨k1, k2, k3⟩ := hap
            subst k1
            obtain ⟨P, hP⟩ : ∃ P, P = ByteArray.mk p.toArray := ⟨_, rfl⟩
            obtain ⟨Q, hQ⟩ : ∃ Q, Q = ByteArray.mk q.toArray := ⟨_, rfl⟩
            rw [← hP] at HD
            rw [← hQ] at HQ
            have hPs : P.size ≤ 3000 := by rw [hP, size_mk]; have := HLa.out; omega
            by_cases hqz : zr = 0
            · subst hqz
              have hQs : Q.size ≤ 3000 := by rw [hQ, size_mk]; have := hql rfl; have := HLb.out; omega
              have hr : ByteArray.mk r.toArray = P ++ Q := ba_eq (by rw [data_mk, ba_append, k2 rfl, hP, hQ, data_mk, data_mk])
              rw [hr] at HR
              clear k2 k3 hpl hql hat hP hQ hr
              go_wp2_with fail
              refine (HD.out _ T2).mono ?_
              rintro e x1 ⟨rfl, h1⟩
              have X1 := (T2).below h1 (Nat.le_refl _)
              have y1 := (b2).trans (h1.mono (b2).size)
              clear h1
              go_wp2_with fail
              refine (HQ.out _ X1).mono ?_
              rintro e x2 ⟨rfl, h2⟩
              have X2 := X1.below h2 (Nat.le_refl _)
              have y2 := y1.trans (h2.mono y1.size)
              clear h2 X1 y1
              go_wp2_with fail
              refine (HR.out _ X2).mono ?_
              rintro e x3 ⟨rfl, h3⟩
              have X3 := X2.below h3 (Nat.le_refl _)
              have y3 := y2.trans (h3.mono y2.size)
              clear h3 X2 y2
              go_wp2_with fail
              refine (W.out _ X3).mono ?_
              rintro e x4 ⟨rfl, h4⟩
              have y4 := y3.trans (h4.mono y3.size)
              clear h4
              go_wp2
              go_ret
              exact ⟨rfl, y4⟩
            · have hnr := k3 hqz
              have hna : nq ≤ 300 := by have := HLb.out; omega
              have hnr2 : (nr : Int) = (nq : Int) + (a.size : Int) := by have := HLa.out; omega
              rw [hnr2] at HR
              have z1 : (zr == 0) = false := by simpa using hqz
              have z2 : (zr != 0) = true := by simpa using hqz
              clear k2 k3 hpl hql hat hP hQ hqz hnr hnr2
              go_wp2_with fail
              refine (HD.out _ T2).mono ?_
              rintro e x1 ⟨rfl, h1⟩
              have X1 := (T2).below h1 (Nat.le_refl _)
              have y1 := (b2).trans (h1.mono (b2).size)
              clear h1
              go_wp2_with fail
              refine (HQ.out _ X1).mono ?_
              rintro e x2 ⟨rfl, h2⟩
              have X2 := X1.below h2 (Nat.le_refl _)
              have y2 := y1.trans (h2.mono y1.size)
              clear h2 X1 y1
              go_wp2_with fail
              refine (HR.out _ X2).mono ?_
              rintro e x3 ⟨rfl, h3⟩
              have X3 := X2.below h3 (Nat.le_refl _)
              have y3 := y2.trans (h3.mono y2.size)
              clear h3 X2 y2
              go_wp2_with fail
              refine (W.out _ X3).mono ?_
              rintro e x4 ⟨rfl, h4⟩
              have y4 := y3.trans (h4.mono y3.size)
              clear h4
              go_wp2
              go_ret
              exact ⟨rfl, y4⟩
          · have HD := Lib.hid (fun w0 T0 => decode_ent a (by omega) w0 T0)
            have HQ := Lib.hid (fun w0 T0 => decode_ent b (by omega) w0 T0)
            unfold tup3 at HD HQ
            generalize En.rep En.dF a.data.toList = dp at *
            generalize En.rep En.dF b.data.toList = dq at *
            obtain ⟨p, np, zp⟩ := dp
            obtain ⟨q, nq, zq⟩ := dq
            simp only at HD HQ hdz
            have z1 : (zp == 0) = false := by simpa using hdz
            have z2 : (zp != 0) = true := by simpa using hdz
            clear hdz
            go_wp2_with fail
            refine (HD.out _ T2).mono ?_
            rintro e x1 ⟨rfl, h1⟩
            have X1 := (T2).below h1 (Nat.le_refl _)
            have y1 := (b2).trans (h1.mono (b2).size)
            clear h1
            go_wp2_with fail
            refine (HQ.out _ X1).mono ?_
            rintro e x2 ⟨rfl, h2⟩
            have X2 := X1.below h2 (Nat.le_refl _)
            have y2 := y1.trans (h2.mono y1.size)
            clear h2 X1 y1
            go_wp2_with fail
            refine (W.out _ X2).mono ?_
            rintro e x4 ⟨rfl, h4⟩
            have y4 := y2.trans (h4.mono y2.size)
            clear h4
            go_wp2
            go_ret
            exact ⟨rfl, y4⟩
      · generalize En.rep (En.eF attr) a.data.toList = d at *
        obtain ⟨x, nx, zx⟩ := d
        generalize En.rep (En.eF attr) b.data.toList = d2 at *
        obtain ⟨y, ny, zy⟩ := d2
        simp only at HA HB hza
        have e1 : (zx == 0) = false := by simpa using hza
        clear hza
        go_enter Tryd.func6, Tryd.ntmps6
        go_wp2_with fail
        refine (HA.out _ T).mono ?_
        rintro e w1 ⟨rfl, h1⟩
        have T1 := T.below h1 (Nat.le_refl _)
        have b1 := h1
        clear h1
        go_wp2_with fail
        refine (HB.out _ T1).mono ?_
        rintro e w2 ⟨rfl, h2⟩
        have T2 := T1.below h2 (Nat.le_refl _)
        have b2 := b1.trans (h2.mono b1.size)
        clear T1 h2 b1
        by_cases hdz : (En.rep En.dF a.data.toList).2.2 = 0
        · have hap := En.rep_append En.moves_dF En.local_dF a.data.toList.length a.data.toList b.data.toList (Nat.le_refl _) hdz
          have hpl := dec_long _ hdz
          have hql := dec_long b.data.toList
          have hat := rep_at_le En.moves_dF _ b.data.toList (Nat.le_refl _)
          have HD := Lib.hid (fun w0 T0 => decode_ent a (by omega) w0 T0)
          have HQ := Lib.hid (fun w0 T0 => decode_ent b (by omega) w0 T0)
          have HR := Lib.hid (fun w0 T0 => decode_ent (a ++ b) (by rw [size_append]; omega) w0 T0)
          rw [ba_append] at HR
          unfold tup3 at HD HQ HR
          generalize En.rep En.dF (a.data.toList ++ b.data.toList) = dr at *
          generalize En.rep En.dF a.data.toList = dp at *
          generalize En.rep En.dF b.data.toList = dq at *
          obtain ⟨p, np, zp⟩ := dp
          obtain ⟨q, nq, zq⟩ := dq
          obtain ⟨r, nr, zr⟩ := dr
          simp only at HD HQ HR hdz hap hpl hql hat
          subst hdz
          obtain ⟨k1, k2, k3⟩ := hap
          subst k1
          obtain ⟨P, hP⟩ : ∃ P, P = ByteArray.mk p.toArray := ⟨_, rfl⟩
          obtain ⟨Q, hQ⟩ : ∃ Q, Q = ByteArray.mk q.toArray := ⟨_, rfl⟩
          rw [← hP] at HD
          rw [← hQ] at HQ
          have hPs : P.size ≤ 3000 := by rw [hP, size_mk]; have := HLa.out; omega
          by_cases hqz : zr = 0
          · subst hqz
            have hQs : Q.size ≤ 3000 := by rw [hQ, size_mk]; have := hql rfl; have := HLb.out; omega
            have hr : ByteArray.mk r.toArray = P ++ Q := ba_eq (by rw [data_mk, ba_append, k2 rfl, hP, hQ, data_mk, data_mk])
            rw [hr] at HR
            clear k2 k3 hpl hql hat hP hQ hr
            go_wp2_with fail
            refine (HD.out _ T2).mono ?_
            rintro e x1 ⟨rfl, h1⟩
            have X1 := (T2).below h1 (Nat.le_refl _)
            have y1 := (b2).trans (h1.mono (b2).size)
            clear h1
            go_wp2_with fail
            refine (HQ.out _ X1).mono ?_
            rintro e x2 ⟨rfl, h2⟩
            have X2 := X1.below h2 (Nat.le_refl _)
            have y2 := y1.trans (h2.mono y1.size)
            clear h2 X1 y1
            go_wp2_with fail
            refine (HR.out _ X2).mono ?_
            rintro e x3 ⟨rfl, h3⟩
            have X3 := X2.below h3 (Nat.le_refl _)
            have y3 := y2.trans (h3.mono y2.size)
            clear h3 X2 y2
            go_wp2_with fail
            refine (W.out _ X3).mono ?_
            rintro e x4 ⟨rfl, h4⟩
            have y4 := y3.trans (h4.mono y3.size)
            clear h4
            go_wp2
            go_ret
            exact ⟨rfl, y4⟩
          · have hnr := k3 hqz
            have hna : nq ≤ 300 := by have := HLb.out; omega
            have hnr2 : (nr : Int) = (nq : Int) + (a.size : Int) := by have := HLa.out; omega
            rw [hnr2] at HR
            have z1 : (zr == 0) = false := by simpa using hqz
            have z2 : (zr != 0) = true := by simpa using hqz
            clear k2 k3 hpl hql hat hP hQ hqz hnr hnr2
            go_wp2_with fail
            refine (HD.out _ T2).mono ?_
            rintro e x1 ⟨rfl, h1⟩
            have X1 := (T2).below h1 (Nat.le_refl _)
            have y1 := (b2).trans (h1.mono (b2).size)
            clear h1
            go_wp2_with fail
            refine (HQ.out _ X1).mono ?_
            rintro e x2 ⟨rfl, h2⟩
            have X2 := X1.below h2 (Nat.le_refl _)
            have y2 := y1.trans (h2.mono y1.size)
            clear h2 X1 y1
            go_wp2_with fail
            refine (HR.out _ X2).mono ?_
            rintro e x3 ⟨rfl, h3⟩
            have X3 := X2.below h3 (Nat.le_refl _)
            have y3 := y2.trans (h3.mono y2.size)
            clear h3 X2 y2
            go_wp2_with fail
            refine (W.out _ X3).mono ?_
            rintro e x4 ⟨rfl, h4⟩
            have y4 := y3.trans (h4.mono y3.size)
            clear h4
            go_wp2
            go_ret
            exact ⟨rfl, y4⟩
        · have HD := Lib.hid (fun w0 T0 => decode_ent a (by omega) w0 T0)
          have HQ := Lib.hid (fun w0 T0 => decode_ent b (by omega) w0 T0)
          unfold tup3 at HD HQ
          generalize En.rep En.dF a.data.toList = dp at *
          generalize En.rep En.dF b.data.toList = dq at *
          obtain ⟨p, np, zp⟩ := dp
          obtain ⟨q, nq, zq⟩ := dq
          simp only at HD HQ hdz
          have z1 : (zp == 0) = false := by simpa using hdz
          have z2 : (zp != 0) = true := by simpa using hdz
          clear hdz
          go_wp2_with fail
          refine (HD.out _ T2).mono ?_
          rintro e x1 ⟨rfl, h1⟩
          have X1 := (T2).below h1 (Nat.le_refl _)
          have y1 := (b2).trans (h1.mono (b2).size)
          clear h1
          go_wp2_with fail
          refine (HQ.out _ X1).mono ?_
          rintro e x2 ⟨rfl, h2⟩
          have X2 := X1.below h2 (Nat.le_refl _)
          have y2 := y1.trans (h2.mono y1.size)
          clear h2 X1 y1
          go_wp2_with fail
          refine (W.out _ X2).mono ?_
          rintro e x4 ⟨rfl, h4⟩
          have y4 := y2.trans (h4.mono y2.size)
          clear h4
          go_wp2
          go_ret
          exact ⟨rfl, y4⟩
    · have hlb' : (300 : Int) < (b.size : Int) := by omega
      go_enter Tryd.func6, Tryd.ntmps6
      go_wp2_with fail
      refine (W.out _ T).mono ?_
      rintro e w1 ⟨rfl, h1⟩
      have T1 := T.below h1 (Nat.le_refl _)
      have b1 := h1
      clear h1
      go_wp2
      go_ret
      exact ⟨rfl, b1⟩
  · have hla' : (300 : Int) < (a.size : Int) := by omega
    go_enter Tryd.func6, Tryd.ntmps6
    go_wp2_with fail
    refine (W.out _ T).mono ?_
    rintro e w1 ⟨rfl, h1⟩
    have T1 := T.below h1 (Nat.le_refl _)
    have b1 := h1
    clear h1
    go_wp2
    go_ret
    exact ⟨rfl, b1⟩
end Go.Proofs.YthmkkinefokdpaaDoor
