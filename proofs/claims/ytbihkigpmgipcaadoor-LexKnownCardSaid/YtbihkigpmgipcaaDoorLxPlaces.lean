/- Layer 7's statements: LexPlaces, walked, from what the package's functions answer. Conditions: they do, in every world of a kind that stays. -/
import Derived.Test.YtbihkigpmgipcaaDoorLxPieces
namespace Go.Proofs.YtbihkigpmgipcaaDoor
open Go.RowKit

theorem ext_dt (s : ByteArray) (a k : Nat) : (s.extract a k).data.toList = (s.data.toList.drop a).take (k - a) := by
  rw [← Lib.toList_data, Lib.extract_toList]
set_option maxHeartbeats 8000000 in
set_option maxRecDepth 100000 in
theorem places_any {I : World → Prop} (K : Kind7 I) (s : ByteArray) (w : World) (hs : s.size ≤ maxLen) (hI : I w) :
    Calls Tryd.prog 7 #[.string s] w fun e w' => e = .returned (.bool true) ∧ Below w.heap.size w w' := by
  have HK := Lib.hid K
  have HIw := Lib.hid hI
  clear K hI
  by_cases h1 : s.size ≤ 600
  · have h1a : ¬ (s.size : Int) > 600 := by omega
    have hls : s.data.toList.length = s.size := (Lib.size_eq s).symm
    have HPL := Lib.hid (Lx.toks_PL (s := s.data.toList) (by omega))
    have HT := Lib.hid (fun w0 (i0 : I w0) => HK.out.toks s w0 hs i0)
    have hcn := toks_count s.data.toList
    have HBK := Lib.hid (fun (a k : Nat) (h : Lx.blk false (s.data.toList.drop a) = k - a) w0 (i0 : I w0) => show Calls Tryd.prog 11 #[.string (s.extract a k)] w0 (LlP ([], 0, 0) w0) from by
      have h5 := HK.out.toks (s.extract a k) w0 (by rw [ByteArray.size_extract]; unfold maxLen; omega) i0
      rw [ext_dt, ← h, Lx.toks_blank (by rw [List.length_drop]; omega)] at h5
      exact h5)
    generalize hX : Lx.toks s.data.toList = X at *
    obtain ⟨L, m, f⟩ := X
    simp only at hcn
    clear hX hs
    by_cases hf : f = 0
    · subst hf
      have hff : ((0 : Int) != 0) = false := rfl
      go_enter Tryd.func7, Tryd.ntmps7
      go_wp2_with fail
      refine (HT.out _ HIw.out).mono ?_
      rintro e w1 ⟨A1, c1, own1, rfl, b1⟩
      obtain ⟨r1, l1, _⟩ := own_rd own1 rfl
      simp only at r1 l1
      have HRR := Lib.hid r1
      have HB1 := Lib.hid b1
      clear own1 b1 r1
      go_wp2
      go_loopw [6, 7] (fun va vi wr => ∃ (a i : Nat), va = .int .i64 a ∧ vi = .int .i64 i ∧ i ≤ L.length + 1 ∧ a ≤ s.size ∧ Hid (Below w1.heap.size w1 wr ∧ (i ≤ L.length → Lx.PL s.data.toList a (L.drop i)))) (fun _ vi _ => L.length + 1 - (intOf vi).toNat)
      case atStart => exact ⟨0, 0, rfl, rfl, Nat.zero_le _, Nat.zero_le _, Lib.hid ⟨Below.refl _ _, fun _ => HPL.out (by first | trivial | rfl)⟩⟩
      case round =>
        obtain ⟨a, i, rfl, rfl, hi, has, HJ⟩ := hrel
        have HB := Lib.hid HJ.out.1
        have HIr := Lib.hid (And.intro (HB1.out.trans (HB.out.mono HB1.out.size)) (HK.out.stays _ _ HIw.out (HB1.out.trans (HB.out.mono HB1.out.size))))
        by_cases hlt : i ≤ L.length
        · have hlt' : (i : Int) ≤ (L.length : Int) := by omega
          have hpl := HJ.out.2 hlt
          by_cases hx : i < L.length
          · have hx' : (i : Int) < (L.length : Int) := by omega
            rw [List.drop_eq_getElem_cons hx] at hpl
            obtain ⟨p1, p2, p3, p4, p5, p6⟩ := hpl
            obtain ⟨g, o, hA, hg, d⟩ := HRR.out.below HB.out (by omega)
            obtain ⟨x0, x1, x2⟩ := d i hx
            subst hA
            clear d
            generalize L[i] = t at *
            obtain ⟨K, T, P⟩ := t
            simp only at p1 p2 p3 p4 p5 p6 x0 x1 x2
            rw [hls] at p2 p5
            have HBL := Lib.hid (HBK.out a P p3)
            obtain ⟨Y, hY⟩ : ∃ Y : ByteArray, Y = ⟨T.toArray⟩ := ⟨_, rfl⟩
            rw [← hY] at x1
            have hYl : T.length = Y.size := by rw [hY]; rfl
            rw [hYl] at p2 p4 p5 p6
            have hYe : s.extract P (P + Y.size) = Y := by rw [← lx_mk, ← p4, hY]
            have HP6 := Lib.hid p6
            have q1 : ¬ (P : Int) < (a : Int) := by omega
            have q2 : ¬ (P : Int) > (s.size : Int) := by omega
            have q3 : ¬ (P : Int) + (Y.size : Int) > (s.size : Int) := by omega
            have q4 : ((s.extract P (P + Y.size)).toList != Y.toList) = false := by rw [hYe]; simp
            have q4a : ((s.extract P (P + Y.size)).toList == Y.toList) = true := by rw [hYe]; simp
            have q4b : (!(s.extract P (P + Y.size)).toList == Y.toList) = false := by rw [hYe]; simp
            have q5 : (0 : Int) ≤ (P : Int) + (Y.size : Int) := by omega
            have q6 : (P : Int) ≤ (P : Int) + (Y.size : Int) := by omega
            have q7 : ((P : Int) + (Y.size : Int)).toNat = P + Y.size := by omega
            have q8 : (P : Int) + (Y.size : Int) ≤ (s.size : Int) := by omega
            have q9 : (a : Int) ≤ (P : Int) := by omega
            have q10 : (P : Int) ≤ (s.size : Int) := by omega
            clear p3 p4 p6 hY hYl hYe hlt hx
            go_wp2_with fail
            refine (HBL.out _ HIr.out.2).mono ?_
            rintro e w2 ⟨A2, c2, own2, rfl, b2⟩
            have HB2 := Lib.hid (And.intro (HB.out.trans (b2.mono HB.out.size)) (And.intro (HIr.out.1.trans (b2.mono HIr.out.1.size)) (HK.out.stays _ _ HIr.out.2 b2)))
            have x1' := (b2.cell (p := ⟨g, _, none⟩) (Nat.lt_of_lt_of_le hg HB.out.size)).trans x1
            clear own2 b2
            go_wp2_with fail
            by_cases hend : P + Y.size < s.size
            · have hend' : (P : Int) + (Y.size : Int) < (s.size : Int) := by omega
              have HIS := Lib.hid (fun w0 (i0 : I w0) => show Calls Tryd.prog 16 #[.string (s.extract P (P + Y.size + 1))] w0 fun e w' => e = .returned (.int .u8 0) ∧ Below w0.heap.size w0 w' from by
                have h5 := HK.out.is (s.extract P (P + Y.size + 1)) w0 (by rw [ByteArray.size_extract]; omega) i0
                rw [ext_dt, show P + Y.size + 1 - P = Y.size + 1 by omega, p5 hend] at h5
                exact h5)
              have r1 : decide ((s.size : Int) < (P : Int) + (Y.size : Int)) = false := decide_eq_false (by omega)
              have r2 : decide ((P : Int) + (Y.size : Int) < (s.size : Int)) = true := decide_eq_true hend'
              have r3 : IntKind.i64.wrap ((P : Int) + (Y.size : Int) + 1) = (P : Int) + (Y.size : Int) + 1 := IntWalk.i64_in _ (by omega)
              have r4 : (0 : Int) ≤ (P : Int) + (Y.size : Int) + 1 := by omega
              have r5 : (P : Int) ≤ (P : Int) + (Y.size : Int) + 1 := by omega
              have r6 : ((P : Int) + (Y.size : Int) + 1).toNat = P + Y.size + 1 := by omega
              have r7 : (P : Int) + (Y.size : Int) + 1 ≤ (s.size : Int) := by omega
              have hgw : g < w2.heap.size := Nat.lt_of_lt_of_le hg HB2.out.1.size
              clear hend p5
              go_region_held3 (fun w' => w'.cell? ⟨g, o + i * 3 + 1, none⟩ = some (.string Y)) (first | exact x1' | exact ((h3.cell (p := ⟨g, _, none⟩) hgw).trans x1')) (first | (go_at_call 16; refine (HIS.out _ (HK.out.stays _ _ HB2.out.2.2 ((Below.refl _ _).drew))).mono ?_; rintro e w3 ⟨rfl, h3⟩))
              have HB3 := Lib.hid (HB2.out.1.trans (((Below.refl w2.heap.size w2).drew.trans h3).mono HB2.out.1.size))
              clear h3 x1' r1 r2 r3
              go_wp2
              go_roundw
              case rel => exact ⟨P + Y.size, i + 1, by go_num, by go_num, by omega, p2, Lib.hid ⟨HB3.out, fun _ => HP6.out⟩⟩
              case measure => simp [intOf]; omega
            · have r1 : decide ((s.size : Int) < (P : Int) + (Y.size : Int)) = false := decide_eq_false (by omega)
              have r2 : decide ((P : Int) + (Y.size : Int) < (s.size : Int)) = false := decide_eq_false (by omega)
              clear hend p5
              go_quiet (fail)
              go_wp2
              go_roundw
              case rel => exact ⟨P + Y.size, i + 1, by go_num, by go_num, by omega, p2, Lib.hid ⟨lx_drewN HB2.out.1 _, fun _ => HP6.out⟩⟩
              case measure => simp [intOf]; omega
          · have hx' : ¬ (i : Int) < (L.length : Int) := by omega
            rw [List.drop_of_length_le (by omega)] at hpl
            have hpl2 := hpl.2
            rw [hls] at hpl2
            have HBL := Lib.hid (HBK.out a s.size hpl2)
            have q9 : (a : Int) ≤ (s.size : Int) := by omega
            have q1 : ¬ (s.size : Int) < (a : Int) := by omega
            clear hpl hpl2
            go_wp2_with fail
            refine (HBL.out _ HIr.out.2).mono ?_
            rintro e w2 ⟨A2, c2, own2, rfl, b2⟩
            have HB2 := Lib.hid (And.intro (HB.out.trans (b2.mono HB.out.size)) (And.intro (HIr.out.1.trans (b2.mono HIr.out.1.size)) (HK.out.stays _ _ HIr.out.2 b2)))
            clear own2 b2
            go_wp2
            go_roundw
            case rel => exact ⟨a, i + 1, rfl, by go_num, by omega, has, Lib.hid ⟨HB2.out.1, fun h => absurd h (by omega)⟩⟩
            case measure => simp [intOf]; omega
        · obtain rfl : i = L.length + 1 := by omega
          have hlt' : ¬ ((L.length : Int) + 1) ≤ (L.length : Int) := by omega
          clear hlt
          go_wp2_with fail
          refine (works_any HK.out _ HIr.out.2).mono ?_
          rintro e wz ⟨rfl, hz⟩
          go_wp2
          go_ret
          exact ⟨rfl, HIr.out.1.trans (hz.mono HIr.out.1.size)⟩
    · have hf' : (f != 0) = true := by simpa using hf
      clear hf
      go_enter Tryd.func7, Tryd.ntmps7
      go_wp2_with fail
      refine (HT.out _ HIw.out).mono ?_
      rintro e w1 ⟨A1, c1, own1, rfl, b1⟩
      have HI1 := Lib.hid (And.intro b1 (HK.out.stays _ _ HIw.out b1))
      clear own1 b1
      go_wp2_with fail
      refine (works_any HK.out _ HI1.out.2).mono ?_
      rintro e wz ⟨rfl, hz⟩
      go_wp2
      go_ret
      exact ⟨rfl, HI1.out.1.trans (hz.mono HI1.out.1.size)⟩
  · have hg : (s.size : Int) > 600 := by omega
    clear h1
    go_enter Tryd.func7, Tryd.ntmps7
    go_wp2_with fail
    refine (works_any HK.out _ HIw.out).mono ?_
    rintro e wz ⟨rfl, hz⟩
    go_wp2
    go_ret
    exact ⟨rfl, hz⟩
end Go.Proofs.YtbihkigpmgipcaaDoor
