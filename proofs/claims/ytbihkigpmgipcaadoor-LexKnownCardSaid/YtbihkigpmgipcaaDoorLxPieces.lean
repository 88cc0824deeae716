/- Layer 7's statements: LexPieces, walked, from what the package's functions answer. Conditions: they do, in every world of a kind that stays. -/
import Derived.Test.YtbihkigpmgipcaaDoorLxCuts
import Derived.Test.YtbihkigpmgipcaaDoorLxPlace
namespace Go.Proofs.YtbihkigpmgipcaaDoor
open Go.RowKit

theorem RdT.on {w w' : World} {A : Option Addr} {l : List Lx.T} (h : RdT w w.heap.size A l) (hb : Below w.heap.size w w') : RdT w' w'.heap.size A l := fun h0 => by
  obtain ⟨g, o, e1, e2, e3⟩ := h.below hb h0
  exact ⟨g, o, e1, Nat.lt_of_lt_of_le e2 hb.size, e3⟩
set_option maxHeartbeats 8000000 in
set_option maxRecDepth 100000 in
theorem pieces_any {I : World → Prop} (K : Kind7 I) (a b : ByteArray) (w : World) (ha : a.size ≤ maxLen) (hb : b.size ≤ maxLen) (hI : I w) :
    Calls Tryd.prog 6 #[.string a, .string b] w fun e w' => e = .returned (.bool true) ∧ Below w.heap.size w w' := by
  have HK := Lib.hid K
  have HIw := Lib.hid hI
  clear K hI
  by_cases h1 : a.size ≤ 300 ∧ b.size ≤ 300
  · have h1a : ¬ (a.size : Int) > 300 := by omega
    have h1b : ¬ (b.size : Int) > 300 := by omega
    obtain ⟨h3, h4⟩ := h1
    have hla : a.data.toList.length = a.size := (Lib.size_eq a).symm
    have hlb : b.data.toList.length = b.size := (Lib.size_eq b).symm
    have hz := Lx.toks_cat a.data.toList b.data.toList (by omega)
    have fx := Lx.toks_form (l := a.data.toList) (by omega)
    have fy := Lx.toks_form (l := b.data.toList) (by omega)
    have hcx := toks_count a.data.toList
    have hcy := toks_count b.data.toList
    have px := Lx.toks_within (l := a.data.toList) (by omega)
    have py := Lx.toks_within (l := b.data.toList) (by omega)
    rw [hla] at hz px
    rw [hlb] at py
    have HTA := Lib.hid (fun w0 (i0 : I w0) => HK.out.toks a w0 ha i0)
    have HTB := Lib.hid (fun w0 (i0 : I w0) => HK.out.toks b w0 hb i0)
    have HTZ := Lib.hid (fun w0 (i0 : I w0) => HK.out.toks ((a ++ ⟨#[10]⟩) ++ b) w0 (by rw [ByteArray.size_append, ByteArray.size_append]; have h5 : (ByteArray.mk #[10]).size = 1 := rfl; unfold maxLen; omega) i0)
    rw [show ((a ++ ⟨#[10]⟩) ++ b).data.toList = a.data.toList ++ 10 :: b.data.toList by simp, hz] at HTZ
    clear hz hla hlb
    generalize Lx.toks a.data.toList = X at *
    generalize Lx.toks b.data.toList = Y at *
    obtain ⟨X, n, e⟩ := X
    obtain ⟨Y, m, f⟩ := Y
    simp only at px py hcx hcy
    have HPX := Lib.hid px.2
    have HPY := Lib.hid py.2
    have hnb := px.1
    have hmb := py.1
    clear px py ha hb
    by_cases he : e = 0
    · by_cases hf : f = 0
      · subst he hf
        have hn0 := fx.1 rfl
        have hm0 := fy.1 rfl
        simp only at hn0 hm0
        subst hn0 hm0
        obtain ⟨Z, hZ⟩ : ∃ Z, Z = X ++ Y.map (Lx.mvT (a.size + 1)) := ⟨_, rfl⟩
        rw [show Lx.jq (X, 0, 0) (Lx.mvR (a.size + 1) (Y, 0, 0)) = (Z, 0, 0) by rw [hZ]; rfl] at HTZ
        have hzl : Z.length = X.length + Y.length := by rw [hZ, List.length_append, List.length_map]
        have HZ := Lib.hid hZ
        have el : ((Z.length : Int) != (X.length : Int) + (Y.length : Int)) = false := by simp [hzl]
        clear fx fy hZ
        go_enter Tryd.func6, Tryd.ntmps6
        go_wp2_with fail
        refine (HTA.out _ HIw.out).mono ?_
        rintro e w1 ⟨A1, c1, own1, rfl, b1⟩
        obtain ⟨r1, l1, _⟩ := own_rd own1 rfl
        simp only at r1 l1
        have HI1 := Lib.hid (And.intro b1 (And.intro (HK.out.stays _ _ HIw.out b1) r1))
        clear own1 b1 r1
        go_wp2_with fail
        refine (HTB.out _ HI1.out.2.1).mono ?_
        rintro e w2 ⟨A2, c2, own2, rfl, b2⟩
        obtain ⟨r2, l2, _⟩ := own_rd own2 rfl
        simp only at r2 l2
        have HI2 := Lib.hid (And.intro (HI1.out.1.trans (b2.mono HI1.out.1.size)) (And.intro (HK.out.stays _ _ HI1.out.2.1 b2) (And.intro (HI1.out.2.2.on b2) r2)))
        clear own2 b2 HI1 r2
        go_wp2_with fail
        refine (HTZ.out _ HI2.out.2.1).mono ?_
        rintro e w3 ⟨A3, c3, own3, rfl, b3⟩
        obtain ⟨r3, l3, _⟩ := own_rd own3 rfl
        simp only at r3 l3
        have HI3 := Lib.hid (And.intro (HI2.out.1.trans (b3.mono HI2.out.1.size)) (HK.out.stays _ _ HI2.out.2.1 b3))
        have HRR := Lib.hid (And.intro (HI2.out.2.2.1.on b3) (And.intro (HI2.out.2.2.2.on b3) r3))
        clear own3 b3 HI2 r3
        go_wp2
        go_loopw [14] (fun i wr => ∃ k : Nat, i = .int .i64 k ∧ k ≤ Z.length ∧ Hid (Below w3.heap.size w3 wr)) (fun i _ => Z.length - (intOf i).toNat)
        case atStart => exact ⟨0, rfl, Nat.zero_le _, Lib.hid (Below.refl _ _)⟩
        case round =>
          obtain ⟨k, rfl, hk, HB⟩ := hrel
          by_cases hlt : k < Z.length
          · have hlt' : (k : Int) < (Z.length : Int) := by omega
            obtain ⟨g3, o3, hA3, hg3, d3⟩ := HRR.out.2.2.below HB.out (by omega)
            obtain ⟨z0, z1, z2⟩ := d3 k hlt
            have hbs := HB.out.size
            have hg3' : g3 < wr.heap.size := by omega
            subst hA3
            clear d3
            by_cases hx : k < X.length
            · have hx' : (k : Int) < (X.length : Int) := by omega
              obtain ⟨g1, o1, hA1, hg1, d1⟩ := HRR.out.1.below HB.out (by omega)
              obtain ⟨x0, x1, x2⟩ := d1 k hx
              have hg1' : g1 < wr.heap.size := by omega
              have ez : Z[k] = X[k] := by simp only [HZ.out]; rw [List.getElem_append_left hx]
              rw [ez] at z0 z1 z2
              subst hA1
              clear d1 ez
              generalize X[k] = t at *
              clear hx
              obtain ⟨K, T, P⟩ := t
              simp only at x0 x1 x2 z0 z1 z2
              generalize ByteArray.mk T.toArray = Q at *
              go_wp2_with fail
              go_quiet (fail)
              go_wp2
              go_roundw
              case rel => exact ⟨k + 1, by go_num, hlt, Lib.hid (lx_drewN (HB.out.alloc hbs _) _)⟩
              case measure => simp [intOf]; omega
            · have hx' : ¬ (k : Int) < (X.length : Int) := by omega
              obtain ⟨g1, o1, hA1, hg1, d1⟩ := HRR.out.2.1.below HB.out (by omega)
              obtain ⟨q, hq⟩ : ∃ q, q = k - X.length := ⟨_, rfl⟩
              have hqy : q < Y.length := by omega
              obtain ⟨x0, x1, x2⟩ := d1 q hqy
              have hg1' : g1 < wr.heap.size := by omega
              have ez : Z[k] = Lx.mvT (a.size + 1) Y[q] := by simp only [HZ.out]; rw [List.getElem_append_right (by omega), List.getElem_map]; simp only [hq]
              rw [ez] at z0 z1 z2
              have hp := HPY.out _ (List.getElem_mem hqy)
              subst hA1
              clear d1 ez
              generalize Y[q] = t at *
              obtain ⟨K, T, P⟩ := t
              have hpb : P ≤ 300 := by simp only at hp; omega
              have z2' : wr.cell? ⟨g3, o3 + k * 3 + 2, none⟩ = some (.int .i64 ((P : Int) + (a.size : Int) + 1)) := by rw [z2]; simp only [Lx.mvT]; congr 2
              simp only [Lx.mvT] at x0 x1 x2 z0 z1
              clear z2 hp
              generalize ByteArray.mk T.toArray = Q at *
              have q1 : (0 : Int) ≤ (k : Int) - (X.length : Int) := by omega
              have q2 : (k : Int) - (X.length : Int) < (Y.length : Int) := by omega
              have q3 : ((k : Int) - (X.length : Int)).toNat = q := by omega
              have q4 : IntKind.i64.wrap ((k : Int) - (X.length : Int)) = (k : Int) - (X.length : Int) := IntWalk.i64_in _ (by omega)
              clear hx hq
              go_wp2_with fail
              go_quiet (fail)
              go_wp2
              go_roundw
              case rel => exact ⟨k + 1, by go_num, hlt, Lib.hid (lx_drewN (HB.out.alloc hbs _) _)⟩
              case measure => simp [intOf]; omega
          · obtain rfl : k = Z.length := by omega
            have hlt' : ¬ (Z.length : Int) < (Z.length : Int) := by omega
            clear hlt
            have HIr := Lib.hid (And.intro (HI3.out.1.trans (HB.out.mono HI3.out.1.size)) (HK.out.stays _ _ HI3.out.2 HB.out))
            go_wp2_with fail
            refine (works_any HK.out _ HIr.out.2).mono ?_
            rintro e wz ⟨rfl, hz⟩
            go_wp2
            go_ret
            exact ⟨rfl, HIr.out.1.trans (hz.mono HIr.out.1.size)⟩
      · have hf' : (f != 0) = true := by simpa using hf
        have e1 : (f == f) = true := by simp
        subst he
        have hn0 := fx.1 rfl
        simp only at hn0
        subst hn0
        obtain ⟨q, hq⟩ : ∃ q : Nat, q = m + (a.size + 1) := ⟨_, rfl⟩
        have e2 : ((q : Int) == (m : Int) + (a.size : Int) + 1) = true := beq_iff_eq.2 (by omega)
        rw [show Lx.jq (X, 0, 0) (Lx.mvR (a.size + 1) (Y, m, f)) = ([], q, f) by unfold Lx.jq Lx.mvR; simp [hf, hq]] at HTZ
        clear hf fx fy HPX HPY hq
        go_enter Tryd.func6, Tryd.ntmps6
        go_wp2_with fail
        refine (HTA.out _ HIw.out).mono ?_
        rintro e w1 ⟨A1, c1, own1, rfl, b1⟩
        have HI1 := Lib.hid (And.intro b1 (HK.out.stays _ _ HIw.out b1))
        clear own1 b1
        go_wp2_with fail
        refine (HTB.out _ HI1.out.2).mono ?_
        rintro e w2 ⟨A2, c2, own2, rfl, b2⟩
        have HI2 := Lib.hid (And.intro (HI1.out.1.trans (b2.mono HI1.out.1.size)) (HK.out.stays _ _ HI1.out.2 b2))
        clear own2 b2 HI1
        go_wp2_with fail
        refine (HTZ.out _ HI2.out.2).mono ?_
        rintro e w3 ⟨A3, c3, own3, rfl, b3⟩
        have HI3 := Lib.hid (And.intro (HI2.out.1.trans (b3.mono HI2.out.1.size)) (HK.out.stays _ _ HI2.out.2 b3))
        clear own3 b3 HI2
        go_wp2_with fail
        refine (works_any HK.out _ HI3.out.2).mono ?_
        rintro e wz ⟨rfl, hz⟩
        go_wp2
        go_ret
        exact ⟨rfl, HI3.out.1.trans (hz.mono HI3.out.1.size)⟩
    · have he' : (e != 0) = true := by simpa using he
      have e1 : (e == e) = true := by simp
      have e2 : ((n : Int) == (n : Int)) = true := by simp
      rw [show Lx.jq (X, n, e) (Lx.mvR (a.size + 1) (Y, m, f)) = (X, n, e) by unfold Lx.jq; rw [if_pos he]] at HTZ
      clear he fx fy HPX HPY
      go_enter Tryd.func6, Tryd.ntmps6
      go_wp2_with fail
      refine (HTA.out _ HIw.out).mono ?_
      rintro e w1 ⟨A1, c1, own1, rfl, b1⟩
      have HI1 := Lib.hid (And.intro b1 (HK.out.stays _ _ HIw.out b1))
      clear own1 b1
      go_wp2_with fail
      refine (HTB.out _ HI1.out.2).mono ?_
      rintro e w2 ⟨A2, c2, own2, rfl, b2⟩
      have HI2 := Lib.hid (And.intro (HI1.out.1.trans (b2.mono HI1.out.1.size)) (HK.out.stays _ _ HI1.out.2 b2))
      clear own2 b2 HI1
      go_wp2_with fail
      refine (HTZ.out _ HI2.out.2).mono ?_
      rintro e w3 ⟨A3, c3, own3, rfl, b3⟩
      have HI3 := Lib.hid (And.intro (HI2.out.1.trans (b3.mono HI2.out.1.size)) (HK.out.stays _ _ HI2.out.2 b3))
      clear own3 b3 HI2
      go_wp2_with fail
      refine (works_any HK.out _ HI3.out.2).mono ?_
      rintro e wz ⟨rfl, hz⟩
      go_wp2
      go_ret
      exact ⟨rfl, HI3.out.1.trans (hz.mono HI3.out.1.size)⟩
  · have hg : ((a.size : Int) > 300) ∨ (¬ (a.size : Int) > 300 ∧ (b.size : Int) > 300) := by omega
    clear h1
    rcases hg with hg | ⟨hg, hg2⟩
    all_goals
      go_enter Tryd.func6, Tryd.ntmps6
      go_wp2_with fail
      refine (works_any HK.out _ HIw.out).mono ?_
      rintro e wz ⟨rfl, hz⟩
      go_wp2
      go_ret
      exact ⟨rfl, hz⟩
end Go.Proofs.YtbihkigpmgipcaaDoor
