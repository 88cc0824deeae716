/- The laws NumReckons, NumSums and NumTexts, walked: each answers true. Conditions: the listed table and the sentinel hold what their texts lay; numbers are of 64 bits; lengths fit. -/
import Derived.Test.YtbeoobgnpcbnnaaDoorNuWorks
namespace Go.Proofs.YtbeoobgnpcbnnaaDoor
open Go.RowKit

set_option maxHeartbeats 4000000 in
set_option maxRecDepth 100000 in
theorem lawReckons (a b : Int) (w : World) (T : Tb w) (ha : Nu.fits a) (hb : Nu.fits b) :
    Calls Tryd.prog 3 #[.int .i64 a, .int .i64 b] w fun e w' => e = .returned (.bool true) ∧ Below w.heap.size w w' := by
  have HP0 := Lib.hid (fun w0 => add_any a b w0 ha hb)
  have HR0 := Lib.hid (fun w0 => radd_any a b w0 ha hb)
  have HP1 := Lib.hid (fun w0 => sub_any a b w0 ha hb)
  have HR1 := Lib.hid (fun w0 => rsub_any a b w0 ha hb)
  have HP2 := Lib.hid (fun w0 => mul_any a b w0 ha hb)
  have HR2 := Lib.hid (fun w0 => rmul_any a b w0 ha hb)
  have HP3 := Lib.hid (fun w0 => div_any a b w0 ha hb)
  have HR3 := Lib.hid (fun w0 => rdiv_any a b w0 ha hb)
  have HP4 := Lib.hid (fun w0 => mod_any a b w0 hb)
  have HR4 := Lib.hid (fun w0 => rmod_any a b w0 ha hb)
  have HP5 := Lib.hid (fun w0 => neg_any a w0 ha)
  have HR5 := Lib.hid (fun w0 => rneg_any a w0 ha)
  generalize Nu.tell (a + b) = p0 at *
  generalize Nu.tell (a - b) = p1 at *
  generalize Nu.tell (a * b) = p2 at *
  generalize Nu.div a b = p3 at *
  generalize Nu.mod a b = p4 at *
  generalize Nu.tell (-a) = p5 at *
  obtain ⟨x0, y0⟩ := p0
  obtain ⟨x1, y1⟩ := p1
  obtain ⟨x2, y2⟩ := p2
  obtain ⟨x3, y3⟩ := p3
  obtain ⟨x4, y4⟩ := p4
  obtain ⟨x5, y5⟩ := p5
  unfold tv at *
  have HWK := Lib.hid (fun w0 (T0 : Tb w0) => works_nu w0 T0)
  have HT := Lib.hid T
  clear T ha hb
  go_enter Tryd.func3, Tryd.ntmps3
  go_wp2
  go_loopw [5] (fun i wr => ∃ k : Nat, i = .int .i64 k ∧ k ≤ 6 ∧ Hid (Below w.heap.size w wr)) (fun i _ => 6 - (intOf i).toNat)
  case atStart => exact ⟨0, rfl, by omega, Lib.hid (Below.refl _ _)⟩
  case round =>
    obtain ⟨k, rfl, hk, HB⟩ := hrel
    by_cases h6 : k = 6
    · subst h6
      have HT1 := Lib.hid (HT.out.below HB.out (Nat.le_refl _))
      go_wp2_with fail
      refine (HWK.out _ HT1.out).mono ?_
      rintro e w1 ⟨rfl, h1⟩
      have B1 := Lib.hid (HB.out.trans (h1.mono HB.out.size))
      clear h1
      go_wp2
      go_ret
      exact ⟨rfl, B1.out⟩
    · obtain rfl | rfl | rfl | rfl | rfl | rfl : k = 0 ∨ k = 1 ∨ k = 2 ∨ k = 3 ∨ k = 4 ∨ k = 5 := by omega
      ·
        go_wp2_with fail
        refine (HP0.out wr).mono ?_
        rintro e w1 ⟨rfl, rfl⟩
        go_wp2_with fail
        refine (HR0.out wr).mono ?_
        rintro e w1 ⟨rfl, h1⟩
        have B1 := Lib.hid (HB.out.trans (h1.mono HB.out.size))
        clear h1
        go_wp2
        go_roundw
        case rel => exact ⟨0 + 1, rfl, by omega, B1⟩
        case measure => simp [intOf]
      ·
        go_wp2_with fail
        refine (HP1.out wr).mono ?_
        rintro e w1 ⟨rfl, rfl⟩
        go_wp2_with fail
        refine (HR1.out wr).mono ?_
        rintro e w1 ⟨rfl, h1⟩
        have B1 := Lib.hid (HB.out.trans (h1.mono HB.out.size))
        clear h1
        go_wp2
        go_roundw
        case rel => exact ⟨1 + 1, rfl, by omega, B1⟩
        case measure => simp [intOf]
      ·
        go_wp2_with fail
        refine (HP2.out wr).mono ?_
        rintro e w1 ⟨rfl, rfl⟩
        go_wp2_with fail
        refine (HR2.out wr).mono ?_
        rintro e w1 ⟨rfl, h1⟩
        have B1 := Lib.hid (HB.out.trans (h1.mono HB.out.size))
        clear h1
        go_wp2
        go_roundw
        case rel => exact ⟨2 + 1, rfl, by omega, B1⟩
        case measure => simp [intOf]
      ·
        go_wp2_with fail
        refine (HP3.out wr).mono ?_
        rintro e w1 ⟨rfl, rfl⟩
        go_wp2_with fail
        refine (HR3.out wr).mono ?_
        rintro e w1 ⟨rfl, h1⟩
        have B1 := Lib.hid (HB.out.trans (h1.mono HB.out.size))
        clear h1
        go_wp2
        go_roundw
        case rel => exact ⟨3 + 1, rfl, by omega, B1⟩
        case measure => simp [intOf]
      ·
        go_wp2_with fail
        refine (HP4.out wr).mono ?_
        rintro e w1 ⟨rfl, rfl⟩
        go_wp2_with fail
        refine (HR4.out wr).mono ?_
        rintro e w1 ⟨rfl, h1⟩
        have B1 := Lib.hid (HB.out.trans (h1.mono HB.out.size))
        clear h1
        go_wp2
        go_roundw
        case rel => exact ⟨4 + 1, rfl, by omega, B1⟩
        case measure => simp [intOf]
      ·
        go_wp2_with fail
        refine (HP5.out wr).mono ?_
        rintro e w1 ⟨rfl, rfl⟩
        go_wp2_with fail
        refine (HR5.out wr).mono ?_
        rintro e w1 ⟨rfl, h1⟩
        have B1 := Lib.hid (HB.out.trans (h1.mono HB.out.size))
        clear h1
        go_wp2
        go_roundw
        case rel => exact ⟨5 + 1, rfl, by omega, B1⟩
        case measure => simp [intOf]

set_option maxHeartbeats 4000000 in
set_option maxRecDepth 100000 in
theorem lawTexts (s : ByteArray) (n : Int) (w : World) (T : Tb w) (hn : Nu.fits n) :
    Calls Tryd.prog 5 #[.string s, .int .i64 n] w fun e w' => e = .returned (.bool true) ∧ Below w.heap.size w w' := by
  have HWK := Lib.hid (fun w0 (T0 : Tb w0) => works_nu w0 T0)
  have T0 := Lib.hid T
  have B0 := Lib.hid (Below.refl w.heap.size w)
  clear T
  by_cases h60 : s.size > 60
  · have h60' : (s.size : Int) > 60 := by omega
    clear h60
    go_enter Tryd.func5, Tryd.ntmps5
    go_wp2_with fail
    refine (HWK.out _ T0.out).mono ?_
    rintro e w1 ⟨rfl, h1⟩
    have B1 := Lib.hid (B0.out.trans (h1.mono B0.out.size))
    have T1 := Lib.hid (T0.out.below h1 (Nat.le_refl _))
    clear h1
    go_wp2
    go_ret
    exact ⟨rfl, B1.out⟩
  · have h60' : ¬ (s.size : Int) > 60 := by omega
    have HP := Lib.hid (fun w0 (T0 : Tb w0) => parse_any s w0 T0 (by omega))
    have HR := Lib.hid (fun w0 => rparse_any s w0 (by omega))
    have HPP := Lib.hid (fun w0 (T0 : Tb w0) => put_any n w0 T0 hn)
    have HPR := Lib.hid (fun w0 => rput_any n w0 hn)
    generalize Nu.prs s.data.toList = p at *
    obtain ⟨x, y⟩ := p
    unfold tv at *
    generalize (⟨(Lib.itoa n).toArray⟩ : ByteArray) = S at *
    clear h60
    go_enter Tryd.func5, Tryd.ntmps5
    go_wp2_with fail
    refine (HP.out _ T0.out).mono ?_
    rintro e w1 ⟨rfl, h1⟩
    have B1 := Lib.hid (B0.out.trans (h1.mono B0.out.size))
    have T1 := Lib.hid (T0.out.below h1 (Nat.le_refl _))
    clear h1
    go_wp2_with fail
    refine (HR.out _).mono ?_
    rintro e w2 ⟨rfl, h2⟩
    have B2 := Lib.hid (B1.out.trans (h2.mono B1.out.size))
    have T2 := Lib.hid (T1.out.below h2 (Nat.le_refl _))
    clear h2
    go_wp2_with fail
    refine (HPP.out _ T2.out).mono ?_
    rintro e w3 ⟨rfl, h3⟩
    have B3 := Lib.hid (B2.out.trans (h3.mono B2.out.size))
    have T3 := Lib.hid (T2.out.below h3 (Nat.le_refl _))
    clear h3
    go_wp2_with fail
    refine (HPR.out _).mono ?_
    rintro e w4 ⟨rfl, h4⟩
    have B4 := Lib.hid (B3.out.trans (h4.mono B3.out.size))
    have T4 := Lib.hid (T3.out.below h4 (Nat.le_refl _))
    clear h4
    go_wp2_with fail
    refine (HWK.out _ T4.out).mono ?_
    rintro e w5 ⟨rfl, h5⟩
    have B5 := Lib.hid (B4.out.trans (h5.mono B4.out.size))
    have T5 := Lib.hid (T4.out.below h5 (Nat.le_refl _))
    clear h5
    go_wp2
    go_ret
    exact ⟨by rfl, B5.out⟩

def intsZ (l : List Int) : List Value := l.map (Value.int .i64)
theorem news_rz {w : World} {a : Addr} {l : List Int} (h : RzI w (some a) l) : ∀ (j : Nat) (u : Value), (intsZ l)[j]? = some u → w.cell? (a.add j) = some u := fun j u hu => by
  unfold intsZ at hu
  rw [List.getElem?_map] at hu
  have hj : j < l.length := by
    rcases Nat.lt_or_ge j l.length with h1 | h1
    · exact h1
    · rw [List.getElem?_eq_none h1] at hu; cases hu
  rw [List.getElem?_eq_getElem hj] at hu
  obtain ⟨g, o, h1, _, h3⟩ := h j hj
  injection h1 with h1
  subst h1
  have hadd : (⟨g, o, none⟩ : Addr).add j = ⟨g, o + j, none⟩ := by
    unfold Addr.add
    split
    · rename_i hh; subst hh; rfl
    · rfl
  rw [hadd, h3]
  exact hu
theorem infoI64 : (Tryd.prog.info? 2).map (fun i => (i.zero, i.size, i.bytes)) = some (some (.int .i64 0), 1, 8) := by kernel_rfl
theorem own_rz {w : World} {B n c : Nat} {A : Option Addr} {l : List Int} (h : w.ownsRow B 2 1 (.slice A n c) n (intsZ l)) (hn : n = l.length) : RzI w A l := fun j hj => by
  obtain ⟨A', c', e, h1, _⟩ := own_slice h
  injection e with e1 _ _
  subst e1
  obtain ⟨g, hA, hg, _, hc⟩ := h1 (by omega)
  exact ⟨g, 0, hA, hg, by rw [Nat.zero_add]; exact hc j _ (by unfold intsZ; rw [List.getElem?_map, List.getElem?_eq_getElem hj]; rfl)⟩
set_option maxHeartbeats 4000000 in
set_option maxRecDepth 100000 in
theorem lawSums (A : Option Addr) (c : Nat) (l : List Int) (w : World) (T : Tb w) (hlc : l.length ≤ c) (hcm : c ≤ maxLen) (hnil : A = none → c = 0) (h : RzI w A l) (hf : ∀ a ∈ l, Nu.fits a) :
    Calls Tryd.prog 4 #[.slice A l.length c] w fun e w' => e = .returned (.bool true) ∧ Below w.heap.size w w' := by
  have HWK := Lib.hid (fun w0 (T0 : Tb w0) => works_nu w0 T0)
  have HT := Lib.hid T
  by_cases h50 : l.length > 50
  · have T0 := Lib.hid T
    have B0 := Lib.hid (Below.refl w.heap.size w)
    have hbig : (l.length : Int) ≤ 9223372036854775807 := by unfold maxLen at hcm; omega
    have h50' : (l.length : Int) > 50 := by omega
    clear hf h hcm hlc hnil
    generalize l.length = n at *
    clear h50 T
    go_enter Tryd.func4, Tryd.ntmps4
    go_wp2_with fail
    refine (HWK.out _ T0.out).mono ?_
    rintro e w1 ⟨rfl, h1⟩
    have B1 := Lib.hid (B0.out.trans (h1.mono B0.out.size))
    have T1 := Lib.hid (T0.out.below h1 (Nat.le_refl _))
    clear h1
    go_wp2
    go_ret
    exact ⟨rfl, B1.out⟩
  · have h50' : ¬ (l.length : Int) > 50 := by omega
    obtain ⟨i0, hi0, hz0, hz1, hz2⟩ := info_parts infoI64
    have hbig : 0 + l.length ≤ maxLen := by unfold maxLen; omega
    have HO0 := Lib.hid (show w.ownsRow w.heap.size 2 1 (.slice none 0 0) 0 [] from World.ownsRow_nil _ _ _ _)
    clear T
    cases A with
    | none =>
      obtain rfl : c = 0 := hnil rfl
      have hl0 : l = [] := List.length_eq_zero_iff.1 (by omega)
      subst hl0
      have HS := Lib.hid (sum_any w none 0 [] (by decide) h hf)
      have HR := Lib.hid (rsum_any w none 0 [] (by decide) h hf)
      rw [show Nu.sumz 0 [] = (0, 0) from rfl] at HS HR
      simp only [List.length_nil] at HS HR ⊢
      unfold tv at HS HR
      clear h hf hlc hcm h50 h50' hbig hnil
      go_enter Tryd.func4, Tryd.ntmps4
      go_wp2_with (at_builtin; (refine wpList_append_own_none rfl _ _ _ rfl w.heap.size 2 i0 1 Tryd.underlying28 hi0 (.slice none 0 0) 0 [] (by rfl) (by exact HO0.out) (by rfl) ?_))
      go_wp2_with fail
      refine HS.out.mono ?_
      rintro e w1 ⟨rfl, rfl⟩
      go_wp2_with fail
      refine HR.out.mono ?_
      rintro e w4 ⟨rfl, h4⟩
      have B4 := Lib.hid h4
      clear h4
      go_wp2
      go_loopw [8] (fun i wr => i = .int .i64 0 ∧ Hid (Below w.heap.size w wr)) (fun _ _ => 0)
      case atStart => exact ⟨rfl, B4.out⟩
      case round =>
        obtain ⟨rfl, HB⟩ := hrel
        have TW := Lib.hid (HT.out.below HB.out (Nat.le_refl _))
        go_wp2_with fail
        refine (HWK.out _ TW.out).mono ?_
        rintro e w5 ⟨rfl, h5⟩
        have B5 := Lib.hid (HB.out.trans (h5.mono HB.out.size))
        clear h5
        go_wp2
        go_ret
        exact ⟨by rfl, B5.out⟩
    | some ad =>
      go_enter Tryd.func4, Tryd.ntmps4
      go_wp2_with (at_builtin; (refine wpList_append_own _ rfl _ _ _ rfl w.heap.size 2 i0 _ 1 8 Tryd.underlying28 hi0 hz0 hz1 hz2 rfl (by omega) (.slice none 0 0) 0 [] (by rfl) (by exact HO0.out) ad l.length c (intsZ l) (by rfl) (by unfold intsZ; rw [List.length_map]; omega) (by intro j u hu; exact news_rz h j u hu) (by intro u hu; unfold intsZ at hu; obtain ⟨q, _, rfl⟩ := List.mem_map.1 hu; rfl) hbig (by omega) (Nat.le_refl _) ?_); intro v3 w3 hown3 hgr3 _; obtain ⟨A3, c3, hv3, _, _, hc3, _⟩ := own_slice hown3; subst hv3; have B3 := Lib.hid (Below.grown (Below.refl w.heap.size w) hgr3 (Nat.le_refl _) (fun k hk => by cases hk)); have HO := Lib.hid (own_rz (l := l) (by simpa using hown3) (by omega)); clear hown3 hgr3)
      rw [Nat.zero_add] at hc3
      clear hbig hcm
      go_wp2_with fail
      have HS := Lib.hid (sum_any w3 A3 c3 l (by omega) HO.out hf)
      have HR := Lib.hid (fun w1 (hb : Below w.heap.size w w1) => rsum_any w1 (some ad) c l (by omega) (h.below hb) hf)
      have HCELL := Lib.hid (fun (w1 : World) (hb : Below w.heap.size w w1) (hb2 : Below w3.heap.size w3 w1) (k : Nat) (hk : k < l.length) => (show (∃ g o, (some ad) = some ⟨g, o, none⟩ ∧ w1.cell? ⟨g, o + k, none⟩ = some (.int .i64 l[k])) ∧ ∃ g o, A3 = some ⟨g, o, none⟩ ∧ w1.cell? ⟨g, o + k, none⟩ = some (.int .i64 l[k]) from by
        obtain ⟨g, o, q1, q2, q3⟩ := (h.below hb) k hk
        obtain ⟨g', o', r1, r2, r3⟩ := (HO.out.below hb2) k hk
        exact ⟨⟨g, o, q1, q3⟩, ⟨g', o', r1, r3⟩⟩))
      generalize Nu.sumz 0 l = p at *
      obtain ⟨x, y⟩ := p
      unfold tv at *
      obtain ⟨n, hn⟩ : ∃ n, n = l.length := ⟨_, rfl⟩
      rw [← hn] at HS HR h50 h50' hc3 hlc ⊢
      have HN := Lib.hid hn
      clear hn h hf
      refine HS.out.mono ?_
      rintro e w1 ⟨rfl, rfl⟩
      go_wp2_with fail
      refine (HR.out _ B3.out).mono ?_
      rintro e w4 ⟨rfl, h4⟩
      have B4 := Lib.hid (B3.out.trans (h4.mono B3.out.size))
      have Q4 := Lib.hid h4
      clear h4
      go_wp2
      go_loopw [8] (fun i wr => ∃ k : Nat, i = .int .i64 k ∧ k ≤ n ∧ Hid (Below w.heap.size w wr ∧ Below w3.heap.size w3 wr)) (fun i _ => n - (intOf i).toNat)
      case atStart => exact ⟨0, rfl, Nat.zero_le _, Lib.hid ⟨B4.out, Q4.out⟩⟩
      case round =>
        obtain ⟨k, rfl, hk, HB⟩ := hrel
        by_cases hlt : k < n
        · have hlt' : (k : Int) < (n : Int) := by omega
          have hk0 : (0 : Int) ≤ (k : Int) := by omega
          obtain ⟨⟨g, o, hA, hc1⟩, ⟨g', o', hA', hc2⟩⟩ := HCELL.out wr HB.out.1 HB.out.2 k (by rw [← HN.out]; exact hlt)
          generalize l[k]'(by rw [← HN.out]; exact hlt) = a at *
          injection hA with hA
          try subst hA
          subst hA'
          go_wp2_with fail
          go_quiet (fail)
          go_wp2
          go_roundw
          case rel => exact ⟨k + 1, by go_num, hlt, Lib.hid ⟨below_drewN HB.out.1 _, below_drewN HB.out.2 _⟩⟩
          case measure => simp [intOf]; omega
        · obtain rfl : k = n := by omega
          have hlt' : ¬ (k : Int) < (k : Int) := by omega
          have TW := Lib.hid (HT.out.below HB.out.1 (Nat.le_refl _))
          have HB1 := Lib.hid HB.out.1
          go_wp2_with fail
          refine (HWK.out _ TW.out).mono ?_
          rintro e w5 ⟨rfl, h5⟩
          have B5 := Lib.hid (HB1.out.trans (h5.mono HB1.out.size))
          clear h5
          go_wp2
          go_ret
          exact ⟨by rfl, B5.out⟩
end Go.Proofs.YtbeoobgnpcbnnaaDoor
