/- Layer 8's statements: the law's ref, walked. Conditions: the row lies in memory; lengths are such as come in.
Layer 8's statements: the law's same of one row twice, walked. Conditions: both rows lie in memory; lengths are such as come in.
Layer 8's statements: ExprChecks, walked, but for what the reference's Put answers of a number (hput). Conditions: the tables hold what their texts lay; the row of nodes lies in memory; numbers are of 64 bits, ops of 8; lengths are such as come in. -/
import Derived.Test.YtphmheonlndaiaaGreatDoorExWorks
import Derived.Deep.DeepMust
import Derived.Test.YtphmheonlndaiaaGreatDoorRfS
namespace Go.Proofs.YtphmheonlndaiaaGreatDoor
open Go.RowKit Ex

theorem infoRN : (Tryz.prog.info? 80).map (fun i => (i.zero, i.size, i.bytes)) = some (some (.agg #[.int .u8 0, .int .i64 0, .string ⟨#[]⟩, .int .i64 0, .int .i64 0, .int .i64 0]), 6, 56) := by kernel_rfl
structure RfN (w : World) (A : Option Addr) (c : Nat) (l : List Nd) (wr : World) (v : Value) (k : Nat) : Prop where
  below : Below w.heap.size w wr
  box : IsBlk wr w.heap.size 29 #[.slice A l.length c]
  own : wr.ownsRow (w.heap.size + 1) 80 6 v k ((l.take k).flatMap ndV)
set_option maxHeartbeats 8000000 in
set_option maxRecDepth 100000 in
theorem eref_any (w : World) (A : Option Addr) (c : Nat) (l : List Nd) (h : NdR w w.heap.size A l) (hc : l.length ≤ c) (hn : l.length ≤ 1000000) :
    Calls Tryz.prog 20 #[.agg #[.slice A l.length c]] w fun e w' => ∃ v, e = .returned v ∧ w'.ownsRow (w.heap.size + 1) 80 6 v l.length (l.flatMap ndV) ∧ Below w.heap.size w w' := by
  have H := Lib.hid h
  obtain ⟨n, hln⟩ : ∃ n, n = l.length := ⟨_, rfl⟩
  have H0 := Lib.hid (show RfN w A c l (w.alloc (.cells #[.slice A l.length c] 29)) (.slice none 0 0) 0 from ⟨(Below.refl _ _).alloc (Nat.le_refl _) _, IsBlk.new _ _ _, World.ownsRow_nil _ _ _ _⟩)
  rw [← hln] at hn hc ⊢
  have HLN := Lib.hid hln
  have hc' : (n : Int) ≤ (c : Int) := by omega
  clear h hln
  go_enter Tryz.func20, Tryz.ntmps20
  go_wp2
  go_loopw [3, 4] (fun v0 i wr => ∃ (v : Value) (k : Nat), v = v0 ∧ i = .int .i64 k ∧ k ≤ n ∧ Hid (RfN w A c l wr v k)) (fun _ i _ => n - (intOf i).toNat)
  case atStart => exact ⟨_, 0, rfl, rfl, Nat.zero_le _, by rw [HLN.out]; exact H0⟩
  case round =>
    obtain ⟨v, k, hv0, rfl, hk, HI⟩ := hrel
    subst hv0
    have k1 : wr.cell? ⟨w.heap.size, 0, none⟩ = some (.slice A n c) := by rw [HLN.out]; exact HI.out.box.at_ 0
    by_cases hlt : k < n
    · have hlt' : (k : Int) < (n : Int) := by omega
      have hkl : k < l.length := by rw [← HLN.out]; exact hlt
      obtain ⟨g, o, hA, hg, q0, q1, q2, q3, q4, q5⟩ := (H.out.below HI.out.below) k hkl
      subst hA
      have HTK := Lib.hid (show (l.take (k + 1)).flatMap ndV = (l.take k).flatMap ndV ++ ndV l[k] by
        rw [List.take_succ_eq_append_getElem hkl, List.flatMap_append]; simp)
      generalize l[k] = t at *
      obtain ⟨op, num, nm, na, nb, nc⟩ := t
      simp only at q0 q1 q2 q3 q4 q5
      obtain ⟨N, hNN⟩ : ∃ N : ByteArray, N = ⟨nm.toArray⟩ := ⟨_, rfl⟩
      rw [← hNN] at q2
      have HNN := Lib.hid hNN
      obtain ⟨Av, cv, hv, _, _, hv1, hv2⟩ := own_slice HI.out.own
      subst hv
      obtain ⟨i0, hi, hz0, hz1, hz2⟩ := info_parts infoRN
      have hmax : k + 1 ≤ maxLen := by unfold maxLen; omega
      have hbl0 : w.heap.size < wr.heap.size := HI.out.box.lt
      have hOW := Lib.hid HI.out.own
      have HNEW := Lib.hid (fun (W' w9 : World) (v9 : Value) (hW : Below wr.heap.size wr W') (ho : w9.ownsRow (w.heap.size + 1) 80 6 v9 (k + 1) ((l.take k).flatMap ndV ++ [.int .u8 op, .int .i64 num, .string N, .int .i64 na, .int .i64 nb, .int .i64 nc])) (hg : W'.grownBy w9 (Value.slice Av k cv).ownBlock) => (show RfN w (some ⟨g, o, none⟩) c l w9 v9 (k + 1) from by
        have hsz := HI.out.below.size
        have hbl : w.heap.size < wr.heap.size := HI.out.box.lt
        refine ⟨(HI.out.below.trans (hW.mono hsz)).grown hg (Nat.le_trans hsz hW.size) (fun z hz => by have := (hOW.out.lt z hz).1; omega), (HI.out.box.below hW hbl).grown hg (fun e => by have := (hOW.out.lt _ e.symm).1; omega), ?_⟩
        rw [HTK.out]
        show w9.ownsRow _ _ _ _ _ ((l.take k).flatMap ndV ++ [.int .u8 op, .int .i64 num, .string ⟨nm.toArray⟩, .int .i64 na, .int .i64 nb, .int .i64 nc])
        rw [← HNN.out]; exact ho))
      clear hNN
      go_upto_region 6 with fail
      go_wp2_with (at_builtin; go_must (refine wpList_append_own _ rfl _ _ _ rfl (w.heap.size + 1) 80 i0 _ 6 56 Tryz.underlying23 hi hz0 hz1 hz2 rfl (by omega) (.slice Av k cv) k ((l.take k).flatMap ndV) (by rfl) (by exact World.ownsRow.alloc (World.ownsRow.alloc hOW.out _) _) _ 1 _ [.int .u8 op, .int .i64 num, .string N, .int .i64 na, .int .i64 nb, .int .i64 nc] (by rfl) rfl (by intro j u hu; exact news_at _ _ _ _ (by simp) j u hu) (by intro u hu; simp at hu; rcases hu with rfl | rfl | rfl | rfl | rfl | rfl <;> rfl) hmax (by omega) (by simp; omega) ?_); go_must (intro v9 w9 hown9 hgr9 _; have H9 := Lib.hid (HNEW.out _ w9 _ (((Below.refl _ _).alloc (Nat.le_refl _) _).alloc (by simp) _) hown9 hgr9); clear hown9 hgr9))
      go_roundw
      case rel => exact ⟨_, k + 1, rfl, by go_num, hlt, H9⟩
      case measure => simp [intOf]; omega
    · obtain rfl : k = n := by omega
      have hlt' : ¬ (k : Int) < (k : Int) := by omega
      have HE := Lib.hid (show wr.ownsRow (w.heap.size + 1) 80 6 v k (l.flatMap ndV) by
        have h4 := HI.out.own
        rw [List.take_of_length_le (by rw [← HLN.out]; exact Nat.le_refl _)] at h4
        exact h4)
      clear hlt
      go_wp2
      go_ret
      exact ⟨v, rfl, HE.out, HI.out.below⟩
end Go.Proofs.YtphmheonlndaiaaGreatDoor
namespace Go.Proofs.YtphmheonlndaiaaGreatDoor
open Go.RowKit Ex

theorem own_rnr {w : World} {B n c : Nat} {A : Option Addr} {l : List Nd} (h : w.ownsRow B 80 6 (.slice A n c) n (l.flatMap ndV)) (hn : n = l.length) : NdR w w.heap.size A l ∧ n ≤ c ∧ c ≤ maxLen := by
  obtain ⟨A', c', e, h1, h2, h3⟩ := own_sliced h
  injection e with e1 _ e3
  subst e1 e3
  refine ⟨fun j hj => ?_, h1, h2⟩
  obtain ⟨g, rfl, _, hg⟩ := h3 (by omega)
  have q := fun (k : Nat) (u : Value) (hk : k < 6) (hu : (ndV l[j])[k]? = some u) => own_cell h ((fl_at (f := ndV) (k := 6) (fun _ => rfl) l j k hj hk).trans hu)
  refine ⟨g, 0, rfl, hg, ?_, ?_, ?_, ?_, ?_, ?_⟩
  · simpa using q 0 _ (by omega) rfl
  · simpa using q 1 _ (by omega) rfl
  · simpa using q 2 _ (by omega) rfl
  · simpa using q 3 _ (by omega) rfl
  · simpa using q 4 _ (by omega) rfl
  · simpa using q 5 _ (by omega) rfl
set_option maxHeartbeats 4000000 in
set_option maxRecDepth 100000 in
theorem lsame_any (w : World) (A : Option Addr) (c : Nat) (l : List Nd) (h : NdR w w.heap.size A l) (hc : l.length ≤ c) (A2 : Option Addr) (c2 : Nat) (h2 : NdR w w.heap.size A2 l) (hc2 : l.length ≤ c2) (hn : l.length ≤ 1000000) :
    Calls Tryz.prog 16 #[.agg #[.slice A l.length c], .slice A2 l.length c2] w fun e w' => e = .returned (.bool true) ∧ Below w.heap.size w w' := by
  have H2 := Lib.hid h2
  have HR := Lib.hid (fun v (hb : Below w.heap.size w v) => eref_any v A c l ((h.below hb).more hb.size) hc hn)
  obtain ⟨W1, hW1⟩ : ∃ W1, W1 = w.alloc (.cells #[.slice A l.length c] 29) := ⟨_, rfl⟩
  have hb1 : Below w.heap.size w W1 := by rw [hW1]; exact (Below.refl _ _).alloc (Nat.le_refl _) _
  have k1 : W1.cell? ⟨w.heap.size, 0, none⟩ = some (.slice A l.length c) := by rw [hW1]; exact (IsBlk.new _ _ _).at_ 0
  have HW1 := Lib.hid hW1
  have HB1 := Lib.hid hb1
  obtain ⟨n, hln⟩ : ∃ n, n = l.length := ⟨_, rfl⟩
  rw [← hln] at hn hc hc2 HR k1 ⊢
  have HLN := Lib.hid hln
  have hc' : (n : Int) ≤ (c : Int) := by omega
  have hc2' : (n : Int) ≤ (c2 : Int) := by omega
  clear h h2 hln hb1 hW1
  rw [← HLN.out] at HW1
  go_enter Tryz.func16, Tryz.ntmps16
  go_wp2_with fail
  rw [← HW1.out]
  refine (HR.out _ HB1.out).mono ?_
  rintro e w2 ⟨v, rfl, ho, hb2⟩
  obtain ⟨A3, c3, hv, _, _, hv1, hv2⟩ := own_slice ho
  subst hv
  have HO3 := Lib.hid (own_rnr ho HLN.out)
  have HB2 := Lib.hid (HB1.out.trans (hb2.mono HB1.out.size))
  have hc3' : (n : Int) ≤ (c3 : Int) := by omega
  clear ho hb2 HR
  go_wp2_with fail
  go_loopw [6] (fun i wr => ∃ k : Nat, i = .int .i64 k ∧ k ≤ n ∧ Hid (Below w2.heap.size w2 wr)) (fun i _ => n - (intOf i).toNat)
  case atStart => exact ⟨0, rfl, Nat.zero_le _, Lib.hid (Below.refl _ _)⟩
  case round =>
    obtain ⟨k, rfl, hk, HI⟩ := hrel
    by_cases hlt : k < n
    · have hlt' : (k : Int) < (n : Int) := by omega
      have hkl : k < l.length := by rw [← HLN.out]; exact hlt
      have hbw := HB2.out.trans (HI.out.mono HB2.out.size)
      obtain ⟨g, o, hA, hg, q0, q1, q2, q3, q4, q5⟩ := (H2.out.below hbw) k hkl
      subst hA
      obtain ⟨g', o', hA', hg', p0, p1, p2, p3, p4, p5⟩ := (HO3.out.1.below HI.out) k hkl
      subst hA'
      generalize l[k] = t at *
      obtain ⟨op, num, nm, na, nb, nc⟩ := t
      simp only at q0 q1 q2 q3 q4 q5 p0 p1 p2 p3 p4 p5
      generalize (⟨nm.toArray⟩ : ByteArray) = N at *
      have HIW := Lib.hid HI.out.drew
      clear hbw hkl
      go_wp2_with fail
      go_quiet (fail)
      go_wp2
      go_roundw
      case rel => exact ⟨k + 1, by go_num, hlt, by first | exact Lib.hid (below_drewN HI.out _) | exact HIW | exact HI⟩
      case measure => simp [intOf]; omega
    · obtain rfl : k = n := by omega
      have hlt' : ¬ (k : Int) < (k : Int) := by omega
      go_wp2
      go_ret
      exact ⟨rfl, HB2.out.trans (HI.out.mono HB2.out.size)⟩
end Go.Proofs.YtphmheonlndaiaaGreatDoor
namespace Go.Proofs.YtphmheonlndaiaaGreatDoor
open Go.RowKit Ex

/-- What stays on the way: the box. -/
structure CkL (w : World) (A1 : Option Addr) (c1 : Nat) (l1 : List Nd) (v : World) : Prop where
  below : Below w.heap.size w v
  tx : Tx v
  x1 : Xb v w.heap.size A1 c1 l1
theorem CkL.on {w : World} {A1 : Option Addr} {c1 : Nat} {l1 : List Nd} {v v' : World} (h : CkL w A1 c1 l1 v) (hb : Below v.heap.size v v') : CkL w A1 c1 l1 v' :=
  ⟨h.below.trans (hb.mono h.below.size), h.tx.below hb, h.x1.below hb⟩
theorem prnt_same {l : List Nd} {t t' : List UInt8} {e e' : Int} (h : Prnt l t e) (h' : (chk l ≠ 0 ∧ t' = [] ∧ e' = chk l) ∨ (e' = 0 ∧ ∃ x, wr x ∧ dp x ≤ 64 ∧ l = flat x 0 ∧ t' = Ex.prs x 0)) : t' = t ∧ e' = e := by
  rcases h with ⟨h1, h2, h3⟩ | ⟨h1, x, _, h3, h4, h5, h6⟩
  · rcases h' with ⟨g1, g2, g3⟩ | ⟨g1, y, g3, g4, g5, g6⟩
    · exact ⟨by rw [g2, h2], by rw [g3, h3]⟩
    · exact absurd (by rw [g5]; exact chk_flat g3 g4) h1
  · rcases h' with ⟨g1, g2, g3⟩ | ⟨g1, y, g3, g4, g5, g6⟩
    · exact absurd (by rw [h5]; exact chk_flat h3 h4) g1
    · rw [h5] at g5
      rw [g6, h6, flat_inj _ _ _ g5]
      exact ⟨rfl, by rw [g1, h1]⟩
set_option maxHeartbeats 8000000 in
set_option maxRecDepth 100000 in
theorem checks_any (hput : ∀ n : Nat, n ≤ 9223372036854775807 → ∀ w1, Calls Tryz.prog 85 #[.int .i64 (n : Nat)] w1 fun e w' => e = .returned (.string ⟨(Ex.dg n).toArray⟩) ∧ Below w1.heap.size w1 w')
    (w : World) (T : Tx w) (A1 : Option Addr) (c1 : Nat) (l1 : List Nd) (h1 : NdR w w.heap.size A1 l1) (hc1 : l1.length ≤ c1) (hn1 : l1.length ≤ 9223372036854775807) (ho1 : Okn l1) :
    Calls Tryz.prog 5 #[.agg #[.slice A1 l1.length c1]] w fun e w' => e = .returned (.bool true) ∧ Below w.heap.size w w' := by
  have I0 := Lib.hid (show CkL w A1 c1 l1 (w.alloc (.cells #[.slice A1 l1.length c1] 29)) from by
    have b1 := (Below.refl w.heap.size w).alloc (Nat.le_refl _) (.cells #[.slice A1 l1.length c1] 29)
    exact ⟨b1, T.below b1, Xb.new h1 hc1⟩)
  have k1 := I0.out.x1.at_
  have HF1 := Lib.hid (fun v (i : CkL w A1 c1 l1 v) => few_any v A1 c1 l1 i.x1.row hc1 hn1)
  have HWK := Lib.hid (fun v (T0 : Tx v) => eworks_any v T0)
  by_cases f1 : FewE l1
  · rw [decide_eq_true f1] at HF1
    have hF1 := fit_few f1 ho1
    have hl200 : l1.length ≤ 800000 := hF1.1.1
    have hl6 : l1.length ≤ 1000000 := by omega
    have hfR : FitR l1 := ⟨hl6, hF1.1.2⟩
    have HR1 := Lib.hid (fun v (i : CkL w A1 c1 l1 v) => eref_any v A1 c1 l1 i.x1.row hc1 hl6)
    have HP1 := Lib.hid (fun v (i : CkL w A1 c1 l1 v) => print_any v i.tx A1 c1 l1 i.x1.row hc1 hF1)
    have HC1 := Lib.hid (fun v (i : CkL w A1 c1 l1 v) => check_any v i.tx A1 c1 l1 i.x1.row hc1 hF1.1)
    have HD1 := Lib.hid (fun v (i : CkL w A1 c1 l1 v) => depth_any_ v i.tx A1 c1 l1 i.x1.row hc1 hl200 hF1.1.2)
    have HS1 := Lib.hid (fun v (i : CkL w A1 c1 l1 v) => same_any v A1 A1 c1 c1 l1 l1 i.x1.row i.x1.row hc1 hc1 hl6)
    rw [decide_eq_true (rfl : l1 = l1)] at HS1
    have HPR := Lib.hid (fun v A c (hr : NdR v v.heap.size A l1) (hc : l1.length ≤ c) => rPrint_any A l1 c hc hfR hl200 (fun n hn => hF1.2 n hn) hput v hr)
    have HCR := Lib.hid (fun v A c (hr : NdR v v.heap.size A l1) (hc : l1.length ≤ c) => rCheck_any A c l1 hc hfR v hr)
    have HDR := Lib.hid (fun v A c (hr : NdR v v.heap.size A l1) (hc : l1.length ≤ c) => rDepth_any A c l1 hc hfR v hr)
    have HLS := Lib.hid (fun v (i : CkL w A1 c1 l1 v) A c (hr : NdR v v.heap.size A l1) (hc : l1.length ≤ c) => lsame_any v A1 c1 l1 i.x1.row hc1 A c hr hc hl6)
    clear T h1 ho1 hF1 f1 hc1 hn1 hfR hl200 hl6 hput
    go_enter Tryz.func5, Tryz.ntmps5
    go_wp2_with fail
    refine (HF1.out _ I0.out).mono ?_
    rintro e v1 ⟨rfl, hb⟩
    have I1 := Lib.hid (I0.out.on hb)
    clear hb
    have k1 := I1.out.x1.at_
    go_wp2_with fail
    refine (HR1.out _ I1.out).mono ?_
    rintro e v2 ⟨vr, rfl, ho, hb⟩
    have I2 := Lib.hid (I1.out.on hb)
    obtain ⟨A3, c3, hv, _, _, hv1, hv2⟩ := own_slice ho
    subst hv
    have HO3 := Lib.hid (own_rnr ho rfl)
    have HN2 := Lib.hid (Below.refl v2.heap.size v2)
    have HNR := Lib.hid (fun v (hb : Below v2.heap.size v2 v) => HO3.out.1.on_ hb)
    clear hb ho
    have k1 := I2.out.x1.at_
    go_wp2_with fail
    refine (HP1.out _ I2.out).mono ?_
    rintro e v3 ⟨t, er, hp, rfl, hb⟩
    have I3 := Lib.hid (I2.out.on hb)
    have HN3 := Lib.hid (HN2.out.trans (hb.mono HN2.out.size))
    have HPP := Lib.hid hp
    obtain ⟨S, hS⟩ : ∃ S : ByteArray, S = ⟨t.toArray⟩ := ⟨_, rfl⟩
    rw [← hS]
    have HSS := Lib.hid hS
    clear hb hp hS
    have k1 := I3.out.x1.at_
    go_wp2_with fail
    refine (HPR.out _ A3 c3 (HNR.out _ HN3.out) hv1).mono ?_
    rintro e v4 ⟨t', er', hp', rfl, hb⟩
    obtain ⟨e1, e2⟩ := prnt_same HPP.out hp'
    subst e1 e2
    rw [← HSS.out]
    have I4 := Lib.hid (I3.out.on hb)
    have HN4 := Lib.hid (HN3.out.trans (hb.mono HN3.out.size))
    clear hb hp'
    have k1 := I4.out.x1.at_
    have sE : (er' == er') = true := beq_self_eq_true er'
    have sC : (chk l1 == chk l1) = true := beq_self_eq_true _
    have sD : (((dep l1 : Nat) : Int) == ((dep l1 : Nat) : Int)) = true := beq_self_eq_true _
    go_wp2_with fail
    refine (HC1.out _ I4.out).mono ?_
    rintro e v5 ⟨rfl, hb⟩
    have I5 := Lib.hid (I4.out.on hb)
    have HN5 := Lib.hid (HN4.out.trans (hb.mono HN4.out.size))
    clear hb
    have k1 := I5.out.x1.at_
    go_wp2_with fail
    refine (HCR.out _ A3 c3 (HNR.out _ HN5.out) hv1).mono ?_
    rintro e v6 ⟨rfl, hb⟩
    have I6 := Lib.hid (I5.out.on hb)
    have HN6 := Lib.hid (HN5.out.trans (hb.mono HN5.out.size))
    clear hb
    have k1 := I6.out.x1.at_
    go_wp2_with fail
    refine (HD1.out _ I6.out).mono ?_
    rintro e v7 ⟨rfl, hb⟩
    have I7 := Lib.hid (I6.out.on hb)
    have HN7 := Lib.hid (HN6.out.trans (hb.mono HN6.out.size))
    clear hb
    have k1 := I7.out.x1.at_
    go_wp2_with fail
    refine (HDR.out _ A3 c3 (HNR.out _ HN7.out) hv1).mono ?_
    rintro e v8 ⟨rfl, hb⟩
    have I8 := Lib.hid (I7.out.on hb)
    have HN8 := Lib.hid (HN7.out.trans (hb.mono HN7.out.size))
    clear hb
    have k1 := I8.out.x1.at_
    go_wp2_with fail
    refine (HS1.out _ I8.out).mono ?_
    rintro e v9 ⟨rfl, hb⟩
    have I9 := Lib.hid (I8.out.on hb)
    have HN9 := Lib.hid (HN8.out.trans (hb.mono HN8.out.size))
    clear hb
    have k1 := I9.out.x1.at_
    go_wp2_with fail
    refine (HLS.out _ I9.out A3 c3 (HNR.out _ HN9.out) hv1).mono ?_
    rintro e v10 ⟨rfl, hb⟩
    have I10 := Lib.hid (I9.out.on hb)
    have HN10 := Lib.hid (HN9.out.trans (hb.mono HN9.out.size))
    clear hb
    have k1 := I10.out.x1.at_
    go_wp2_with fail
    refine (HWK.out _ I10.out.tx).mono ?_
    rintro e vw ⟨rfl, hb⟩
    have IW := Lib.hid (I10.out.on hb)
    clear hb
    go_wp2
    go_ret
    exact ⟨rfl, IW.out.below⟩
  · rw [decide_eq_false f1] at HF1
    have HN0 := Lib.hid (Below.refl w.heap.size w)
    clear T h1 ho1
    go_enter Tryz.func5, Tryz.ntmps5
    go_wp2_with fail
    refine (HF1.out _ I0.out).mono ?_
    rintro e v1 ⟨rfl, hb⟩
    have I1 := Lib.hid (I0.out.on hb)
    clear hb
    have k1 := I1.out.x1.at_
    go_wp2_with fail
    refine (HWK.out _ I1.out.tx).mono ?_
    rintro e vw ⟨rfl, hb⟩
    have IW := Lib.hid (I1.out.on hb)
    clear hb
    go_wp2
    go_ret
    exact ⟨rfl, IW.out.below⟩
end Go.Proofs.YtphmheonlndaiaaGreatDoor
