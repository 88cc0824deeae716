/- Layer 8's statements: ExprBack, walked. Conditions: the tables hold what their texts lay; the rows of nodes lie in memory; numbers are of 64 bits, ops of 8; lengths are such as come in. -/
import Derived.Test.YtfijfoblmnjdcaaGreatDoorExWorks
namespace Go.Proofs.YtfijfoblmnjdcaaGreatDoor
open Go.RowKit Ex

/-- What stays on the way: both boxes. -/
structure BkI (w : World) (A1 A2 : Option Addr) (c1 c2 : Nat) (l1 l2 : List Nd) (v : World) : Prop where
  below : Below w.heap.size w v
  tx : Tx v
  x1 : Xb v w.heap.size A1 c1 l1
  x2 : Xb v (w.heap.size + 1) A2 c2 l2
theorem BkI.on {w : World} {A1 A2 : Option Addr} {c1 c2 : Nat} {l1 l2 : List Nd} {v v' : World} (h : BkI w A1 A2 c1 c2 l1 l2 v) (hb : Below v.heap.size v v') : BkI w A1 A2 c1 c2 l1 l2 v' :=
  ⟨h.below.trans (hb.mono h.below.size), h.tx.below hb, h.x1.below hb, h.x2.below hb⟩
set_option maxHeartbeats 16000000 in
set_option maxRecDepth 100000 in
theorem back_any (w : World) (T : Tx w) (A1 A2 : Option Addr) (c1 c2 : Nat) (l1 l2 : List Nd) (s : ByteArray) (h1 : NdR w w.heap.size A1 l1) (h2 : NdR w w.heap.size A2 l2) (hc1 : l1.length ≤ c1) (hc2 : l2.length ≤ c2)
    (hn1 : l1.length ≤ 9223372036854775807) (hn2 : l2.length ≤ 9223372036854775807) (ho1 : Okn l1) (ho2 : Okn l2) (hs : s.size ≤ maxLen) :
    Calls Tryz.prog 6 #[.agg #[.slice A1 l1.length c1], .agg #[.slice A2 l2.length c2], .string s] w fun e w' => e = .returned (.bool true) ∧ Below w.heap.size w w' := by
  have hz : (w.alloc (.cells #[.slice A1 l1.length c1] 29)).heap.size = w.heap.size + 1 := by simp
  have I0 := Lib.hid (show BkI w A1 A2 c1 c2 l1 l2 ((w.alloc (.cells #[.slice A1 l1.length c1] 29)).alloc (.cells #[.slice A2 l2.length c2] 29)) from by
    have b1 := (Below.refl w.heap.size w).alloc (Nat.le_refl _) (.cells #[.slice A1 l1.length c1] 29)
    have b2 := (Below.refl (w.alloc (.cells #[.slice A1 l1.length c1] 29)).heap.size (w.alloc (.cells #[.slice A1 l1.length c1] 29))).alloc (Nat.le_refl _) (.cells #[.slice A2 l2.length c2] 29)
    have q := Xb.new (h2.on b1) hc2
    rw [hz] at q
    exact ⟨b1.trans (b2.mono b1.size), (T.below b1).below b2, (Xb.new h1 hc1).below b2, q⟩)
  have k1 := I0.out.x1.at_
  have k2 := I0.out.x2.at_
  have HF1 := Lib.hid (fun v (i : BkI w A1 A2 c1 c2 l1 l2 v) => few_any v A1 c1 l1 i.x1.row hc1 hn1)
  have HF2 := Lib.hid (fun v (i : BkI w A1 A2 c1 c2 l1 l2 v) => few_any v A2 c2 l2 i.x2.row hc2 hn2)
  have HWK := Lib.hid (fun v (T0 : Tx v) => eworks_any v T0)
  have hl1 : (l1.length : Int) ≤ (c1 : Int) := by omega
  have hl2 : (l2.length : Int) ≤ (c2 : Int) := by omega
  by_cases f1 : FewE l1
  · rw [decide_eq_true f1] at HF1
    by_cases f2 : FewE l2
    · rw [decide_eq_true f2] at HF2
      by_cases h4 : s.size ≤ 400
      · have h4' : ¬ (s.size : Int) > 400 := by omega
        have HTL := Lib.hid (show ((prse s.data.toList).2.2 ≠ 0 ∧ (prse s.data.toList).1 = []) ∨ ∃ y, prse s.data.toList = (flat y 0, 0, 0) ∧ wr y ∧ dp y ≤ 64 ∧ Fitn (flat y 0) ∧ prse (Ex.prs y 0) = (flat y 0, 0, 0) ∧ (Ex.prs y 0).length ≤ 65536 ∧ prse (40 :: s.data.toList ++ [10, 41]) = (flat y 0, 0, 0) from by
          by_cases h : (prse s.data.toList).2.2 = 0
          · obtain ⟨y, q1, q2, _, q3, q4, q5, q6, q7⟩ := short_facts h4 h
            exact Or.inr ⟨y, q1, q2, q3, q4, q5, q6, q7⟩
          · exact Or.inl ⟨h, prse_bad h⟩)
        have HPS := Lib.hid (fun v (T0 : Tx v) => parse_val s rfl hs v T0)
        have hF1 := fit_few f1 ho1
        have hF2 := fit_few f2 ho2
        have HP1 := Lib.hid (fun v (i : BkI w A1 A2 c1 c2 l1 l2 v) => print_any v i.tx A1 c1 l1 i.x1.row hc1 hF1)
        have HP2 := Lib.hid (fun v (i : BkI w A1 A2 c1 c2 l1 l2 v) => print_any v i.tx A2 c2 l2 i.x2.row hc2 hF2)
        have HDE := Lib.hid (fun v (i : BkI w A1 A2 c1 c2 l1 l2 v) => depth_any_ v i.tx A1 c1 l1 i.x1.row hc1 hF1.1.1 hF1.1.2)
        have HS1 := Lib.hid (fun v A c (hc : l1.length ≤ c) (i : BkI w A1 A2 c1 c2 l1 l2 v) hl => same_any v A1 A c1 c l1 l1 i.x1.row hl hc1 hc (by have := f1.1; omega))
        rw [decide_eq_true (rfl : l1 = l1)] at HS1
        have HS2 := Lib.hid (fun v (i : BkI w A1 A2 c1 c2 l1 l2 v) => same_any v A1 A2 c1 c2 l1 l2 i.x1.row i.x2.row hc1 hc2 (by have := f2.1; omega))
        have HFA := Lib.hid (And.intro f1 (And.intro ho1 (And.intro f2 ho2)))
        clear T h1 h2 ho1 ho2 hz hF1 hF2 f1 f2 hc1 hc2 hn1 hn2
        go_enter Tryz.func6, Tryz.ntmps6
        go_wp2_with fail
        refine (HF1.out _ I0.out).mono ?_
        rintro e v1 ⟨rfl, hb⟩
        have I1 := Lib.hid (I0.out.on hb)
        clear hb
        have k1 := I1.out.x1.at_
        have k2 := I1.out.x2.at_
        go_wp2_with fail
        refine (HF2.out _ I1.out).mono ?_
        rintro e v2 ⟨rfl, hb⟩
        have I2 := Lib.hid (I1.out.on hb)
        clear hb
        have k1 := I2.out.x1.at_
        have k2 := I2.out.x2.at_
        go_wp2_with fail
        refine (HP1.out _ I2.out).mono ?_
        rintro e v3 ⟨t, er, hp, rfl, hb⟩
        have I3 := Lib.hid (I2.out.on hb)
        clear hb
        have k1 := I3.out.x1.at_
        have k2 := I3.out.x2.at_
        rcases hp with ⟨p1, rfl, p2⟩ | ⟨rfl, x, p1, p2, p3, p4, p5⟩
        · have p3 : (er == 0) = false := beq_eq_false_iff_ne.2 (by rw [p2]; exact p1)
          clear p1 p2
          rcases HTL.out with ⟨he, hX⟩ | ⟨y, q1, q2, q3, q4, q5, q6, q7⟩
          · have HPS2 := HPS.out
            generalize prse s.data.toList = X at HPS2 he hX
            obtain ⟨lx, nx_, ex⟩ := X
            simp only at he hX
            subst hX
            have he' : (ex != 0) = true := bne_iff_ne.2 he
            have HPS3 := Lib.hid HPS2
            clear HPS2 he
            go_wp2_with fail
            refine (HPS3.out _ I3.out.tx).mono ?_
            rintro e ua ⟨Aa, ca, _, _, rfl, hb⟩
            have I1a := Lib.hid (I3.out.on (hb.alloc hb.size (.cells #[.slice Aa 0 ca] 29)))
            clear hb
            go_wp2_with fail
            refine (HWK.out _ I1a.out.tx).mono ?_
            rintro e vw ⟨rfl, hb⟩
            have IW := Lib.hid (I1a.out.on hb)
            clear hb
            go_wp2
            go_ret
            exact ⟨rfl, IW.out.below⟩
          · have HPS2 := HPS.out
            rw [q1] at HPS2
            have HPS3 := Lib.hid HPS2
            have HPY := Lib.hid (fun v A c hc (T0 : Tx v) hl => print_val q2 q3 q4 A c hc v T0 hl)
            obtain ⟨U, hU⟩ : ∃ U : ByteArray, U = ⟨(Ex.prs y 0).toArray⟩ := ⟨_, rfl⟩
            have hUd : U.data.toList = Ex.prs y 0 := by rw [hU]
            have hUs : U.size ≤ maxLen := by rw [Lib.size_eq, hUd]; exact Nat.le_trans q6 (by decide)
            have HPU := Lib.hid (fun v (T0 : Tx v) => parse_val U (X := (flat y 0, 0, 0)) (by rw [hUd]; exact q5) hUs v T0)
            have HPC := Lib.hid (fun v (T0 : Tx v) => parse_val ((⟨#[40]⟩ ++ s) ++ ⟨#[10, 41]⟩) (X := (flat y 0, 0, 0)) (by rw [show ((⟨#[40]⟩ ++ s) ++ ⟨#[10, 41]⟩ : ByteArray).data.toList = 40 :: s.data.toList ++ [10, 41] by simp]; exact q7) (by rw [ByteArray.size_append, ByteArray.size_append]; have h5 : (ByteArray.mk #[40]).size = 1 := rfl; have h6 : (ByteArray.mk #[10, 41]).size = 2 := rfl; unfold maxLen; omega) v T0)
            have HCY := Lib.hid (fun v A c (hc : (flat y 0).length ≤ c) (T0 : Tx v) hl => check_any v T0 A c (flat y 0) hl hc q4.1)
            rw [chk_flat q2 q3] at HCY
            have hyl : (flat y 0).length ≤ 1000000 := by have := q4.1.1; omega
            have HSY := Lib.hid (fun v A c B d (hc : (flat y 0).length ≤ c) (hd : (flat y 0).length ≤ d) hl hk => same_any v A B c d (flat y 0) (flat y 0) hl hk hc hd hyl)
            rw [decide_eq_true (rfl : flat y 0 = flat y 0)] at HSY
            rw [← hU] at HPY
            generalize flat y 0 = ly at HPS3 HPY HPU HPC HCY HSY
            clear HPS2 q1 q2 q3 q4 q5 q6 q7 hU hUd hUs hyl
            go_wp2_with fail
            refine (HPS3.out _ I3.out.tx).mono ?_
            rintro e ua ⟨Aa, ca, row, cap, rfl, hb⟩
            have I1a := Lib.hid (I3.out.on (hb.alloc hb.size (.cells #[.slice Aa ly.length ca] 29)))
            have Ya := Lib.hid (Xb.new row cap)
            have ka := Ya.out.at_
            clear hb row cap
            go_wp2_with fail
            refine (HPY.out _ _ _ Ya.out.cap I1a.out.tx Ya.out.row).mono ?_
            rintro e ub ⟨rfl, hb⟩
            have I1b := Lib.hid (I1a.out.on hb)
            have Ya := Lib.hid (Ya.out.below hb)
            have ka := Ya.out.at_
            clear hb
            go_wp2_with fail
            refine (HPU.out _ I1b.out.tx).mono ?_
            rintro e uc ⟨Ac, cc, row, cap, rfl, hb⟩
            have hv := hb.alloc hb.size (.cells #[.slice Ac ly.length cc] 29)
            have I1c := Lib.hid (I1b.out.on hv)
            have Ya := Lib.hid (Ya.out.below hv)
            have Yc := Lib.hid (Xb.new row cap)
            clear hb row cap hv
            go_wp2_with fail
            refine (HPC.out _ I1c.out.tx).mono ?_
            rintro e ud ⟨Ad, cd, row, cap, rfl, hb⟩
            have hv := hb.alloc hb.size (.cells #[.slice Ad ly.length cd] 29)
            have I1d := Lib.hid (I1c.out.on hv)
            have Ya := Lib.hid (Ya.out.below hv)
            have Yc := Lib.hid (Yc.out.below hv)
            have Yd := Lib.hid (Xb.new row cap)
            have ka := Ya.out.at_
            have kc := Yc.out.at_
            have kd_ := Yd.out.at_
            clear hb row cap hv
            go_wp2_with fail
            refine (HCY.out _ _ _ Ya.out.cap I1d.out.tx Ya.out.row).mono ?_
            rintro e ue ⟨rfl, hb⟩
            have I1e := Lib.hid (I1d.out.on hb)
            have Ya := Lib.hid (Ya.out.below hb)
            have Yc := Lib.hid (Yc.out.below hb)
            have Yd := Lib.hid (Yd.out.below hb)
            have ka := Ya.out.at_
            have kc := Yc.out.at_
            have kd_ := Yd.out.at_
            clear hb
            go_wp2_with fail
            refine (HSY.out _ _ _ _ _ Ya.out.cap Yc.out.cap Ya.out.row Yc.out.row).mono ?_
            rintro e uf ⟨rfl, hb⟩
            have I1f := Lib.hid (I1e.out.on hb)
            have Ya := Lib.hid (Ya.out.below hb)
            have Yd := Lib.hid (Yd.out.below hb)
            have ka := Ya.out.at_
            have kd_ := Yd.out.at_
            clear hb
            go_wp2_with fail
            refine (HSY.out _ _ _ _ _ Ya.out.cap Yd.out.cap Ya.out.row Yd.out.row).mono ?_
            rintro e ug ⟨rfl, hb⟩
            have I1g := Lib.hid (I1f.out.on hb)
            clear hb
            go_wp2_with fail
            refine (HWK.out _ I1g.out.tx).mono ?_
            rintro e vw ⟨rfl, hb⟩
            have IW := Lib.hid (I1g.out.on hb)
            clear hb
            go_wp2
            go_ret
            exact ⟨rfl, IW.out.below⟩
        · subst p4
          obtain ⟨b1_, b2_⟩ := few_back HFA.out.1 HFA.out.2.1 p2 p1 p3
          have hd1 : dep (flat x 0) = dp x := dep_flat p2
          have hd0 : 1 ≤ dp x := by cases x <;> simp [dp]
          rw [hd1] at HDE
          obtain ⟨U, hU⟩ : ∃ U : ByteArray, U = ⟨t.toArray⟩ := ⟨_, rfl⟩
          have hUd : U.data.toList = Ex.prs x 0 := by rw [hU, p5]
          have hUs : U.size ≤ maxLen := by rw [Lib.size_eq, hUd]; exact Nat.le_trans b2_ (by decide)
          have HPU := Lib.hid (fun v (T0 : Tx v) => parse_val U (X := (flat x 0, 0, 0)) (by rw [hUd]; exact b1_) hUs v T0)
          have HEQ := Lib.hid (show ∀ y u, flat y 0 = l2 → u = Ex.prs y 0 → wf y → wr y → dp y ≤ 64 → (U.toList == (ByteArray.mk u.toArray).toList) = decide (flat x 0 = l2) from fun y u e1 e2 e3 e4 e5 => by
            subst e1 e2
            rw [Lib.toList_data, Lib.toList_data, hUd]
            by_cases h : flat x 0 = flat y 0
            · rw [decide_eq_true h, flat_inj _ _ _ h]; simp
            · rw [decide_eq_false h]
              refine beq_eq_false_iff_ne.2 fun e => h ?_
              have q := (few_back HFA.out.2.2.1 HFA.out.2.2.2 e4 e3 e5).1
              have e : Ex.prs x 0 = Ex.prs y 0 := e
              rw [← e, b1_] at q
              exact (Prod.mk.inj q).1)
          rw [← hU]
          obtain ⟨d, hd⟩ : ∃ d, d = dp x := ⟨_, rfl⟩
          rw [← hd] at HDE p3 hd0
          have d1 : ¬ (d : Int) < 1 := by omega
          have d2 : ¬ (d : Int) > 64 := by omega
          generalize flat x 0 = l1 at *
          clear p1 p2 p3 p5 b1_ b2_ hd1 hd0 hU hUd hUs hd
          go_wp2_with fail
          refine (HPU.out _ I3.out.tx).mono ?_
          rintro e u4 ⟨A4, c4, row, cap, rfl, hb⟩
          have I4 := Lib.hid (I3.out.on (hb.alloc hb.size (.cells #[.slice A4 l1.length c4] 29)))
          have Y4 := Lib.hid (Xb.new row cap)
          have k4 := Y4.out.at_
          have k1 := I4.out.x1.at_
          have k2 := I4.out.x2.at_
          clear hb row cap
          go_wp2_with fail
          refine (HS1.out _ _ _ Y4.out.cap I4.out Y4.out.row).mono ?_
          rintro e v5 ⟨rfl, hb⟩
          have I5 := Lib.hid (I4.out.on hb)
          clear hb
          have k1 := I5.out.x1.at_
          have k2 := I5.out.x2.at_
          go_wp2_with fail
          refine (HDE.out _ I5.out).mono ?_
          rintro e v6 ⟨rfl, hb⟩
          have I6 := Lib.hid (I5.out.on hb)
          clear hb
          have k1 := I6.out.x1.at_
          have k2 := I6.out.x2.at_
          go_wp2_with fail
          refine (HDE.out _ I6.out).mono ?_
          rintro e v7 ⟨rfl, hb⟩
          have I7 := Lib.hid (I6.out.on hb)
          clear hb
          have k1 := I7.out.x1.at_
          have k2 := I7.out.x2.at_
          go_wp2_with fail
          refine (HP2.out _ I7.out).mono ?_
          rintro e v8 ⟨u, er, hp, rfl, hb⟩
          have I8 := Lib.hid (I7.out.on hb)
          clear hb
          have k1 := I8.out.x1.at_
          have k2 := I8.out.x2.at_
          rcases hp with ⟨p1, rfl, p2⟩ | ⟨rfl, y, p1, p2, p3, p4, p5⟩
          · have p3 : (er == 0) = false := beq_eq_false_iff_ne.2 (by rw [p2]; exact p1)
            clear p1 p2
            rcases HTL.out with ⟨he, hX⟩ | ⟨y, q1, q2, q3, q4, q5, q6, q7⟩
            · have HPS2 := HPS.out
              generalize prse s.data.toList = X at HPS2 he hX
              obtain ⟨lx, nx_, ex⟩ := X
              simp only at he hX
              subst hX
              have he' : (ex != 0) = true := bne_iff_ne.2 he
              have HPS3 := Lib.hid HPS2
              clear HPS2 he
              go_wp2_with fail
              refine (HPS3.out _ I8.out.tx).mono ?_
              rintro e ua ⟨Aa, ca, _, _, rfl, hb⟩
              have I1a := Lib.hid (I8.out.on (hb.alloc hb.size (.cells #[.slice Aa 0 ca] 29)))
              clear hb
              go_wp2_with fail
              refine (HWK.out _ I1a.out.tx).mono ?_
              rintro e vw ⟨rfl, hb⟩
              have IW := Lib.hid (I1a.out.on hb)
              clear hb
              go_wp2
              go_ret
              exact ⟨rfl, IW.out.below⟩
            · have HPS2 := HPS.out
              rw [q1] at HPS2
              have HPS3 := Lib.hid HPS2
              have HPY := Lib.hid (fun v A c hc (T0 : Tx v) hl => print_val q2 q3 q4 A c hc v T0 hl)
              obtain ⟨U, hU⟩ : ∃ U : ByteArray, U = ⟨(Ex.prs y 0).toArray⟩ := ⟨_, rfl⟩
              have hUd : U.data.toList = Ex.prs y 0 := by rw [hU]
              have hUs : U.size ≤ maxLen := by rw [Lib.size_eq, hUd]; exact Nat.le_trans q6 (by decide)
              have HPU := Lib.hid (fun v (T0 : Tx v) => parse_val U (X := (flat y 0, 0, 0)) (by rw [hUd]; exact q5) hUs v T0)
              have HPC := Lib.hid (fun v (T0 : Tx v) => parse_val ((⟨#[40]⟩ ++ s) ++ ⟨#[10, 41]⟩) (X := (flat y 0, 0, 0)) (by rw [show ((⟨#[40]⟩ ++ s) ++ ⟨#[10, 41]⟩ : ByteArray).data.toList = 40 :: s.data.toList ++ [10, 41] by simp]; exact q7) (by rw [ByteArray.size_append, ByteArray.size_append]; have h5 : (ByteArray.mk #[40]).size = 1 := rfl; have h6 : (ByteArray.mk #[10, 41]).size = 2 := rfl; unfold maxLen; omega) v T0)
              have HCY := Lib.hid (fun v A c (hc : (flat y 0).length ≤ c) (T0 : Tx v) hl => check_any v T0 A c (flat y 0) hl hc q4.1)
              rw [chk_flat q2 q3] at HCY
              have hyl : (flat y 0).length ≤ 1000000 := by have := q4.1.1; omega
              have HSY := Lib.hid (fun v A c B d (hc : (flat y 0).length ≤ c) (hd : (flat y 0).length ≤ d) hl hk => same_any v A B c d (flat y 0) (flat y 0) hl hk hc hd hyl)
              rw [decide_eq_true (rfl : flat y 0 = flat y 0)] at HSY
              rw [← hU] at HPY
              generalize flat y 0 = ly at HPS3 HPY HPU HPC HCY HSY
              clear HPS2 q1 q2 q3 q4 q5 q6 q7 hU hUd hUs hyl
              go_wp2_with fail
              refine (HPS3.out _ I8.out.tx).mono ?_
              rintro e ua ⟨Aa, ca, row, cap, rfl, hb⟩
              have I1a := Lib.hid (I8.out.on (hb.alloc hb.size (.cells #[.slice Aa ly.length ca] 29)))
              have Ya := Lib.hid (Xb.new row cap)
              have ka := Ya.out.at_
              clear hb row cap
              go_wp2_with fail
              refine (HPY.out _ _ _ Ya.out.cap I1a.out.tx Ya.out.row).mono ?_
              rintro e ub ⟨rfl, hb⟩
              have I1b := Lib.hid (I1a.out.on hb)
              have Ya := Lib.hid (Ya.out.below hb)
              have ka := Ya.out.at_
              clear hb
              go_wp2_with fail
              refine (HPU.out _ I1b.out.tx).mono ?_
              rintro e uc ⟨Ac, cc, row, cap, rfl, hb⟩
              have hv := hb.alloc hb.size (.cells #[.slice Ac ly.length cc] 29)
              have I1c := Lib.hid (I1b.out.on hv)
              have Ya := Lib.hid (Ya.out.below hv)
              have Yc := Lib.hid (Xb.new row cap)
              clear hb row cap hv
              go_wp2_with fail
              refine (HPC.out _ I1c.out.tx).mono ?_
              rintro e ud ⟨Ad, cd, row, cap, rfl, hb⟩
              have hv := hb.alloc hb.size (.cells #[.slice Ad ly.length cd] 29)
              have I1d := Lib.hid (I1c.out.on hv)
              have Ya := Lib.hid (Ya.out.below hv)
              have Yc := Lib.hid (Yc.out.below hv)
              have Yd := Lib.hid (Xb.new row cap)
              have ka := Ya.out.at_
              have kc := Yc.out.at_
              have kd_ := Yd.out.at_
              clear hb row cap hv
              go_wp2_with fail
              refine (HCY.out _ _ _ Ya.out.cap I1d.out.tx Ya.out.row).mono ?_
              rintro e ue ⟨rfl, hb⟩
              have I1e := Lib.hid (I1d.out.on hb)
              have Ya := Lib.hid (Ya.out.below hb)
              have Yc := Lib.hid (Yc.out.below hb)
              have Yd := Lib.hid (Yd.out.below hb)
              have ka := Ya.out.at_
              have kc := Yc.out.at_
              have kd_ := Yd.out.at_
              clear hb
              go_wp2_with fail
              refine (HSY.out _ _ _ _ _ Ya.out.cap Yc.out.cap Ya.out.row Yc.out.row).mono ?_
              rintro e uf ⟨rfl, hb⟩
              have I1f := Lib.hid (I1e.out.on hb)
              have Ya := Lib.hid (Ya.out.below hb)
              have Yd := Lib.hid (Yd.out.below hb)
              have ka := Ya.out.at_
              have kd_ := Yd.out.at_
              clear hb
              go_wp2_with fail
              refine (HSY.out _ _ _ _ _ Ya.out.cap Yd.out.cap Ya.out.row Yd.out.row).mono ?_
              rintro e ug ⟨rfl, hb⟩
              have I1g := Lib.hid (I1f.out.on hb)
              clear hb
              go_wp2_with fail
              refine (HWK.out _ I1g.out.tx).mono ?_
              rintro e vw ⟨rfl, hb⟩
              have IW := Lib.hid (I1g.out.on hb)
              clear hb
              go_wp2
              go_ret
              exact ⟨rfl, IW.out.below⟩
          · have hE := HEQ.out y u p4.symm p5 p1 p2 p3
            obtain ⟨V, hV⟩ : ∃ V : ByteArray, V = ⟨u.toArray⟩ := ⟨_, rfl⟩
            rw [← hV] at hE ⊢
            clear p1 p2 p3 p4 p5 hV HEQ
            generalize decide (l1 = l2) = R at *
            go_wp2_with fail
            refine (HS2.out _ I8.out).mono ?_
            rintro e v9 ⟨rfl, hb⟩
            have I9 := Lib.hid (I8.out.on hb)
            clear hb
            have k1 := I9.out.x1.at_
            have k2 := I9.out.x2.at_
            rcases HTL.out with ⟨he, hX⟩ | ⟨y, q1, q2, q3, q4, q5, q6, q7⟩
            · have HPS2 := HPS.out
              generalize prse s.data.toList = X at HPS2 he hX
              obtain ⟨lx, nx_, ex⟩ := X
              simp only at he hX
              subst hX
              have he' : (ex != 0) = true := bne_iff_ne.2 he
              have HPS3 := Lib.hid HPS2
              clear HPS2 he
              go_wp2_with fail
              refine (HPS3.out _ I9.out.tx).mono ?_
              rintro e ua ⟨Aa, ca, _, _, rfl, hb⟩
              have I1a := Lib.hid (I9.out.on (hb.alloc hb.size (.cells #[.slice Aa 0 ca] 29)))
              clear hb
              go_wp2_with fail
              refine (HWK.out _ I1a.out.tx).mono ?_
              rintro e vw ⟨rfl, hb⟩
              have IW := Lib.hid (I1a.out.on hb)
              clear hb
              go_wp2
              go_ret
              exact ⟨rfl, IW.out.below⟩
            · have HPS2 := HPS.out
              rw [q1] at HPS2
              have HPS3 := Lib.hid HPS2
              have HPY := Lib.hid (fun v A c hc (T0 : Tx v) hl => print_val q2 q3 q4 A c hc v T0 hl)
              obtain ⟨U, hU⟩ : ∃ U : ByteArray, U = ⟨(Ex.prs y 0).toArray⟩ := ⟨_, rfl⟩
              have hUd : U.data.toList = Ex.prs y 0 := by rw [hU]
              have hUs : U.size ≤ maxLen := by rw [Lib.size_eq, hUd]; exact Nat.le_trans q6 (by decide)
              have HPU := Lib.hid (fun v (T0 : Tx v) => parse_val U (X := (flat y 0, 0, 0)) (by rw [hUd]; exact q5) hUs v T0)
              have HPC := Lib.hid (fun v (T0 : Tx v) => parse_val ((⟨#[40]⟩ ++ s) ++ ⟨#[10, 41]⟩) (X := (flat y 0, 0, 0)) (by rw [show ((⟨#[40]⟩ ++ s) ++ ⟨#[10, 41]⟩ : ByteArray).data.toList = 40 :: s.data.toList ++ [10, 41] by simp]; exact q7) (by rw [ByteArray.size_append, ByteArray.size_append]; have h5 : (ByteArray.mk #[40]).size = 1 := rfl; have h6 : (ByteArray.mk #[10, 41]).size = 2 := rfl; unfold maxLen; omega) v T0)
              have HCY := Lib.hid (fun v A c (hc : (flat y 0).length ≤ c) (T0 : Tx v) hl => check_any v T0 A c (flat y 0) hl hc q4.1)
              rw [chk_flat q2 q3] at HCY
              have hyl : (flat y 0).length ≤ 1000000 := by have := q4.1.1; omega
              have HSY := Lib.hid (fun v A c B d (hc : (flat y 0).length ≤ c) (hd : (flat y 0).length ≤ d) hl hk => same_any v A B c d (flat y 0) (flat y 0) hl hk hc hd hyl)
              rw [decide_eq_true (rfl : flat y 0 = flat y 0)] at HSY
              rw [← hU] at HPY
              generalize flat y 0 = ly at HPS3 HPY HPU HPC HCY HSY
              clear HPS2 q1 q2 q3 q4 q5 q6 q7 hU hUd hUs hyl
              go_wp2_with fail
              refine (HPS3.out _ I9.out.tx).mono ?_
              rintro e ua ⟨Aa, ca, row, cap, rfl, hb⟩
              have I1a := Lib.hid (I9.out.on (hb.alloc hb.size (.cells #[.slice Aa ly.length ca] 29)))
              have Ya := Lib.hid (Xb.new row cap)
              have ka := Ya.out.at_
              clear hb row cap
              go_wp2_with fail
              refine (HPY.out _ _ _ Ya.out.cap I1a.out.tx Ya.out.row).mono ?_
              rintro e ub ⟨rfl, hb⟩
              have I1b := Lib.hid (I1a.out.on hb)
              have Ya := Lib.hid (Ya.out.below hb)
              have ka := Ya.out.at_
              clear hb
              go_wp2_with fail
              refine (HPU.out _ I1b.out.tx).mono ?_
              rintro e uc ⟨Ac, cc, row, cap, rfl, hb⟩
              have hv := hb.alloc hb.size (.cells #[.slice Ac ly.length cc] 29)
              have I1c := Lib.hid (I1b.out.on hv)
              have Ya := Lib.hid (Ya.out.below hv)
              have Yc := Lib.hid (Xb.new row cap)
              clear hb row cap hv
              go_wp2_with fail
              refine (HPC.out _ I1c.out.tx).mono ?_
              rintro e ud ⟨Ad, cd, row, cap, rfl, hb⟩
              have hv := hb.alloc hb.size (.cells #[.slice Ad ly.length cd] 29)
              have I1d := Lib.hid (I1c.out.on hv)
              have Ya := Lib.hid (Ya.out.below hv)
              have Yc := Lib.hid (Yc.out.below hv)
              have Yd := Lib.hid (Xb.new row cap)
              have ka := Ya.out.at_
              have kc := Yc.out.at_
              have kd_ := Yd.out.at_
              clear hb row cap hv
              go_wp2_with fail
              refine (HCY.out _ _ _ Ya.out.cap I1d.out.tx Ya.out.row).mono ?_
              rintro e ue ⟨rfl, hb⟩
              have I1e := Lib.hid (I1d.out.on hb)
              have Ya := Lib.hid (Ya.out.below hb)
              have Yc := Lib.hid (Yc.out.below hb)
              have Yd := Lib.hid (Yd.out.below hb)
              have ka := Ya.out.at_
              have kc := Yc.out.at_
              have kd_ := Yd.out.at_
              clear hb
              go_wp2_with fail
              refine (HSY.out _ _ _ _ _ Ya.out.cap Yc.out.cap Ya.out.row Yc.out.row).mono ?_
              rintro e uf ⟨rfl, hb⟩
              have I1f := Lib.hid (I1e.out.on hb)
              have Ya := Lib.hid (Ya.out.below hb)
              have Yd := Lib.hid (Yd.out.below hb)
              have ka := Ya.out.at_
              have kd_ := Yd.out.at_
              clear hb
              go_wp2_with fail
              refine (HSY.out _ _ _ _ _ Ya.out.cap Yd.out.cap Ya.out.row Yd.out.row).mono ?_
              rintro e ug ⟨rfl, hb⟩
              have I1g := Lib.hid (I1f.out.on hb)
              clear hb
              go_wp2_with fail
              refine (HWK.out _ I1g.out.tx).mono ?_
              rintro e vw ⟨rfl, hb⟩
              have IW := Lib.hid (I1g.out.on hb)
              clear hb
              go_wp2
              go_ret
              exact ⟨rfl, IW.out.below⟩
      · have h4' : (s.size : Int) > 400 := by omega
        clear T h1 h2 ho1 ho2 hz
        go_enter Tryz.func6, Tryz.ntmps6
        go_wp2_with fail
        refine (HF1.out _ I0.out).mono ?_
        rintro e v1 ⟨rfl, hb⟩
        have I1 := Lib.hid (I0.out.on hb)
        clear hb
        have k1 := I1.out.x1.at_
        have k2 := I1.out.x2.at_
        go_wp2_with fail
        refine (HF2.out _ I1.out).mono ?_
        rintro e v2 ⟨rfl, hb⟩
        have I2 := Lib.hid (I1.out.on hb)
        clear hb
        have k1 := I2.out.x1.at_
        have k2 := I2.out.x2.at_
        go_wp2_with fail
        refine (HWK.out _ I2.out.tx).mono ?_
        rintro e vw ⟨rfl, hb⟩
        have IW := Lib.hid (I2.out.on hb)
        clear hb
        go_wp2
        go_ret
        exact ⟨rfl, IW.out.below⟩
    · rw [decide_eq_false f2] at HF2
      clear T h1 h2 ho1 ho2 hz
      go_enter Tryz.func6, Tryz.ntmps6
      go_wp2_with fail
      refine (HF1.out _ I0.out).mono ?_
      rintro e v1 ⟨rfl, hb⟩
      have I1 := Lib.hid (I0.out.on hb)
      clear hb
      have k1 := I1.out.x1.at_
      have k2 := I1.out.x2.at_
      go_wp2_with fail
      refine (HF2.out _ I1.out).mono ?_
      rintro e v2 ⟨rfl, hb⟩
      have I2 := Lib.hid (I1.out.on hb)
      clear hb
      have k1 := I2.out.x1.at_
      have k2 := I2.out.x2.at_
      go_wp2_with fail
      refine (HWK.out _ I2.out.tx).mono ?_
      rintro e vw ⟨rfl, hb⟩
      have IW := Lib.hid (I2.out.on hb)
      clear hb
      go_wp2
      go_ret
      exact ⟨rfl, IW.out.below⟩
  · rw [decide_eq_false f1] at HF1
    clear T h1 h2 ho1 ho2 hz
    go_enter Tryz.func6, Tryz.ntmps6
    go_wp2_with fail
    refine (HF1.out _ I0.out).mono ?_
    rintro e v1 ⟨rfl, hb⟩
    have I1 := Lib.hid (I0.out.on hb)
    clear hb
    have k1 := I1.out.x1.at_
    have k2 := I1.out.x2.at_
    go_wp2_with fail
    refine (HWK.out _ I1.out.tx).mono ?_
    rintro e vw ⟨rfl, hb⟩
    have IW := Lib.hid (I1.out.on hb)
    clear hb
    go_wp2
    go_ret
    exact ⟨rfl, IW.out.below⟩
end Go.Proofs.YtfijfoblmnjdcaaGreatDoor
