/- Layer 8's statements: ExprLeast, walked. Conditions: the tables hold what their texts lay; the row of nodes lies in memory; numbers are of 64 bits, ops of 8; lengths are such as come in. -/
import Derived.Test.YtphmheonlndaiaaGreatDoorExWorks
import Derived.Test.YtphmheonlndaiaaGreatDoorExLst
namespace Go.Proofs.YtphmheonlndaiaaGreatDoor
open Go.RowKit Ex

/-- What stays on the way: the box. -/
structure LkL (w : World) (A1 : Option Addr) (c1 : Nat) (l1 : List Nd) (v : World) : Prop where
  below : Below w.heap.size w v
  tx : Tx v
  x1 : Xb v w.heap.size A1 c1 l1
theorem LkL.on {w : World} {A1 : Option Addr} {c1 : Nat} {l1 : List Nd} {v v' : World} (h : LkL w A1 c1 l1 v) (hb : Below v.heap.size v v') : LkL w A1 c1 l1 v' :=
  ⟨h.below.trans (hb.mono h.below.size), h.tx.below hb, h.x1.below hb⟩
/-- A row that is read is no longer than its text allows. -/
theorem prse_len {s : List UInt8} (h : (prse s).2.2 = 0) : (prse s).1.length ≤ 1000000 := by
  obtain ⟨x, h1, _, h3, h4⟩ := prse_ok h
  obtain ⟨q1, q2, _, q4⟩ := read_fine h3
  have hs : s.length ≤ 65536 := Decidable.byContradiction fun hn => by
    unfold Lx.toks at h4; rw [if_pos (by omega)] at h4; cases h4
  have h5 := toks_less hs
  have hk : (kxs (Lx.toks s).1).length = (Lx.toks s).1.length := by simp [kxs]
  rw [h1]
  show (flat x 0).length ≤ 1000000
  rw [flat_len]; omega
/-- A row is put into a fresh box. -/
theorem Xb.put {w : World} {b : Nat} {A : Option Addr} {c : Nat} {l : List Nd} (hk : IsBlk w b 29 #[.slice none 0 0]) (row : NdR w w.heap.size A l) (cap : l.length ≤ c) : Xb (w.setCell ⟨b, 0, none⟩ (.slice A l.length c)) b A c l := by
  refine ⟨hk.set 0 _, fun j hj => ?_, cap⟩
  obtain ⟨g, o, e, hg, q0, q1, q2, q3, q4, q5⟩ := row j hj
  have q : ∀ (k : Nat) (v : Value), w.cell? ⟨g, k, none⟩ = some v → v ≠ .slice none 0 0 → (w.setCell ⟨b, 0, none⟩ (.slice A l.length c)).cell? ⟨g, k, none⟩ = some v := fun k v hc hv => by
    rw [World.cell?_setCell_other]
    · exact hc
    · intro e
      rw [← e, hk.at_ 0] at hc
      exact hv (Option.some.inj hc).symm
  exact ⟨g, o, e, by simpa [World.setCell] using hg, q _ _ q0 (by simp), q _ _ q1 (by simp), q _ _ q2 (by simp), q _ _ q3 (by simp), q _ _ q4 (by simp), q _ _ q5 (by simp)⟩
/-- Without a ( and its ) it is another. -/
theorem spare_any {x : E} {S : ByteArray} (hS : S.data.toList = Ex.prs x 0) (hx : wf x) (hl : (Ex.prs x 0).length ≤ 65536) {i k : Nat} (hik : i < k) (hi : (S.data.toList)[i]? = some 40) (hkc : (S.data.toList)[k]? = some 41)
    (h : (prse (S.extract 0 i ++ S.extract (i + 1) k ++ S.extract (k + 1) S.size).data.toList).2.2 = 0) : (prse (S.extract 0 i ++ S.extract (i + 1) k ++ S.extract (k + 1) S.size).data.toList).1 ≠ flat x 0 := by
  obtain ⟨y, h1, _, h3, _⟩ := prse_ok h
  rw [h1]
  intro e
  have e2 := flat_inj _ _ _ e
  rw [hS] at hi hkc
  refine spare hx hl hik hi hkc ?_ h3 e2
  have hsz : S.size = S.data.toList.length := Lib.size_eq S
  simp only [ByteArray.data_append, Array.toList_append, ByteArray.data_extract, Array.toList_extract, List.extract_eq_take_drop, hS]
  rw [show (Ex.prs x 0).drop 0 = Ex.prs x 0 from rfl, Nat.sub_zero, List.drop_take]
  congr 1
  rw [List.take_of_length_le]
  rw [List.length_drop, hsz, hS]; omega
set_option maxHeartbeats 16000000 in
set_option maxRecDepth 100000 in
theorem least_any (w : World) (T : Tx w) (A1 : Option Addr) (c1 : Nat) (l1 : List Nd) (h1 : NdR w w.heap.size A1 l1) (hc1 : l1.length ≤ c1) (hn1 : l1.length ≤ 9223372036854775807) (ho1 : Okn l1) :
    Calls Tryz.prog 6 #[.agg #[.slice A1 l1.length c1]] w fun e w' => e = .returned (.bool true) ∧ Below w.heap.size w w' := by
  have I0 := Lib.hid (show LkL w A1 c1 l1 (w.alloc (.cells #[.slice A1 l1.length c1] 29)) from by
    have b1 := (Below.refl w.heap.size w).alloc (Nat.le_refl _) (.cells #[.slice A1 l1.length c1] 29)
    exact ⟨b1, T.below b1, Xb.new h1 hc1⟩)
  have k1 := I0.out.x1.at_
  have HF1 := Lib.hid (fun v (i : LkL w A1 c1 l1 v) => few_any v A1 c1 l1 i.x1.row hc1 hn1)
  have HWK := Lib.hid (fun v (T0 : Tx v) => eworks_any v T0)
  have hl1 : (l1.length : Int) ≤ (c1 : Int) := by omega
  by_cases f1 : FewE l1
  · rw [decide_eq_true f1] at HF1
    by_cases h6 : l1.length ≤ 60
    · have h6' : ¬ (l1.length : Int) > 60 := by omega
      have hF1 := fit_few f1 ho1
      have HP1 := Lib.hid (fun v (i : LkL w A1 c1 l1 v) => print_any v i.tx A1 c1 l1 i.x1.row hc1 hF1)
      have HS1 := Lib.hid (fun v A c (l : List Nd) (hc : l.length ≤ c) (i : LkL w A1 c1 l1 v) hl (hn : l.length ≤ 1000000) => same_any v A1 A c1 c l1 l i.x1.row hl hc1 hc hn)
      have HFA := Lib.hid (And.intro f1 ho1)
      clear T h1 ho1 hF1 f1 hc1 hn1
      go_enter Tryz.func6, Tryz.ntmps6
      go_wp2_with fail
      refine (HF1.out _ I0.out).mono ?_
      rintro e v1 ⟨rfl, hb⟩
      have I1 := Lib.hid (I0.out.on hb)
      clear hb
      have k1 := I1.out.x1.at_
      go_wp2_with fail
      refine (HP1.out _ I1.out).mono ?_
      rintro e v2 ⟨t, er, hp, rfl, hb⟩
      have I2 := Lib.hid (I1.out.on hb)
      clear hb
      have k1 := I2.out.x1.at_
      rcases hp with ⟨p1, rfl, p2⟩ | ⟨rfl, x, p1, p2, p3, p4, p5⟩
      · have p3 : (er != 0) = true := bne_iff_ne.2 (by rw [p2]; exact p1)
        clear p1 p2
        go_wp2_with fail
        refine (HWK.out _ I2.out.tx).mono ?_
        rintro e vw ⟨rfl, hb⟩
        have IW := Lib.hid (I2.out.on hb)
        clear hb
        go_wp2
        go_ret
        exact ⟨rfl, IW.out.below⟩
      · subst p4
        obtain ⟨_, b2_⟩ := few_back HFA.out.1 HFA.out.2 p2 p1 p3
        obtain ⟨S, hS⟩ : ∃ S : ByteArray, S = ⟨t.toArray⟩ := ⟨_, rfl⟩
        have hSd : S.data.toList = Ex.prs x 0 := by rw [hS, p5]
        have hSs : S.size ≤ 65536 := by rw [Lib.size_eq, hSd]; exact b2_
        rw [← hS]
        have HSP := Lib.hid (fun i k => spare_any (i := i) (k := k) hSd p1 b2_)
        generalize flat x 0 = l1 at *
        clear p1 p2 p3 p5 b2_ hS hSd
        have HS := Lib.hid (show ∀ j (hj : j < S.size), S.data.toList[j]? = some S[j] from fun j hj => by rw [List.getElem?_eq_getElem (by rw [← Lib.size_eq]; exact hj)]; rfl)
        go_wp2
        go_loopw [5] (fun iv wr => ∃ i : Nat, iv = .int .i64 i ∧ i ≤ S.size ∧ Hid (LkL w A1 c1 l1 wr)) (fun iv _ => S.size - (intOf iv).toNat)
        case atStart => exact ⟨0, rfl, Nat.zero_le _, I2⟩
        case round =>
          clear k1 I0 I1 I2
          obtain ⟨i, rfl, hi, II⟩ := hrel
          by_cases hlt : i < S.size
          · have hlt' : (i : Int) < (S.size : Int) := by omega
            by_cases hb : S[i].toNat = 40
            · have hb0 : ((S[i].toNat : Int) != 40) = false := by simp [hb]
              have HI40 := Lib.hid (show S.data.toList[i]? = some 40 from by rw [HS.out i hlt]; congr 1; exact UInt8.toNat_inj.1 hb)
              have HLT := Lib.hid hlt
              go_wp2
              go_loopw [6, 7] (fun ov kv wr => ∃ (o : Int) (k : Nat), ov = .int .i64 o ∧ kv = .int .i64 k ∧ i ≤ k ∧ k ≤ S.size ∧ 0 ≤ o ∧ o ≤ k ∧ Hid ((k = i ∧ o = 0 ∨ i < k ∧ 1 ≤ o) ∧ LkL w A1 c1 l1 wr)) (fun _ kv _ => S.size - (intOf kv).toNat)
              case atStart => exact ⟨0, i, rfl, rfl, Nat.le_refl _, hi, by omega, by omega, Lib.hid ⟨Or.inl ⟨rfl, rfl⟩, II.out⟩⟩
              case round =>
                clear II
                obtain ⟨o, k, rfl, rfl, hk1, hk2, ho1, ho2, HK⟩ := hrel
                by_cases hkt : k < S.size
                · have hkt' : (k : Int) < (S.size : Int) := by omega
                  have HKT := Lib.hid hkt
                  by_cases c0 : S[k].toNat = 40
                  · have q0 : ((S[k].toNat : Int) == 40) = true := by simp [c0]
                    have q1 : ((S[k].toNat : Int) == 41) = false := by simp [c0]
                    have q2 : (o + 1 == 0) = false := beq_eq_false_iff_ne.2 (by omega)
                    clear c0
                    go_wp2
                    go_roundw
                    case rel => exact ⟨o + 1, k + 1, by go_num, by go_num, by omega, HKT.out, by omega, by omega, Lib.hid ⟨Or.inr ⟨by omega, by omega⟩, HK.out.2⟩⟩
                    case measure => have := HKT.out; simp [intOf]; omega
                  · have q0 : ((S[k].toNat : Int) == 40) = false := beq_eq_false_iff_ne.2 (by omega)
                    have hki : i < k ∧ 1 ≤ o := by
                      rcases HK.out.1 with ⟨h, _⟩ | h
                      · subst h; exact absurd hb c0
                      · exact h
                    have hki1 := hki.1
                    have ho3 := hki.2
                    clear hki
                    by_cases c1_ : S[k].toNat = 41
                    · have q1 : ((S[k].toNat : Int) == 41) = true := by simp [c1_]
                      by_cases hz : o = 1
                      · subst hz
                        have HK41 := Lib.hid (show S.data.toList[k]? = some 41 from by rw [HS.out k hkt]; congr 1; exact UInt8.toNat_inj.1 c1_)
                        have HU := Lib.hid (HSP.out i k hki1 HI40.out HK41.out)
                        have hus : (S.extract 0 i ++ S.extract (i + 1) k ++ S.extract (k + 1) S.size).size ≤ maxLen := by
                          rw [ByteArray.size_append, ByteArray.size_append, ByteArray.size_extract, ByteArray.size_extract, ByteArray.size_extract]; unfold maxLen; omega
                        have HPU := Lib.hid (fun v (T0 : Tx v) => parse_val (S.extract 0 i ++ S.extract (i + 1) k ++ S.extract (k + 1) S.size) rfl hus v T0)
                        have HXL := Lib.hid (prse_len (s := (S.extract 0 i ++ S.extract (i + 1) k ++ S.extract (k + 1) S.size).data.toList))
                        obtain ⟨X, hX⟩ : ∃ X, X = prse (S.extract 0 i ++ S.extract (i + 1) k ++ S.extract (k + 1) S.size).data.toList := ⟨_, rfl⟩
                        rw [← hX] at HPU HU HXL
                        have r1 : decide ((S.size : Int) < (i : Int)) = false := decide_eq_false (by omega)
                        have r2 : decide ((S.size : Int) < (k : Int)) = false := decide_eq_false (by omega)
                        have r3 : decide ((k : Int) < (i : Int) + 1) = false := decide_eq_false (by omega)
                        have r4 : decide ((S.size : Int) < (k : Int) + 1) = false := decide_eq_false (by omega)
                        have r5 : IntKind.i64.wrap ((i : Int) + 1) = (i : Int) + 1 := IntWalk.i64_in _ (by omega)
                        have r6 : IntKind.i64.wrap ((k : Int) + 1) = (k : Int) + 1 := IntWalk.i64_in _ (by omega)
                        have r7 : (0 : Int) ≤ (i : Int) + 1 := by omega
                        have r8 : (0 : Int) ≤ (k : Int) + 1 := by omega
                        have r9 : (i : Int) + 1 ≤ (k : Int) := by omega
                        have r10 : (k : Int) ≤ (S.size : Int) := by omega
                        have r11 : (k : Int) + 1 ≤ (S.size : Int) := by omega
                        have r12 : (i : Int) ≤ (S.size : Int) := by omega
                        have e1 : ((i : Int) + 1).toNat = i + 1 := by omega
                        have e2 : ((k : Int) + 1).toNat = k + 1 := by omega
                        obtain ⟨P, hP⟩ : ∃ P, S.extract 0 i = P := ⟨_, rfl⟩
                        obtain ⟨Q, hQ⟩ : ∃ Q, S.extract (i + 1) k = Q := ⟨_, rfl⟩
                        obtain ⟨U, hU⟩ : ∃ U, S.extract (k + 1) S.size = U := ⟨_, rfl⟩
                        rw [hP, hQ, hU] at HPU
                        have s1 : P.size ≤ 65536 := by rw [← hP, ByteArray.size_extract]; omega
                        have s2 : Q.size ≤ 65536 := by rw [← hQ, ByteArray.size_extract]; omega
                        have s3 : U.size ≤ 65536 := by rw [← hU, ByteArray.size_extract]; omega
                        have r13 : P.size + Q.size ≤ 9223372036854775807 := by omega
                        have r14 : (P ++ Q).size + U.size ≤ 9223372036854775807 := by rw [ByteArray.size_append]; omega
                        have r15 : P.size + Q.size + U.size ≤ 9223372036854775807 := by omega
                        have u1 : (P.size : Int) + (Q.size : Int) ≤ 9223372036854775807 := by omega
                        have u2 : ¬ (9223372036854775807 : Int) < (P.size : Int) + (Q.size : Int) := by omega
                        have u3 : (P.size : Int) + (Q.size : Int) + (U.size : Int) ≤ 9223372036854775807 := by omega
                        have u4 : ¬ (9223372036854775807 : Int) < (P.size : Int) + (Q.size : Int) + (U.size : Int) := by omega
                        have u5 : ((P ++ Q).size : Int) + (U.size : Int) ≤ 9223372036854775807 := by rw [ByteArray.size_append]; omega
                        have u6 : ¬ (9223372036854775807 : Int) < ((P ++ Q).size : Int) + (U.size : Int) := by rw [ByteArray.size_append]; omega
                        have u7 : decide ((9223372036854775807 : Int) < (P.size : Int) + (Q.size : Int)) = false := decide_eq_false u2
                        clear hX hus c0 c1_ s1 s2 s3
                        go_upto_region 19 with fail
                        go_cut [8, 9, 10] from 44 to 89 (fun s8 s9 s10 wx => s9 = .int .i64 (X.2.1 : Nat) ∧ s10 = .int .i64 X.2.2 ∧ ∃ pb A3 c3, s8 = .pointer (some ⟨pb, 0, none⟩) ∧ Hid (LkL w A1 c1 l1 wx ∧ Xb wx pb A3 c3 X.1))
                        case first =>
                          refine wp_region_held_drew (S := fun _ => True) (by kernel_rfl) True.intro (fun hHeld => ?_)
                          refine wpAnyH_take (i := 0) (v := .string S) rfl (by kernel_rfl) (by kernel_rfl) (by kernel_rfl) (fun _ _ _ h => h) (Or.inl ⟨by rfl, by (intro w hS; go_simp)⟩) hHeld ?_
                          try simp only [Act.put, List.getElem_toArray, List.getElem_cons_zero, List.setIfInBounds_toArray, List.set_cons_zero, List.set_cons_succ]
                          refine wpAnyH_take (i := 1) (v := .int .i64 (i : Nat)) rfl (by kernel_rfl) (by kernel_rfl) (by kernel_rfl) (fun _ _ _ h => h) (Or.inl ⟨by rfl, by (intro w hS; go_simp)⟩) hHeld ?_
                          try simp only [Act.put, List.getElem_toArray, List.getElem_cons_succ, List.getElem_cons_zero, List.setIfInBounds_toArray, List.set_cons_zero, List.set_cons_succ]
                          refine wpAnyH_take (i := 2) (v := .string P) rfl (by kernel_rfl) (by kernel_rfl) (by kernel_rfl) (fun _ _ _ h => h) (Or.inl ⟨by rfl, by (intro w hS; go_simp)⟩) hHeld ?_
                          try simp only [Act.put, List.getElem_toArray, List.getElem_cons_succ, List.getElem_cons_zero, List.setIfInBounds_toArray, List.set_cons_zero, List.set_cons_succ]
                          refine wpAnyH_take (i := 3) (v := .string S) rfl (by kernel_rfl) (by kernel_rfl) (by kernel_rfl) (fun _ _ _ h => h) (Or.inl ⟨by rfl, by (intro w hS; go_simp)⟩) hHeld ?_
                          try simp only [Act.put, List.getElem_toArray, List.getElem_cons_succ, List.getElem_cons_zero, List.setIfInBounds_toArray, List.set_cons_zero, List.set_cons_succ]
                          refine wpAnyH_take (i := 4) (v := .int .i64 (i : Nat)) rfl (by kernel_rfl) (by kernel_rfl) (by kernel_rfl) (fun _ _ _ h => h) (Or.inl ⟨by rfl, by (intro w hS; go_simp)⟩) hHeld ?_
                          try simp only [Act.put, List.getElem_toArray, List.getElem_cons_succ, List.getElem_cons_zero, List.setIfInBounds_toArray, List.set_cons_zero, List.set_cons_succ]
                          refine wpAnyH_take (i := 5) (v := .int .i64 ((i : Int) + 1)) rfl (by kernel_rfl) (by kernel_rfl) (by kernel_rfl) (fun _ _ _ h => h) (Or.inl ⟨by rfl, by (intro w hS; go_simp)⟩) hHeld ?_
                          try simp only [Act.put, List.getElem_toArray, List.getElem_cons_succ, List.getElem_cons_zero, List.setIfInBounds_toArray, List.set_cons_zero, List.set_cons_succ]
                          refine wpAnyH_take (i := 6) (v := .int .i64 (k : Nat)) rfl (by kernel_rfl) (by kernel_rfl) (by kernel_rfl) (fun _ _ _ h => h) (Or.inl ⟨by rfl, by (intro w hS; go_simp)⟩) hHeld ?_
                          try simp only [Act.put, List.getElem_toArray, List.getElem_cons_succ, List.getElem_cons_zero, List.setIfInBounds_toArray, List.set_cons_zero, List.set_cons_succ]
                          refine wpAnyH_take (i := 7) (v := .string Q) rfl (by kernel_rfl) (by kernel_rfl) (by kernel_rfl) (fun _ _ _ h => h) (Or.inl ⟨by rfl, by (intro w hS; go_simp)⟩) hHeld ?_
                          try simp only [Act.put, List.getElem_toArray, List.getElem_cons_succ, List.getElem_cons_zero, List.setIfInBounds_toArray, List.set_cons_zero, List.set_cons_succ]
                          refine wpAnyH_take (i := 8) (v := .string (P ++ Q)) rfl (by kernel_rfl) (by kernel_rfl) (by kernel_rfl) (fun _ _ _ h => h) (Or.inl ⟨by rfl, by (intro w hS; go_simp)⟩) hHeld ?_
                          try simp only [Act.put, List.getElem_toArray, List.getElem_cons_succ, List.getElem_cons_zero, List.setIfInBounds_toArray, List.set_cons_zero, List.set_cons_succ]
                          refine wpAnyH_take (i := 9) (v := .string S) rfl (by kernel_rfl) (by kernel_rfl) (by kernel_rfl) (fun _ _ _ h => h) (Or.inl ⟨by rfl, by (intro w hS; go_simp)⟩) hHeld ?_
                          try simp only [Act.put, List.getElem_toArray, List.getElem_cons_succ, List.getElem_cons_zero, List.setIfInBounds_toArray, List.set_cons_zero, List.set_cons_succ]
                          refine wpAnyH_take (i := 10) (v := .int .i64 (k : Nat)) rfl (by kernel_rfl) (by kernel_rfl) (by kernel_rfl) (fun _ _ _ h => h) (Or.inl ⟨by rfl, by (intro w hS; go_simp)⟩) hHeld ?_
                          try simp only [Act.put, List.getElem_toArray, List.getElem_cons_succ, List.getElem_cons_zero, List.setIfInBounds_toArray, List.set_cons_zero, List.set_cons_succ]
                          refine wpAnyH_take (i := 11) (v := .int .i64 ((k : Int) + 1)) rfl (by kernel_rfl) (by kernel_rfl) (by kernel_rfl) (fun _ _ _ h => h) (Or.inl ⟨by rfl, by (intro w hS; go_simp)⟩) hHeld ?_
                          try simp only [Act.put, List.getElem_toArray, List.getElem_cons_succ, List.getElem_cons_zero, List.setIfInBounds_toArray, List.set_cons_zero, List.set_cons_succ]
                          refine wpAnyH_take (i := 12) (v := .string U) rfl (by kernel_rfl) (by kernel_rfl) (by kernel_rfl) (fun _ _ _ h => h) (Or.inl ⟨by rfl, by (intro w hS; go_simp)⟩) hHeld ?_
                          try simp only [Act.put, List.getElem_toArray, List.getElem_cons_succ, List.getElem_cons_zero, List.setIfInBounds_toArray, List.set_cons_zero, List.set_cons_succ]
                          refine wpAnyH_take (i := 13) (v := .string (P ++ Q ++ U)) rfl (by kernel_rfl) (by kernel_rfl) (by kernel_rfl) (fun _ _ _ h => h) (Or.inl ⟨by rfl, by (intro w hS; go_simp)⟩) hHeld ?_
                          try simp only [Act.put, List.getElem_toArray, List.getElem_cons_succ, List.getElem_cons_zero, List.setIfInBounds_toArray, List.set_cons_zero, List.set_cons_succ]
                          refine wpAnyH_ready (rs := [14, 19]) (by kernel_rfl) (by simp) ?_
                          refine AllReadyH.cons rfl (fun K hK => ?_) (AllReadyH.cons rfl (fun K hK => ?_) AllReadyH.nil)
                          · go_simp
                            refine (HPU.out _ (HK.out.2.tx.below (Below.refl _ _).drew)).mono ?_
                            rintro e w3 ⟨A3, c3, row, cap, rfl, h3⟩
                            refine hK.out _ _ True.intro (fun hHeld => ?_)
                            clear hK K
                            try simp only [Act.put, List.getElem_toArray, List.getElem_cons_succ, List.getElem_cons_zero, List.setIfInBounds_toArray, List.set_cons_zero, List.set_cons_succ]
                            refine wpAnyH_take (i := 15) (v := .tuple #[.agg #[.slice A3 X.1.length c3], .int .i64 (X.2.1 : Nat), .int .i64 X.2.2]) rfl (by kernel_rfl) (by kernel_rfl) (by kernel_rfl) (fun _ _ _ h => h) (Or.inl ⟨by rfl, by (intro w hS; go_simp)⟩) hHeld ?_
                            try simp only [Act.put, List.getElem_toArray, List.getElem_cons_succ, List.getElem_cons_zero, List.setIfInBounds_toArray, List.set_cons_zero, List.set_cons_succ]
                            refine wpAnyH_take (i := 16) (v := .agg #[.slice A3 X.1.length c3]) rfl (by kernel_rfl) (by kernel_rfl) (by kernel_rfl) (fun _ _ _ h => h) (Or.inl ⟨by rfl, by (intro w hS; go_simp)⟩) hHeld ?_
                            try simp only [Act.put, List.getElem_toArray, List.getElem_cons_succ, List.getElem_cons_zero, List.setIfInBounds_toArray, List.set_cons_zero, List.set_cons_succ]
                            refine wpAnyH_take (i := 17) (v := .int .i64 (X.2.1 : Nat)) rfl (by kernel_rfl) (by kernel_rfl) (by kernel_rfl) (fun _ _ _ h => h) (Or.inl ⟨by rfl, by (intro w hS; go_simp)⟩) hHeld ?_
                            try simp only [Act.put, List.getElem_toArray, List.getElem_cons_succ, List.getElem_cons_zero, List.setIfInBounds_toArray, List.set_cons_zero, List.set_cons_succ]
                            refine wpAnyH_take (i := 18) (v := .int .i64 X.2.2) rfl (by kernel_rfl) (by kernel_rfl) (by kernel_rfl) (fun _ _ _ h => h) (Or.inl ⟨by rfl, by (intro w hS; go_simp)⟩) hHeld ?_
                            try simp only [Act.put, List.getElem_toArray, List.getElem_cons_succ, List.getElem_cons_zero, List.setIfInBounds_toArray, List.set_cons_zero, List.set_cons_succ]
                            refine wpAnyH_ready (rs := [19]) (by kernel_rfl) (by simp) ?_
                            refine AllReadyH.cons rfl (fun K hK => ?_) AllReadyH.nil
                            go_simp
                            refine hK.out _ _ True.intro (fun hHeld => ?_)
                            clear hK K
                            try simp only [Act.put, List.getElem_toArray, List.getElem_cons_succ, List.getElem_cons_zero, List.setIfInBounds_toArray, List.set_cons_zero, List.set_cons_succ]
                            refine wpAnyH_ready (rs := [20]) (by kernel_rfl) (by simp) ?_
                            refine AllReadyH.cons rfl (fun K hK => ?_) AllReadyH.nil
                            go_simp
                            refine hK.out _ _ True.intro (fun hHeld => ?_)
                            clear hK K
                            try simp only [Act.put, List.getElem_toArray, List.getElem_cons_succ, List.getElem_cons_zero, List.setIfInBounds_toArray, List.set_cons_zero, List.set_cons_succ]
                            refine wpAnyH_take (i := 21) (v := .int .i64 (X.2.1 : Nat)) rfl (by kernel_rfl) (by kernel_rfl) (by kernel_rfl) (fun _ _ _ h => h) (Or.inl ⟨by rfl, by (intro w hS; go_simp)⟩) hHeld ?_
                            try simp only [Act.put, List.getElem_toArray, List.getElem_cons_succ, List.getElem_cons_zero, List.setIfInBounds_toArray, List.set_cons_zero, List.set_cons_succ]
                            refine wpAnyH_take (i := 22) (v := .int .i64 X.2.2) rfl (by kernel_rfl) (by kernel_rfl) (by kernel_rfl) (fun _ _ _ h => h) (Or.inl ⟨by rfl, by (intro w hS; go_simp)⟩) hHeld ?_
                            try simp only [Act.put, List.getElem_toArray, List.getElem_cons_succ, List.getElem_cons_zero, List.setIfInBounds_toArray, List.set_cons_zero, List.set_cons_succ]
                            refine wpAnyH_done (by kernel_rfl) ?_ _
                            have hA : Below wr.heap.size wr w3 := (Below.refl _ _).drew.trans h3
                            go_wp2_with fail
                            go_meet
                            exact ⟨rfl, rfl, _, A3, c3, rfl, Lib.hid ⟨HK.out.2.on (hA.alloc hA.size _), Xb.new row cap⟩⟩
                          · go_simp
                            obtain ⟨W1, hW1⟩ : ∃ W1, W1 = (wr.alloc (.cells #[.slice none 0 0] 29)).drew := ⟨_, rfl⟩
                            have hb1 : Below wr.heap.size wr W1 := by rw [hW1]; exact ((Below.refl _ _).alloc (Nat.le_refl _) _).drew
                            have hk1 : IsBlk W1 wr.heap.size 29 #[.slice none 0 0] := by rw [hW1]; exact IsBlk.new wr _ _
                            refine hK.out _ _ True.intro (fun hHeld => ?_)
                            clear hK K
                            try simp only [Act.put, List.getElem_toArray, List.getElem_cons_succ, List.getElem_cons_zero, List.setIfInBounds_toArray, List.set_cons_zero, List.set_cons_succ]
                            rw [← hW1]
                            clear hW1
                            refine wpAnyH_ready (rs := [14]) (by kernel_rfl) (by simp) ?_
                            refine AllReadyH.cons rfl (fun K hK => ?_) AllReadyH.nil
                            go_simp
                            refine (HPU.out _ (HK.out.2.tx.below hb1)).mono ?_
                            rintro e w3 ⟨A3, c3, row, cap, rfl, h3⟩
                            have k3 : IsBlk w3 wr.heap.size 29 #[.slice none 0 0] := hk1.below h3 hk1.lt
                            have y0 : w3.cell? ⟨wr.heap.size, 0, none⟩ = some (.slice none 0 0) := k3.at_ 0
                            have y1 : w3.frozen? ⟨wr.heap.size, 0, none⟩ = false := k3.fz 0
                            refine hK.out _ _ True.intro (fun hHeld => ?_)
                            clear hK K
                            try simp only [Act.put, List.getElem_toArray, List.getElem_cons_succ, List.getElem_cons_zero, List.setIfInBounds_toArray, List.set_cons_zero, List.set_cons_succ]
                            refine wpAnyH_take (i := 15) (v := .tuple #[.agg #[.slice A3 X.1.length c3], .int .i64 (X.2.1 : Nat), .int .i64 X.2.2]) rfl (by kernel_rfl) (by kernel_rfl) (by kernel_rfl) (fun _ _ _ h => h) (Or.inl ⟨by rfl, by (intro w hS; go_simp)⟩) hHeld ?_
                            try simp only [Act.put, List.getElem_toArray, List.getElem_cons_succ, List.getElem_cons_zero, List.setIfInBounds_toArray, List.set_cons_zero, List.set_cons_succ]
                            refine wpAnyH_take (i := 16) (v := .agg #[.slice A3 X.1.length c3]) rfl (by kernel_rfl) (by kernel_rfl) (by kernel_rfl) (fun _ _ _ h => h) (Or.inl ⟨by rfl, by (intro w hS; go_simp)⟩) hHeld ?_
                            try simp only [Act.put, List.getElem_toArray, List.getElem_cons_succ, List.getElem_cons_zero, List.setIfInBounds_toArray, List.set_cons_zero, List.set_cons_succ]
                            refine wpAnyH_take (i := 17) (v := .int .i64 (X.2.1 : Nat)) rfl (by kernel_rfl) (by kernel_rfl) (by kernel_rfl) (fun _ _ _ h => h) (Or.inl ⟨by rfl, by (intro w hS; go_simp)⟩) hHeld ?_
                            try simp only [Act.put, List.getElem_toArray, List.getElem_cons_succ, List.getElem_cons_zero, List.setIfInBounds_toArray, List.set_cons_zero, List.set_cons_succ]
                            refine wpAnyH_take (i := 18) (v := .int .i64 X.2.2) rfl (by kernel_rfl) (by kernel_rfl) (by kernel_rfl) (fun _ _ _ h => h) (Or.inl ⟨by rfl, by (intro w hS; go_simp)⟩) hHeld ?_
                            try simp only [Act.put, List.getElem_toArray, List.getElem_cons_succ, List.getElem_cons_zero, List.setIfInBounds_toArray, List.set_cons_zero, List.set_cons_succ]
                            refine wpAnyH_ready (rs := [20]) (by kernel_rfl) (by simp) ?_
                            refine AllReadyH.cons rfl (fun K hK => ?_) AllReadyH.nil
                            go_simp
                            refine hK.out _ _ True.intro (fun hHeld => ?_)
                            clear hK K
                            try simp only [Act.put, List.getElem_toArray, List.getElem_cons_succ, List.getElem_cons_zero, List.setIfInBounds_toArray, List.set_cons_zero, List.set_cons_succ]
                            refine wpAnyH_take (i := 21) (v := .int .i64 (X.2.1 : Nat)) rfl (by kernel_rfl) (by kernel_rfl) (by kernel_rfl) (fun _ _ _ h => h) (Or.inl ⟨by rfl, by (intro w hS; go_simp)⟩) hHeld ?_
                            try simp only [Act.put, List.getElem_toArray, List.getElem_cons_succ, List.getElem_cons_zero, List.setIfInBounds_toArray, List.set_cons_zero, List.set_cons_succ]
                            refine wpAnyH_take (i := 22) (v := .int .i64 X.2.2) rfl (by kernel_rfl) (by kernel_rfl) (by kernel_rfl) (fun _ _ _ h => h) (Or.inl ⟨by rfl, by (intro w hS; go_simp)⟩) hHeld ?_
                            try simp only [Act.put, List.getElem_toArray, List.getElem_cons_succ, List.getElem_cons_zero, List.setIfInBounds_toArray, List.set_cons_zero, List.set_cons_succ]
                            refine wpAnyH_done (by kernel_rfl) ?_ _
                            have hA : Below wr.heap.size wr (w3.setCell ⟨wr.heap.size, 0, none⟩ (.slice A3 X.1.length c3)) := (hb1.trans (h3.mono hb1.size)).setCell (p := ⟨wr.heap.size, 0, none⟩) (Nat.le_refl _) _
                            go_wp2_with fail
                            go_meet
                            exact ⟨rfl, rfl, _, A3, c3, rfl, Lib.hid ⟨HK.out.2.on hA, Xb.put k3 row cap⟩⟩
                        case rest =>
                          obtain ⟨hs9, hs10, pb, A3, c3, hs8, HC⟩ := hcut
                          subst hs8 hs9 hs10
                          clear HPU hP hQ hU r1 r2 r3 r4 r5 r6 r7 r8 r9 r10 r11 r12 r13 r14 r15 u1 u2 u3 u4 u5 u6 u7 e1 e2 HSP HK
                          have k1 : wc.cell? ⟨w.heap.size, 0, none⟩ = some (.slice A1 l1.length c1) := HC.out.1.x1.at_
                          have k2 : wc.cell? ⟨pb, 0, none⟩ = some (.slice A3 X.1.length c3) := HC.out.2.at_
                          by_cases hz : X.2.2 = 0
                          · have hz' : (X.2.2 == 0) = true := by simp [hz]
                            have HSM := Lib.hid (HS1.out wc A3 c3 X.1 HC.out.2.cap HC.out.1 HC.out.2.row (HXL.out hz))
                            rw [decide_eq_false (fun e => HU.out hz e.symm)] at HSM
                            clear hz HXL HU
                            go_wp2_with fail
                            refine HSM.out.mono ?_
                            rintro e v5 ⟨rfl, hb5⟩
                            have I5 := Lib.hid (HC.out.1.on hb5)
                            clear hb5
                            go_wp2
                            go_roundw
                            case rel => exact ⟨i + 1, by go_num, HLT.out, I5⟩
                            case measure => have := HLT.out; simp [intOf]; omega
                          · have hz' : (X.2.2 == 0) = false := beq_eq_false_iff_ne.2 hz
                            clear hz HXL HU
                            have I5 := Lib.hid HC.out.1
                            go_wp2
                            go_roundw
                            case rel => exact ⟨i + 1, by go_num, HLT.out, I5⟩
                            case measure => have := HLT.out; simp [intOf]; omega
                      · have q2 : (o - 1 == 0) = false := beq_eq_false_iff_ne.2 (by omega)
                        clear c0 c1_
                        go_wp2
                        go_roundw
                        case rel => exact ⟨o - 1, k + 1, by go_num, by go_num, by omega, HKT.out, by omega, by omega, Lib.hid ⟨Or.inr ⟨by omega, by omega⟩, HK.out.2⟩⟩
                        case measure => have := HKT.out; simp [intOf]; omega
                    · have q1 : ((S[k].toNat : Int) == 41) = false := beq_eq_false_iff_ne.2 (by omega)
                      have q2 : (o == 0) = false := beq_eq_false_iff_ne.2 (by omega)
                      clear c0 c1_
                      go_wp2
                      go_roundw
                      case rel => exact ⟨o, k + 1, by go_num, by go_num, by omega, HKT.out, by omega, by omega, Lib.hid ⟨Or.inr ⟨by omega, ho3⟩, HK.out.2⟩⟩
                      case measure => have := HKT.out; simp [intOf]; omega
                · obtain rfl : k = S.size := by omega
                  have hkt' : ¬ ((S.size : Nat) : Int) < (S.size : Int) := by omega
                  go_wp2
                  go_roundw
                  case rel => exact ⟨i + 1, by go_num, HLT.out, Lib.hid HK.out.2⟩
                  case measure => have := HLT.out; simp [intOf]; omega
            · have hb0 : ((S[i].toNat : Int) != 40) = true := bne_iff_ne.2 (by omega)
              go_wp2
              go_roundw
              case rel => exact ⟨i + 1, by go_num, hlt, II⟩
              case measure => simp [intOf]; omega
          · obtain rfl : i = S.size := by omega
            have hlt' : ¬ ((S.size : Nat) : Int) < (S.size : Int) := by omega
            go_wp2_with fail
            refine (HWK.out _ II.out.tx).mono ?_
            rintro e vw ⟨rfl, hb⟩
            have IW := Lib.hid (II.out.on hb)
            clear hb
            go_wp2
            go_ret
            exact ⟨rfl, IW.out.below⟩
    · have h6' : (l1.length : Int) > 60 := by omega
      clear T h1 ho1
      go_enter Tryz.func6, Tryz.ntmps6
      go_wp2_with fail
      refine (HF1.out _ I0.out).mono ?_
      rintro e v1 ⟨rfl, hb⟩
      have I1 := Lib.hid (I0.out.on hb)
      clear hb
      have k1 := I1.out.x1.at_
      go_wp2_with fail
      refine (HWK.out _ I1.out.tx).mono ?_
      rintro e vw ⟨rfl, hb⟩
      have IW := Lib.hid (I1.out.on hb)
      clear hb
      go_wp2
      go_ret
      exact ⟨rfl, IW.out.below⟩
  · rw [decide_eq_false f1] at HF1
    clear T h1 ho1
    go_enter Tryz.func6, Tryz.ntmps6
    go_wp2_with fail
    refine (HF1.out _ I0.out).mono ?_
    rintro e v1 ⟨rfl, hb⟩
    have I1 := Lib.hid (I0.out.on hb)
    clear hb
    have k1 := I1.out.x1.at_
    go_wp2_with fail
    refine (HWK.out _ I1.out.tx).mono ?_
    rintro e vw ⟨rfl, hb⟩
    have IW := Lib.hid (I1.out.on hb)
    clear hb
    go_wp2
    go_ret
    exact ⟨rfl, IW.out.below⟩
end Go.Proofs.YtphmheonlndaiaaGreatDoor
