/- Facts and walks for the statement. -/
import Derived.Test.YtkgoikdppikkpaaGreatDoorPzT25
import Derived.Deep.DeepMust
namespace Go.Proofs.YtkgoikdppikkpaaGreatDoor
open Go.RowKit Ex
theorem infoBd : (Tryz.prog.info? 88).map (fun i => (i.zero, i.size, i.bytes)) = some (some (.agg #[.string ⟨#[]⟩, .int .i64 0]), 2, 24) := by kernel_rfl
set_option maxHeartbeats 8000000 in
set_option maxRecDepth 100000 in
theorem evtypes_any (w : World) (T : Tyx w) (A1 : Option Addr) (c1 : Nat) (l : List Nd) (h1 : NdR w w.heap.size A1 l) (hc1 : l.length ≤ c1) (hn1 : l.length ≤ 9223372036854775807) (ho1 : Okn l)
    (A2 : Option Addr) (c2 : Nat) (bs : List Ev.Bd) (h2 : BdR w w.heap.size A2 bs) (hc2 : bs.length ≤ c2) (hn2 : bs.length ≤ 9223372036854775807) (hA2 : A2 = none → bs.length = 0 ∧ c2 = 0) (hb2 : ∀ q ∈ bs, Nu.fits q.2) (S : ByteArray) (hS : S.size ≤ maxLen) (n : Int) (hn : Nu.fits n) :
    Calls Tryz.prog 11 #[.agg #[.slice A1 l.length c1], .slice A2 bs.length c2, .string S, .int .i64 n] w fun e w' => e = .returned (.bool true) ∧ Below w.heap.size w w' := by
  have I0 := Lib.hid (MoL.new w A1 c1 l)
  have k1 := I0.out.at_
  have HF1 := Lib.hid (fun v (i : MoL w A1 c1 l v) => fewv_any v A1 c1 l (h1.to i.below) hc1 hn1 A2 c2 bs (h2.on i.below) hc2 hn2)
  have HWK := Lib.hid (fun v (i : MoL w A1 c1 l v) => evworks_any v (T.below i.below).tx)
  by_cases f1 : FewV l bs
  · rw [decide_eq_true f1] at HF1
    by_cases hs70 : S.size ≤ 70
    · have hsI : ¬ (S.size : Int) > 70 := by omega
      have hfl := fewv_fit f1 ho1 hb2
      obtain ⟨X, hX⟩ := eva_ex l bs (fun n hn => (ho1 n hn).2)
      have hns : FitN (bs.map (·.1)) := ⟨by rw [List.length_map]; have := f1.1.2; omega, fun q hq => by
        obtain ⟨p, hp, rfl⟩ := List.mem_map.1 hq
        have := f1.2.2 p hp; omega⟩
      have HO1 := Lib.hid (fun v (i : MoL w A1 c1 l v) A c hq hcq => of_any v (T.below i.below) A1 c1 l (h1.to i.below) hc1 hfl.1 A c (bs.map (·.1)) hq hcq hns)
      have HE1 := Lib.hid (fun v (i : MoL w A1 c1 l v) => eval_any v (T.below i.below).tx A1 c1 l (h1.to i.below) hc1 hfl.1 A2 c2 bs (h2.on i.below) hc2 hfl.2 X hX)
      have HE2 := Lib.hid (fun (hq : ∀ n ∈ l, ¬ (n.op = 2 ∧ n.nm = S.data.toList)) v (i : MoL w A1 c1 l v) A c (hr : BdR v v.heap.size A ((S.data.toList, n) :: bs)) (hc : ((S.data.toList, n) :: bs).length ≤ c) => eval_any v (T.below i.below).tx A1 c1 l (h1.to i.below) hc1 hfl.1 A c _ hr hc ⟨by rw [List.length_cons]; have := f1.1.2; omega, fun q hm => by
        rcases List.mem_cons.1 hm with rfl | hm
        · exact ⟨by rw [← Lib.size_eq]; omega, hn⟩
        · exact hfl.2.2 q hm⟩ X (eva_more hX _ hq))
      have HFO := Lib.hid (eva_form hX hfl.2.fit)
      have HKI := Lib.hid (eva_kind hX)
      have HG := Lib.hid (And.intro h1 (And.intro h2 hA2))
      have hl200 := f1.1.1
      have hb20 := f1.1.2
      have HKL := Lib.hid (show (kds l (bs.map (·.1))).2.1 ≤ 1000000000000 ∨ True from Or.inr trivial)
      generalize ofs (kds l (bs.map (·.1))) = OO at *
      obtain ⟨ok, op_, oe⟩ := OO
      simp only at HO1 HKI
      obtain ⟨⟨vk, vn, vb⟩, ve⟩ := X
      unfold outZ vlA at HE1 HE2
      simp only at HE1 HE2 HFO HKI
      obtain ⟨nl, hnl⟩ : ∃ nl, nl = l.length := ⟨_, rfl⟩
      obtain ⟨m, hml⟩ : ∃ m, m = bs.length := ⟨_, rfl⟩
      have k1 : (w.alloc (.cells #[.slice A1 l.length c1] 29)).cell? ⟨w.heap.size, 0, none⟩ = some (.slice A1 nl c1) := by rw [hnl]; exact I0.out.at_
      rw [← hnl] at HF1 HE1 HE2 HO1 I0 k1 hl200 hc1
      rw [← hml] at HF1 HE1 hb20 hc2
      rw [← hnl, ← hml]
      have HN := Lib.hid (And.intro hnl hml)
      have hcI : (nl : Int) ≤ (c1 : Int) := by omega
      have hc2I : (m : Int) ≤ (c2 : Int) := by omega
      have hmI : (m : Int) ≤ 20 := by omega
      clear T h1 h2 ho1 f1 hfl hX hns hA2 hb2 hnl hml hn1 hn2 hn HKL hc1 hc2
      go_enter Tryz.func11, Tryz.ntmps11
      go_wp2_with fail
      refine (HF1.out _ I0.out).mono ?_
      rintro e v1 ⟨rfl, hb⟩
      have I1 := Lib.hid (I0.out.on hb)
      clear hb HF1 k1
      go_wp2
      go_loopw [9, 10] (fun nv iv wr => ∃ (v : Value) (i : Nat), v = nv ∧ iv = .int .i64 i ∧ i ≤ m ∧ Hid (MoL w A1 c1 l wr ∧ wr.ownsRow (w.heap.size + 1) 9 1 v i ((bs.take i).map fun q => nmV q.1))) (fun _ iv _ => m - (intOf iv).toNat)
      case atStart => exact ⟨_, 0, rfl, rfl, Nat.zero_le _, Lib.hid ⟨I1.out, World.ownsRow_nil _ _ _ _⟩⟩
      case round =>
        obtain ⟨v, i, hv0, rfl, hi, HI⟩ := hrel
        subst hv0
        by_cases him : i < m
        · have him' : (i : Int) < (m : Int) := by omega
          have hil : i < bs.length := by rw [← HN.out.2]; exact him
          obtain ⟨g, o, hA, hg, q0, -⟩ := (HG.out.2.1.on HI.out.1.below) i hil
          subst hA
          have HTK := Lib.hid (show (bs.take (i + 1)).map (fun q => nmV q.1) = (bs.take i).map (fun q => nmV q.1) ++ [nmV bs[i].1] by
            rw [List.take_succ_eq_append_getElem hil, List.map_append]; rfl)
          generalize bs[i].1 = nm at *
          obtain ⟨N, hN⟩ : ∃ N : ByteArray, N = ⟨nm.toArray⟩ := ⟨_, rfl⟩
          rw [← hN] at q0
          have HNV := Lib.hid (show nmV nm = .string N by rw [hN]; rfl)
          obtain ⟨Av, cv, hv, _, _, hv1, hv2⟩ := own_slice HI.out.2
          subst hv
          obtain ⟨i0, hi_, hz0, hz1, hz2⟩ := info_parts infoStr
          have HIM := Lib.hid him
          have hOW := Lib.hid HI.out.2
          have hMO := Lib.hid HI.out.1
          have hlt := HI.out.1.lt
          clear hN him HI
          go_wp2_with (at_builtin; go_must (refine wpList_append_own _ rfl _ _ _ rfl (w.heap.size + 1) 9 i0 _ 1 16 Tryz.underlying47 hi_ hz0 hz1 hz2 rfl (by omega) (.slice Av i cv) i ((bs.take i).map fun q => nmV q.1) (by rfl) (by exact World.ownsRow.alloc hOW.out _) _ 1 _ [.string N] (by rfl) rfl (by intro j u hu; exact news_at _ _ _ _ (by simp) j u hu) (by intro u hu; simp at hu; subst hu; rfl) (by unfold maxLen; omega) (by omega) (by simp; omega) ?_); go_must (intro v9 w9 hown9 hgr9 _; have H9 := Lib.hid (And.intro ((hMO.out.on ((Below.refl _ _).alloc (Nat.le_refl _) _)).grown hgr9 (fun k hk => (hOW.out.lt k hk).1)) (show w9.ownsRow (w.heap.size + 1) 9 1 v9 (i + 1) ((bs.take (i + 1)).map fun q => nmV q.1) from by rw [HTK.out, HNV.out]; exact hown9)); clear hown9 hgr9))
          go_roundw
          case rel => exact ⟨_, i + 1, rfl, by go_num, HIM.out, Lib.hid H9.out⟩
          case measure => have := HIM.out; simp [intOf]; omega
        · obtain rfl : m = i := by omega
          have him' : ¬ ((m : Nat) : Int) < (m : Int) := by omega
          obtain ⟨Av, cv, hv, _, _, hv1, hv2⟩ := own_slice HI.out.2
          subst hv
          have I2 := Lib.hid HI.out.1
          have HNS := Lib.hid (show NsR wr wr.heap.size Av (bs.map (·.1)) ∧ m ≤ cv from by
            have q := HI.out.2
            rw [List.take_of_length_le (by rw [← HN.out.2]; exact Nat.le_refl _)] at q
            have e : (bs.map fun q => nmV q.1) = (bs.map (·.1)).map nmV := by rw [List.map_map]; rfl
            rw [e] at q
            have r := own_nsr q (by rw [List.length_map]; exact HN.out.2)
            exact ⟨r.1, r.2.1⟩)
          have HOO := Lib.hid (by
            have q := HO1.out wr I2.out Av cv HNS.out.1 (by rw [List.length_map, ← HN.out.2]; exact HNS.out.2)
            rw [List.length_map, ← HN.out.2] at q
            exact q)
          have k1 : wr.cell? ⟨w.heap.size, 0, none⟩ = some (.slice A1 nl c1) := by rw [HN.out.1]; exact I2.out.at_
          clear him HI HO1
          go_wp2_with fail
          refine HOO.out.mono ?_
          rintro e v3 ⟨rfl, hb⟩
          have I3 := Lib.hid (I2.out.on hb)
          have k1 : v3.cell? ⟨w.heap.size, 0, none⟩ = some (.slice A1 nl c1) := by rw [HN.out.1]; exact I3.out.at_
          clear hb HOO HNS
          go_wp2_with fail
          refine (HE1.out _ I3.out).mono ?_
          rintro e v4 ⟨rfl, hb⟩
          have I4 := Lib.hid (I3.out.on hb)
          have k1 : (v4.alloc (.cells #[.int .u8 (vk : Nat), .int .i64 vn, .bool vb] 74)).cell? ⟨w.heap.size, 0, none⟩ = some (.slice A1 nl c1) := by rw [HN.out.1]; exact (I4.out.on ((Below.refl _ _).alloc (Nat.le_refl _) _)).at_
          clear hb HE1
          by_cases hoe : oe = 0
          · subst hoe
            rcases HKI.out rfl with ⟨hve, hkk⟩ | hve | hve
            · have hve := hve
              subst hve
              have q0 : ((vk : Int) != (ok : Int)) = false := by rw [hkk]; simp [bne]
              have q00 : ((vk : Int) == (ok : Int)) = true := by rw [hkk]; exact beq_self_eq_true _
              clear hkk
              rcases HFO.out.2 rfl with ⟨hk1, hk2⟩ | ⟨hk1, hk2⟩
              · skip
                have r1 : ((vk : Int) == 1) = true := by have h : vk = 1 := hk1; rw [h]; rfl
                have r2 : ((vk : Int) == 2) = false := by have h : vk = 1 := hk1; rw [h]; rfl
                have r3 : ((vk : Int) != 1) = false := by have h : vk = 1 := hk1; rw [h]; rfl
                have hk2 : vb = false := hk2
                subst hk2
                clear hk1 HKI HFO
                have I5 := Lib.hid (I4.out.on ((Below.refl _ _).alloc (Nat.le_refl _) (.cells #[.int .u8 (vk : Nat), .int .i64 vn, .bool false] 74)))
                have KV := Lib.hid (IsBlk.new v4 74 #[.int .u8 (vk : Nat), .int .i64 vn, .bool false])
                have y0 := KV.out.at_ 0
                have y1 := KV.out.at_ 1
                have y2 := KV.out.at_ 2
                simp only [List.getElem?_toArray, List.getElem?_cons_zero, List.getElem?_cons_succ] at y0 y1 y2
                obtain ⟨V5, hV5⟩ : ∃ V5, V5 = v4.alloc (.cells #[.int .u8 (vk : Nat), .int .i64 vn, .bool false] 74) := ⟨_, rfl⟩
                have HV5 := Lib.hid hV5
                rw [← hV5] at I5 KV
                clear hV5
                go_wp2
                rw [← HV5.out]
                clear y0 y1 y2 k1
                go_loopw [16] (fun iv wr => ∃ i : Nat, iv = .int .i64 i ∧ i ≤ nl ∧ Hid (MoL w A1 c1 l wr ∧ Below V5.heap.size V5 wr ∧ ∀ n ∈ l.take i, ¬ (n.op = 2 ∧ n.nm = S.data.toList))) (fun iv _ => nl - (intOf iv).toNat)
                case atStart => exact ⟨0, rfl, Nat.zero_le _, Lib.hid ⟨I5.out, Below.refl _ _, by simp⟩⟩
                case round =>
                  obtain ⟨i, rfl, hi, HI⟩ := hrel
                  have k1 : wr.cell? ⟨w.heap.size, 0, none⟩ = some (.slice A1 nl c1) := by rw [HN.out.1]; exact HI.out.1.at_
                  by_cases hik : i < nl
                  · have hik' : (i : Int) < (nl : Int) := by omega
                    have hil : i < l.length := by rw [← HN.out.1]; exact hik
                    obtain ⟨g, o, hA, hg, p0, -, p2, -, -, -⟩ := (HG.out.1.below HI.out.1.below) i hil
                    subst hA
                    have HTK := Lib.hid (show ¬ (l[i].op = 2 ∧ l[i].nm = S.data.toList) → ∀ n ∈ l.take (i + 1), ¬ (n.op = 2 ∧ n.nm = S.data.toList) from fun h q hq => by
                      rw [List.take_succ_eq_append_getElem hil] at hq
                      rcases List.mem_append.1 hq with hq | hq
                      · exact HI.out.2.2 q hq
                      · rw [List.mem_singleton.1 hq]; exact h)
                    have HIK := Lib.hid hik
                    have HM := Lib.hid HI.out.1
                    have HBV := Lib.hid HI.out.2.1
                    generalize l[i].op = op at *
                    generalize l[i].nm = nm at *
                    clear hik hil
                    obtain ⟨N, hN⟩ : ∃ N : ByteArray, N = ⟨nm.toArray⟩ := ⟨_, rfl⟩
                    rw [← hN] at p2
                    have hNl : N.data.toList = nm := by rw [hN]
                    by_cases e0 : op = 2
                    · subst e0
                      by_cases e1 : N = S
                      · subst e1
                        have e2 : (N.toList == N.toList) = true := beq_self_eq_true _
                        clear HTK hN hNl
                        go_wp2_with fail
                        refine (HWK.out _ HM.out).mono ?_
                        rintro e vw ⟨rfl, hb⟩
                        have IW := Lib.hid (HM.out.on hb)
                        clear hb
                        go_wp2
                        go_ret
                        exact ⟨rfl, IW.out.below⟩
                      · have e2n : ¬ N.toList = S.toList := fun e => e1 (by
                          cases N; cases S
                          have := congrArg id e
                          rw [Lib.toList_data, Lib.toList_data] at e
                          simp only at e
                          rw [Array.toList_inj] at e; rw [e])
                        have e2 : (N.toList == S.toList) = false := beq_eq_false_iff_ne.2 e2n
                        have HE := Lib.hid (HTK.out (fun h => e2n (by rw [Lib.toList_data, Lib.toList_data, hNl, h.2])))
                        clear HTK e2n e1 hN hNl
                        go_wp2
                        go_roundw
                        case rel => exact ⟨i + 1, by go_num, HIK.out, Lib.hid ⟨HM.out, HBV.out, HE.out⟩⟩
                        case measure => have := HIK.out; simp [intOf]; omega
                    · have e0' : (op == 2) = false := by simpa using e0
                      have HE := Lib.hid (HTK.out (fun h => e0 h.1))
                      clear HTK e0 hN hNl
                      go_wp2
                      go_roundw
                      case rel => exact ⟨i + 1, by go_num, HIK.out, Lib.hid ⟨HM.out, HBV.out, HE.out⟩⟩
                      case measure => have := HIK.out; simp [intOf]; omega
                  · obtain rfl : i = nl := by omega
                    have hik' : ¬ ((i : Nat) : Int) < (i : Int) := by omega
                    have HM := Lib.hid HI.out.1
                    have HBV := Lib.hid HI.out.2.1
                    have HNO := Lib.hid (show ∀ n ∈ l, ¬ (n.op = 2 ∧ n.nm = S.data.toList) from by
                      have h3 := HI.out.2.2
                      rw [List.take_of_length_le (by rw [← HN.out.1]; exact Nat.le_refl _)] at h3
                      exact h3)
                    clear hik HI
                    generalize wr = wa at *
                    obtain ⟨ib, hib, hbz0, hbz1, hbz2⟩ := info_parts infoBd
                    have HOW := Lib.hid (show (wa.alloc (.cells #[.string S, .int .i64 n] 88)).ownsRow wa.heap.size 88 2 (.slice (some ⟨wa.heap.size, 0, none⟩) 1 1) 1 [.string S, .int .i64 n] from ⟨rfl, Or.inr ⟨wa.heap.size, 1, _, rfl, Nat.le_refl _, heap_alloc_new wa _, Nat.le_refl _, by unfold maxLen; omega, rfl, rfl⟩⟩)
                    have HB2 := Lib.hid ((HG.out.2.1.on HM.out.below).on ((Below.refl _ _).alloc (Nat.le_refl _) (.cells #[.string S, .int .i64 n] 88)))
                    have HMa := Lib.hid (HM.out.on ((Below.refl _ _).alloc (Nat.le_refl _) (.cells #[.string S, .int .i64 n] 88)))
                    have HVa := Lib.hid (HBV.out.trans (((Below.refl _ _).alloc (Nat.le_refl _) (.cells #[.string S, .int .i64 n] 88)).mono HBV.out.size))
                    have hwsz := HM.out.lt
                    have HVs := Lib.hid HBV.out.size
                    go_wp2_with (at_builtin; go_must (refine wpList_append_src rfl _ _ _ rfl wa.heap.size 88 ib _ 2 24 Tryz.underlying69 hib hbz0 hbz1 hbz2 rfl (by omega) (.slice (some ⟨wa.heap.size, 0, none⟩) 1 1) 1 [.string S, .int .i64 n] (by rfl) HOW.out A2 m c2 (bs.flatMap bdV) rfl (by rw [HN.out.2]; exact HG.out.2.2) (by rw [bdV_len, ← HN.out.2]) (bdr_cells HB2.out) (bdV_one _) (by unfold maxLen; omega) (by omega) (by simp) ?_); go_must (intro v9 w9 hown9 hgr9; have J9 := Lib.hid (And.intro hown9 (And.intro (HMa.out.grown hgr9 (fun k hk => by cases hk; exact hwsz)) (show Below V5.heap.size V5 w9 from HVa.out.grown hgr9 HVa.out.size (fun k hk => by cases hk; exact HVs.out)))); obtain ⟨A9, c9, hv9, _, _, h91, _⟩ := own_slice hown9; subst hv9; have k1 : w9.cell? ⟨w.heap.size, 0, none⟩ = some (.slice A1 i c1) := (by have q := J9.out.2.1.at_; rw [← HN.out.1] at q; exact q); clear hown9 hgr9))
                    have HR9 := Lib.hid (own_bdr (bs := (S.data.toList, n) :: bs) (n := 1 + m) (by
                      have q := J9.out.1
                      show w9.ownsRow _ _ _ _ _ (bdV (S.data.toList, n) ++ bs.flatMap bdV)
                      exact q) (by rw [List.length_cons, HN.out.2]; omega))
                    have HEE := Lib.hid (by
                      have q := HE2.out HNO.out w9 J9.out.2.1 A9 c9 HR9.out.1 (by have := HR9.out.2.1; rw [List.length_cons, ← HN.out.2]; omega)
                      rw [List.length_cons, ← HN.out.2, Nat.add_comm] at q
                      exact q)
                    go_wp2_with fail
                    refine HEE.out.mono ?_
                    rintro e w10 ⟨rfl, hb⟩
                    have IA := Lib.hid (J9.out.2.1.on (hb.alloc hb.size (.cells #[.int .u8 (vk : Nat), .int .i64 vn, .bool false] 74)))
                    have hbv := J9.out.2.2.trans ((hb.alloc hb.size (.cells #[.int .u8 (vk : Nat), .int .i64 vn, .bool false] 74)).mono J9.out.2.2.size)
                    have kv := KV.out.below hbv KV.out.lt
                    have y0 := kv.at_ 0
                    have y1 := kv.at_ 1
                    have y2 := kv.at_ 2
                    simp only [List.getElem?_toArray, List.getElem?_cons_zero, List.getElem?_cons_succ] at y0 y1 y2
                    have eeq : ((0 : Int) == (0 : Int)) = true := beq_self_eq_true _
                    have veq := run_eqlV vk vk (vn) (vn) false false
                    rw [decide_eq_true rfl] at veq
                    clear hb hbv kv k1
                    go_wp2_with fail
                    refine (HWK.out _ IA.out).mono ?_
                    rintro e vw ⟨rfl, hb⟩
                    have IW := Lib.hid (IA.out.on hb)
                    clear hb
                    go_wp2
                    go_ret
                    exact ⟨rfl, IW.out.below⟩
              · skip
                have r1 : ((vk : Int) == 1) = false := by have h : vk = 2 := hk1; rw [h]; rfl
                have r2 : ((vk : Int) == 2) = true := by have h : vk = 2 := hk1; rw [h]; rfl
                have r3 : ((vk : Int) != 1) = true := by have h : vk = 2 := hk1; rw [h]; rfl
                have r4 : ((vk : Int) != 2) = false := by have h : vk = 2 := hk1; rw [h]; rfl
                have hk2 : vn = 0 := hk2
                subst hk2
                clear hk1 HKI HFO
                have I5 := Lib.hid (I4.out.on ((Below.refl _ _).alloc (Nat.le_refl _) (.cells #[.int .u8 (vk : Nat), .int .i64 0, .bool vb] 74)))
                have KV := Lib.hid (IsBlk.new v4 74 #[.int .u8 (vk : Nat), .int .i64 0, .bool vb])
                have y0 := KV.out.at_ 0
                have y1 := KV.out.at_ 1
                have y2 := KV.out.at_ 2
                simp only [List.getElem?_toArray, List.getElem?_cons_zero, List.getElem?_cons_succ] at y0 y1 y2
                obtain ⟨V5, hV5⟩ : ∃ V5, V5 = v4.alloc (.cells #[.int .u8 (vk : Nat), .int .i64 0, .bool vb] 74) := ⟨_, rfl⟩
                have HV5 := Lib.hid hV5
                rw [← hV5] at I5 KV
                clear hV5
                go_wp2
                rw [← HV5.out]
                clear y0 y1 y2 k1
                go_loopw [16] (fun iv wr => ∃ i : Nat, iv = .int .i64 i ∧ i ≤ nl ∧ Hid (MoL w A1 c1 l wr ∧ Below V5.heap.size V5 wr ∧ ∀ n ∈ l.take i, ¬ (n.op = 2 ∧ n.nm = S.data.toList))) (fun iv _ => nl - (intOf iv).toNat)
                case atStart => exact ⟨0, rfl, Nat.zero_le _, Lib.hid ⟨I5.out, Below.refl _ _, by simp⟩⟩
                case round =>
                  obtain ⟨i, rfl, hi, HI⟩ := hrel
                  have k1 : wr.cell? ⟨w.heap.size, 0, none⟩ = some (.slice A1 nl c1) := by rw [HN.out.1]; exact HI.out.1.at_
                  by_cases hik : i < nl
                  · have hik' : (i : Int) < (nl : Int) := by omega
                    have hil : i < l.length := by rw [← HN.out.1]; exact hik
                    obtain ⟨g, o, hA, hg, p0, -, p2, -, -, -⟩ := (HG.out.1.below HI.out.1.below) i hil
                    subst hA
                    have HTK := Lib.hid (show ¬ (l[i].op = 2 ∧ l[i].nm = S.data.toList) → ∀ n ∈ l.take (i + 1), ¬ (n.op = 2 ∧ n.nm = S.data.toList) from fun h q hq => by
                      rw [List.take_succ_eq_append_getElem hil] at hq
                      rcases List.mem_append.1 hq with hq | hq
                      · exact HI.out.2.2 q hq
                      · rw [List.mem_singleton.1 hq]; exact h)
                    have HIK := Lib.hid hik
                    have HM := Lib.hid HI.out.1
                    have HBV := Lib.hid HI.out.2.1
                    generalize l[i].op = op at *
                    generalize l[i].nm = nm at *
                    clear hik hil
                    obtain ⟨N, hN⟩ : ∃ N : ByteArray, N = ⟨nm.toArray⟩ := ⟨_, rfl⟩
                    rw [← hN] at p2
                    have hNl : N.data.toList = nm := by rw [hN]
                    by_cases e0 : op = 2
                    · subst e0
                      by_cases e1 : N = S
                      · subst e1
                        have e2 : (N.toList == N.toList) = true := beq_self_eq_true _
                        clear HTK hN hNl
                        go_wp2_with fail
                        refine (HWK.out _ HM.out).mono ?_
                        rintro e vw ⟨rfl, hb⟩
                        have IW := Lib.hid (HM.out.on hb)
                        clear hb
                        go_wp2
                        go_ret
                        exact ⟨rfl, IW.out.below⟩
                      · have e2n : ¬ N.toList = S.toList := fun e => e1 (by
                          cases N; cases S
                          have := congrArg id e
                          rw [Lib.toList_data, Lib.toList_data] at e
                          simp only at e
                          rw [Array.toList_inj] at e; rw [e])
                        have e2 : (N.toList == S.toList) = false := beq_eq_false_iff_ne.2 e2n
                        have HE := Lib.hid (HTK.out (fun h => e2n (by rw [Lib.toList_data, Lib.toList_data, hNl, h.2])))
                        clear HTK e2n e1 hN hNl
                        go_wp2
                        go_roundw
                        case rel => exact ⟨i + 1, by go_num, HIK.out, Lib.hid ⟨HM.out, HBV.out, HE.out⟩⟩
                        case measure => have := HIK.out; simp [intOf]; omega
                    · have e0' : (op == 2) = false := by simpa using e0
                      have HE := Lib.hid (HTK.out (fun h => e0 h.1))
                      clear HTK e0 hN hNl
                      go_wp2
                      go_roundw
                      case rel => exact ⟨i + 1, by go_num, HIK.out, Lib.hid ⟨HM.out, HBV.out, HE.out⟩⟩
                      case measure => have := HIK.out; simp [intOf]; omega
                  · obtain rfl : i = nl := by omega
                    have hik' : ¬ ((i : Nat) : Int) < (i : Int) := by omega
                    have HM := Lib.hid HI.out.1
                    have HBV := Lib.hid HI.out.2.1
                    have HNO := Lib.hid (show ∀ n ∈ l, ¬ (n.op = 2 ∧ n.nm = S.data.toList) from by
                      have h3 := HI.out.2.2
                      rw [List.take_of_length_le (by rw [← HN.out.1]; exact Nat.le_refl _)] at h3
                      exact h3)
                    clear hik HI
                    generalize wr = wa at *
                    obtain ⟨ib, hib, hbz0, hbz1, hbz2⟩ := info_parts infoBd
                    have HOW := Lib.hid (show (wa.alloc (.cells #[.string S, .int .i64 n] 88)).ownsRow wa.heap.size 88 2 (.slice (some ⟨wa.heap.size, 0, none⟩) 1 1) 1 [.string S, .int .i64 n] from ⟨rfl, Or.inr ⟨wa.heap.size, 1, _, rfl, Nat.le_refl _, heap_alloc_new wa _, Nat.le_refl _, by unfold maxLen; omega, rfl, rfl⟩⟩)
                    have HB2 := Lib.hid ((HG.out.2.1.on HM.out.below).on ((Below.refl _ _).alloc (Nat.le_refl _) (.cells #[.string S, .int .i64 n] 88)))
                    have HMa := Lib.hid (HM.out.on ((Below.refl _ _).alloc (Nat.le_refl _) (.cells #[.string S, .int .i64 n] 88)))
                    have HVa := Lib.hid (HBV.out.trans (((Below.refl _ _).alloc (Nat.le_refl _) (.cells #[.string S, .int .i64 n] 88)).mono HBV.out.size))
                    have hwsz := HM.out.lt
                    have HVs := Lib.hid HBV.out.size
                    go_wp2_with (at_builtin; go_must (refine wpList_append_src rfl _ _ _ rfl wa.heap.size 88 ib _ 2 24 Tryz.underlying69 hib hbz0 hbz1 hbz2 rfl (by omega) (.slice (some ⟨wa.heap.size, 0, none⟩) 1 1) 1 [.string S, .int .i64 n] (by rfl) HOW.out A2 m c2 (bs.flatMap bdV) rfl (by rw [HN.out.2]; exact HG.out.2.2) (by rw [bdV_len, ← HN.out.2]) (bdr_cells HB2.out) (bdV_one _) (by unfold maxLen; omega) (by omega) (by simp) ?_); go_must (intro v9 w9 hown9 hgr9; have J9 := Lib.hid (And.intro hown9 (And.intro (HMa.out.grown hgr9 (fun k hk => by cases hk; exact hwsz)) (show Below V5.heap.size V5 w9 from HVa.out.grown hgr9 HVa.out.size (fun k hk => by cases hk; exact HVs.out)))); obtain ⟨A9, c9, hv9, _, _, h91, _⟩ := own_slice hown9; subst hv9; have k1 : w9.cell? ⟨w.heap.size, 0, none⟩ = some (.slice A1 i c1) := (by have q := J9.out.2.1.at_; rw [← HN.out.1] at q; exact q); clear hown9 hgr9))
                    have HR9 := Lib.hid (own_bdr (bs := (S.data.toList, n) :: bs) (n := 1 + m) (by
                      have q := J9.out.1
                      show w9.ownsRow _ _ _ _ _ (bdV (S.data.toList, n) ++ bs.flatMap bdV)
                      exact q) (by rw [List.length_cons, HN.out.2]; omega))
                    have HEE := Lib.hid (by
                      have q := HE2.out HNO.out w9 J9.out.2.1 A9 c9 HR9.out.1 (by have := HR9.out.2.1; rw [List.length_cons, ← HN.out.2]; omega)
                      rw [List.length_cons, ← HN.out.2, Nat.add_comm] at q
                      exact q)
                    go_wp2_with fail
                    refine HEE.out.mono ?_
                    rintro e w10 ⟨rfl, hb⟩
                    have IA := Lib.hid (J9.out.2.1.on (hb.alloc hb.size (.cells #[.int .u8 (vk : Nat), .int .i64 0, .bool vb] 74)))
                    have hbv := J9.out.2.2.trans ((hb.alloc hb.size (.cells #[.int .u8 (vk : Nat), .int .i64 0, .bool vb] 74)).mono J9.out.2.2.size)
                    have kv := KV.out.below hbv KV.out.lt
                    have y0 := kv.at_ 0
                    have y1 := kv.at_ 1
                    have y2 := kv.at_ 2
                    simp only [List.getElem?_toArray, List.getElem?_cons_zero, List.getElem?_cons_succ] at y0 y1 y2
                    have eeq : ((0 : Int) == (0 : Int)) = true := beq_self_eq_true _
                    have veq := run_eqlV vk vk (0) (0) vb vb
                    rw [decide_eq_true rfl] at veq
                    clear hb hbv kv k1
                    go_wp2_with fail
                    refine (HWK.out _ IA.out).mono ?_
                    rintro e vw ⟨rfl, hb⟩
                    have IW := Lib.hid (IA.out.on hb)
                    clear hb
                    go_wp2
                    go_ret
                    exact ⟨rfl, IW.out.below⟩
            · skip
              have hvv := HFO.out.1 (by first | exact hve | (rw [hve]; decide))
              rw [Ev.Vl.mk.injEq] at hvv
              obtain ⟨hv0, rfl, rfl⟩ := hvv
              have hneq : ∀ w0, (binOp BinOp.neq 74 (.agg #[.int .u8 (vk : Nat), .int .i64 0, .bool false]) (.agg #[.int .u8 0, .int .i64 0, .bool false])).run Tryz.prog w0 = .ok (.bool false) w0 := fun w0 => by rw [hv0]; kernel_rfl
              clear hv0 HKI HFO
              subst hve
              have I5 := Lib.hid (I4.out.on ((Below.refl _ _).alloc (Nat.le_refl _) (.cells #[.int .u8 (vk : Nat), .int .i64 0, .bool false] 74)))
              have KV := Lib.hid (IsBlk.new v4 74 #[.int .u8 (vk : Nat), .int .i64 0, .bool false])
              have y0 := KV.out.at_ 0
              have y1 := KV.out.at_ 1
              have y2 := KV.out.at_ 2
              simp only [List.getElem?_toArray, List.getElem?_cons_zero, List.getElem?_cons_succ] at y0 y1 y2
              obtain ⟨V5, hV5⟩ : ∃ V5, V5 = v4.alloc (.cells #[.int .u8 (vk : Nat), .int .i64 0, .bool false] 74) := ⟨_, rfl⟩
              have HV5 := Lib.hid hV5
              rw [← hV5] at I5 KV
              clear hV5
              go_wp2
              rw [← HV5.out]
              clear y0 y1 y2 k1
              go_loopw [16] (fun iv wr => ∃ i : Nat, iv = .int .i64 i ∧ i ≤ nl ∧ Hid (MoL w A1 c1 l wr ∧ Below V5.heap.size V5 wr ∧ ∀ n ∈ l.take i, ¬ (n.op = 2 ∧ n.nm = S.data.toList))) (fun iv _ => nl - (intOf iv).toNat)
              case atStart => exact ⟨0, rfl, Nat.zero_le _, Lib.hid ⟨I5.out, Below.refl _ _, by simp⟩⟩
              case round =>
                obtain ⟨i, rfl, hi, HI⟩ := hrel
                have k1 : wr.cell? ⟨w.heap.size, 0, none⟩ = some (.slice A1 nl c1) := by rw [HN.out.1]; exact HI.out.1.at_
                by_cases hik : i < nl
                · have hik' : (i : Int) < (nl : Int) := by omega
                  have hil : i < l.length := by rw [← HN.out.1]; exact hik
                  obtain ⟨g, o, hA, hg, p0, -, p2, -, -, -⟩ := (HG.out.1.below HI.out.1.below) i hil
                  subst hA
                  have HTK := Lib.hid (show ¬ (l[i].op = 2 ∧ l[i].nm = S.data.toList) → ∀ n ∈ l.take (i + 1), ¬ (n.op = 2 ∧ n.nm = S.data.toList) from fun h q hq => by
                    rw [List.take_succ_eq_append_getElem hil] at hq
                    rcases List.mem_append.1 hq with hq | hq
                    · exact HI.out.2.2 q hq
                    · rw [List.mem_singleton.1 hq]; exact h)
                  have HIK := Lib.hid hik
                  have HM := Lib.hid HI.out.1
                  have HBV := Lib.hid HI.out.2.1
                  generalize l[i].op = op at *
                  generalize l[i].nm = nm at *
                  clear hik hil
                  obtain ⟨N, hN⟩ : ∃ N : ByteArray, N = ⟨nm.toArray⟩ := ⟨_, rfl⟩
                  rw [← hN] at p2
                  have hNl : N.data.toList = nm := by rw [hN]
                  by_cases e0 : op = 2
                  · subst e0
                    by_cases e1 : N = S
                    · subst e1
                      have e2 : (N.toList == N.toList) = true := beq_self_eq_true _
                      clear HTK hN hNl
                      go_wp2_with fail
                      refine (HWK.out _ HM.out).mono ?_
                      rintro e vw ⟨rfl, hb⟩
                      have IW := Lib.hid (HM.out.on hb)
                      clear hb
                      go_wp2
                      go_ret
                      exact ⟨rfl, IW.out.below⟩
                    · have e2n : ¬ N.toList = S.toList := fun e => e1 (by
                        cases N; cases S
                        have := congrArg id e
                        rw [Lib.toList_data, Lib.toList_data] at e
                        simp only at e
                        rw [Array.toList_inj] at e; rw [e])
                      have e2 : (N.toList == S.toList) = false := beq_eq_false_iff_ne.2 e2n
                      have HE := Lib.hid (HTK.out (fun h => e2n (by rw [Lib.toList_data, Lib.toList_data, hNl, h.2])))
                      clear HTK e2n e1 hN hNl
                      go_wp2
                      go_roundw
                      case rel => exact ⟨i + 1, by go_num, HIK.out, Lib.hid ⟨HM.out, HBV.out, HE.out⟩⟩
                      case measure => have := HIK.out; simp [intOf]; omega
                  · have e0' : (op == 2) = false := by simpa using e0
                    have HE := Lib.hid (HTK.out (fun h => e0 h.1))
                    clear HTK e0 hN hNl
                    go_wp2
                    go_roundw
                    case rel => exact ⟨i + 1, by go_num, HIK.out, Lib.hid ⟨HM.out, HBV.out, HE.out⟩⟩
                    case measure => have := HIK.out; simp [intOf]; omega
                · obtain rfl : i = nl := by omega
                  have hik' : ¬ ((i : Nat) : Int) < (i : Int) := by omega
                  have HM := Lib.hid HI.out.1
                  have HBV := Lib.hid HI.out.2.1
                  have HNO := Lib.hid (show ∀ n ∈ l, ¬ (n.op = 2 ∧ n.nm = S.data.toList) from by
                    have h3 := HI.out.2.2
                    rw [List.take_of_length_le (by rw [← HN.out.1]; exact Nat.le_refl _)] at h3
                    exact h3)
                  clear hik HI
                  generalize wr = wa at *
                  obtain ⟨ib, hib, hbz0, hbz1, hbz2⟩ := info_parts infoBd
                  have HOW := Lib.hid (show (wa.alloc (.cells #[.string S, .int .i64 n] 88)).ownsRow wa.heap.size 88 2 (.slice (some ⟨wa.heap.size, 0, none⟩) 1 1) 1 [.string S, .int .i64 n] from ⟨rfl, Or.inr ⟨wa.heap.size, 1, _, rfl, Nat.le_refl _, heap_alloc_new wa _, Nat.le_refl _, by unfold maxLen; omega, rfl, rfl⟩⟩)
                  have HB2 := Lib.hid ((HG.out.2.1.on HM.out.below).on ((Below.refl _ _).alloc (Nat.le_refl _) (.cells #[.string S, .int .i64 n] 88)))
                  have HMa := Lib.hid (HM.out.on ((Below.refl _ _).alloc (Nat.le_refl _) (.cells #[.string S, .int .i64 n] 88)))
                  have HVa := Lib.hid (HBV.out.trans (((Below.refl _ _).alloc (Nat.le_refl _) (.cells #[.string S, .int .i64 n] 88)).mono HBV.out.size))
                  have hwsz := HM.out.lt
                  have HVs := Lib.hid HBV.out.size
                  go_wp2_with (at_builtin; go_must (refine wpList_append_src rfl _ _ _ rfl wa.heap.size 88 ib _ 2 24 Tryz.underlying69 hib hbz0 hbz1 hbz2 rfl (by omega) (.slice (some ⟨wa.heap.size, 0, none⟩) 1 1) 1 [.string S, .int .i64 n] (by rfl) HOW.out A2 m c2 (bs.flatMap bdV) rfl (by rw [HN.out.2]; exact HG.out.2.2) (by rw [bdV_len, ← HN.out.2]) (bdr_cells HB2.out) (bdV_one _) (by unfold maxLen; omega) (by omega) (by simp) ?_); go_must (intro v9 w9 hown9 hgr9; have J9 := Lib.hid (And.intro hown9 (And.intro (HMa.out.grown hgr9 (fun k hk => by cases hk; exact hwsz)) (show Below V5.heap.size V5 w9 from HVa.out.grown hgr9 HVa.out.size (fun k hk => by cases hk; exact HVs.out)))); obtain ⟨A9, c9, hv9, _, _, h91, _⟩ := own_slice hown9; subst hv9; have k1 : w9.cell? ⟨w.heap.size, 0, none⟩ = some (.slice A1 i c1) := (by have q := J9.out.2.1.at_; rw [← HN.out.1] at q; exact q); clear hown9 hgr9))
                  have HR9 := Lib.hid (own_bdr (bs := (S.data.toList, n) :: bs) (n := 1 + m) (by
                    have q := J9.out.1
                    show w9.ownsRow _ _ _ _ _ (bdV (S.data.toList, n) ++ bs.flatMap bdV)
                    exact q) (by rw [List.length_cons, HN.out.2]; omega))
                  have HEE := Lib.hid (by
                    have q := HE2.out HNO.out w9 J9.out.2.1 A9 c9 HR9.out.1 (by have := HR9.out.2.1; rw [List.length_cons, ← HN.out.2]; omega)
                    rw [List.length_cons, ← HN.out.2, Nat.add_comm] at q
                    exact q)
                  go_wp2_with fail
                  refine HEE.out.mono ?_
                  rintro e w10 ⟨rfl, hb⟩
                  have IA := Lib.hid (J9.out.2.1.on (hb.alloc hb.size (.cells #[.int .u8 (vk : Nat), .int .i64 0, .bool false] 74)))
                  have hbv := J9.out.2.2.trans ((hb.alloc hb.size (.cells #[.int .u8 (vk : Nat), .int .i64 0, .bool false] 74)).mono J9.out.2.2.size)
                  have kv := KV.out.below hbv KV.out.lt
                  have y0 := kv.at_ 0
                  have y1 := kv.at_ 1
                  have y2 := kv.at_ 2
                  simp only [List.getElem?_toArray, List.getElem?_cons_zero, List.getElem?_cons_succ] at y0 y1 y2
                  have eeq : ((60 : Int) == (60 : Int)) = true := beq_self_eq_true _
                  have veq := run_eqlV vk vk (0) (0) false false
                  rw [decide_eq_true rfl] at veq
                  clear hb hbv kv k1
                  go_wp2_with fail
                  refine (HWK.out _ IA.out).mono ?_
                  rintro e vw ⟨rfl, hb⟩
                  have IW := Lib.hid (IA.out.on hb)
                  clear hb
                  go_wp2
                  go_ret
                  exact ⟨rfl, IW.out.below⟩
            · skip
              have hvv := HFO.out.1 (by first | exact hve | (rw [hve]; decide))
              rw [Ev.Vl.mk.injEq] at hvv
              obtain ⟨hv0, rfl, rfl⟩ := hvv
              have hneq : ∀ w0, (binOp BinOp.neq 74 (.agg #[.int .u8 (vk : Nat), .int .i64 0, .bool false]) (.agg #[.int .u8 0, .int .i64 0, .bool false])).run Tryz.prog w0 = .ok (.bool false) w0 := fun w0 => by rw [hv0]; kernel_rfl
              clear hv0 HKI HFO
              subst hve
              have I5 := Lib.hid (I4.out.on ((Below.refl _ _).alloc (Nat.le_refl _) (.cells #[.int .u8 (vk : Nat), .int .i64 0, .bool false] 74)))
              have KV := Lib.hid (IsBlk.new v4 74 #[.int .u8 (vk : Nat), .int .i64 0, .bool false])
              have y0 := KV.out.at_ 0
              have y1 := KV.out.at_ 1
              have y2 := KV.out.at_ 2
              simp only [List.getElem?_toArray, List.getElem?_cons_zero, List.getElem?_cons_succ] at y0 y1 y2
              obtain ⟨V5, hV5⟩ : ∃ V5, V5 = v4.alloc (.cells #[.int .u8 (vk : Nat), .int .i64 0, .bool false] 74) := ⟨_, rfl⟩
              have HV5 := Lib.hid hV5
              rw [← hV5] at I5 KV
              clear hV5
              go_wp2
              rw [← HV5.out]
              clear y0 y1 y2 k1
              go_loopw [16] (fun iv wr => ∃ i : Nat, iv = .int .i64 i ∧ i ≤ nl ∧ Hid (MoL w A1 c1 l wr ∧ Below V5.heap.size V5 wr ∧ ∀ n ∈ l.take i, ¬ (n.op = 2 ∧ n.nm = S.data.toList))) (fun iv _ => nl - (intOf iv).toNat)
              case atStart => exact ⟨0, rfl, Nat.zero_le _, Lib.hid ⟨I5.out, Below.refl _ _, by simp⟩⟩
              case round =>
                obtain ⟨i, rfl, hi, HI⟩ := hrel
                have k1 : wr.cell? ⟨w.heap.size, 0, none⟩ = some (.slice A1 nl c1) := by rw [HN.out.1]; exact HI.out.1.at_
                by_cases hik : i < nl
                · have hik' : (i : Int) < (nl : Int) := by omega
                  have hil : i < l.length := by rw [← HN.out.1]; exact hik
                  obtain ⟨g, o, hA, hg, p0, -, p2, -, -, -⟩ := (HG.out.1.below HI.out.1.below) i hil
                  subst hA
                  have HTK := Lib.hid (show ¬ (l[i].op = 2 ∧ l[i].nm = S.data.toList) → ∀ n ∈ l.take (i + 1), ¬ (n.op = 2 ∧ n.nm = S.data.toList) from fun h q hq => by
                    rw [List.take_succ_eq_append_getElem hil] at hq
                    rcases List.mem_append.1 hq with hq | hq
                    · exact HI.out.2.2 q hq
                    · rw [List.mem_singleton.1 hq]; exact h)
                  have HIK := Lib.hid hik
                  have HM := Lib.hid HI.out.1
                  have HBV := Lib.hid HI.out.2.1
                  generalize l[i].op = op at *
                  generalize l[i].nm = nm at *
                  clear hik hil
                  obtain ⟨N, hN⟩ : ∃ N : ByteArray, N = ⟨nm.toArray⟩ := ⟨_, rfl⟩
                  rw [← hN] at p2
                  have hNl : N.data.toList = nm := by rw [hN]
                  by_cases e0 : op = 2
                  · subst e0
                    by_cases e1 : N = S
                    · subst e1
                      have e2 : (N.toList == N.toList) = true := beq_self_eq_true _
                      clear HTK hN hNl
                      go_wp2_with fail
                      refine (HWK.out _ HM.out).mono ?_
                      rintro e vw ⟨rfl, hb⟩
                      have IW := Lib.hid (HM.out.on hb)
                      clear hb
                      go_wp2
                      go_ret
                      exact ⟨rfl, IW.out.below⟩
                    · have e2n : ¬ N.toList = S.toList := fun e => e1 (by
                        cases N; cases S
                        have := congrArg id e
                        rw [Lib.toList_data, Lib.toList_data] at e
                        simp only at e
                        rw [Array.toList_inj] at e; rw [e])
                      have e2 : (N.toList == S.toList) = false := beq_eq_false_iff_ne.2 e2n
                      have HE := Lib.hid (HTK.out (fun h => e2n (by rw [Lib.toList_data, Lib.toList_data, hNl, h.2])))
                      clear HTK e2n e1 hN hNl
                      go_wp2
                      go_roundw
                      case rel => exact ⟨i + 1, by go_num, HIK.out, Lib.hid ⟨HM.out, HBV.out, HE.out⟩⟩
                      case measure => have := HIK.out; simp [intOf]; omega
                  · have e0' : (op == 2) = false := by simpa using e0
                    have HE := Lib.hid (HTK.out (fun h => e0 h.1))
                    clear HTK e0 hN hNl
                    go_wp2
                    go_roundw
                    case rel => exact ⟨i + 1, by go_num, HIK.out, Lib.hid ⟨HM.out, HBV.out, HE.out⟩⟩
                    case measure => have := HIK.out; simp [intOf]; omega
                · obtain rfl : i = nl := by omega
                  have hik' : ¬ ((i : Nat) : Int) < (i : Int) := by omega
                  have HM := Lib.hid HI.out.1
                  have HBV := Lib.hid HI.out.2.1
                  have HNO := Lib.hid (show ∀ n ∈ l, ¬ (n.op = 2 ∧ n.nm = S.data.toList) from by
                    have h3 := HI.out.2.2
                    rw [List.take_of_length_le (by rw [← HN.out.1]; exact Nat.le_refl _)] at h3
                    exact h3)
                  clear hik HI
                  generalize wr = wa at *
                  obtain ⟨ib, hib, hbz0, hbz1, hbz2⟩ := info_parts infoBd
                  have HOW := Lib.hid (show (wa.alloc (.cells #[.string S, .int .i64 n] 88)).ownsRow wa.heap.size 88 2 (.slice (some ⟨wa.heap.size, 0, none⟩) 1 1) 1 [.string S, .int .i64 n] from ⟨rfl, Or.inr ⟨wa.heap.size, 1, _, rfl, Nat.le_refl _, heap_alloc_new wa _, Nat.le_refl _, by unfold maxLen; omega, rfl, rfl⟩⟩)
                  have HB2 := Lib.hid ((HG.out.2.1.on HM.out.below).on ((Below.refl _ _).alloc (Nat.le_refl _) (.cells #[.string S, .int .i64 n] 88)))
                  have HMa := Lib.hid (HM.out.on ((Below.refl _ _).alloc (Nat.le_refl _) (.cells #[.string S, .int .i64 n] 88)))
                  have HVa := Lib.hid (HBV.out.trans (((Below.refl _ _).alloc (Nat.le_refl _) (.cells #[.string S, .int .i64 n] 88)).mono HBV.out.size))
                  have hwsz := HM.out.lt
                  have HVs := Lib.hid HBV.out.size
                  go_wp2_with (at_builtin; go_must (refine wpList_append_src rfl _ _ _ rfl wa.heap.size 88 ib _ 2 24 Tryz.underlying69 hib hbz0 hbz1 hbz2 rfl (by omega) (.slice (some ⟨wa.heap.size, 0, none⟩) 1 1) 1 [.string S, .int .i64 n] (by rfl) HOW.out A2 m c2 (bs.flatMap bdV) rfl (by rw [HN.out.2]; exact HG.out.2.2) (by rw [bdV_len, ← HN.out.2]) (bdr_cells HB2.out) (bdV_one _) (by unfold maxLen; omega) (by omega) (by simp) ?_); go_must (intro v9 w9 hown9 hgr9; have J9 := Lib.hid (And.intro hown9 (And.intro (HMa.out.grown hgr9 (fun k hk => by cases hk; exact hwsz)) (show Below V5.heap.size V5 w9 from HVa.out.grown hgr9 HVa.out.size (fun k hk => by cases hk; exact HVs.out)))); obtain ⟨A9, c9, hv9, _, _, h91, _⟩ := own_slice hown9; subst hv9; have k1 : w9.cell? ⟨w.heap.size, 0, none⟩ = some (.slice A1 i c1) := (by have q := J9.out.2.1.at_; rw [← HN.out.1] at q; exact q); clear hown9 hgr9))
                  have HR9 := Lib.hid (own_bdr (bs := (S.data.toList, n) :: bs) (n := 1 + m) (by
                    have q := J9.out.1
                    show w9.ownsRow _ _ _ _ _ (bdV (S.data.toList, n) ++ bs.flatMap bdV)
                    exact q) (by rw [List.length_cons, HN.out.2]; omega))
                  have HEE := Lib.hid (by
                    have q := HE2.out HNO.out w9 J9.out.2.1 A9 c9 HR9.out.1 (by have := HR9.out.2.1; rw [List.length_cons, ← HN.out.2]; omega)
                    rw [List.length_cons, ← HN.out.2, Nat.add_comm] at q
                    exact q)
                  go_wp2_with fail
                  refine HEE.out.mono ?_
                  rintro e w10 ⟨rfl, hb⟩
                  have IA := Lib.hid (J9.out.2.1.on (hb.alloc hb.size (.cells #[.int .u8 (vk : Nat), .int .i64 0, .bool false] 74)))
                  have hbv := J9.out.2.2.trans ((hb.alloc hb.size (.cells #[.int .u8 (vk : Nat), .int .i64 0, .bool false] 74)).mono J9.out.2.2.size)
                  have kv := KV.out.below hbv KV.out.lt
                  have y0 := kv.at_ 0
                  have y1 := kv.at_ 1
                  have y2 := kv.at_ 2
                  simp only [List.getElem?_toArray, List.getElem?_cons_zero, List.getElem?_cons_succ] at y0 y1 y2
                  have eeq : ((61 : Int) == (61 : Int)) = true := beq_self_eq_true _
                  have veq := run_eqlV vk vk (0) (0) false false
                  rw [decide_eq_true rfl] at veq
                  clear hb hbv kv k1
                  go_wp2_with fail
                  refine (HWK.out _ IA.out).mono ?_
                  rintro e vw ⟨rfl, hb⟩
                  have IW := Lib.hid (IA.out.on hb)
                  clear hb
                  go_wp2
                  go_ret
                  exact ⟨rfl, IW.out.below⟩
          · have hoe1 : (oe == 0) = false := by simpa using hoe
            clear hoe
            by_cases hve : ve = 0
            · subst hve
              rcases HFO.out.2 rfl with ⟨hk1, hk2⟩ | ⟨hk1, hk2⟩
              · skip
                have r1 : ((vk : Int) == 1) = true := by have h : vk = 1 := hk1; rw [h]; rfl
                have r2 : ((vk : Int) == 2) = false := by have h : vk = 1 := hk1; rw [h]; rfl
                have r3 : ((vk : Int) != 1) = false := by have h : vk = 1 := hk1; rw [h]; rfl
                have hk2 : vb = false := hk2
                subst hk2
                clear hk1 HKI HFO
                have I5 := Lib.hid (I4.out.on ((Below.refl _ _).alloc (Nat.le_refl _) (.cells #[.int .u8 (vk : Nat), .int .i64 vn, .bool false] 74)))
                have KV := Lib.hid (IsBlk.new v4 74 #[.int .u8 (vk : Nat), .int .i64 vn, .bool false])
                have y0 := KV.out.at_ 0
                have y1 := KV.out.at_ 1
                have y2 := KV.out.at_ 2
                simp only [List.getElem?_toArray, List.getElem?_cons_zero, List.getElem?_cons_succ] at y0 y1 y2
                obtain ⟨V5, hV5⟩ : ∃ V5, V5 = v4.alloc (.cells #[.int .u8 (vk : Nat), .int .i64 vn, .bool false] 74) := ⟨_, rfl⟩
                have HV5 := Lib.hid hV5
                rw [← hV5] at I5 KV
                clear hV5
                go_wp2
                rw [← HV5.out]
                clear y0 y1 y2 k1
                go_loopw [16] (fun iv wr => ∃ i : Nat, iv = .int .i64 i ∧ i ≤ nl ∧ Hid (MoL w A1 c1 l wr ∧ Below V5.heap.size V5 wr ∧ ∀ n ∈ l.take i, ¬ (n.op = 2 ∧ n.nm = S.data.toList))) (fun iv _ => nl - (intOf iv).toNat)
                case atStart => exact ⟨0, rfl, Nat.zero_le _, Lib.hid ⟨I5.out, Below.refl _ _, by simp⟩⟩
                case round =>
                  obtain ⟨i, rfl, hi, HI⟩ := hrel
                  have k1 : wr.cell? ⟨w.heap.size, 0, none⟩ = some (.slice A1 nl c1) := by rw [HN.out.1]; exact HI.out.1.at_
                  by_cases hik : i < nl
                  · have hik' : (i : Int) < (nl : Int) := by omega
                    have hil : i < l.length := by rw [← HN.out.1]; exact hik
                    obtain ⟨g, o, hA, hg, p0, -, p2, -, -, -⟩ := (HG.out.1.below HI.out.1.below) i hil
                    subst hA
                    have HTK := Lib.hid (show ¬ (l[i].op = 2 ∧ l[i].nm = S.data.toList) → ∀ n ∈ l.take (i + 1), ¬ (n.op = 2 ∧ n.nm = S.data.toList) from fun h q hq => by
                      rw [List.take_succ_eq_append_getElem hil] at hq
                      rcases List.mem_append.1 hq with hq | hq
                      · exact HI.out.2.2 q hq
                      · rw [List.mem_singleton.1 hq]; exact h)
                    have HIK := Lib.hid hik
                    have HM := Lib.hid HI.out.1
                    have HBV := Lib.hid HI.out.2.1
                    generalize l[i].op = op at *
                    generalize l[i].nm = nm at *
                    clear hik hil
                    obtain ⟨N, hN⟩ : ∃ N : ByteArray, N = ⟨nm.toArray⟩ := ⟨_, rfl⟩
                    rw [← hN] at p2
                    have hNl : N.data.toList = nm := by rw [hN]
                    by_cases e0 : op = 2
                    · subst e0
                      by_cases e1 : N = S
                      · subst e1
                        have e2 : (N.toList == N.toList) = true := beq_self_eq_true _
                        clear HTK hN hNl
                        go_wp2_with fail
                        refine (HWK.out _ HM.out).mono ?_
                        rintro e vw ⟨rfl, hb⟩
                        have IW := Lib.hid (HM.out.on hb)
                        clear hb
                        go_wp2
                        go_ret
                        exact ⟨rfl, IW.out.below⟩
                      · have e2n : ¬ N.toList = S.toList := fun e => e1 (by
                          cases N; cases S
                          have := congrArg id e
                          rw [Lib.toList_data, Lib.toList_data] at e
                          simp only at e
                          rw [Array.toList_inj] at e; rw [e])
                        have e2 : (N.toList == S.toList) = false := beq_eq_false_iff_ne.2 e2n
                        have HE := Lib.hid (HTK.out (fun h => e2n (by rw [Lib.toList_data, Lib.toList_data, hNl, h.2])))
                        clear HTK e2n e1 hN hNl
                        go_wp2
                        go_roundw
                        case rel => exact ⟨i + 1, by go_num, HIK.out, Lib.hid ⟨HM.out, HBV.out, HE.out⟩⟩
                        case measure => have := HIK.out; simp [intOf]; omega
                    · have e0' : (op == 2) = false := by simpa using e0
                      have HE := Lib.hid (HTK.out (fun h => e0 h.1))
                      clear HTK e0 hN hNl
                      go_wp2
                      go_roundw
                      case rel => exact ⟨i + 1, by go_num, HIK.out, Lib.hid ⟨HM.out, HBV.out, HE.out⟩⟩
                      case measure => have := HIK.out; simp [intOf]; omega
                  · obtain rfl : i = nl := by omega
                    have hik' : ¬ ((i : Nat) : Int) < (i : Int) := by omega
                    have HM := Lib.hid HI.out.1
                    have HBV := Lib.hid HI.out.2.1
                    have HNO := Lib.hid (show ∀ n ∈ l, ¬ (n.op = 2 ∧ n.nm = S.data.toList) from by
                      have h3 := HI.out.2.2
                      rw [List.take_of_length_le (by rw [← HN.out.1]; exact Nat.le_refl _)] at h3
                      exact h3)
                    clear hik HI
                    generalize wr = wa at *
                    obtain ⟨ib, hib, hbz0, hbz1, hbz2⟩ := info_parts infoBd
                    have HOW := Lib.hid (show (wa.alloc (.cells #[.string S, .int .i64 n] 88)).ownsRow wa.heap.size 88 2 (.slice (some ⟨wa.heap.size, 0, none⟩) 1 1) 1 [.string S, .int .i64 n] from ⟨rfl, Or.inr ⟨wa.heap.size, 1, _, rfl, Nat.le_refl _, heap_alloc_new wa _, Nat.le_refl _, by unfold maxLen; omega, rfl, rfl⟩⟩)
                    have HB2 := Lib.hid ((HG.out.2.1.on HM.out.below).on ((Below.refl _ _).alloc (Nat.le_refl _) (.cells #[.string S, .int .i64 n] 88)))
                    have HMa := Lib.hid (HM.out.on ((Below.refl _ _).alloc (Nat.le_refl _) (.cells #[.string S, .int .i64 n] 88)))
                    have HVa := Lib.hid (HBV.out.trans (((Below.refl _ _).alloc (Nat.le_refl _) (.cells #[.string S, .int .i64 n] 88)).mono HBV.out.size))
                    have hwsz := HM.out.lt
                    have HVs := Lib.hid HBV.out.size
                    go_wp2_with (at_builtin; go_must (refine wpList_append_src rfl _ _ _ rfl wa.heap.size 88 ib _ 2 24 Tryz.underlying69 hib hbz0 hbz1 hbz2 rfl (by omega) (.slice (some ⟨wa.heap.size, 0, none⟩) 1 1) 1 [.string S, .int .i64 n] (by rfl) HOW.out A2 m c2 (bs.flatMap bdV) rfl (by rw [HN.out.2]; exact HG.out.2.2) (by rw [bdV_len, ← HN.out.2]) (bdr_cells HB2.out) (bdV_one _) (by unfold maxLen; omega) (by omega) (by simp) ?_); go_must (intro v9 w9 hown9 hgr9; have J9 := Lib.hid (And.intro hown9 (And.intro (HMa.out.grown hgr9 (fun k hk => by cases hk; exact hwsz)) (show Below V5.heap.size V5 w9 from HVa.out.grown hgr9 HVa.out.size (fun k hk => by cases hk; exact HVs.out)))); obtain ⟨A9, c9, hv9, _, _, h91, _⟩ := own_slice hown9; subst hv9; have k1 : w9.cell? ⟨w.heap.size, 0, none⟩ = some (.slice A1 i c1) := (by have q := J9.out.2.1.at_; rw [← HN.out.1] at q; exact q); clear hown9 hgr9))
                    have HR9 := Lib.hid (own_bdr (bs := (S.data.toList, n) :: bs) (n := 1 + m) (by
                      have q := J9.out.1
                      show w9.ownsRow _ _ _ _ _ (bdV (S.data.toList, n) ++ bs.flatMap bdV)
                      exact q) (by rw [List.length_cons, HN.out.2]; omega))
                    have HEE := Lib.hid (by
                      have q := HE2.out HNO.out w9 J9.out.2.1 A9 c9 HR9.out.1 (by have := HR9.out.2.1; rw [List.length_cons, ← HN.out.2]; omega)
                      rw [List.length_cons, ← HN.out.2, Nat.add_comm] at q
                      exact q)
                    go_wp2_with fail
                    refine HEE.out.mono ?_
                    rintro e w10 ⟨rfl, hb⟩
                    have IA := Lib.hid (J9.out.2.1.on (hb.alloc hb.size (.cells #[.int .u8 (vk : Nat), .int .i64 vn, .bool false] 74)))
                    have hbv := J9.out.2.2.trans ((hb.alloc hb.size (.cells #[.int .u8 (vk : Nat), .int .i64 vn, .bool false] 74)).mono J9.out.2.2.size)
                    have kv := KV.out.below hbv KV.out.lt
                    have y0 := kv.at_ 0
                    have y1 := kv.at_ 1
                    have y2 := kv.at_ 2
                    simp only [List.getElem?_toArray, List.getElem?_cons_zero, List.getElem?_cons_succ] at y0 y1 y2
                    have eeq : ((0 : Int) == (0 : Int)) = true := beq_self_eq_true _
                    have veq := run_eqlV vk vk (vn) (vn) false false
                    rw [decide_eq_true rfl] at veq
                    clear hb hbv kv k1
                    go_wp2_with fail
                    refine (HWK.out _ IA.out).mono ?_
                    rintro e vw ⟨rfl, hb⟩
                    have IW := Lib.hid (IA.out.on hb)
                    clear hb
                    go_wp2
                    go_ret
                    exact ⟨rfl, IW.out.below⟩
              · skip
                have r1 : ((vk : Int) == 1) = false := by have h : vk = 2 := hk1; rw [h]; rfl
                have r2 : ((vk : Int) == 2) = true := by have h : vk = 2 := hk1; rw [h]; rfl
                have r3 : ((vk : Int) != 1) = true := by have h : vk = 2 := hk1; rw [h]; rfl
                have r4 : ((vk : Int) != 2) = false := by have h : vk = 2 := hk1; rw [h]; rfl
                have hk2 : vn = 0 := hk2
                subst hk2
                clear hk1 HKI HFO
                have I5 := Lib.hid (I4.out.on ((Below.refl _ _).alloc (Nat.le_refl _) (.cells #[.int .u8 (vk : Nat), .int .i64 0, .bool vb] 74)))
                have KV := Lib.hid (IsBlk.new v4 74 #[.int .u8 (vk : Nat), .int .i64 0, .bool vb])
                have y0 := KV.out.at_ 0
                have y1 := KV.out.at_ 1
                have y2 := KV.out.at_ 2
                simp only [List.getElem?_toArray, List.getElem?_cons_zero, List.getElem?_cons_succ] at y0 y1 y2
                obtain ⟨V5, hV5⟩ : ∃ V5, V5 = v4.alloc (.cells #[.int .u8 (vk : Nat), .int .i64 0, .bool vb] 74) := ⟨_, rfl⟩
                have HV5 := Lib.hid hV5
                rw [← hV5] at I5 KV
                clear hV5
                go_wp2
                rw [← HV5.out]
                clear y0 y1 y2 k1
                go_loopw [16] (fun iv wr => ∃ i : Nat, iv = .int .i64 i ∧ i ≤ nl ∧ Hid (MoL w A1 c1 l wr ∧ Below V5.heap.size V5 wr ∧ ∀ n ∈ l.take i, ¬ (n.op = 2 ∧ n.nm = S.data.toList))) (fun iv _ => nl - (intOf iv).toNat)
                case atStart => exact ⟨0, rfl, Nat.zero_le _, Lib.hid ⟨I5.out, Below.refl _ _, by simp⟩⟩
                case round =>
                  obtain ⟨i, rfl, hi, HI⟩ := hrel
                  have k1 : wr.cell? ⟨w.heap.size, 0, none⟩ = some (.slice A1 nl c1) := by rw [HN.out.1]; exact HI.out.1.at_
                  by_cases hik : i < nl
                  · have hik' : (i : Int) < (nl : Int) := by omega
                    have hil : i < l.length := by rw [← HN.out.1]; exact hik
                    obtain ⟨g, o, hA, hg, p0, -, p2, -, -, -⟩ := (HG.out.1.below HI.out.1.below) i hil
                    subst hA
                    have HTK := Lib.hid (show ¬ (l[i].op = 2 ∧ l[i].nm = S.data.toList) → ∀ n ∈ l.take (i + 1), ¬ (n.op = 2 ∧ n.nm = S.data.toList) from fun h q hq => by
                      rw [List.take_succ_eq_append_getElem hil] at hq
                      rcases List.mem_append.1 hq with hq | hq
                      · exact HI.out.2.2 q hq
                      · rw [List.mem_singleton.1 hq]; exact h)
                    have HIK := Lib.hid hik
                    have HM := Lib.hid HI.out.1
                    have HBV := Lib.hid HI.out.2.1
                    generalize l[i].op = op at *
                    generalize l[i].nm = nm at *
                    clear hik hil
                    obtain ⟨N, hN⟩ : ∃ N : ByteArray, N = ⟨nm.toArray⟩ := ⟨_, rfl⟩
                    rw [← hN] at p2
                    have hNl : N.data.toList = nm := by rw [hN]
                    by_cases e0 : op = 2
                    · subst e0
                      by_cases e1 : N = S
                      · subst e1
                        have e2 : (N.toList == N.toList) = true := beq_self_eq_true _
                        clear HTK hN hNl
                        go_wp2_with fail
                        refine (HWK.out _ HM.out).mono ?_
                        rintro e vw ⟨rfl, hb⟩
                        have IW := Lib.hid (HM.out.on hb)
                        clear hb
                        go_wp2
                        go_ret
                        exact ⟨rfl, IW.out.below⟩
                      · have e2n : ¬ N.toList = S.toList := fun e => e1 (by
                          cases N; cases S
                          have := congrArg id e
                          rw [Lib.toList_data, Lib.toList_data] at e
                          simp only at e
                          rw [Array.toList_inj] at e; rw [e])
                        have e2 : (N.toList == S.toList) = false := beq_eq_false_iff_ne.2 e2n
                        have HE := Lib.hid (HTK.out (fun h => e2n (by rw [Lib.toList_data, Lib.toList_data, hNl, h.2])))
                        clear HTK e2n e1 hN hNl
                        go_wp2
                        go_roundw
                        case rel => exact ⟨i + 1, by go_num, HIK.out, Lib.hid ⟨HM.out, HBV.out, HE.out⟩⟩
                        case measure => have := HIK.out; simp [intOf]; omega
                    · have e0' : (op == 2) = false := by simpa using e0
                      have HE := Lib.hid (HTK.out (fun h => e0 h.1))
                      clear HTK e0 hN hNl
                      go_wp2
                      go_roundw
                      case rel => exact ⟨i + 1, by go_num, HIK.out, Lib.hid ⟨HM.out, HBV.out, HE.out⟩⟩
                      case measure => have := HIK.out; simp [intOf]; omega
                  · obtain rfl : i = nl := by omega
                    have hik' : ¬ ((i : Nat) : Int) < (i : Int) := by omega
                    have HM := Lib.hid HI.out.1
                    have HBV := Lib.hid HI.out.2.1
                    have HNO := Lib.hid (show ∀ n ∈ l, ¬ (n.op = 2 ∧ n.nm = S.data.toList) from by
                      have h3 := HI.out.2.2
                      rw [List.take_of_length_le (by rw [← HN.out.1]; exact Nat.le_refl _)] at h3
                      exact h3)
                    clear hik HI
                    generalize wr = wa at *
                    obtain ⟨ib, hib, hbz0, hbz1, hbz2⟩ := info_parts infoBd
                    have HOW := Lib.hid (show (wa.alloc (.cells #[.string S, .int .i64 n] 88)).ownsRow wa.heap.size 88 2 (.slice (some ⟨wa.heap.size, 0, none⟩) 1 1) 1 [.string S, .int .i64 n] from ⟨rfl, Or.inr ⟨wa.heap.size, 1, _, rfl, Nat.le_refl _, heap_alloc_new wa _, Nat.le_refl _, by unfold maxLen; omega, rfl, rfl⟩⟩)
                    have HB2 := Lib.hid ((HG.out.2.1.on HM.out.below).on ((Below.refl _ _).alloc (Nat.le_refl _) (.cells #[.string S, .int .i64 n] 88)))
                    have HMa := Lib.hid (HM.out.on ((Below.refl _ _).alloc (Nat.le_refl _) (.cells #[.string S, .int .i64 n] 88)))
                    have HVa := Lib.hid (HBV.out.trans (((Below.refl _ _).alloc (Nat.le_refl _) (.cells #[.string S, .int .i64 n] 88)).mono HBV.out.size))
                    have hwsz := HM.out.lt
                    have HVs := Lib.hid HBV.out.size
                    go_wp2_with (at_builtin; go_must (refine wpList_append_src rfl _ _ _ rfl wa.heap.size 88 ib _ 2 24 Tryz.underlying69 hib hbz0 hbz1 hbz2 rfl (by omega) (.slice (some ⟨wa.heap.size, 0, none⟩) 1 1) 1 [.string S, .int .i64 n] (by rfl) HOW.out A2 m c2 (bs.flatMap bdV) rfl (by rw [HN.out.2]; exact HG.out.2.2) (by rw [bdV_len, ← HN.out.2]) (bdr_cells HB2.out) (bdV_one _) (by unfold maxLen; omega) (by omega) (by simp) ?_); go_must (intro v9 w9 hown9 hgr9; have J9 := Lib.hid (And.intro hown9 (And.intro (HMa.out.grown hgr9 (fun k hk => by cases hk; exact hwsz)) (show Below V5.heap.size V5 w9 from HVa.out.grown hgr9 HVa.out.size (fun k hk => by cases hk; exact HVs.out)))); obtain ⟨A9, c9, hv9, _, _, h91, _⟩ := own_slice hown9; subst hv9; have k1 : w9.cell? ⟨w.heap.size, 0, none⟩ = some (.slice A1 i c1) := (by have q := J9.out.2.1.at_; rw [← HN.out.1] at q; exact q); clear hown9 hgr9))
                    have HR9 := Lib.hid (own_bdr (bs := (S.data.toList, n) :: bs) (n := 1 + m) (by
                      have q := J9.out.1
                      show w9.ownsRow _ _ _ _ _ (bdV (S.data.toList, n) ++ bs.flatMap bdV)
                      exact q) (by rw [List.length_cons, HN.out.2]; omega))
                    have HEE := Lib.hid (by
                      have q := HE2.out HNO.out w9 J9.out.2.1 A9 c9 HR9.out.1 (by have := HR9.out.2.1; rw [List.length_cons, ← HN.out.2]; omega)
                      rw [List.length_cons, ← HN.out.2, Nat.add_comm] at q
                      exact q)
                    go_wp2_with fail
                    refine HEE.out.mono ?_
                    rintro e w10 ⟨rfl, hb⟩
                    have IA := Lib.hid (J9.out.2.1.on (hb.alloc hb.size (.cells #[.int .u8 (vk : Nat), .int .i64 0, .bool vb] 74)))
                    have hbv := J9.out.2.2.trans ((hb.alloc hb.size (.cells #[.int .u8 (vk : Nat), .int .i64 0, .bool vb] 74)).mono J9.out.2.2.size)
                    have kv := KV.out.below hbv KV.out.lt
                    have y0 := kv.at_ 0
                    have y1 := kv.at_ 1
                    have y2 := kv.at_ 2
                    simp only [List.getElem?_toArray, List.getElem?_cons_zero, List.getElem?_cons_succ] at y0 y1 y2
                    have eeq : ((0 : Int) == (0 : Int)) = true := beq_self_eq_true _
                    have veq := run_eqlV vk vk (0) (0) vb vb
                    rw [decide_eq_true rfl] at veq
                    clear hb hbv kv k1
                    go_wp2_with fail
                    refine (HWK.out _ IA.out).mono ?_
                    rintro e vw ⟨rfl, hb⟩
                    have IW := Lib.hid (IA.out.on hb)
                    clear hb
                    go_wp2
                    go_ret
                    exact ⟨rfl, IW.out.below⟩
            · skip
              have hvv := HFO.out.1 (by first | exact hve | (rw [hve]; decide))
              rw [Ev.Vl.mk.injEq] at hvv
              obtain ⟨hv0, rfl, rfl⟩ := hvv
              have hneq : ∀ w0, (binOp BinOp.neq 74 (.agg #[.int .u8 (vk : Nat), .int .i64 0, .bool false]) (.agg #[.int .u8 0, .int .i64 0, .bool false])).run Tryz.prog w0 = .ok (.bool false) w0 := fun w0 => by rw [hv0]; kernel_rfl
              clear hv0 HKI HFO
              have hve1 : (ve == 0) = false := by simpa using hve
              have hve2 : (ve != 0) = true := by simp [bne, hve1]
              clear hve
              have I5 := Lib.hid (I4.out.on ((Below.refl _ _).alloc (Nat.le_refl _) (.cells #[.int .u8 (vk : Nat), .int .i64 0, .bool false] 74)))
              have KV := Lib.hid (IsBlk.new v4 74 #[.int .u8 (vk : Nat), .int .i64 0, .bool false])
              have y0 := KV.out.at_ 0
              have y1 := KV.out.at_ 1
              have y2 := KV.out.at_ 2
              simp only [List.getElem?_toArray, List.getElem?_cons_zero, List.getElem?_cons_succ] at y0 y1 y2
              obtain ⟨V5, hV5⟩ : ∃ V5, V5 = v4.alloc (.cells #[.int .u8 (vk : Nat), .int .i64 0, .bool false] 74) := ⟨_, rfl⟩
              have HV5 := Lib.hid hV5
              rw [← hV5] at I5 KV
              clear hV5
              go_wp2
              rw [← HV5.out]
              clear y0 y1 y2 k1
              go_loopw [16] (fun iv wr => ∃ i : Nat, iv = .int .i64 i ∧ i ≤ nl ∧ Hid (MoL w A1 c1 l wr ∧ Below V5.heap.size V5 wr ∧ ∀ n ∈ l.take i, ¬ (n.op = 2 ∧ n.nm = S.data.toList))) (fun iv _ => nl - (intOf iv).toNat)
              case atStart => exact ⟨0, rfl, Nat.zero_le _, Lib.hid ⟨I5.out, Below.refl _ _, by simp⟩⟩
              case round =>
                obtain ⟨i, rfl, hi, HI⟩ := hrel
                have k1 : wr.cell? ⟨w.heap.size, 0, none⟩ = some (.slice A1 nl c1) := by rw [HN.out.1]; exact HI.out.1.at_
                by_cases hik : i < nl
                · have hik' : (i : Int) < (nl : Int) := by omega
                  have hil : i < l.length := by rw [← HN.out.1]; exact hik
                  obtain ⟨g, o, hA, hg, p0, -, p2, -, -, -⟩ := (HG.out.1.below HI.out.1.below) i hil
                  subst hA
                  have HTK := Lib.hid (show ¬ (l[i].op = 2 ∧ l[i].nm = S.data.toList) → ∀ n ∈ l.take (i + 1), ¬ (n.op = 2 ∧ n.nm = S.data.toList) from fun h q hq => by
                    rw [List.take_succ_eq_append_getElem hil] at hq
                    rcases List.mem_append.1 hq with hq | hq
                    · exact HI.out.2.2 q hq
                    · rw [List.mem_singleton.1 hq]; exact h)
                  have HIK := Lib.hid hik
                  have HM := Lib.hid HI.out.1
                  have HBV := Lib.hid HI.out.2.1
                  generalize l[i].op = op at *
                  generalize l[i].nm = nm at *
                  clear hik hil
                  obtain ⟨N, hN⟩ : ∃ N : ByteArray, N = ⟨nm.toArray⟩ := ⟨_, rfl⟩
                  rw [← hN] at p2
                  have hNl : N.data.toList = nm := by rw [hN]
                  by_cases e0 : op = 2
                  · subst e0
                    by_cases e1 : N = S
                    · subst e1
                      have e2 : (N.toList == N.toList) = true := beq_self_eq_true _
                      clear HTK hN hNl
                      go_wp2_with fail
                      refine (HWK.out _ HM.out).mono ?_
                      rintro e vw ⟨rfl, hb⟩
                      have IW := Lib.hid (HM.out.on hb)
                      clear hb
                      go_wp2
                      go_ret
                      exact ⟨rfl, IW.out.below⟩
                    · have e2n : ¬ N.toList = S.toList := fun e => e1 (by
                        cases N; cases S
                        have := congrArg id e
                        rw [Lib.toList_data, Lib.toList_data] at e
                        simp only at e
                        rw [Array.toList_inj] at e; rw [e])
                      have e2 : (N.toList == S.toList) = false := beq_eq_false_iff_ne.2 e2n
                      have HE := Lib.hid (HTK.out (fun h => e2n (by rw [Lib.toList_data, Lib.toList_data, hNl, h.2])))
                      clear HTK e2n e1 hN hNl
                      go_wp2
                      go_roundw
                      case rel => exact ⟨i + 1, by go_num, HIK.out, Lib.hid ⟨HM.out, HBV.out, HE.out⟩⟩
                      case measure => have := HIK.out; simp [intOf]; omega
                  · have e0' : (op == 2) = false := by simpa using e0
                    have HE := Lib.hid (HTK.out (fun h => e0 h.1))
                    clear HTK e0 hN hNl
                    go_wp2
                    go_roundw
                    case rel => exact ⟨i + 1, by go_num, HIK.out, Lib.hid ⟨HM.out, HBV.out, HE.out⟩⟩
                    case measure => have := HIK.out; simp [intOf]; omega
                · obtain rfl : i = nl := by omega
                  have hik' : ¬ ((i : Nat) : Int) < (i : Int) := by omega
                  have HM := Lib.hid HI.out.1
                  have HBV := Lib.hid HI.out.2.1
                  have HNO := Lib.hid (show ∀ n ∈ l, ¬ (n.op = 2 ∧ n.nm = S.data.toList) from by
                    have h3 := HI.out.2.2
                    rw [List.take_of_length_le (by rw [← HN.out.1]; exact Nat.le_refl _)] at h3
                    exact h3)
                  clear hik HI
                  generalize wr = wa at *
                  obtain ⟨ib, hib, hbz0, hbz1, hbz2⟩ := info_parts infoBd
                  have HOW := Lib.hid (show (wa.alloc (.cells #[.string S, .int .i64 n] 88)).ownsRow wa.heap.size 88 2 (.slice (some ⟨wa.heap.size, 0, none⟩) 1 1) 1 [.string S, .int .i64 n] from ⟨rfl, Or.inr ⟨wa.heap.size, 1, _, rfl, Nat.le_refl _, heap_alloc_new wa _, Nat.le_refl _, by unfold maxLen; omega, rfl, rfl⟩⟩)
                  have HB2 := Lib.hid ((HG.out.2.1.on HM.out.below).on ((Below.refl _ _).alloc (Nat.le_refl _) (.cells #[.string S, .int .i64 n] 88)))
                  have HMa := Lib.hid (HM.out.on ((Below.refl _ _).alloc (Nat.le_refl _) (.cells #[.string S, .int .i64 n] 88)))
                  have HVa := Lib.hid (HBV.out.trans (((Below.refl _ _).alloc (Nat.le_refl _) (.cells #[.string S, .int .i64 n] 88)).mono HBV.out.size))
                  have hwsz := HM.out.lt
                  have HVs := Lib.hid HBV.out.size
                  go_wp2_with (at_builtin; go_must (refine wpList_append_src rfl _ _ _ rfl wa.heap.size 88 ib _ 2 24 Tryz.underlying69 hib hbz0 hbz1 hbz2 rfl (by omega) (.slice (some ⟨wa.heap.size, 0, none⟩) 1 1) 1 [.string S, .int .i64 n] (by rfl) HOW.out A2 m c2 (bs.flatMap bdV) rfl (by rw [HN.out.2]; exact HG.out.2.2) (by rw [bdV_len, ← HN.out.2]) (bdr_cells HB2.out) (bdV_one _) (by unfold maxLen; omega) (by omega) (by simp) ?_); go_must (intro v9 w9 hown9 hgr9; have J9 := Lib.hid (And.intro hown9 (And.intro (HMa.out.grown hgr9 (fun k hk => by cases hk; exact hwsz)) (show Below V5.heap.size V5 w9 from HVa.out.grown hgr9 HVa.out.size (fun k hk => by cases hk; exact HVs.out)))); obtain ⟨A9, c9, hv9, _, _, h91, _⟩ := own_slice hown9; subst hv9; have k1 : w9.cell? ⟨w.heap.size, 0, none⟩ = some (.slice A1 i c1) := (by have q := J9.out.2.1.at_; rw [← HN.out.1] at q; exact q); clear hown9 hgr9))
                  have HR9 := Lib.hid (own_bdr (bs := (S.data.toList, n) :: bs) (n := 1 + m) (by
                    have q := J9.out.1
                    show w9.ownsRow _ _ _ _ _ (bdV (S.data.toList, n) ++ bs.flatMap bdV)
                    exact q) (by rw [List.length_cons, HN.out.2]; omega))
                  have HEE := Lib.hid (by
                    have q := HE2.out HNO.out w9 J9.out.2.1 A9 c9 HR9.out.1 (by have := HR9.out.2.1; rw [List.length_cons, ← HN.out.2]; omega)
                    rw [List.length_cons, ← HN.out.2, Nat.add_comm] at q
                    exact q)
                  go_wp2_with fail
                  refine HEE.out.mono ?_
                  rintro e w10 ⟨rfl, hb⟩
                  have IA := Lib.hid (J9.out.2.1.on (hb.alloc hb.size (.cells #[.int .u8 (vk : Nat), .int .i64 0, .bool false] 74)))
                  have hbv := J9.out.2.2.trans ((hb.alloc hb.size (.cells #[.int .u8 (vk : Nat), .int .i64 0, .bool false] 74)).mono J9.out.2.2.size)
                  have kv := KV.out.below hbv KV.out.lt
                  have y0 := kv.at_ 0
                  have y1 := kv.at_ 1
                  have y2 := kv.at_ 2
                  simp only [List.getElem?_toArray, List.getElem?_cons_zero, List.getElem?_cons_succ] at y0 y1 y2
                  have eeq : ((ve : Int) == (ve : Int)) = true := beq_self_eq_true _
                  have veq := run_eqlV vk vk (0) (0) false false
                  rw [decide_eq_true rfl] at veq
                  clear hb hbv kv k1
                  go_wp2_with fail
                  refine (HWK.out _ IA.out).mono ?_
                  rintro e vw ⟨rfl, hb⟩
                  have IW := Lib.hid (IA.out.on hb)
                  clear hb
                  go_wp2
                  go_ret
                  exact ⟨rfl, IW.out.below⟩
    · have hsI : (S.size : Int) > 70 := by omega
      clear T h1 h2 ho1
      go_enter Tryz.func11, Tryz.ntmps11
      go_wp2_with fail
      refine (HF1.out _ I0.out).mono ?_
      rintro e v1 ⟨rfl, hb⟩
      have I1 := Lib.hid (I0.out.on hb)
      clear hb
      have k1 := I1.out.at_
      go_wp2_with fail
      refine (HWK.out _ I1.out).mono ?_
      rintro e vw ⟨rfl, hb⟩
      have IW := Lib.hid (I1.out.on hb)
      clear hb
      go_wp2
      go_ret
      exact ⟨rfl, IW.out.below⟩
  · rw [decide_eq_false f1] at HF1
    clear T h1 h2 ho1
    go_enter Tryz.func11, Tryz.ntmps11
    go_wp2_with fail
    refine (HF1.out _ I0.out).mono ?_
    rintro e v1 ⟨rfl, hb⟩
    have I1 := Lib.hid (I0.out.on hb)
    clear hb
    have k1 := I1.out.at_
    go_wp2_with fail
    refine (HWK.out _ I1.out).mono ?_
    rintro e vw ⟨rfl, hb⟩
    have IW := Lib.hid (I1.out.on hb)
    clear hb
    go_wp2
    go_ret
    exact ⟨rfl, IW.out.below⟩
end Go.Proofs.YtkgoikdppikkpaaGreatDoor
