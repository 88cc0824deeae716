/- Layer 9's statements: TypesMore, walked: with more names what has a kind has the same; with its names alone it has it; without any one of them it has none. Conditions: the tables hold what their texts lay; the rows lie in memory; ops are of 8 bits; lengths are such as come in. -/
import Derived.Test.YtphmheonlndaiaaGreatDoorTyFrame
import Derived.Deep.DeepMust
namespace Go.Proofs.YtphmheonlndaiaaGreatDoor
open Go.RowKit Ex

set_option maxHeartbeats 8000000 in
set_option maxRecDepth 100000 in
theorem more_any (w : World) (T : Tyx w) (A1 : Option Addr) (c1 : Nat) (l : List Nd) (h1 : NdR w w.heap.size A1 l) (hc1 : l.length ≤ c1) (hn1 : l.length ≤ 9223372036854775807) (ho1 : ∀ n ∈ l, 0 ≤ n.op)
    (A2 : Option Addr) (c2 : Nat) (ns : List Ty.Nm) (h2 : NsR w w.heap.size A2 ns) (hc2 : ns.length ≤ c2) (hn2 : ns.length ≤ 9223372036854775807) (hA2 : A2 = none → ns.length = 0 ∧ c2 = 0)
    (A3 : Option Addr) (c3 : Nat) (ms : List Ty.Nm) (h3 : NsR w w.heap.size A3 ms) (hc3 : ms.length ≤ c3) (hn3 : ms.length ≤ 9223372036854775807) (hA3 : A3 = none → ms.length = 0 ∧ c3 = 0) :
    Calls Tryz.prog 10 #[.agg #[.slice A1 l.length c1], .slice A2 ns.length c2, .slice A3 ms.length c3] w fun e w' => e = .returned (.bool true) ∧ Below w.heap.size w w' := by
  have I0 := Lib.hid (MoL.new w A1 c1 l)
  have k1 := I0.out.at_
  have HF1 := Lib.hid (fun v (i : MoL w A1 c1 l v) => fewt_any v A1 c1 l (h1.to i.below) hc1 hn1 A2 c2 ns (h2.on i.below) hc2 hn2)
  have HF2 := Lib.hid (fun v (i : MoL w A1 c1 l v) => fewt_any v A1 c1 l (h1.to i.below) hc1 hn1 A3 c3 ms (h3.on i.below) hc3 hn3)
  have HWK := Lib.hid (fun v (i : MoL w A1 c1 l v) => tworks_any v (T.below i.below))
  by_cases f1 : FewT l ns
  · rw [decide_eq_true f1] at HF1
    by_cases f2 : FewT l ms
    · rw [decide_eq_true f2] at HF2
      have hfl := (few_fit f1 ho1).1
      have HO1 := Lib.hid (fun v (i : MoL w A1 c1 l v) => of_any v (T.below i.below) A1 c1 l (h1.to i.below) hc1 hfl A2 c2 ns (h2.on i.below) hc2 (few_fit f1 ho1).2)
      have HON := Lib.hid (fun v (i : MoL w A1 c1 l v) A c qs hq hcq hfq => of_any v (T.below i.below) A1 c1 l (h1.to i.below) hc1 hfl A c qs hq hcq hfq)
      have HNM := Lib.hid (fun v (i : MoL w A1 c1 l v) => names_any v (T.below i.below) A1 c1 l (h1.to i.below) hc1 hfl)
      have HFA := Lib.hid (And.intro f1 (And.intro f2 ho1))
      have HAA := Lib.hid (And.intro hA2 hA3)
      have HC2 := Lib.hid (fun v (i : MoL w A1 c1 l v) => nsr_cells (h2.on i.below))
      have HC3 := Lib.hid (fun v (i : MoL w A1 c1 l v) => nsr_cells (h3.on i.below))
      by_cases hz : (kds l ns).2.2 = 0
      · obtain ⟨k, hk, hof⟩ := ofs_ok hz
        rw [hof] at HO1
        have HZ := Lib.hid hz
        have HOF := Lib.hid hof
        have HK := Lib.hid hk
        obtain ⟨i0, hi, hy0, hy1, hy2⟩ := info_parts infoStr
        obtain ⟨n, hnl⟩ : ∃ n, n = ns.length := ⟨_, rfl⟩
        obtain ⟨m, hml⟩ : ∃ m, m = ms.length := ⟨_, rfl⟩
        have hn20 : n ≤ 20 := by rw [hnl]; exact f1.1.2
        have hm20 : m ≤ 20 := by rw [hml]; exact f2.1.2
        have hA2' := hA2
        have hA3' := hA3
        rw [← hnl] at HO1 HF1 hA2'
        rw [← hml] at HF2 hA3'
        rw [← hnl, ← hml]
        have HNL := Lib.hid (And.intro hnl hml)
        clear T h1 h2 h3 ho1 hfl f1 f2 hc1 hn1 hc2 hn2 hc3 hn3 hA2 hA3 hz hof hk hnl hml
        go_enter Tryz.func10, Tryz.ntmps10
        go_wp2_with fail
        refine (HF1.out _ I0.out).mono ?_
        rintro e v1 ⟨rfl, hb⟩
        have I1 := Lib.hid (I0.out.on hb)
        clear hb
        have k1 := I1.out.at_
        go_wp2_with fail
        refine (HF2.out _ I1.out).mono ?_
        rintro e v2 ⟨rfl, hb⟩
        have I2 := Lib.hid (I1.out.on hb)
        clear hb
        have k1 := I2.out.at_
        go_wp2_with fail
        refine (HO1.out _ I2.out).mono ?_
        rintro e v3 ⟨rfl, hb⟩
        have I3 := Lib.hid (I2.out.on hb)
        clear hb
        have k1 := I3.out.at_
        have hbs := I3.out.lt
        go_wp2_with (at_builtin; first | (refine wpList_append_src rfl _ _ _ rfl (w.heap.size + 1) 9 i0 _ 1 16 Tryz.underlying56 hi hy0 hy1 hy2 rfl (by omega) (.slice none 0 0) 0 [] (by rfl) (World.ownsRow_nil _ _ _ _) A3 m c3 (ms.map nmV) rfl hA3' (by simp [← HNL.out.2]) (HC3.out _ I3.out) (nmV_one ms) (by unfold maxLen; omega) (by omega) hbs ?_; intro v4 w4 hown4 hgr4; rw [Nat.zero_add, List.nil_append] at hown4; obtain ⟨A4, c4, hv4, _, _, _, _⟩ := own_slice hown4; subst hv4; have J4 := Lib.hid (And.intro hown4 (I3.out.grown hgr4 (fun k hk => nomatch hk))); have hb4 := J4.out.2.lt; clear hown4 hgr4) | (refine wpList_append_src rfl _ _ _ rfl (w.heap.size + 1) 9 i0 _ 1 16 Tryz.underlying56 hi hy0 hy1 hy2 rfl (by omega) (.slice A4 m c4) m (ms.map nmV) (by rfl) J4.out.1 A2 n c2 (ns.map nmV) rfl hA2' (by simp [← HNL.out.1]) (HC2.out _ J4.out.2) (nmV_one ns) (by unfold maxLen; omega) (by omega) hb4 ?_; intro v5 w5 hown5 hgr5; obtain ⟨A5, c5, hv5, _, _, _, _⟩ := own_slice hown5; subst hv5; have J5 := Lib.hid (And.intro hown5 (J4.out.2.grown hgr5 (fun k hk => (J4.out.1.lt k hk).1))); have k1 := J5.out.2.at_; clear hown5 hgr5))
        have HAL := Lib.hid (show NsR w5 w5.heap.size A5 (ms ++ ns) ∧ (ms ++ ns).length = m + n ∧ m + n ≤ c5 ∧ FitN (ms ++ ns) from by
          have h := J5.out.1
          rw [← List.map_append] at h
          have hl : (ms ++ ns).length = m + n := by rw [List.length_append, ← HNL.out.1, ← HNL.out.2]
          have q := own_nsr h hl.symm
          refine ⟨q.1, hl, q.2.1, by rw [hl]; omega, fun x hx => ?_⟩
          rcases List.mem_append.1 hx with hx | hx
          · have := HFA.out.2.1.2.1 x hx; omega
          · have := HFA.out.1.2.1 x hx; omega)
        have HO5 := Lib.hid (HON.out w5 J5.out.2 A5 c5 (ms ++ ns) HAL.out.1 (by rw [HAL.out.2.1]; exact HAL.out.2.2.1) HAL.out.2.2.2)
        rw [HAL.out.2.1, kds_more HZ.out, HOF.out] at HO5
        refine HO5.out.mono ?_
        rintro e v6 ⟨rfl, hb⟩
        have I6 := Lib.hid (J5.out.2.on hb)
        have k1 := I6.out.at_
        clear hb
        go_wp2_with fail
        refine (HNM.out v6 I6.out).mono ?_
        rintro e v7 ⟨x7, hox, rfl, hb⟩
        have I7 := Lib.hid (I6.out.on hb)
        rw [(kds_own HZ.out).2] at hox
        obtain ⟨A7, c7, hv7, _, _, hc7, hm7⟩ := own_slice hox
        subst hv7
        have h7 := own_nsr hox rfl
        have HLL := Lib.hid (show (Ty.nms l []).length ≤ 60 from by have e1 := Ty.nms_len l []; have e2 := HFA.out.1.1.1; simp only [List.length_nil, Nat.zero_add] at e1; omega)
        have HFL := Lib.hid (show FitN (Ty.nms l []) from ⟨by have := HLL.out; omega, Ty.nms_all l [] (fun q hq => nomatch hq) (fun q hq => by have := HFA.out.1.2.2 q hq; omega)⟩)
        have HO7 := Lib.hid (HON.out v7 I7.out A7 c7 (Ty.nms l []) h7.1 h7.2.1 HFL.out)
        rw [(kds_own HZ.out).1, HOF.out] at HO7
        have HX7 := Lib.hid (own_less hox I6.out.lt)
        have k1 := I7.out.at_
        have HLS := Lib.hid (fun i (hi : i < (Ty.nms l []).length) => kds_less HZ.out hi)
        have HC7 := Lib.hid hc7
        generalize Ty.nms l [] = L at *
        obtain ⟨q, hq⟩ : ∃ q, q = L.length := ⟨_, rfl⟩
        rw [← hq] at HO7 hc7
        rw [← hq]
        have HQ := Lib.hid hq
        have hq60 : q ≤ 60 := by rw [hq]; exact HLL.out
        clear hb hox h7 hq
        go_wp2_with fail
        refine HO7.out.mono ?_
        rintro e v8 ⟨rfl, hb⟩
        have I8 := Lib.hid (I7.out.on hb)
        have HX8 := Lib.hid (own_below HX7.out hb)
        have k1 := I8.out.at_
        clear hb
        have hcq : (q : Int) ≤ (c7 : Int) := by omega
        rcases HK.out with rfl | rfl
        all_goals
          go_wp2
          go_loopw [18] (fun iv wr => ∃ i : Nat, iv = .int .i64 i ∧ i ≤ q ∧ Hid (MoL w A1 c1 l wr ∧ wr.ownsRow (w.heap.size + 1) 9 1 (.slice A7 q c7) q (L.map nmV))) (fun iv _ => q - (intOf iv).toNat)
          case atStart => exact ⟨0, rfl, Nat.zero_le _, Lib.hid ⟨I8.out, by have h := HX8.out; rw [← HQ.out] at h; exact h⟩⟩
          case round =>
            obtain ⟨i, rfl, hi1, HI⟩ := hrel
            have k1 := HI.out.1.at_
            by_cases hiq : i < q
            · have hiq' : (i : Int) < (q : Int) := by omega
              have HIQ := Lib.hid hiq
              have hsl := own_sliced HI.out.2
              obtain ⟨A', c', hAe, _, _, hg0⟩ := hsl
              injection hAe with hA1 _ hA2
              subst hA1 hA2
              obtain ⟨g7, rfl, hg7, hg7b⟩ := hg0 (by omega)
              have HOW := Lib.hid HI.out.2
              have HLI := Lib.hid HI.out.1
              have hli := HI.out.1.lt
              have HTK := Lib.hid (fun (v : World) (ho : v.ownsRow (w.heap.size + 1) 9 1 (.slice (some ⟨g7, 0, none⟩) q c7) q (L.map nmV)) => (show ∀ ad, some (⟨g7, 0, none⟩ : Addr) = some ad → ∀ j u, ((L.take i).map nmV)[j]? = some u → v.cell? (ad.add j) = some u from by
                intro ad hA j u hu
                injection hA with hA
                subst hA
                rw [Addr.add_lit, Nat.zero_add]
                refine own_cell ho ?_
                rw [List.map_take, List.getElem?_take] at hu
                split at hu
                · exact hu
                · cases hu))
              have HDR := Lib.hid (fun (v : World) (ho : v.ownsRow (w.heap.size + 1) 9 1 (.slice (some ⟨g7, 0, none⟩) q c7) q (L.map nmV)) => (show ∀ ad, some (⟨g7, i + 1, none⟩ : Addr) = some ad → ∀ j u, ((L.drop (i + 1)).map nmV)[j]? = some u → v.cell? (ad.add j) = some u from by
                intro ad hA j u hu
                injection hA with hA
                subst hA
                rw [Addr.add_lit]
                refine own_cell ho ?_
                rw [List.map_drop, List.getElem?_drop] at hu
                exact hu))
              have hn1 : ∀ ad : Addr, some ad = none → i = 0 ∧ c7 = 0 := fun ad h => nomatch h
              have HEM := Lib.hid (fun (v : World) (h : c7 = i + 1) (ad : Addr) => (show ∀ ad', some ad = some ad' → ∀ j u, ((L.drop (i + 1)).map nmV)[j]? = some u → v.cell? (ad'.add j) = some u from by
                intro ad' _ j u hu
                rw [List.drop_of_length_le (by rw [← HQ.out]; omega)] at hu
                cases hu))
              have HMN := Lib.hid (show (L.take i ++ L.drop (i + 1)).length = i + (q - (i + 1)) ∧ FitN (L.take i ++ L.drop (i + 1)) from by
                refine ⟨by rw [List.length_append, List.length_take, List.length_drop, ← HQ.out]; omega, by rw [List.length_append, List.length_take, List.length_drop, ← HQ.out]; omega, fun x hx => ?_⟩
                rcases List.mem_append.1 hx with hx | hx
                · exact HFL.out.2 x (List.mem_of_mem_take hx)
                · exact HFL.out.2 x (List.mem_of_mem_drop hx))
              have HLE := Lib.hid (HLS.out i (by rw [← HQ.out]; exact hiq))
              clear HI
              by_cases hcc : c7 = i + 1
              · have hqi : q = i + 1 := by omega
                subst hcc hqi
                have HEM2 := Lib.hid (fun v => HEM.out v (by first | rfl | exact True.intro))
                go_upto_region 19 with (at_builtin; go_must (refine wpList_append_src rfl _ _ _ rfl wr.heap.size 9 i0 _ 1 16 Tryz.underlying56 hi hy0 hy1 hy2 rfl (by omega) (.slice none 0 0) 0 [] (by rfl) (World.ownsRow_nil _ _ _ _) (some ⟨g7, 0, none⟩) i (i + 1) ((L.take i).map nmV) rfl (fun h => nomatch h) (by rw [List.length_map, List.length_take, ← HQ.out]; omega) (HTK.out _ HOW.out) (nmV_one _) (by unfold maxLen; omega) (by omega) (Nat.le_refl _) ?_); go_must (intro v9 w9 hown9 hgr9; rw [Nat.zero_add, List.nil_append] at hown9; obtain ⟨A9, c9, hv9, _, _, _, _⟩ := own_slice hown9; subst hv9; have J9 := Lib.hid (And.intro hown9 (And.intro (HLI.out.grown hgr9 (fun k hk => nomatch hk)) (HOW.out.kept hgr9 (Or.inr (by intro e; cases e))))); have hb9 := hgr9.size; clear hown9 hgr9))
                go_wp2_with (at_builtin; go_must (refine wpList_append_src rfl _ _ _ rfl wr.heap.size 9 i0 _ 1 16 Tryz.underlying56 hi hy0 hy1 hy2 rfl (by omega) (.slice A9 i c9) i ((L.take i).map nmV) (by rfl) J9.out.1 (some _) 0 _ ((L.drop (i + 1)).map nmV) rfl (fun h => nomatch h) (by simp [← HQ.out]) (HEM2.out _ _) (nmV_one _) (by unfold maxLen; omega) (by omega) hb9 ?_); go_must (intro v10 w10 hown10 hgr10; rw [← List.map_append] at hown10; (try rw [Nat.add_zero] at hown10); obtain ⟨A10, c10, hv10, _, _, _, _⟩ := own_slice hown10; subst hv10; have J10 := Lib.hid (And.intro hown10 (And.intro (J9.out.2.1.grown hgr10 (fun k hk => by have := (J9.out.1.lt k hk).1; omega)) (J9.out.2.2.kept hgr10 (Or.inr (fun e => by have h9 : wr.heap.size ≤ g7 := (J9.out.1.lt g7 e.symm).1; omega))))); have k1 := J10.out.2.1.at_; clear hown10 hgr10))
                have HNS := Lib.hid (show NsR w10 w10.heap.size A10 (L.take i ++ L.drop (i + 1)) ∧ (L.take i ++ L.drop (i + 1)).length ≤ c10 from by
                  have q := own_nsr J10.out.1 (by have h := HMN.out.1; omega)
                  exact ⟨q.1, by have h := HMN.out.1; have h2 := q.2.1; omega⟩)
                have HOL := Lib.hid (HON.out w10 J10.out.2.1 A10 c10 (L.take i ++ L.drop (i + 1)) HNS.out.1 HNS.out.2 HMN.out.2)
                rw [HMN.out.1] at HOL
                generalize ofs (kds l (L.take i ++ L.drop (i + 1))) = OO at *
                obtain ⟨o1, o2, o3⟩ := OO
                simp only at HLE HOL
                have hle := HLE.out
                subst hle
                rw [Nat.sub_self, Nat.add_zero] at HOL
                refine HOL.out.mono ?_
                rintro e v11 ⟨rfl, hb⟩
                have I11 := Lib.hid (And.intro (J10.out.2.1.on hb) (own_below J10.out.2.2 hb))
                clear hb
                go_wp2
                go_roundw
                case rel => exact ⟨i + 1, by go_num, HIQ.out, Lib.hid I11.out⟩
                case measure => have := HIQ.out; simp [intOf] <;> omega
              · have hcc2 : i + 1 < c7 := by omega
                go_upto_region 19 with (at_builtin; go_must (refine wpList_append_src rfl _ _ _ rfl wr.heap.size 9 i0 _ 1 16 Tryz.underlying56 hi hy0 hy1 hy2 rfl (by omega) (.slice none 0 0) 0 [] (by rfl) (World.ownsRow_nil _ _ _ _) (some ⟨g7, 0, none⟩) i c7 ((L.take i).map nmV) rfl (fun h => nomatch h) (by rw [List.length_map, List.length_take, ← HQ.out]; omega) (HTK.out _ HOW.out) (nmV_one _) (by unfold maxLen; omega) (by omega) (Nat.le_refl _) ?_); go_must (intro v9 w9 hown9 hgr9; rw [Nat.zero_add, List.nil_append] at hown9; obtain ⟨A9, c9, hv9, _, _, _, _⟩ := own_slice hown9; subst hv9; have J9 := Lib.hid (And.intro hown9 (And.intro (HLI.out.grown hgr9 (fun k hk => nomatch hk)) (HOW.out.kept hgr9 (Or.inr (by intro e; cases e))))); have hb9 := hgr9.size; clear hown9 hgr9))
                go_wp2_with (at_builtin; go_must (refine wpList_append_src rfl _ _ _ rfl wr.heap.size 9 i0 _ 1 16 Tryz.underlying56 hi hy0 hy1 hy2 rfl (by omega) (.slice A9 i c9) i ((L.take i).map nmV) (by rfl) J9.out.1 (some _) (q - (i + 1)) _ ((L.drop (i + 1)).map nmV) rfl (fun h => nomatch h) (by simp [← HQ.out]) (HDR.out _ J9.out.2.2) (nmV_one _) (by unfold maxLen; omega) (by omega) hb9 ?_); go_must (intro v10 w10 hown10 hgr10; rw [← List.map_append] at hown10; (try rw [Nat.add_zero] at hown10); obtain ⟨A10, c10, hv10, _, _, _, _⟩ := own_slice hown10; subst hv10; have J10 := Lib.hid (And.intro hown10 (And.intro (J9.out.2.1.grown hgr10 (fun k hk => by have := (J9.out.1.lt k hk).1; omega)) (J9.out.2.2.kept hgr10 (Or.inr (fun e => by have h9 : wr.heap.size ≤ g7 := (J9.out.1.lt g7 e.symm).1; omega))))); have k1 := J10.out.2.1.at_; clear hown10 hgr10))
                have HNS := Lib.hid (show NsR w10 w10.heap.size A10 (L.take i ++ L.drop (i + 1)) ∧ (L.take i ++ L.drop (i + 1)).length ≤ c10 from by
                  have q := own_nsr J10.out.1 (by have h := HMN.out.1; omega)
                  exact ⟨q.1, by have h := HMN.out.1; have h2 := q.2.1; omega⟩)
                have HOL := Lib.hid (HON.out w10 J10.out.2.1 A10 c10 (L.take i ++ L.drop (i + 1)) HNS.out.1 HNS.out.2 HMN.out.2)
                rw [HMN.out.1] at HOL
                generalize ofs (kds l (L.take i ++ L.drop (i + 1))) = OO at *
                obtain ⟨o1, o2, o3⟩ := OO
                simp only at HLE HOL
                have hle := HLE.out
                subst hle
                skip
                refine HOL.out.mono ?_
                rintro e v11 ⟨rfl, hb⟩
                have I11 := Lib.hid (And.intro (J10.out.2.1.on hb) (own_below J10.out.2.2 hb))
                clear hb
                go_wp2
                go_roundw
                case rel => exact ⟨i + 1, by go_num, HIQ.out, Lib.hid I11.out⟩
                case measure => have := HIQ.out; simp [intOf] <;> omega
            · obtain rfl : i = q := by omega
              have hiq' : ¬ ((i : Nat) : Int) < (i : Int) := by omega
              go_wp2_with fail
              refine (HWK.out _ HI.out.1).mono ?_
              rintro e vw ⟨rfl, hb⟩
              have IW := Lib.hid (HI.out.1.on hb)
              clear hb
              go_wp2
              go_ret
              exact ⟨rfl, IW.out.below⟩
      · rw [ofs_bad hz] at HO1
        generalize kds l ns = X at *
        obtain ⟨K, at_, z⟩ := X
        simp only at HO1 hz
        have hz1 : (z == 0) = false := by simpa using hz
        have hz2 : (z != 0) = true := by simp [bne, hz1]
        clear T h1 h2 h3 ho1 hfl f1 f2 hz HFA HC2 HC3 HON HNM
        go_enter Tryz.func10, Tryz.ntmps10
        go_wp2_with fail
        refine (HF1.out _ I0.out).mono ?_
        rintro e v1 ⟨rfl, hb⟩
        have I1 := Lib.hid (I0.out.on hb)
        clear hb
        have k1 := I1.out.at_
        go_wp2_with fail
        refine (HF2.out _ I1.out).mono ?_
        rintro e v2 ⟨rfl, hb⟩
        have I2 := Lib.hid (I1.out.on hb)
        clear hb
        have k1 := I2.out.at_
        go_wp2_with fail
        refine (HO1.out _ I2.out).mono ?_
        rintro e v3 ⟨rfl, hb⟩
        have I3 := Lib.hid (I2.out.on hb)
        clear hb
        have k1 := I3.out.at_
        go_wp2_with fail
        refine (HWK.out _ I3.out).mono ?_
        rintro e vw ⟨rfl, hb⟩
        have IW := Lib.hid (I3.out.on hb)
        clear hb
        go_wp2
        go_ret
        exact ⟨rfl, IW.out.below⟩
    · rw [decide_eq_false f2] at HF2
      clear T h1 h2 h3 ho1 f1 f2
      go_enter Tryz.func10, Tryz.ntmps10
      go_wp2_with fail
      refine (HF1.out _ I0.out).mono ?_
      rintro e v1 ⟨rfl, hb⟩
      have I1 := Lib.hid (I0.out.on hb)
      clear hb
      have k1 := I1.out.at_
      go_wp2_with fail
      refine (HF2.out _ I1.out).mono ?_
      rintro e v2 ⟨rfl, hb⟩
      have I2 := Lib.hid (I1.out.on hb)
      clear hb
      have k1 := I2.out.at_
      go_wp2_with fail
      refine (HWK.out _ I2.out).mono ?_
      rintro e vw ⟨rfl, hb⟩
      have IW := Lib.hid (I2.out.on hb)
      clear hb
      go_wp2
      go_ret
      exact ⟨rfl, IW.out.below⟩
  · rw [decide_eq_false f1] at HF1
    clear T h1 h2 h3 ho1 f1
    go_enter Tryz.func10, Tryz.ntmps10
    go_wp2_with fail
    refine (HF1.out _ I0.out).mono ?_
    rintro e v1 ⟨rfl, hb⟩
    have I1 := Lib.hid (I0.out.on hb)
    clear hb
    have k1 := I1.out.at_
    go_wp2_with fail
    refine (HWK.out _ I1.out).mono ?_
    rintro e vw ⟨rfl, hb⟩
    have IW := Lib.hid (I1.out.on hb)
    clear hb
    go_wp2
    go_ret
    exact ⟨rfl, IW.out.below⟩
end Go.Proofs.YtphmheonlndaiaaGreatDoor
