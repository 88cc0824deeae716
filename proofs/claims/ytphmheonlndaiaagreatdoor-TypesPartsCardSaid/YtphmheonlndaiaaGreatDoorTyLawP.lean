/- The statements' kit: Pick, walked. Condition: the number of things is such as comes in.
Layer 9's statements: TypesParts, walked: each part of an expression that has a kind has that which it has in the whole. Conditions: the tables hold what their texts lay; the rows lie in memory; ops are of 8 bits; lengths are such as come in. -/
import Derived.Test.YtphmheonlndaiaaGreatDoorMem
import Derived.Test.YtphmheonlndaiaaGreatDoorChecked
import Derived.Handy
import Derived.Test.YtphmheonlndaiaaGreatDoorTyFrame
import Derived.Deep.DeepMust
namespace Go.Proofs.YtphmheonlndaiaaGreatDoor
open Go.RowKit
theorem pick_any (a : Int) (n : Nat) (hn : 1 ≤ n) (hn2 : n ≤ 1000000) : ∃ i : Nat, i < n ∧ ∀ w : World,
    Calls Tryz.prog 47 #[.int .i64 a, .int .i64 (n : Nat)] w fun e w' => e = .returned (.int .i64 (i : Nat)) ∧ w = w' := by
  have hn0 : (0 : Int) < (n : Int) := by omega
  refine ⟨(a.tmod n % n).toNat, ?_, fun w => ?_⟩
  · have h3 := Int.emod_lt_of_pos (a.tmod n) hn0
    have h4 := Int.emod_nonneg (a.tmod n) (show (n : Int) ≠ 0 by omega)
    omega
  · have h1 := Int.tmod_lt_of_pos a hn0
    have h2 := Int.lt_tmod_of_pos a hn0
    have h4 := Int.emod_nonneg (a.tmod n) (show (n : Int) ≠ 0 by omega)
    have HV := Lib.hid (show ((a.tmod n % n).toNat : Int) = a.tmod n % n by omega)
    have hn1 : ((n : Int) == 0) = false := beq_eq_false_iff_ne.2 (by omega)
    have hn2' : ¬ (n : Int) ≤ 0 := by omega
    have hn3 : (n : Int) ≤ 1000000 := by omega
    rw [HV.out]
    clear HV
    go_enter Tryz.func47, Tryz.ntmps47
    go_wp2
    go_ret
    exact ⟨rfl, rfl⟩
end Go.Proofs.YtphmheonlndaiaaGreatDoor
namespace Go.Proofs.YtphmheonlndaiaaGreatDoor
open Go.RowKit Ex

theorem own_far {w : World} {B : Nat} {e : TypeId} {size n : Nat} {v : Value} {xs : List Value} (h : w.ownsRow B e size v n xs) {p : Addr} (hp : v.ownBlock ≠ some p.block) (u : Value) : (w.setCell p u).ownsRow B e size v n xs :=
  h.kept (row := some p.block) ⟨rfl, rfl, rfl, by simp [World.setCell], fun k _ hne => Below.heap_setCell w p u k (fun e => hne (by rw [e]))⟩ (Or.inr hp)
/-- The part that is put together. -/
structure PyI (w wa : World) (A1 : Option Addr) (c1 : Nat) (l : List Nd) (t pb : Nat) (wr : World) (k : Nat) (v : Value) : Prop where
  base : MoL w A1 c1 l wr
  above : Below wa.heap.size wa wr
  blk : IsBlk wr pb 29 #[v]
  own : wr.ownsRow (pb + 1) 34 6 v (k - t) ((((l.drop t).take (k - t)).map (Ty.mvn t)).flatMap ndV)
set_option maxHeartbeats 8000000 in
set_option maxRecDepth 100000 in
theorem parts_any (w : World) (T : Tyx w) (A1 : Option Addr) (c1 : Nat) (l : List Nd) (h1 : NdR w w.heap.size A1 l) (hc1 : l.length ≤ c1) (hn1 : l.length ≤ 9223372036854775807) (ho1 : ∀ n ∈ l, 0 ≤ n.op)
    (A2 : Option Addr) (c2 : Nat) (ns : List Ty.Nm) (h2 : NsR w w.heap.size A2 ns) (hc2 : ns.length ≤ c2) (hn2 : ns.length ≤ 9223372036854775807) (at_ : Int) :
    Calls Tryz.prog 11 #[.agg #[.slice A1 l.length c1], .slice A2 ns.length c2, .int .i64 at_] w fun e w' => e = .returned (.bool true) ∧ Below w.heap.size w w' := by
  have I0 := Lib.hid (MoL.new w A1 c1 l)
  have k1 := I0.out.at_
  have HF1 := Lib.hid (fun v (i : MoL w A1 c1 l v) => fewt_any v A1 c1 l (h1.to i.below) hc1 hn1 A2 c2 ns (h2.on i.below) hc2 hn2)
  have HWK := Lib.hid (fun v (i : MoL w A1 c1 l v) => tworks_any v (T.below i.below))
  by_cases f1 : FewT l ns
  · rw [decide_eq_true f1] at HF1
    by_cases h0 : l.length = 0
    · have h0' : ((l.length : Int) == 0) = true := by simp [h0]
      clear T h1 h2 ho1 f1 h0
      go_enter Tryz.func11, Tryz.ntmps11
      go_wp2_with fail
      refine (HF1.out _ I0.out).mono ?_
      rintro e v1 ⟨rfl, hb⟩
      have I1 := Lib.hid (I0.out.on hb)
      clear hb
      have k1 := I1.out.at_
      go_wp2_with fail
      refine (HWK.out _ I1.out).mono ?_
      rintro e vw ⟨rfl, hb⟩
      have IW := Lib.hid (I1.out.on hb)
      clear hb
      go_wp2
      go_ret
      exact ⟨rfl, IW.out.below⟩
    · have h0' : ((l.length : Int) == 0) = false := beq_eq_false_iff_ne.2 (by omega)
      have hfl := (few_fit f1 ho1).1
      have hl60 := f1.1.1
      have HK1 := Lib.hid (fun v (i : MoL w A1 c1 l v) => kinds_any v (T.below i.below) A1 c1 l (h1.to i.below) hc1 hfl A2 c2 ns (h2.on i.below) hc2 (few_fit f1 ho1).2)
      have HON := Lib.hid (fun v (i : MoL w A1 c1 l v) A c qs hq hcq hfq => of_any v (T.below i.below) A c qs hq hcq hfq A2 c2 ns (h2.on i.below) hc2 (few_fit f1 ho1).2)
      have HNR := Lib.hid (fun v (i : MoL w A1 c1 l v) => h1.below i.below)
      have HFA := Lib.hid (And.intro f1 ho1)
      by_cases hz : (kds l ns).2.2 = 0
      · obtain ⟨hck, hat, hlen, hl1, hkk, hgo⟩ := kds_ok hz
        have hd0 : dep l ≠ 0 := fun q => by unfold chk at hck; rw [if_pos q] at hck; cases hck
        obtain ⟨x, hwx, hlx, hdx⟩ := dep_row hd0
        have hd64 : dp x ≤ 64 := by
          unfold chk at hck
          rw [if_neg hd0] at hck
          split at hck
          · cases hck
          · omega
        have hx0 : At l 0 x := ⟨by rw [List.drop_zero, hlx, ← flat_len x 0, List.take_length], by rw [hlx, flat_len]; omega⟩
        obtain ⟨i, hil, hpk⟩ := pick_any at_ l.length hl1 (by omega)
        have HPK := Lib.hid hpk
        obtain ⟨y, t, hy, hwy, hiy, hdy⟩ := Ty.at_node x 0 i hx0 hwx (Nat.zero_le _) (by rw [hlx, flat_len] at hil; omega)
        have hgo' : Ty.kgo ns l [] = ((kds l ns).1, 0, 0) := by
          rw [← hgo]
          have q : ∀ X : List Nat × Nat × Int, X.2.2 = 0 → X.2.1 = 0 → X = (X.1, 0, 0) := by
            rintro ⟨K, a, z⟩ e1 e2
            simp only at e1 e2
            rw [e1, e2]
          exact q _ hz hat
        have hpart := Ty.kgo_part hgo' hlen hy (sz y) (Nat.le_refl _)
        rw [Ty.part_row hy] at hpart
        have hcy : chk (flat y 0) = 0 := chk_flat hwy (by omega)
        have hky : kds (flat y 0) ns = (((kds l ns).1.drop t).take (sz y), 0, 0) := (if_neg (fun q => q hcy)).trans hpart
        have hty := hy.2
        obtain ⟨kk, hkk2⟩ : ∃ kk, (kds l ns).1[i]? = some kk := ⟨_, List.getElem?_eq_getElem (by omega)⟩
        have hof : ofs (kds (flat y 0) ns) = (kk, 0, 0) := by
          rw [hky]
          have hsz := sz_pos y
          show (if (0 : Int) ≠ 0 then _ else ((((kds l ns).1.drop t).take (sz y)).getLastD 0, 0, 0)) = _
          rw [if_neg (fun q => q rfl), List.getLastD_eq_getLast?, List.getLast?_eq_getElem?, List.length_take, List.length_drop, Nat.min_eq_left (by omega), List.getElem?_take_of_lt (by omega), List.getElem?_drop, show t + (sz y - 1) = i by omega, hkk2]
          rfl
        have hfy : Fit (flat y 0) := by
          refine ⟨by rw [flat_len]; have := hfl.1; omega, fun n hn => ?_⟩
          rw [← Ty.part_row hy] at hn
          obtain ⟨m, hm, rfl⟩ := List.mem_map.1 hn
          exact hfl.2 m (List.mem_of_mem_drop (List.mem_of_mem_take hm))
        have HY := Lib.hid (And.intro hy (And.intro hiy (And.intro hof hfy)))
        have HKK := Lib.hid hkk2
        have HIN := Lib.hid (fun (k : Nat) (hk1 : t ≤ k) (hk2 : k < t + sz y) => (show ∃ n, l[k]? = some n ∧ Ty.In t k n.a ∧ Ty.In t k n.b ∧ Ty.In t k n.c from by
          have hkl : k < l.length := by omega
          have h5 : (flat y t)[k - t]? = some l[k] := by
            rw [← hy.1, List.getElem?_take_of_lt (by omega), List.getElem?_drop, show t + (k - t) = k by omega, List.getElem?_eq_getElem hkl]
          have h6 := Ty.flat_in y t (k - t) _ h5
          rw [show t + (k - t) = k by omega] at h6
          exact ⟨_, List.getElem?_eq_getElem hkl, h6⟩))
        have ht60 : t + sz y ≤ 60 := by omega
        generalize kds l ns = X at *
        obtain ⟨K, ka, kz⟩ := X
        simp only at HK1 hz hat hlen HKK
        subst hz hat
        obtain ⟨n, hnl⟩ : ∃ n, n = l.length := ⟨_, rfl⟩
        rw [← hnl] at HK1 HPK h0' hil hc1 hl60 k1 HF1 hlen I0
        rw [← hnl]
        have HN := Lib.hid hnl
        have HLN := Lib.hid hlen
        have hcI : (n : Int) ≤ (c1 : Int) := by omega
        have hiI : (i : Int) < (n : Int) := by omega
        have hn60 : (n : Int) ≤ 60 := by omega
        clear T h1 h2 ho1 f1 h0 hfl hck hl1 hkk hgo hd0 hwx hlx hdx hd64 hx0 hy hwy hdy hgo' hpart hcy hky hty hkk2 hof hfy hnl hlen HFA hpk
        go_enter Tryz.func11, Tryz.ntmps11
        go_wp2_with fail
        refine (HF1.out _ I0.out).mono ?_
        rintro e v1 ⟨rfl, hb⟩
        have I1 := Lib.hid (I0.out.on hb)
        clear hb
        have k1 : v1.cell? ⟨w.heap.size, 0, none⟩ = some (.slice A1 n c1) := by rw [HN.out]; exact I1.out.at_
        go_wp2_with fail
        refine (HK1.out _ I1.out).mono ?_
        rintro e v2 ⟨vk, hok, rfl, hb⟩
        have I2 := Lib.hid (I1.out.on hb)
        have k1 : v2.cell? ⟨w.heap.size, 0, none⟩ = some (.slice A1 n c1) := by rw [HN.out]; exact I2.out.at_
        obtain ⟨Ak, ck, hvk, _, _, hck1, hck2⟩ := own_slice hok
        subst hvk
        simp only at hok hck1
        have HOK := Lib.hid (own_less hok I1.out.below.size)
        rw [HLN.out] at hck1
        rw [HLN.out]
        clear hb hok
        go_wp2_with fail
        refine (HPK.out v2).mono ?_
        rintro e v3 ⟨rfl, rfl⟩
        go_wp2
        go_loopw [11] (fun fv wr => ∃ (j : Nat) (z : E), fv = .int .i64 j ∧ j ≤ i ∧ Hid (MoL w A1 c1 l wr ∧ Below v2.heap.size v2 wr ∧ At l t z ∧ j + 1 = t + sz z)) (fun fv _ => (intOf fv).toNat)
        case atStart => exact ⟨i, y, rfl, Nat.le_refl _, Lib.hid ⟨I2.out, Below.refl _ _, HY.out.1, hiy⟩⟩
        case round =>
          obtain ⟨j, z, rfl, hji, HI⟩ := hrel
          have k1 : wr.cell? ⟨w.heap.size, 0, none⟩ = some (.slice A1 n c1) := by rw [HN.out]; exact HI.out.1.at_
          have hjn : j < n := by omega
          have hjI : (j : Int) < (n : Int) := by omega
          obtain ⟨g, o, hA, hg, -, -, -, q3, -, -⟩ := (HNR.out _ HI.out.1) j (by rw [← HN.out]; exact hjn)
          subst hA
          obtain ⟨nd, hnd, hcase⟩ := Ty.first_step HI.out.2.2.1 HI.out.2.2.2
          have hlj : l[j]'(by rw [← HN.out]; exact hjn) = nd := by
            rw [List.getElem?_eq_getElem (by rw [← HN.out]; exact hjn)] at hnd
            injection hnd
          rw [hlj] at q3
          clear hlj hnd
          rcases hcase with ⟨ha, hs⟩ | ⟨za, j', hza, ha, hj', hlt⟩
          · have hjt : j = t := by have := HI.out.2.2.2; omega
            have HBJ := Lib.hid HI.out.2.1
            have HMJ := Lib.hid HI.out.1
            rw [ha] at q3
            subst hjt
            clear HI hs ha
            obtain ⟨wa, hwa⟩ : ∃ wa, wa = wr.alloc (.cells #[.slice none 0 0] 29) := ⟨_, rfl⟩
            have hba : Below wr.heap.size wr wa := by rw [hwa]; exact (Below.refl _ _).alloc (Nat.le_refl _) _
            have HPI := Lib.hid (show PyI w wr (some ⟨g, o, none⟩) c1 l j wr.heap.size wa j (.slice none 0 0) from ⟨HMJ.out.on hba, hba, by rw [hwa]; exact IsBlk.new _ _ _, by rw [Nat.sub_self]; exact World.ownsRow_nil _ _ _ _⟩)
            have HWA := Lib.hid hwa
            clear hwa hba
            go_wp2
            rw [← HWA.out]
            generalize wr = wb at *
            go_loopw [13] (fun kv wr => ∃ (k : Nat) (v : Value), kv = .int .i64 k ∧ j ≤ k ∧ k ≤ i + 1 ∧ Hid (PyI w wb (some ⟨g, o, none⟩) c1 l j wb.heap.size wr k v)) (fun kv _ => i + 1 - (intOf kv).toNat)
            case atStart => exact ⟨j, _, rfl, Nat.le_refl _, by omega, HPI⟩
            case round =>
              clear HPI q3 k1
              obtain ⟨k, v, rfl, hk1, hk2, HI⟩ := hrel
              have k1 : wr.cell? ⟨w.heap.size, 0, none⟩ = some (.slice (some ⟨g, o, none⟩) n c1) := by rw [HN.out]; exact HI.out.base.at_
              have e0 : wr.cell? ⟨wb.heap.size, 0, none⟩ = some v := HI.out.blk.at_ 0
              by_cases hki : k ≤ i
              · have hkI : (k : Int) ≤ (i : Int) := by omega
                have hkn : k < n := by omega
                have hkN : (k : Int) < (n : Int) := by omega
                obtain ⟨g', o', hA, hg', q0, q1, q2, q3, q4, q5⟩ := (HNR.out _ HI.out.base) k (by rw [← HN.out]; exact hkn)
                injection hA with hA
                injection hA with hA1 hA2
                subst hA1 hA2
                obtain ⟨nd', hnd', hin⟩ := HIN.out k hk1 (by omega)
                have hlk : l[k]'(by rw [← HN.out]; exact hkn) = nd' := by
                  rw [List.getElem?_eq_getElem (by rw [← HN.out]; exact hkn)] at hnd'
                  injection hnd'
                rw [hlk] at q0 q1 q2 q3 q4 q5
                have HND := Lib.hid hnd'
                have mvI : ∀ p : Int, Ty.In j k p → -1 ≤ p ∧ p < 60 := by
                  intro p hp
                  rcases hp with rfl | ⟨h5, h6⟩ <;> omega
                have HA := mvI _ hin.1
                have HB := mvI _ hin.2.1
                have HC := mvI _ hin.2.2
                obtain ⟨op, num, nm, na, nb, nc⟩ := nd'
                simp only at q0 q1 q2 q3 q4 q5 HA HB HC
                obtain ⟨N, hNN⟩ : ∃ N : ByteArray, N = ⟨nm.toArray⟩ := ⟨_, rfl⟩
                rw [← hNN] at q2
                have HNN := Lib.hid hNN
                obtain ⟨ha2, ha3⟩ := HA
                obtain ⟨hb2, hb3⟩ := HB
                obtain ⟨hc2', hc3'⟩ := HC
                have hj60 : (j : Int) ≤ 60 := by omega
                obtain ⟨Av, cv, hv, _, _, hv1, hv2⟩ := own_slice HI.out.own
                subst hv
                obtain ⟨m, hm⟩ : ∃ m, m = k - j := ⟨_, rfl⟩
                rw [← hm] at e0 hv1
                have HM := Lib.hid hm
                have hm60 : m ≤ 60 := by omega
                have HOW := Lib.hid (show wr.ownsRow (wb.heap.size + 1) 34 6 (.slice Av m cv) m ((((l.drop j).take m).map (Ty.mvn j)).flatMap ndV) from by have h := HI.out.own; rw [← hm] at h; exact h)
                have HNW := Lib.hid (show (((l.drop j).take (m + 1)).map (Ty.mvn j)).flatMap ndV = (((l.drop j).take m).map (Ty.mvn j)).flatMap ndV ++ [.int .u8 op, .int .i64 num, .string N, .int .i64 (Ty.mv j na), .int .i64 (Ty.mv j nb), .int .i64 (Ty.mv j nc)] from by
                  have hml : m < (l.drop j).length := by rw [List.length_drop, ← HN.out]; omega
                  have hel : (l.drop j)[m] = ⟨op, num, nm, na, nb, nc⟩ := by
                    rw [List.getElem_drop]
                    have h := HND.out
                    rw [List.getElem?_eq_getElem (by rw [← HN.out]; omega)] at h
                    injection h with h
                    rw [← h]; congr 1; omega
                  rw [List.take_succ_eq_append_getElem hml, List.map_append, List.flatMap_append, hel, HNN.out]; rfl)
                have hlt2 := HI.out.blk.lt
                have HBS := Lib.hid HI.out
                have hwb := HI.out.base.lt
                obtain ⟨i0, hi, hy0, hy1, hy2⟩ := info_parts infoNd
                have hbig : m + 1 ≤ maxLen := by unfold maxLen; omega
                have HOB := Lib.hid (fun z (hz : (Value.slice Av m cv).ownBlock = some z) => (HOW.out.lt z hz).1)
                have HWB := Lib.hid HMJ.out.lt
                have HKI := Lib.hid hki
                have HNEW := Lib.hid (fun (xa xb xc : Int) (W' w9 : World) (v9 : Value) (hW : Below wr.heap.size wr W') (ho : w9.ownsRow (wb.heap.size + 1) 34 6 v9 (m + 1) ((((l.drop j).take m).map (Ty.mvn j)).flatMap ndV ++ [.int .u8 op, .int .i64 num, .string N, .int .i64 xa, .int .i64 xb, .int .i64 xc])) (hg : W'.grownBy w9 (Value.slice Av m cv).ownBlock) (e1 : xa = Ty.mv j na) (e2 : xb = Ty.mv j nb) (e3 : xc = Ty.mv j nc) => (show w9.cell? ⟨wb.heap.size, 0, none⟩ = some (.slice Av m cv) ∧ w9.frozen? ⟨wb.heap.size, 0, none⟩ = false ∧ PyI w wb (some ⟨g, o, none⟩) c1 l j wb.heap.size (w9.setCell ⟨wb.heap.size, 0, none⟩ v9) (k + 1) v9 from by
                  subst e1 e2 e3
                  have hbk : IsBlk w9 wb.heap.size 29 #[.slice Av m cv] := by
                    have h := HBS.out.blk.below hW HBS.out.blk.lt
                    rw [← HM.out] at h
                    exact h.grown hg (fun e => by have := HOB.out _ e.symm; omega)
                  have hww := HWB.out
                  have hab : Below wb.heap.size wb w9 := ((HBS.out.above.trans (hW.mono HBS.out.above.size)).grown hg (Nat.le_trans HBS.out.above.size hW.size) (fun z hz => by have := HOB.out z hz; omega))
                  refine ⟨hbk.at_ 0, hbk.fz 0, ⟨⟨?_, ?_⟩, hab.setCell (p := ⟨wb.heap.size, 0, none⟩) (Nat.le_refl _) _, hbk.set 0 _, ?_⟩⟩
                  · exact (HMJ.out.below.trans (hab.mono (by omega))).setCell (p := ⟨wb.heap.size, 0, none⟩) (by simp only; omega) _
                  · exact (HMJ.out.blk.below hab (by omega)).far (p := ⟨wb.heap.size, 0, none⟩) (by simp only; omega) _
                  · rw [show k + 1 - j = m + 1 by have := HM.out; omega, HNW.out]
                    exact own_far ho (fun e => by have := (ho.lt _ e).1; simp only at this; omega) _))
                clear hlk hnd' hin mvI hNN hm HI
                go_upto_region 20 with fail
                go_wp2_with (at_builtin; go_must (refine wpList_append_own _ rfl _ _ _ rfl (wb.heap.size + 1) 34 i0 _ 6 56 Tryz.underlying27 hi hy0 hy1 hy2 rfl (by omega) (.slice Av m cv) m ((((l.drop j).take m).map (Ty.mvn j)).flatMap ndV) (by rfl) (by exact World.ownsRow.alloc (World.ownsRow.alloc HOW.out _) _) _ 1 _ [.int .u8 op, .int .i64 num, .string N, .int .i64 (max (-1) (na - (j : Int))), .int .i64 (max (-1) (nb - (j : Int))), .int .i64 (max (-1) (nc - (j : Int)))] (by rfl) rfl (by intro j u hu; exact news_at _ _ _ _ (by simp) j u hu) (by intro u hu; simp at hu; rcases hu with rfl | rfl | rfl | rfl | rfl | rfl <;> rfl) hbig (by omega) (by simp; omega) ?_); go_must (intro v9 w9 hown9 hgr9 _; obtain ⟨A9, c9, hv9, _, _, _, _⟩ := own_slice hown9; subst hv9; have h9 := HNEW.out _ _ _ _ w9 _ (((Below.refl _ _).alloc (Nat.le_refl _) _).alloc (by simp) _) hown9 hgr9 rfl rfl rfl; have y1 := h9.1; have y2 := h9.2.1; have H9 := Lib.hid h9.2.2; clear hown9 hgr9 h9))
                go_roundw
                case rel => exact ⟨k + 1, _, by go_num, by omega, by have := HKI.out; omega, H9⟩
                case measure => have := HKI.out; simp [intOf]; omega
              · obtain rfl : k = i + 1 := by omega
                have hkI : ¬ ((i + 1 : Nat) : Int) ≤ (i : Int) := by omega
                have hst : i + 1 - j = sz y := by omega
                have HPR := Lib.hid (show wr.ownsRow (wb.heap.size + 1) 34 6 v (flat y 0).length ((flat y 0).flatMap ndV) from by
                  have h := HI.out.own
                  rw [hst, Ty.part_row HY.out.1] at h
                  rw [flat_len]; exact h)
                obtain ⟨Av, cv, hv, _, _, hv1, hv2⟩ := own_slice HPR.out
                subst hv
                have hnd := own_ndr HPR.out rfl
                have HOF := Lib.hid (HON.out wr HI.out.base Av cv (flat y 0) hnd.1 hnd.2.1 HY.out.2.2.2)
                rw [HY.out.2.2.1] at HOF
                have HMW := Lib.hid HI.out.base
                have HCC := Lib.hid (show ∃ g2 o2, Ak = some ⟨g2, o2, none⟩ ∧ g2 < v2.heap.size ∧ v2.cell? ⟨g2, o2 + i, none⟩ = some (.int .u8 (kk : Nat)) from by
                  have h := (own_kir HOK.out rfl).1 i (by rw [HLN.out]; exact hil)
                  have hk := HKK.out
                  rw [List.getElem?_eq_getElem (by rw [HLN.out]; exact hil)] at hk
                  injection hk with hk
                  rw [hk] at h
                  exact h)
                obtain ⟨g2, o2, hAk, hg2, hcc⟩ := HCC.out
                subst hAk
                have HAB := Lib.hid (HBJ.out.trans (HI.out.above.mono HBJ.out.size))
                have HG2 := Lib.hid (And.intro hg2 hcc)
                generalize flat y 0 = L at *
                obtain ⟨m, hm⟩ : ∃ m, m = L.length := ⟨_, rfl⟩
                rw [← hm] at HOF e0
                clear hm hnd hst HI hg2 hcc HCC hki
                go_wp2_with fail
                refine HOF.out.mono ?_
                rintro e v4 ⟨rfl, hb4⟩
                have HI4 := Lib.hid (HMW.out.on hb4)
                have k4 : v4.cell? ⟨g2, o2 + i, none⟩ = some (.int .u8 (kk : Nat)) := ((HAB.out.trans (hb4.mono HAB.out.size)).cell (p := ⟨g2, o2 + i, none⟩) HG2.out.1).trans HG2.out.2
                clear hb4 e0
                go_wp2_with fail
                refine (HWK.out _ HI4.out).mono ?_
                rintro e vw ⟨rfl, hb⟩
                have IW := Lib.hid (HI4.out.on hb)
                clear hb
                go_wp2
                go_ret
                exact ⟨rfl, IW.out.below⟩
          · have ha' : nd.a ≥ 0 := by omega
            have HZ := Lib.hid (And.intro hza hj')
            have hjj : j' < j := by have := HI.out.2.2.2; omega
            rw [ha] at q3
            clear ha ha' hza hj' hlt
            go_wp2
            go_roundw
            case rel => exact ⟨j', za, rfl, by omega, Lib.hid ⟨HI.out.1, HI.out.2.1, HZ.out.1, HZ.out.2⟩⟩
            case measure => simp [intOf]; omega
      · have he : (kds l ns).1 = [] := by
          unfold kds
          unfold kds at hz
          split
          · rfl
          · rename_i hc
            rw [if_neg hc] at hz
            rcases Ty.kgo_err ns l [] with h | h
            · exact absurd h hz
            · exact h.2
        generalize kds l ns = X at *
        obtain ⟨K, a, z⟩ := X
        simp only at HK1 hz he
        subst he
        have hz1 : (z == 0) = false := by simpa using hz
        have hz2 : (z != 0) = true := by simp [bne, hz1]
        clear T h1 h2 ho1 f1 h0 hz HFA HON HNR hfl
        go_enter Tryz.func11, Tryz.ntmps11
        go_wp2_with fail
        refine (HF1.out _ I0.out).mono ?_
        rintro e v1 ⟨rfl, hb⟩
        have I1 := Lib.hid (I0.out.on hb)
        clear hb
        have k1 := I1.out.at_
        go_wp2_with fail
        refine (HK1.out _ I1.out).mono ?_
        rintro e v2 ⟨vk, hok, rfl, hb⟩
        have I2 := Lib.hid (I1.out.on hb)
        have k1 := I2.out.at_
        obtain ⟨Ak, ck, hvk, _⟩ := own_slice hok
        subst hvk
        clear hb hok
        go_wp2_with fail
        refine (HWK.out _ I2.out).mono ?_
        rintro e vw ⟨rfl, hb⟩
        have IW := Lib.hid (I2.out.on hb)
        clear hb
        go_wp2
        go_ret
        exact ⟨rfl, IW.out.below⟩
  · rw [decide_eq_false f1] at HF1
    clear T h1 h2 ho1 f1
    go_enter Tryz.func11, Tryz.ntmps11
    go_wp2_with fail
    refine (HF1.out _ I0.out).mono ?_
    rintro e v1 ⟨rfl, hb⟩
    have I1 := Lib.hid (I0.out.on hb)
    clear hb
    have k1 := I1.out.at_
    go_wp2_with fail
    refine (HWK.out _ I1.out).mono ?_
    rintro e vw ⟨rfl, hb⟩
    have IW := Lib.hid (I1.out.on hb)
    clear hb
    go_wp2
    go_ret
    exact ⟨rfl, IW.out.below⟩
end Go.Proofs.YtphmheonlndaiaaGreatDoor
