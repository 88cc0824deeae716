/- Layer 6's reference: Put and Parse, walked. Condition: a text's length fits. -/
import Derived.Test.YtbeoobgnpcbnnaaDoorNuRef
import Derived.Test.YtbeoobgnpcbnnaaDoorNuText
import Derived.Laws.BytesArg
namespace Go.Proofs.YtbeoobgnpcbnnaaDoor
open Go.RowKit

def toB (x : Int) : UInt8 := UInt8.ofNat x.toNat
theorem conv1 (w : World) (a : Int) : (convert 54 9 (.slice (some ⟨w.heap.size, 0, none⟩) 1 1)).run Tryd.prog (w.alloc (.cells #[.int .u8 a] 5)) = .ok (.string ⟨#[toB a]⟩) (w.alloc (.cells #[.int .u8 a] 5)) := by
  have h := run_convert_bytes_arg (P := Tryd.prog) (w.alloc (.cells #[.int .u8 a] 5)) 54 5 Tryd.underlying54 Tryd.underlying5 w.heap.size 0 1 1 [a] rfl (fun i hi => by
    obtain rfl : i = 0 := by omega
    exact World.cell?_alloc_mark w #[.int .u8 a] 5 (0, 0) 0) 9 Tryd.underlying9
  exact h
def wr_ (N i : Nat) : List UInt8 := ((Nu.dig N).take i).reverse.map (fun d => UInt8.ofNat (48 + d))
theorem wr_zero (N : Nat) : wr_ N 0 = [] := by simp [wr_]
theorem wr_succ {N i : Nat} (h : i < (Nu.dig N).length) : wr_ N (i + 1) = UInt8.ofNat (48 + N / 10 ^ i % 10) :: wr_ N i := by
  unfold wr_
  rw [List.take_succ_eq_append_getElem h, Nu.dig_get]
  simp
theorem wr_len (N i : Nat) : (wr_ N i).length ≤ i := by unfold wr_; rw [List.length_map, List.length_reverse]; exact List.length_take_le _ _
theorem wr_all (N : Nat) (h : N ≠ 0) : wr_ N (Nu.dig N).length = Lib.decDigits N := by unfold wr_; rw [List.take_length, Nu.dec_dig h]
theorem toB_dig {d : Nat} : toB (48 + (d : Int)) = UInt8.ofNat (48 + d) := by unfold toB; congr 1
set_option maxHeartbeats 4000000 in
set_option maxRecDepth 100000 in
theorem rput_any (n : Int) (w : World) (hn : Nu.fits n) :
    Calls Tryd.prog 26 #[.int .i64 n] w fun e w' => e = .returned (.string ⟨(Lib.itoa n).toArray⟩) ∧ Below w.heap.size w w' := by
  have HO := Lib.hid (of_z w n hn)
  have HN := Lib.hid hn
  obtain ⟨R, hR⟩ : ∃ R : ByteArray, R = ⟨(Lib.itoa n).toArray⟩ := ⟨_, rfl⟩
  rw [← hR]
  have HR := Lib.hid hR
  clear hn hR
  go_enter Tryd.func26, Tryd.ntmps26
  go_wp2_with fail
  refine HO.out.mono ?_
  rintro e w1 ⟨A, c, b, N, rfl, hd, hs, hb⟩
  obtain ⟨W1, hW1⟩ : ∃ W, W = w1.alloc (.cells #[.slice A (Nu.dig N).length c, .bool b] 40) := ⟨_, rfl⟩
  have hb1 : Below w1.heap.size w1 W1 := by rw [hW1]; exact (Below.refl _ _).alloc (Nat.le_refl _) _
  have HK := Lib.hid (show IsBlk W1 w1.heap.size 40 #[.slice A (Nu.dig N).length c, .bool b] by rw [hW1]; exact IsBlk.new _ _ _)
  have HD := Lib.hid (hd.below2 hb1)
  have HB1 := Lib.hid (hb.trans (hb1.mono hb.size))
  have HS := Lib.hid hs
  have hql : (Nu.dig N).length ≤ 19 := lg_len hs (fits_abs HN.out)
  have hqc := hd.len
  obtain ⟨q, hq⟩ : ∃ q, q = (Nu.dig N).length := ⟨_, rfl⟩
  rw [← hq] at hql HK hqc hW1 ⊢
  have HQ := Lib.hid hq
  have HW1 := Lib.hid hW1
  clear hd hs hb hb1 hq hW1
  go_wp2
  rw [← HW1.out]
  go_loopw [4, 5] (fun sv iv wr => ∃ (i : Nat) (S : ByteArray), sv = .string S ∧ iv = .int .i64 i ∧ i ≤ q ∧ S.size ≤ 19 ∧ Hid (S.data.toList = wr_ N i ∧ Below W1.heap.size W1 wr)) (fun _ iv _ => q - (intOf iv).toNat)
  case atStart => exact ⟨0, ⟨#[]⟩, rfl, rfl, Nat.zero_le _, by decide, Lib.hid ⟨by rw [wr_zero], Below.refl _ _⟩⟩
  case round =>
    obtain ⟨i, S, rfl, rfl, hi, hS, HI⟩ := hrel
    have kb := HK.out.below HI.out.2 HK.out.lt
    have k0 := kb.at_ 0
    have k1 := kb.at_ 1
    simp only [List.getElem?_toArray, List.getElem?_cons_zero, List.getElem?_cons_succ] at k0 k1
    clear kb
    by_cases hlt : i < q
    · have hlt' : (i : Int) < (q : Int) := by omega
      have hltd : i < (Nu.dig N).length := by rw [← HQ.out]; exact hlt
      obtain ⟨g, hA, hg, hc⟩ := (HD.out.below2 HI.out.2).get hltd
      subst hA
      have HWS := Lib.hid (wr_succ hltd)
      have hd9 : N / 10 ^ i % 10 < 10 := Nat.mod_lt _ (by decide)
      generalize N / 10 ^ i % 10 = d at *
      have HTB := Lib.hid (toB_dig (d := d))
      have kc := conv1
      have HWL := Lib.hid (wr_len N i)
      have HSS := Lib.hid (show S.size = (wr_ N i).length by rw [Lib.size_eq, HI.out.1])
      have hSi : S.size ≤ i := by rw [HSS.out]; exact HWL.out
      clear hltd
      go_wp2
      go_roundw
      case rel => exact ⟨i + 1, _, rfl, by go_num, hlt, by rw [ByteArray.size_append]; have : (⟨#[toB (48 + (d : Int))]⟩ : ByteArray).size = 1 := rfl; omega, Lib.hid ⟨by
        rw [HWS.out, ← HTB.out, ByteArray.data_append, Array.toList_append, HI.out.1]; rfl, HI.out.2.alloc HI.out.2.size _⟩⟩
      case measure => simp [intOf]; omega
    · obtain rfl : i = q := by omega
      have hlt' : ¬ (i : Int) < (i : Int) := by omega
      have HB := Lib.hid (HB1.out.trans (HI.out.2.mono HB1.out.size))
      by_cases hN0 : N = 0
      · have hSn : S.toList = [] := by
          rw [Lib.toList_data, HI.out.1, show i = 0 by rw [HQ.out, hN0, Nu.dig_zero]; rfl, wr_zero]
        have HE := Lib.hid (show R = ⟨#[48]⟩ by
          rw [HR.out, show n = 0 by rw [← HS.out, hN0]; unfold sg; cases b <;> rfl]
          rw [show Lib.itoa 0 = [48] by unfold Lib.itoa; rw [if_neg (by decide), show (0 : Int).toNat = 0 from rfl, Lib.decDigits]; rfl])
        clear hlt hN0
        go_wp2
        go_ret
        exact ⟨by rw [HE.out]; rfl, HB.out⟩
      · have HSD := Lib.hid (show S.data.toList = Lib.decDigits N by rw [HI.out.1, HQ.out, wr_all N hN0])
        have hSn : S.toList.isEmpty = false := by
          rw [Lib.toList_data, HSD.out]
          cases hh : Lib.decDigits N with
          | nil => exact absurd hh (Nu.dec_mag N).2.2.1
          | cons _ _ => rfl
        cases b with
        | true =>
          have HE := Lib.hid (show R = ⟨#[45]⟩ ++ S by
            refine HR.out.trans (ba_eq ?_)
            rw [data_mk, ByteArray.data_append, Array.toList_append, HSD.out]
            have h1 := HS.out
            unfold sg at h1
            simp at h1
            unfold Lib.itoa
            rw [if_pos (by omega), show n.natAbs = N by omega]; rfl)
          clear hlt hN0
          go_wp2
          go_ret
          exact ⟨by rw [HE.out]; rfl, HB.out⟩
        | false =>
          have HE := Lib.hid (show R = S by
            refine HR.out.trans (ba_eq ?_)
            rw [data_mk, HSD.out]
            have h1 := HS.out
            unfold sg at h1
            simp at h1
            unfold Lib.itoa
            rw [if_neg (by omega), show n.toNat = N by omega])
          clear hlt hN0
          go_wp2
          go_ret
          exact ⟨by rw [HE.out]; rfl, HB.out⟩

def dgs (l : List UInt8) : List Nat := l.reverse.map fun c => c.toNat - 48
theorem dgs_cons (c : UInt8) (r : List UInt8) : dgs (c :: r) = dgs r ++ [c.toNat - 48] := by unfold dgs; simp
theorem dgs_val (l : List UInt8) : Nu.val (dgs l) = Nu.magF 0 l := by
  induction hn : l.length using Nat.strongRecOn generalizing l with
  | _ n ih =>
    by_cases hne : l = []
    · subst hne; rw [Nu.magF_nil]; rfl
    · obtain ⟨m, c, rfl⟩ : ∃ m c, l = m ++ [c] := ⟨l.dropLast, l.getLast hne, (List.dropLast_concat_getLast hne).symm⟩
      rw [Nu.magF_app, Nu.magF_cons, Nu.magF_nil]
      have h1 : dgs (m ++ [c]) = (c.toNat - 48) :: dgs m := by unfold dgs; simp
      rw [h1]
      simp only [Nu.val]
      rw [ih m.length (by rw [← hn]; simp) m rfl]
      omega
theorem dgs_lt {l : List UInt8} (h : Nu.allDg l = true) : ∀ d ∈ dgs l, d < 10 := fun d hd => by
  unfold dgs at hd
  obtain ⟨c, hc, rfl⟩ := List.mem_map.1 hd
  have := List.all_eq_true.1 h c (List.mem_reverse.1 hc)
  have := of_decide_eq_true this
  omega
theorem dgs_len (l : List UInt8) : (dgs l).length = l.length := by unfold dgs; simp
theorem mag_len {l : List UInt8} (h : Nu.allDg l = true) : (Nu.dig (Nu.magF 0 l)).length ≤ l.length := by
  rw [← dgs_val]
  refine Nu.dig_len_le ?_
  have := Nu.val_lt (dgs_lt h)
  rwa [dgs_len] at this
structure RpI (w : World) (D : List UInt8) (k : Nat) (v : Value) (wr : World) : Prop where
  below : Below w.heap.size w wr
  own : OwnD w.heap.size wr v (dgs (D.drop k))
  all : Nu.allDg (D.drop k) = true
set_option maxHeartbeats 4000000 in
set_option maxRecDepth 100000 in
theorem rparse_plain (D : ByteArray) (w : World) (hs : D.size ≤ 400) (hb : Nu.below D.data.toList = false) (hne : D.size ≠ 0) (h48 : (D.data.toList.head? = some 48) → D.size = 1) :
    Calls Tryd.prog 24 #[.string D] w fun e w' => e = .returned (tv (Nu.prs D.data.toList)) ∧ Below w.heap.size w w' := by
  have HDL := Lib.hid (Lib.size_eq D)
  obtain ⟨R, hR⟩ : ∃ R, R = Nu.prs D.data.toList := ⟨_, rfl⟩
  rw [← hR]
  have hpos : 0 < D.size := by omega
  have HH := Lib.hid (show D.data.toList.head? = some D[0] by
    have : 0 < D.data.toList.length := by rw [← HDL.out]; exact hpos
    rw [List.head?_eq_getElem?, List.getElem?_eq_getElem this]
    rfl)
  have HRR := Lib.hid (show R = if Nu.allDg D.data.toList then Nu.tell (sg false (Nu.magF 0 D.data.toList)) else (0, 2) by
    rw [hR]
    unfold Nu.prs Nu.worth
    have hw : Nu.isW D.data.toList = Nu.allDg D.data.toList := by
      unfold Nu.isW
      rw [Nu.strip_other hb]
      by_cases h0 : D.data.toList.head? = some 48
      · have h1 : D.data.toList = [48] := by
          have h2 := h48 h0
          rw [Lib.size_eq] at h2
          obtain ⟨a, ha⟩ := List.length_eq_one_iff.1 h2
          rw [ha] at h0 ⊢
          simp at h0
          rw [h0]
        rw [h1]; decide
      · have h2 : (D.data.toList == [48]) = false := by
          rw [beq_eq_false_iff_ne]; intro e; rw [e] at h0; exact h0 rfl
        have h3 : D.data.toList.isEmpty = false := by
          cases hh : D.data.toList with
          | nil => have h1 := HDL.out; rw [hh] at h1; exact absurd h1 hne
          | cons _ _ => rfl
        rw [h2, show (D.data.toList.head? != some 48) = true by simpa using h0, h3]
        simp
    rw [hw, hb, Nu.strip_other hb]
    rfl)
  have hDn : D.toList.isEmpty = false := by
    rw [Lib.toList_data]
    cases hh : D.data.toList with
    | nil => have h1 := HDL.out; rw [hh] at h1; exact absurd h1 hne
    | cons _ _ => rfl
  have hm1 : ((D[0].toNat : Int) == 45) = false := by
    rw [beq_eq_false_iff_ne]
    intro e
    have h1 : D[0] = 45 := UInt8.toNat_inj.1 (by show D[0].toNat = 45; omega)
    unfold Nu.below at hb
    rw [HH.out, h1] at hb
    exact absurd hb (by decide)
  by_cases hz : (D[0].toNat : Int) = 48
  · have hz' : ((D[0].toNat : Int) == 48) = true := beq_iff_eq.2 hz
    have h1 : D.size = 1 := h48 (by rw [HH.out]; exact congrArg some (UInt8.toNat_inj.1 (by show D[0].toNat = 48; omega)))
    have h1' : ¬ (D.size : Int) > 1 := by omega
    clear hz hR hne h1 h48 hb
    go_enter Tryd.func24, Tryd.ntmps24
    go_wp2
    go_loopw [5, 6] (fun v iv wr => ∃ k : Nat, iv = .int .i64 ((k : Int) - 1) ∧ k ≤ D.size ∧ Hid (RpI w D.data.toList k v wr)) (fun _ iv _ => (intOf iv + 1).toNat)
    case atStart => exact ⟨D.size, rfl, Nat.le_refl _, Lib.hid (RpI.mk (Below.refl _ _) (by rw [HDL.out, List.drop_length]; unfold OwnD; exact World.ownsRow_nil _ _ _ _) (by rw [HDL.out, List.drop_length]; rfl))⟩
    case round =>
      obtain ⟨k, rfl, hk, HI⟩ := hrel
      obtain ⟨Av, cv, hv, _, _, _, _⟩ := own_slice HI.out.own
      subst hv
      obtain ⟨m, hm⟩ : ∃ m, m = (dgs (D.data.toList.drop k)).length := ⟨_, rfl⟩
      have hll : m ≤ D.size := by rw [hm, dgs_len, List.length_drop, ← HDL.out]; omega
      rw [← hm]
      have HM := Lib.hid hm
      clear hm
      rcases k with _ | k
      · have hneg : ¬ ((0 : Nat) : Int) - 1 ≥ 0 := by omega
        have HA := Lib.hid (show Nu.allDg D.data.toList = true from by have h1 := HI.out.all; rwa [List.drop_zero] at h1)
        have HOW := Lib.hid (show OwnD w.heap.size wr (.slice Av m cv) (dgs D.data.toList) from by have h1 := HI.out.own; rw [← HM.out, List.drop_zero] at h1; exact h1)
        have HM0 := Lib.hid (show m = (dgs D.data.toList).length by have h1 := HM.out; rwa [List.drop_zero] at h1)
        have HE := Lib.hid (show R = Nu.tell (sg false (Nu.magF 0 D.data.toList)) by rw [HRR.out, HA.out]; rfl)
        have HT := Lib.hid (trim_any wr Av cv (dgs D.data.toList) (HOW.out.dr).2 (dgs_lt HA.out) (by rw [dgs_len, ← HDL.out]; omega))
        rw [dgs_val, ← HM0.out] at HT
        have HML := Lib.hid (mag_len HA.out)
        have HB := Lib.hid HI.out.below
        go_wp2_with fail
        refine HT.out.mono ?_
        rintro e w1 ⟨A1, c1, rfl, hd1, rfl⟩
        have HTO := Lib.hid (told_any wr A1 c1 _ false hd1 (Nat.le_trans HML.out (by rw [← HDL.out]; omega)))
        unfold tv at HTO
        rw [← HE.out] at HTO
        clear hd1
        go_wp2_with fail
        refine HTO.out.mono ?_
        rintro e w2 ⟨rfl, h2⟩
        have HB2 := Lib.hid (HB.out.trans (h2.mono HB.out.size))
        clear h2
        go_wp2
        go_ret2
        exact ⟨rfl, HB2.out⟩
      · have hlt : k < D.size := by omega
        have e0 : ((k + 1 : Nat) : Int) - 1 = (k : Int) := by omega
        rw [e0]
        have hkl : k < D.data.toList.length := by rw [← HDL.out]; exact hlt
        have HDR := Lib.hid (show D.data.toList.drop k = D[k] :: D.data.toList.drop (k + 1) by rw [List.drop_eq_getElem_cons hkl]; rfl)
        have HAL := Lib.hid (show Nu.allDg D.data.toList = true → 48 ≤ (D[k].toNat : Int) ∧ (D[k].toNat : Int) ≤ 57 from fun h => by
          have h1 := List.all_eq_true.1 h D[k] (by
            have : D[k] ∈ D.data.toList.drop k := by rw [HDR.out]; exact List.mem_cons_self ..
            exact List.mem_of_mem_drop this)
          have := of_decide_eq_true h1
          omega)
        have HBAD := Lib.hid (show ¬ (48 ≤ (D[k].toNat : Int) ∧ (D[k].toNat : Int) ≤ 57) → R = (0, 2) from fun h => by
          rw [HRR.out]
          cases hh : Nu.allDg D.data.toList with
          | false => rfl
          | true => exact absurd (HAL.out hh) h)
        have hkD : (k : Int) < (D.size : Int) := by omega
        have HB := Lib.hid HI.out.below
        clear e0
        by_cases h1 : (D[k].toNat : Int) < 48
        · have HE := Lib.hid (HBAD.out (by omega))
          go_wp2
          go_ret2
          exact ⟨by rw [HE.out]; rfl, HB.out⟩
        · by_cases h2 : (D[k].toNat : Int) > 57
          · have HE := Lib.hid (HBAD.out (by omega))
            go_wp2
            go_ret2
            exact ⟨by rw [HE.out]; rfl, HB.out⟩
          · obtain ⟨i0, hi0, hz0, hz1, hz2⟩ := info_parts infoInt
            have HNX := Lib.hid (fun (v' : Value) (w' : World) (hb : Below w.heap.size w w') (ho : OwnD w.heap.size w' v' (dgs (D.data.toList.drop (k + 1)) ++ [D[k].toNat - 48])) => show RpI w D.data.toList k v' w' from
              ⟨hb, by rw [HDR.out, dgs_cons]; exact ho, by rw [HDR.out]; unfold Nu.allDg; rw [List.all_cons, show Nu.isDg D[k] = true from decide_eq_true (by omega)]; exact HI.out.all⟩)
            obtain ⟨d, hd⟩ : ∃ d, d = D[k].toNat - 48 := ⟨_, rfl⟩
            rw [← hd] at HNX
            have HD := Lib.hid (show (D[k].toNat : Int) - 48 = (d : Int) by omega)
            obtain ⟨L, hL⟩ : ∃ L, L = dgs (D.data.toList.drop (k + 1)) := ⟨_, rfl⟩
            rw [← hL] at HNX
            have hLm : m = L.length := by rw [hL]; exact HM.out
            rw [hLm] at hll ⊢
            have HO := Lib.hid (show wr.ownsRow w.heap.size 3 1 (.slice Av L.length cv) L.length (intsV L) from by rw [hL]; exact HI.out.own)
            have hws : w.heap.size ≤ wr.heap.size := HB.out.size
            have HBW := Lib.hid HB.out
            have hbig : L.length + 1 ≤ maxLen := by unfold maxLen; omega
            clear hd hL hLm
            go_wp2_with (at_builtin; (refine wpList_append_own _ rfl _ _ _ rfl w.heap.size 3 i0 _ 1 8 Tryd.underlying38 hi0 hz0 hz1 hz2 rfl (by omega) (.slice Av L.length cv) L.length (intsV L) (by rfl) (by exact HO.out.alloc _) _ 1 _ [.int .i64 ((D[k].toNat : Int) - 48)] (by rfl) rfl (by intro j u hu; exact news_at _ _ _ _ (by simp) j u hu) (by intro u hu; simp at hu; subst hu; rfl) hbig (by omega) (by simp; omega) ?_); intro v3 w3 hown3 hgr3 _; obtain ⟨A3, c3, hv3, _, _, _, _⟩ := own_slice hown3; subst hv3; have B3 := Lib.hid (HBW.out.trans (Below.grown ((Below.refl w.heap.size wr).alloc hws _) hgr3 (by simp; omega) (fun k hk => (HO.out.lt k hk).1))); have H3 := Lib.hid hown3; clear hown3 hgr3)
            go_roundw
            case rel => exact ⟨k, rfl, by omega, Lib.hid (HNX.out _ _ B3.out (by unfold OwnD; rw [List.length_append, ← intsV_snoc]; have h4 := H3.out; rw [HD.out] at h4; exact h4))⟩
            case measure => simp [intOf]
  · have hz' : ((D[0].toNat : Int) == 48) = false := beq_eq_false_iff_ne.2 hz
    clear hz hR hne h48 hb
    go_enter Tryd.func24, Tryd.ntmps24
    go_wp2
    go_loopw [5, 6] (fun v iv wr => ∃ k : Nat, iv = .int .i64 ((k : Int) - 1) ∧ k ≤ D.size ∧ Hid (RpI w D.data.toList k v wr)) (fun _ iv _ => (intOf iv + 1).toNat)
    case atStart => exact ⟨D.size, rfl, Nat.le_refl _, Lib.hid (RpI.mk (Below.refl _ _) (by rw [HDL.out, List.drop_length]; unfold OwnD; exact World.ownsRow_nil _ _ _ _) (by rw [HDL.out, List.drop_length]; rfl))⟩
    case round =>
      obtain ⟨k, rfl, hk, HI⟩ := hrel
      obtain ⟨Av, cv, hv, _, _, _, _⟩ := own_slice HI.out.own
      subst hv
      obtain ⟨m, hm⟩ : ∃ m, m = (dgs (D.data.toList.drop k)).length := ⟨_, rfl⟩
      have hll : m ≤ D.size := by rw [hm, dgs_len, List.length_drop, ← HDL.out]; omega
      rw [← hm]
      have HM := Lib.hid hm
      clear hm
      rcases k with _ | k
      · have hneg : ¬ ((0 : Nat) : Int) - 1 ≥ 0 := by omega
        have HA := Lib.hid (show Nu.allDg D.data.toList = true from by have h1 := HI.out.all; rwa [List.drop_zero] at h1)
        have HOW := Lib.hid (show OwnD w.heap.size wr (.slice Av m cv) (dgs D.data.toList) from by have h1 := HI.out.own; rw [← HM.out, List.drop_zero] at h1; exact h1)
        have HM0 := Lib.hid (show m = (dgs D.data.toList).length by have h1 := HM.out; rwa [List.drop_zero] at h1)
        have HE := Lib.hid (show R = Nu.tell (sg false (Nu.magF 0 D.data.toList)) by rw [HRR.out, HA.out]; rfl)
        have HT := Lib.hid (trim_any wr Av cv (dgs D.data.toList) (HOW.out.dr).2 (dgs_lt HA.out) (by rw [dgs_len, ← HDL.out]; omega))
        rw [dgs_val, ← HM0.out] at HT
        have HML := Lib.hid (mag_len HA.out)
        have HB := Lib.hid HI.out.below
        go_wp2_with fail
        refine HT.out.mono ?_
        rintro e w1 ⟨A1, c1, rfl, hd1, rfl⟩
        have HTO := Lib.hid (told_any wr A1 c1 _ false hd1 (Nat.le_trans HML.out (by rw [← HDL.out]; omega)))
        unfold tv at HTO
        rw [← HE.out] at HTO
        clear hd1
        go_wp2_with fail
        refine HTO.out.mono ?_
        rintro e w2 ⟨rfl, h2⟩
        have HB2 := Lib.hid (HB.out.trans (h2.mono HB.out.size))
        clear h2
        go_wp2
        go_ret2
        exact ⟨rfl, HB2.out⟩
      · have hlt : k < D.size := by omega
        have e0 : ((k + 1 : Nat) : Int) - 1 = (k : Int) := by omega
        rw [e0]
        have hkl : k < D.data.toList.length := by rw [← HDL.out]; exact hlt
        have HDR := Lib.hid (show D.data.toList.drop k = D[k] :: D.data.toList.drop (k + 1) by rw [List.drop_eq_getElem_cons hkl]; rfl)
        have HAL := Lib.hid (show Nu.allDg D.data.toList = true → 48 ≤ (D[k].toNat : Int) ∧ (D[k].toNat : Int) ≤ 57 from fun h => by
          have h1 := List.all_eq_true.1 h D[k] (by
            have : D[k] ∈ D.data.toList.drop k := by rw [HDR.out]; exact List.mem_cons_self ..
            exact List.mem_of_mem_drop this)
          have := of_decide_eq_true h1
          omega)
        have HBAD := Lib.hid (show ¬ (48 ≤ (D[k].toNat : Int) ∧ (D[k].toNat : Int) ≤ 57) → R = (0, 2) from fun h => by
          rw [HRR.out]
          cases hh : Nu.allDg D.data.toList with
          | false => rfl
          | true => exact absurd (HAL.out hh) h)
        have hkD : (k : Int) < (D.size : Int) := by omega
        have HB := Lib.hid HI.out.below
        clear e0
        by_cases h1 : (D[k].toNat : Int) < 48
        · have HE := Lib.hid (HBAD.out (by omega))
          go_wp2
          go_ret2
          exact ⟨by rw [HE.out]; rfl, HB.out⟩
        · by_cases h2 : (D[k].toNat : Int) > 57
          · have HE := Lib.hid (HBAD.out (by omega))
            go_wp2
            go_ret2
            exact ⟨by rw [HE.out]; rfl, HB.out⟩
          · obtain ⟨i0, hi0, hz0, hz1, hz2⟩ := info_parts infoInt
            have HNX := Lib.hid (fun (v' : Value) (w' : World) (hb : Below w.heap.size w w') (ho : OwnD w.heap.size w' v' (dgs (D.data.toList.drop (k + 1)) ++ [D[k].toNat - 48])) => show RpI w D.data.toList k v' w' from
              ⟨hb, by rw [HDR.out, dgs_cons]; exact ho, by rw [HDR.out]; unfold Nu.allDg; rw [List.all_cons, show Nu.isDg D[k] = true from decide_eq_true (by omega)]; exact HI.out.all⟩)
            obtain ⟨d, hd⟩ : ∃ d, d = D[k].toNat - 48 := ⟨_, rfl⟩
            rw [← hd] at HNX
            have HD := Lib.hid (show (D[k].toNat : Int) - 48 = (d : Int) by omega)
            obtain ⟨L, hL⟩ : ∃ L, L = dgs (D.data.toList.drop (k + 1)) := ⟨_, rfl⟩
            rw [← hL] at HNX
            have hLm : m = L.length := by rw [hL]; exact HM.out
            rw [hLm] at hll ⊢
            have HO := Lib.hid (show wr.ownsRow w.heap.size 3 1 (.slice Av L.length cv) L.length (intsV L) from by rw [hL]; exact HI.out.own)
            have hws : w.heap.size ≤ wr.heap.size := HB.out.size
            have HBW := Lib.hid HB.out
            have hbig : L.length + 1 ≤ maxLen := by unfold maxLen; omega
            clear hd hL hLm
            go_wp2_with (at_builtin; (refine wpList_append_own _ rfl _ _ _ rfl w.heap.size 3 i0 _ 1 8 Tryd.underlying38 hi0 hz0 hz1 hz2 rfl (by omega) (.slice Av L.length cv) L.length (intsV L) (by rfl) (by exact HO.out.alloc _) _ 1 _ [.int .i64 ((D[k].toNat : Int) - 48)] (by rfl) rfl (by intro j u hu; exact news_at _ _ _ _ (by simp) j u hu) (by intro u hu; simp at hu; subst hu; rfl) hbig (by omega) (by simp; omega) ?_); intro v3 w3 hown3 hgr3 _; obtain ⟨A3, c3, hv3, _, _, _, _⟩ := own_slice hown3; subst hv3; have B3 := Lib.hid (HBW.out.trans (Below.grown ((Below.refl w.heap.size wr).alloc hws _) hgr3 (by simp; omega) (fun k hk => (HO.out.lt k hk).1))); have H3 := Lib.hid hown3; clear hown3 hgr3)
            go_roundw
            case rel => exact ⟨k, rfl, by omega, Lib.hid (HNX.out _ _ B3.out (by unfold OwnD; rw [List.length_append, ← intsV_snoc]; have h4 := H3.out; rw [HD.out] at h4; exact h4))⟩
            case measure => simp [intOf]

theorem head0 {D : ByteArray} (hpos : 0 < D.size) : D.data.toList.head? = some D[0] := by
  have : 0 < D.data.toList.length := by rw [← Lib.size_eq]; exact hpos
  rw [List.head?_eq_getElem?, List.getElem?_eq_getElem this]
  rfl
theorem nempty {D : ByteArray} (hne : D.size ≠ 0) : D.data.toList.isEmpty = false := by
  cases hh : D.data.toList with
  | nil => have h1 := Lib.size_eq D; rw [hh] at h1; exact absurd h1 hne
  | cons _ _ => rfl
theorem empty_ {D : ByteArray} (h : D.size = 0) : D.data.toList = [] := List.length_eq_zero_iff.1 (by rw [← Lib.size_eq]; exact h)
set_option maxHeartbeats 4000000 in
set_option maxRecDepth 100000 in
/-- No writing: nothing, or a nought ahead of more. -/
theorem rparse_bad (D : ByteArray) (w : World) (hb : Nu.below D.data.toList = false) (h : D.size = 0 ∨ (D.data.toList.head? = some 48 ∧ D.size ≠ 1)) :
    Calls Tryd.prog 24 #[.string D] w fun e w' => e = .returned (tv (Nu.prs D.data.toList)) ∧ Below w.heap.size w w' := by
  have HE := Lib.hid (show Nu.prs D.data.toList = (0, 2) by
    unfold Nu.prs
    rw [show Nu.isW D.data.toList = false by
      unfold Nu.isW
      rw [Nu.strip_other hb]
      rcases h with h | ⟨h, h1⟩
      · rw [empty_ h]; rfl
      · rw [show (D.data.toList == [48]) = false from beq_eq_false_iff_ne.2 (fun e => h1 (by rw [Lib.size_eq, e]; rfl)), show (D.data.toList.head? != some 48) = false by rw [h]; rfl]
        simp]
    rfl)
  obtain ⟨R, hR⟩ : ∃ R, R = Nu.prs D.data.toList := ⟨_, rfl⟩
  rw [← hR] at HE ⊢
  clear hR
  by_cases h0 : D.size = 0
  · have hDn : D.toList = [] := by rw [Lib.toList_data]; exact empty_ h0
    clear h h0 hb
    go_enter Tryd.func24, Tryd.ntmps24
    go_wp2
    go_ret2
    exact ⟨by rw [HE.out]; rfl, Below.refl _ _⟩
  · obtain ⟨h48, h1⟩ := h.resolve_left h0
    have hDn : D.toList.isEmpty = false := by rw [Lib.toList_data]; exact nempty h0
    have hpos : 0 < D.size := by omega
    have hh := head0 hpos
    rw [h48] at hh
    injection hh with hh
    have hz : ((D[0].toNat : Int) == 48) = true := by rw [← hh]; rfl
    have hm : ((D[0].toNat : Int) == 45) = false := by rw [← hh]; rfl
    have hbig : (D.size : Int) > 1 := by omega
    clear h h0 hb h48 hh h1
    go_enter Tryd.func24, Tryd.ntmps24
    go_wp2
    go_ret2
    exact ⟨by rw [HE.out]; rfl, Below.refl _ _⟩
set_option maxHeartbeats 4000000 in
set_option maxRecDepth 100000 in
/-- Behind a minus. -/
theorem rparse_minus (s : ByteArray) (w : World) (hs : s.size ≤ 400) (hb : Nu.below s.data.toList = true) :
    Calls Tryd.prog 24 #[.string s] w fun e w' => e = .returned (tv (Nu.prs s.data.toList)) ∧ Below w.heap.size w w' := by
  have hsz0 : s.size ≠ 0 := fun h => by rw [empty_ h] at hb; cases hb
  have hsn : s.toList.isEmpty = false := by rw [Lib.toList_data]; exact nempty hsz0
  have hspos : 0 < s.size := by omega
  have hs1 : (1 : Int) ≤ (s.size : Int) := by omega
  have hm1 : ((s[0].toNat : Int) == 45) = true := by
    have h1 := head0 hspos
    unfold Nu.below at hb
    rw [h1] at hb
    have h2 : s[0] = 45 := by simpa using hb
    rw [h2]; rfl
  obtain ⟨D, hD⟩ : ∃ D, s.extract 1 s.size = D := ⟨_, rfl⟩
  have hDD : D.data.toList = Nu.strip s.data.toList := by
    rw [← hD, Lib.extract_to_end]
    have h1 := Nu.strip_minus hb
    conv => lhs; rw [h1]
    rfl
  have hDs : D.size ≤ 400 := by rw [← hD, ByteArray.size_extract]; omega
  have HDL := Lib.hid (Lib.size_eq D)
  obtain ⟨R, hR⟩ : ∃ R, R = Nu.prs s.data.toList := ⟨_, rfl⟩
  rw [← hR]
  have hw : Nu.isW s.data.toList = (!D.data.toList.isEmpty && D.data.toList.head? != some 48 && Nu.allDg D.data.toList) := by
    unfold Nu.isW
    rw [hDD, show (s.data.toList == [48]) = false from beq_eq_false_iff_ne.2 (fun e => by rw [e] at hb; cases hb)]
    rfl
  have hRv : R = if (!D.data.toList.isEmpty && D.data.toList.head? != some 48 && Nu.allDg D.data.toList) then Nu.tell (sg true (Nu.magF 0 D.data.toList)) else (0, 2) := by
    rw [hR]
    unfold Nu.prs
    rw [hw, Nu.worth_b hb, hDD]
    rfl
  clear hw hDD hR hb hsz0
  by_cases h0 : D.size = 0
  · have hDn : D.toList = [] := by rw [Lib.toList_data]; exact empty_ h0
    have HE := Lib.hid (show R = (0, 2) by rw [hRv, empty_ h0]; rfl)
    clear h0 hRv
    go_enter Tryd.func24, Tryd.ntmps24
    go_wp2
    go_ret2
    exact ⟨by rw [HE.out]; rfl, Below.refl _ _⟩
  · have hDn : D.toList.isEmpty = false := by rw [Lib.toList_data]; exact nempty h0
    have hpos : 0 < D.size := by omega
    have hh := head0 hpos
    by_cases hz : (D[0].toNat : Int) = 48
    · have hz' : ((D[0].toNat : Int) == 48) = true := beq_iff_eq.2 hz
      have HE := Lib.hid (show R = (0, 2) by
        rw [hRv, hh, show D[0] = 48 from UInt8.toNat_inj.1 (by show D[0].toNat = 48; omega)]
        simp)
      clear h0 hRv hh hz
      by_cases hbig : (D.size : Int) > 1
      ·
        go_enter Tryd.func24, Tryd.ntmps24
        go_wp2
        go_ret2
        exact ⟨by rw [HE.out]; rfl, Below.refl _ _⟩
      ·
        go_enter Tryd.func24, Tryd.ntmps24
        go_wp2
        go_ret2
        exact ⟨by rw [HE.out]; rfl, Below.refl _ _⟩
    · have hz' : ((D[0].toNat : Int) == 48) = false := beq_eq_false_iff_ne.2 hz
      have HRR := Lib.hid (show R = if Nu.allDg D.data.toList then Nu.tell (sg true (Nu.magF 0 D.data.toList)) else (0, 2) by
        rw [hRv, nempty h0, hh, show (some D[0] != some (48 : UInt8)) = true by
          simp only [bne_iff_ne, ne_eq, Option.some.injEq]
          intro e; rw [e] at hz; exact hz rfl]
        rfl)
      clear h0 hRv hh hz hs
      go_enter Tryd.func24, Tryd.ntmps24
      go_wp2
      go_loopw [5, 6] (fun v iv wr => ∃ k : Nat, iv = .int .i64 ((k : Int) - 1) ∧ k ≤ D.size ∧ Hid (RpI w D.data.toList k v wr)) (fun _ iv _ => (intOf iv + 1).toNat)
      case atStart => exact ⟨D.size, rfl, Nat.le_refl _, Lib.hid (RpI.mk (Below.refl _ _) (by rw [HDL.out, List.drop_length]; unfold OwnD; exact World.ownsRow_nil _ _ _ _) (by rw [HDL.out, List.drop_length]; rfl))⟩
      case round =>
        obtain ⟨k, rfl, hk, HI⟩ := hrel
        obtain ⟨Av, cv, hv, _, _, _, _⟩ := own_slice HI.out.own
        subst hv
        obtain ⟨m, hm⟩ : ∃ m, m = (dgs (D.data.toList.drop k)).length := ⟨_, rfl⟩
        have hll : m ≤ D.size := by rw [hm, dgs_len, List.length_drop, ← HDL.out]; omega
        rw [← hm]
        have HM := Lib.hid hm
        clear hm
        rcases k with _ | k
        · have hneg : ¬ ((0 : Nat) : Int) - 1 ≥ 0 := by omega
          have HA := Lib.hid (show Nu.allDg D.data.toList = true from by have h1 := HI.out.all; rwa [List.drop_zero] at h1)
          have HOW := Lib.hid (show OwnD w.heap.size wr (.slice Av m cv) (dgs D.data.toList) from by have h1 := HI.out.own; rw [← HM.out, List.drop_zero] at h1; exact h1)
          have HM0 := Lib.hid (show m = (dgs D.data.toList).length by have h1 := HM.out; rwa [List.drop_zero] at h1)
          have HE := Lib.hid (show R = Nu.tell (sg true (Nu.magF 0 D.data.toList)) by rw [HRR.out, HA.out]; rfl)
          have HT := Lib.hid (trim_any wr Av cv (dgs D.data.toList) (HOW.out.dr).2 (dgs_lt HA.out) (by rw [dgs_len, ← HDL.out]; omega))
          rw [dgs_val, ← HM0.out] at HT
          have HML := Lib.hid (mag_len HA.out)
          have HB := Lib.hid HI.out.below
          go_wp2_with fail
          refine HT.out.mono ?_
          rintro e w1 ⟨A1, c1, rfl, hd1, rfl⟩
          have HTO := Lib.hid (told_any wr A1 c1 _ true hd1 (Nat.le_trans HML.out (by rw [← HDL.out]; omega)))
          unfold tv at HTO
          rw [← HE.out] at HTO
          clear hd1
          go_wp2_with fail
          refine HTO.out.mono ?_
          rintro e w2 ⟨rfl, h2⟩
          have HB2 := Lib.hid (HB.out.trans (h2.mono HB.out.size))
          clear h2
          go_wp2
          go_ret2
          exact ⟨rfl, HB2.out⟩
        · have hlt : k < D.size := by omega
          have e0 : ((k + 1 : Nat) : Int) - 1 = (k : Int) := by omega
          rw [e0]
          have hkl : k < D.data.toList.length := by rw [← HDL.out]; exact hlt
          have HDR := Lib.hid (show D.data.toList.drop k = D[k] :: D.data.toList.drop (k + 1) by rw [List.drop_eq_getElem_cons hkl]; rfl)
          have HAL := Lib.hid (show Nu.allDg D.data.toList = true → 48 ≤ (D[k].toNat : Int) ∧ (D[k].toNat : Int) ≤ 57 from fun h => by
            have h1 := List.all_eq_true.1 h D[k] (by
              have : D[k] ∈ D.data.toList.drop k := by rw [HDR.out]; exact List.mem_cons_self ..
              exact List.mem_of_mem_drop this)
            have := of_decide_eq_true h1
            omega)
          have HBAD := Lib.hid (show ¬ (48 ≤ (D[k].toNat : Int) ∧ (D[k].toNat : Int) ≤ 57) → R = (0, 2) from fun h => by
            rw [HRR.out]
            cases hh : Nu.allDg D.data.toList with
            | false => rfl
            | true => exact absurd (HAL.out hh) h)
          have hkD : (k : Int) < (D.size : Int) := by omega
          have HB := Lib.hid HI.out.below
          clear e0
          by_cases h1 : (D[k].toNat : Int) < 48
          · have HE := Lib.hid (HBAD.out (by omega))
            go_wp2
            go_ret2
            exact ⟨by rw [HE.out]; rfl, HB.out⟩
          · by_cases h2 : (D[k].toNat : Int) > 57
            · have HE := Lib.hid (HBAD.out (by omega))
              go_wp2
              go_ret2
              exact ⟨by rw [HE.out]; rfl, HB.out⟩
            · obtain ⟨i0, hi0, hz0, hz1, hz2⟩ := info_parts infoInt
              have HNX := Lib.hid (fun (v' : Value) (w' : World) (hb : Below w.heap.size w w') (ho : OwnD w.heap.size w' v' (dgs (D.data.toList.drop (k + 1)) ++ [D[k].toNat - 48])) => show RpI w D.data.toList k v' w' from
                ⟨hb, by rw [HDR.out, dgs_cons]; exact ho, by rw [HDR.out]; unfold Nu.allDg; rw [List.all_cons, show Nu.isDg D[k] = true from decide_eq_true (by omega)]; exact HI.out.all⟩)
              obtain ⟨d, hd⟩ : ∃ d, d = D[k].toNat - 48 := ⟨_, rfl⟩
              rw [← hd] at HNX
              have HD := Lib.hid (show (D[k].toNat : Int) - 48 = (d : Int) by omega)
              obtain ⟨L, hL⟩ : ∃ L, L = dgs (D.data.toList.drop (k + 1)) := ⟨_, rfl⟩
              rw [← hL] at HNX
              have hLm : m = L.length := by rw [hL]; exact HM.out
              rw [hLm] at hll ⊢
              have HO := Lib.hid (show wr.ownsRow w.heap.size 3 1 (.slice Av L.length cv) L.length (intsV L) from by rw [hL]; exact HI.out.own)
              have hws : w.heap.size ≤ wr.heap.size := HB.out.size
              have HBW := Lib.hid HB.out
              have hbig : L.length + 1 ≤ maxLen := by unfold maxLen; omega
              clear hd hL hLm
              go_wp2_with (at_builtin; (refine wpList_append_own _ rfl _ _ _ rfl w.heap.size 3 i0 _ 1 8 Tryd.underlying38 hi0 hz0 hz1 hz2 rfl (by omega) (.slice Av L.length cv) L.length (intsV L) (by rfl) (by exact HO.out.alloc _) _ 1 _ [.int .i64 ((D[k].toNat : Int) - 48)] (by rfl) rfl (by intro j u hu; exact news_at _ _ _ _ (by simp) j u hu) (by intro u hu; simp at hu; subst hu; rfl) hbig (by omega) (by simp; omega) ?_); intro v3 w3 hown3 hgr3 _; obtain ⟨A3, c3, hv3, _, _, _, _⟩ := own_slice hown3; subst hv3; have B3 := Lib.hid (HBW.out.trans (Below.grown ((Below.refl w.heap.size wr).alloc hws _) hgr3 (by simp; omega) (fun k hk => (HO.out.lt k hk).1))); have H3 := Lib.hid hown3; clear hown3 hgr3)
              go_roundw
              case rel => exact ⟨k, rfl, by omega, Lib.hid (HNX.out _ _ B3.out (by unfold OwnD; rw [List.length_append, ← intsV_snoc]; have h4 := H3.out; rw [HD.out] at h4; exact h4))⟩
              case measure => simp [intOf]
theorem rparse_any (s : ByteArray) (w : World) (hs : s.size ≤ 400) :
    Calls Tryd.prog 24 #[.string s] w fun e w' => e = .returned (tv (Nu.prs s.data.toList)) ∧ Below w.heap.size w w' := by
  cases hb : Nu.below s.data.toList with
  | true => exact rparse_minus s w hs hb
  | false =>
    by_cases h0 : s.size = 0
    · exact rparse_bad s w hb (Or.inl h0)
    · by_cases h48 : s.data.toList.head? = some 48 ∧ s.size ≠ 1
      · exact rparse_bad s w hb (Or.inr h48)
      · exact rparse_plain s w hs hb h0 (fun h => by
          by_cases h1 : s.size = 1
          · exact h1
          · exact absurd ⟨h, h1⟩ h48)
end Go.Proofs.YtbeoobgnpcbnnaaDoor
