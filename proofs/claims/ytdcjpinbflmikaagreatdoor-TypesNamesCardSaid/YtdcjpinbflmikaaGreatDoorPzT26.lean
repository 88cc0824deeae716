/- Facts and walks for the statement. -/
import Derived.Test.YtdcjpinbflmikaaGreatDoorPzT21
import Derived.Test.YtdcjpinbflmikaaGreatDoorPzT16
import Derived.Test.YtdcjpinbflmikaaGreatDoorPzT25
import Derived.Test.YtdcjpinbflmikaaGreatDoorPzT17
namespace Go.Proofs.YtdcjpinbflmikaaGreatDoor
open Go.RowKit Ex
structure RnI (w : World) (l : List Nd) (R : List Ty.Nm) (wr : World) (v : Value) (i : Nat) (K : List Ty.Nm) : Prop where
  below : Below w.heap.size w wr
  own : wr.ownsRow w.heap.size 9 1 v K.length (K.map nmV)
  len : K.length ≤ i
  eq : R = Ty.nms (l.drop i) K
set_option maxHeartbeats 4000000 in
set_option maxRecDepth 100000 in
theorem rnames_any (w : World) (A : Option Addr) (c : Nat) (l : List Nd) (hl : NdR w w.heap.size A l) (hc : l.length ≤ c) (hf : FitR l) :
    Calls Tryz.prog 32 #[.slice A l.length c] w (NmP (nmsP l) w) := by
  have HRG := Lib.hid (rRight_any A c l hc hf w hl)
  obtain ⟨R, hR⟩ : ∃ R, R = nmsP l := ⟨_, rfl⟩
  rw [← hR]
  unfold nmsP at hR
  obtain ⟨n, hln⟩ : ∃ n, n = l.length := ⟨_, rfl⟩
  have hn6 : (n : Int) ≤ 1000000 := by have := hf.1; omega
  by_cases hd : dep l = 0
  · rw [decide_eq_false (fun q => q hd)] at HRG
    rw [if_pos hd] at hR
    have HE := Lib.hid hR
    clear hR hd hl hf hc hln
    go_enter Tryz.func32, Tryz.ntmps32
    go_wp2_with fail
    refine HRG.out.mono ?_
    rintro en w1 ⟨rfl, hb⟩
    have HB := Lib.hid hb
    clear hb
    go_wp2
    go_ret
    exact ⟨.slice none 0 0, by rw [HE.out]; exact World.ownsRow_nil _ _ _ _, rfl, HB.out⟩
  · rw [decide_eq_true hd] at HRG
    rw [if_neg hd] at hR
    have H := Lib.hid hl
    have HFT := Lib.hid hf
    have HR := Lib.hid (show R = Ty.nms (l.drop 0) [] from hR)
    rw [← hln] at hc HRG ⊢
    have hc' : (n : Int) ≤ (c : Int) := by omega
    have HLN := Lib.hid hln
    obtain ⟨i0, hi, hy0, hy1, hy2⟩ := info_parts infoStr
    clear hR hd hl hf hc hln
    go_enter Tryz.func32, Tryz.ntmps32
    go_wp2_with fail
    refine HRG.out.mono ?_
    rintro en w1 ⟨rfl, hb⟩
    have H0 := Lib.hid (show RnI w l R w1 (.slice none 0 0) 0 [] from ⟨hb, World.ownsRow_nil _ _ _ _, Nat.le_refl _, HR.out⟩)
    clear hb HRG HR
    go_wp2
    go_loopw [3, 4] (fun v0 iv wr => ∃ (v : Value) (i : Nat) (K : List Ty.Nm), v = v0 ∧ iv = .int .i64 i ∧ i ≤ n ∧ Hid (RnI w l R wr v i K)) (fun _ iv _ => n - (intOf iv).toNat)
    case atStart => exact ⟨_, 0, [], rfl, rfl, Nat.zero_le _, H0⟩
    case round =>
      obtain ⟨v, i, K, hv0, rfl, hil, HI⟩ := hrel
      subst hv0
      by_cases hin : i < n
      · have hin' : (i : Int) < (n : Int) := by omega
        have hll : i < l.length := by rw [← HLN.out]; exact hin
        obtain ⟨g, o, hA, hg, q0, q1, q2, q3, q4, q5⟩ := (H.out.below HI.out.below) i hll
        subst hA
        have HEQ := Lib.hid (show R = if l[i].op = 2 ∧ l[i].nm ∉ K then Ty.nms (l.drop (i + 1)) (K ++ [l[i].nm]) else Ty.nms (l.drop (i + 1)) K from by rw [HI.out.eq, List.drop_eq_getElem_cons hll]; rfl)
        have HIN := Lib.hid hin
        have HLE := Lib.hid HI.out.len
        obtain ⟨Av, cv, rfl, hkc, _, _⟩ := own_sliced HI.out.own
        have hgw : g < wr.heap.size := Nat.lt_of_lt_of_le hg HI.out.below.size
        generalize l[i] = t at *
        obtain ⟨op, num, nm, na, nb, nc⟩ := t
        simp only at q0 q2 HEQ
        obtain ⟨N, hN⟩ : ∃ N : ByteArray, N = ⟨nm.toArray⟩ := ⟨_, rfl⟩
        rw [← hN] at q2
        have HNN := Lib.hid hN
        clear hin hll q1 q3 q4 q5
        by_cases h2 : op = 2
        · have HAM := Lib.hid (ramong_any wr Av cv K (own_nsr HI.out.own rfl).1 hkc (by have := HI.out.len; omega) nm N hN)
          have HQ2 := Lib.hid (fun (w3 : World) (hb : Below wr.heap.size wr w3) => (hb.cell (p := ⟨g, o + i * 6 + 2, none⟩) hgw).trans q2)
          have h2' : (op == 2) = true := by simpa using h2
          obtain ⟨kl, hkl⟩ : ∃ kl, kl = K.length := ⟨_, rfl⟩
          have HKL := Lib.hid hkl
          rw [← hkl] at HAM
          cases hm : decide (nm ∈ K) with
          | true =>
            rw [hm] at HAM
            have HE := Lib.hid (show R = Ty.nms (l.drop (i + 1)) K from by rw [HEQ.out, if_neg (fun q => q.2 (of_decide_eq_true hm))])
            subst h2
            clear hN hm hkc hkl
            go_wp2_with fail
            rw [← HKL.out]
            refine HAM.out.mono ?_
            rintro en w3 ⟨rfl, hb3⟩
            have HN3 := Lib.hid (show RnI w l R w3 (.slice Av kl cv) (i + 1) K from ⟨HI.out.below.trans (hb3.mono HI.out.below.size), by rw [HKL.out]; exact own_below HI.out.own hb3, by have := HLE.out; omega, HE.out⟩)
            clear hb3
            go_wp2
            go_roundw
            case rel => exact ⟨_, i + 1, K, rfl, by go_num, HIN.out, HN3⟩
            case measure => have := HIN.out; simp [intOf]; omega
          | false =>
            rw [hm] at HAM
            have HE := Lib.hid (show R = Ty.nms (l.drop (i + 1)) (K ++ [nm]) from by rw [HEQ.out, if_pos ⟨h2, of_decide_eq_false hm⟩])
            have hbig : kl + 1 ≤ maxLen := by have := HLE.out; unfold maxLen; omega
            have hkl6 : kl ≤ 1000000 := by have := HLE.out; omega
            subst h2
            clear hN hm hkc hkl
            go_wp2_with fail
            rw [← HKL.out]
            refine HAM.out.mono ?_
            rintro en w3 ⟨rfl, hb3⟩
            have p2 := HQ2.out w3 hb3
            have HB3 := Lib.hid (HI.out.below.trans (hb3.mono HI.out.below.size))
            have HO3 := Lib.hid (show w3.ownsRow w.heap.size 9 1 (.slice Av kl cv) kl (K.map nmV) from by rw [HKL.out]; exact own_below HI.out.own hb3)
            have hbw := Lib.hid (show ∀ q, (Value.slice Av kl cv).ownBlock = some q → w.heap.size ≤ q from fun q hq => (HO3.out.lt q hq).1)
            have hsa := HB3.out.size
            clear hb3 q2
            go_wp2_with (at_builtin; (refine wpList_append_own _ rfl _ _ _ rfl w.heap.size 9 i0 _ 1 16 Tryz.underlying44 hi hy0 hy1 hy2 rfl (by omega) (.slice Av kl cv) kl (K.map nmV) (by rfl) (by exact World.ownsRow.alloc HO3.out _) _ 1 _ [.string N] (by rfl) rfl (by intro j u hu; exact news_at _ _ _ _ (by simp) j u hu) (by intro u hu; simp at hu; subst hu; rfl) hbig (by omega) (by simp; omega) ?_); intro v9 w9 hown9 hgr9 _; have HR9 := Lib.hid (And.intro hown9 (show Below w.heap.size w w9 from Below.grown (HB3.out.alloc hsa _) hgr9 (by simp; omega) hbw.out)); clear hown9 hgr9)
            go_roundw
            case rel => exact ⟨v9, i + 1, K ++ [nm], rfl, by go_num, HIN.out, Lib.hid ⟨HR9.out.2, by
              rw [List.length_append, List.map_append, ← HKL.out]
              have h := HR9.out.1
              rw [HNN.out] at h
              exact h, by rw [List.length_append]; have := HLE.out; show K.length + 1 ≤ _; omega, HE.out⟩⟩
            case measure => have := HIN.out; simp [intOf]; omega
        · have h2' : (op == 2) = false := beq_eq_false_iff_ne.2 h2
          have HE := Lib.hid (show R = Ty.nms (l.drop (i + 1)) K from by rw [HEQ.out, if_neg (fun q => h2 q.1)])
          obtain ⟨kl, hkl⟩ : ∃ kl, kl = K.length := ⟨_, rfl⟩
          have HKL := Lib.hid hkl
          clear hN h2 hkc hkl
          go_wp2
          go_roundw
          case rel => exact ⟨_, i + 1, K, rfl, by go_num, HIN.out, Lib.hid ⟨HI.out.below, HI.out.own, by have := HLE.out; omega, HE.out⟩⟩
          case measure => have := HIN.out; simp [intOf]; omega
      · obtain rfl : i = n := by omega
        have hin' : ¬ (i : Int) < (i : Int) := by omega
        have HE := Lib.hid (show R = K from by
          rw [HI.out.eq, List.drop_of_length_le (by rw [← HLN.out]; exact Nat.le_refl _)]; rfl)
        clear hin
        go_wp2
        go_ret
        exact ⟨v, by rw [HE.out]; exact HI.out.own, rfl, HI.out.below⟩
def RgP (X : List Nd × Nat × Int) (w : World) (e : Ending) (w' : World) : Prop :=
  ∃ A c, NdR w' w'.heap.size A X.1 ∧ X.1.length ≤ c ∧ e = .returned (.tuple #[.slice A X.1.length c, .int .i64 (X.2.1 : Nat), .int .i64 X.2.2]) ∧ Below w.heap.size w w'
theorem RgP.none_ {w w' : World} {X : List Nd × Nat × Int} {n : Nat} {e : Int} (hX : X = ([], n, e)) (hb : Below w.heap.size w w') : RgP X w (.returned (.tuple #[.slice none 0 0, .int .i64 (n : Int), .int .i64 e])) w' := by
  subst hX; exact ⟨none, 0, fun j hj => absurd hj (by simp), Nat.le_refl _, rfl, hb⟩
theorem prse_true : prse [116, 114, 117, 101] = ([⟨3, 0, [], -1, -1, -1⟩], 0, 0) := by kernel_rfl
theorem kds_true (ns : List Ty.Nm) : kds [⟨3, 0, [], -1, -1, -1⟩] ns = ([2], 0, 0) := by
  have h : chk [⟨3, 0, [], -1, -1, -1⟩] = 0 := by kernel_rfl
  unfold kds
  rw [if_neg (by rw [h]; exact fun q => q rfl)]
  rfl
theorem grd_empty {s : List UInt8} (h : (Lx.toks s).2.2 = 0 ∧ (Lx.toks s).1 = []) (ns : List Ty.Nm) : grd s ns = ([⟨3, 0, [], -1, -1, -1⟩], 0, 0) := by
  unfold grd gtx
  rw [if_pos h, prse_true]
  unfold grX
  simp only
  rw [if_neg (fun q => q rfl), kds_true]
  rfl
theorem grd_some {s : List UInt8} (h : ¬ ((Lx.toks s).2.2 = 0 ∧ (Lx.toks s).1 = [])) (ns : List Ty.Nm) : grd s ns = grX (prse s) ns := by
  unfold grd gtx
  rw [if_neg h]
theorem ndr_one {w : World} {g : Nat} (h : IsBlk w g 114 #[.int .u8 3, .int .i64 0, .string ⟨#[]⟩, .int .i64 (-1), .int .i64 (-1), .int .i64 (-1)]) : NdR w w.heap.size (some ⟨g, 0, none⟩) [⟨3, 0, [], -1, -1, -1⟩] := fun j hj => by
  have hj0 : j = 0 := by simp at hj; exact hj
  subst hj0
  exact ⟨g, 0, rfl, h.lt, h.at_ 0, h.at_ 1, h.at_ 2, h.at_ 3, h.at_ 4, h.at_ 5⟩
set_option maxHeartbeats 4000000 in
set_option maxRecDepth 100000 in
theorem rguard_any (s : ByteArray) (w : World) (A2 : Option Addr) (c2 : Nat) (ns : List Ty.Nm) (hn : NsR w w.heap.size A2 ns) (hc2 : ns.length ≤ c2) (hnl : ns.length ≤ 1000000) :
    Calls Tryz.prog 29 #[.string s, .slice A2 ns.length c2] w (RgP (grd s.data.toList ns) w) := by
  have HTK := Lib.hid (rtoks_any s w)
  have HPA := Lib.hid (fun w1 => reparse_any s w1)
  have HFT := Lib.hid (@prse_fit s.data.toList)
  obtain ⟨X, hX⟩ : ∃ X, X = grd s.data.toList ns := ⟨_, rfl⟩
  rw [← hX]
  have HGE := Lib.hid (fun h => hX.trans (grd_empty (s := s.data.toList) h ns))
  have HGS := Lib.hid (fun h => hX.trans (grd_some (s := s.data.toList) h ns))
  have HN := Lib.hid hn
  obtain ⟨L, hL⟩ : ∃ L, L = Lx.toks s.data.toList := ⟨_, rfl⟩
  have hfew := toks_few s.data.toList
  rw [← hL] at HTK HGE HGS hfew
  obtain ⟨ls, at_, er⟩ := L
  simp only at HTK HGE HGS hfew
  have hls : (ls.length : Int) ≤ 140000 := by have := hfew.1; omega
  have HOF := Lib.hid (fun v (hb : Below w.heap.size w v) A c l (hl : NdR v v.heap.size A l) (hc : l.length ≤ c) (hf : FitR l) => rof_any v A c l hl hc hf A2 c2 ns (hn.on hb) hc2 hnl)
  clear hX hn hnl hL hfew hc2
  by_cases h0 : er = 0 ∧ ls = []
  · have HXE := Lib.hid (HGE.out h0)
    obtain ⟨he, hl0⟩ := h0
    subst he hl0
    clear HGE HGS HPA HFT HOF
    go_enter Tryz.func29, Tryz.ntmps29
    go_wp2_with fail
    refine HTK.out.mono ?_
    rintro en w2 ⟨v2, ho2, rfl, hb2⟩
    simp only at ho2
    obtain ⟨A3, c3, rfl, hc3, _, _⟩ := own_sliced ho2
    have HR := Lib.hid (show Below w.heap.size w (w2.alloc (.cells #[.int .u8 3, .int .i64 0, .string ⟨#[]⟩, .int .i64 (-1), .int .i64 (-1), .int .i64 (-1)] 114)) ∧ IsBlk (w2.alloc (.cells #[.int .u8 3, .int .i64 0, .string ⟨#[]⟩, .int .i64 (-1), .int .i64 (-1), .int .i64 (-1)] 114)) w2.heap.size 114 #[.int .u8 3, .int .i64 0, .string ⟨#[]⟩, .int .i64 (-1), .int .i64 (-1), .int .i64 (-1)] from ⟨hb2.alloc hb2.size _, IsBlk.new _ _ _⟩)
    clear ho2 hb2 HTK
    simp only [List.length_nil]
    go_wp2
    go_ret3
    rw [HXE.out]
    exact ⟨some ⟨w2.heap.size, 0, none⟩, 1, ndr_one HR.out.2, Nat.le_refl _, rfl, HR.out.1⟩
  · have HX0 := Lib.hid (HGS.out h0)
    obtain ⟨Y, hY⟩ : ∃ Y, Y = prse s.data.toList := ⟨_, rfl⟩
    rw [← hY] at HX0 HPA HFT
    obtain ⟨nds, p, z⟩ := Y
    simp only at HFT
    have HG0 := Lib.hid h0
    clear HGE HGS h0 hY
    go_enter Tryz.func29, Tryz.ntmps29
    go_wp2_with fail
    refine HTK.out.mono ?_
    rintro en w2 ⟨v2, ho2, rfl, hb2⟩
    simp only at ho2
    obtain ⟨A3, c3, rfl, hc3, _, _⟩ := own_sliced ho2
    have HP := Lib.hid (HPA.out w2)
    have HB2 := Lib.hid hb2
    obtain ⟨n, hnl⟩ : ∃ n, n = ls.length := ⟨_, rfl⟩
    have HGN := Lib.hid (show ¬ (er = 0 ∧ n = 0) from fun q => HG0.out ⟨q.1, List.length_eq_zero_iff.1 (by rw [← hnl]; exact q.2)⟩)
    rw [← hnl]
    rw [← hnl] at hls
    clear ho2 hb2 HTK HPA HG0 hc3 hnl
    simp only
    by_cases he : er = 0
    · have hn0 : ((n : Int) == 0) = false := beq_eq_false_iff_ne.2 (fun q => HGN.out ⟨he, by omega⟩)
      subst he
      go_wp2_with fail
      refine HP.out.mono ?_
      rintro en w3 ⟨A4, c4, ho, rfl, hb3⟩
      simp only at ho
      have HB3 := Lib.hid (HB2.out.trans (hb3.mono HB2.out.size))
      have HO := Lib.hid ho
      clear ho hb3
      simp only
      by_cases hz : z = 0
      · subst hz
        have HX1 := Lib.hid (show X = if (ofs (kds nds ns)).1 ≠ 2 then ([], 0, 90) else (nds, 0, 0) from by rw [HX0.out]; exact if_neg (fun h => h rfl))
        obtain ⟨hfit, x, hx1, hx2, hx3⟩ := HFT.out rfl
        have hfr : FitR nds := ⟨by have := hfit.1; omega, hfit.2⟩
        have q := own_rnd HO.out rfl
        have HC := Lib.hid (HOF.out w3 HB3.out A4 c4 nds q.1 q.2.1 hfr)
        have HOK := Lib.hid (@kds_ok nds ns)
        have HBD := Lib.hid (@ofs_bad (kds nds ns))
        have HOO := Lib.hid (@ofs_ok nds ns)
        generalize kds nds ns = KK at *
        generalize hOe : ofs KK = O at *
        obtain ⟨k, a, y⟩ := O
        simp only at HC HX1 HOO HBD
        have HKY := Lib.hid (show y ≠ 0 → k ≠ 2 from fun hy => by
          by_cases h : KK.2.2 = 0
          · obtain ⟨k', _, e⟩ := HOO.out h
            injection e with _ e
            injection e with _ e
            exact absurd e hy
          · have e := HBD.out h
            injection e with e _
            rw [e]; decide)
        clear hfit hx1 hx2 hx3 hfr q HOK HBD HOO hOe
        go_wp2_with fail
        refine HC.out.mono ?_
        rintro en w4 ⟨rfl, hb4⟩
        have HB4 := Lib.hid (HB3.out.trans (hb4.mono HB3.out.size))
        have HN4 := Lib.hid (own_rnd (own_below HO.out hb4) rfl)
        clear hb4 HC
        by_cases hk : k = 2
        · have hy : y = 0 := Decidable.byContradiction fun q => HKY.out q hk
          have HXE := Lib.hid (show X = (nds, 0, 0) from by rw [HX1.out, if_neg (fun q => q hk)])
          subst hy hk
          go_wp2
          go_ret3
          rw [HXE.out]
          exact ⟨A4, c4, HN4.out.1, HN4.out.2.1, rfl, HB4.out⟩
        · have HXE := Lib.hid (show X = ([], 0, 90) from by rw [HX1.out, if_pos hk])
          have hk' : ((k : Int) != 2) = true := by simp only [bne_iff_ne, ne_eq]; omega
          by_cases hy : y = 0
          · subst hy
            clear hk
            go_wp2
            go_ret3
            exact RgP.none_ HXE.out HB4.out
          · have hy' : (y != 0) = true := by simpa using hy
            clear hk hy
            go_wp2
            go_ret3
            exact RgP.none_ HXE.out HB4.out
      · have hz' : (z != 0) = true := by simpa using hz
        have HXE := Lib.hid (show X = ([], p, z) from by rw [HX0.out]; exact if_pos hz)
        clear hz
        go_wp2
        go_ret3
        exact RgP.none_ HXE.out HB3.out
    · have he' : (er == 0) = false := by simpa using he
      clear he
      go_wp2_with fail
      refine HP.out.mono ?_
      rintro en w3 ⟨A4, c4, ho, rfl, hb3⟩
      simp only at ho
      have HB3 := Lib.hid (HB2.out.trans (hb3.mono HB2.out.size))
      have HO := Lib.hid ho
      clear ho hb3
      simp only
      by_cases hz : z = 0
      · subst hz
        have HX1 := Lib.hid (show X = if (ofs (kds nds ns)).1 ≠ 2 then ([], 0, 90) else (nds, 0, 0) from by rw [HX0.out]; exact if_neg (fun h => h rfl))
        obtain ⟨hfit, x, hx1, hx2, hx3⟩ := HFT.out rfl
        have hfr : FitR nds := ⟨by have := hfit.1; omega, hfit.2⟩
        have q := own_rnd HO.out rfl
        have HC := Lib.hid (HOF.out w3 HB3.out A4 c4 nds q.1 q.2.1 hfr)
        have HOK := Lib.hid (@kds_ok nds ns)
        have HBD := Lib.hid (@ofs_bad (kds nds ns))
        have HOO := Lib.hid (@ofs_ok nds ns)
        generalize kds nds ns = KK at *
        generalize hOe : ofs KK = O at *
        obtain ⟨k, a, y⟩ := O
        simp only at HC HX1 HOO HBD
        have HKY := Lib.hid (show y ≠ 0 → k ≠ 2 from fun hy => by
          by_cases h : KK.2.2 = 0
          · obtain ⟨k', _, e⟩ := HOO.out h
            injection e with _ e
            injection e with _ e
            exact absurd e hy
          · have e := HBD.out h
            injection e with e _
            rw [e]; decide)
        clear hfit hx1 hx2 hx3 hfr q HOK HBD HOO hOe
        go_wp2_with fail
        refine HC.out.mono ?_
        rintro en w4 ⟨rfl, hb4⟩
        have HB4 := Lib.hid (HB3.out.trans (hb4.mono HB3.out.size))
        have HN4 := Lib.hid (own_rnd (own_below HO.out hb4) rfl)
        clear hb4 HC
        by_cases hk : k = 2
        · have hy : y = 0 := Decidable.byContradiction fun q => HKY.out q hk
          have HXE := Lib.hid (show X = (nds, 0, 0) from by rw [HX1.out, if_neg (fun q => q hk)])
          subst hy hk
          go_wp2
          go_ret3
          rw [HXE.out]
          exact ⟨A4, c4, HN4.out.1, HN4.out.2.1, rfl, HB4.out⟩
        · have HXE := Lib.hid (show X = ([], 0, 90) from by rw [HX1.out, if_pos hk])
          have hk' : ((k : Int) != 2) = true := by simp only [bne_iff_ne, ne_eq]; omega
          by_cases hy : y = 0
          · subst hy
            clear hk
            go_wp2
            go_ret3
            exact RgP.none_ HXE.out HB4.out
          · have hy' : (y != 0) = true := by simpa using hy
            clear hk hy
            go_wp2
            go_ret3
            exact RgP.none_ HXE.out HB4.out
      · have hz' : (z != 0) = true := by simpa using hz
        have HXE := Lib.hid (show X = ([], p, z) from by rw [HX0.out]; exact if_pos hz)
        clear hz
        go_wp2
        go_ret3
        exact RgP.none_ HXE.out HB3.out
end Go.Proofs.YtdcjpinbflmikaaGreatDoor
namespace Go.Proofs.YtdcjpinbflmikaaGreatDoor
open Go.RowKit Ex
set_option maxHeartbeats 2000000 in
set_option maxRecDepth 100000 in
theorem texts_yes (w : World) (A1 A2 : Option Addr) (c1 c2 : Nat) (K : List Ty.Nm) (h1 : NsR w w.heap.size A1 K) (h2 : NsR w w.heap.size A2 K) (hc1 : K.length ≤ c1) (hc2 : K.length ≤ c2) (hn : K.length ≤ 1000000) :
    Calls Tryz.prog 30 #[.slice A1 K.length c1, .slice A2 K.length c2] w fun e w' => e = .returned (.bool true) ∧ Below w.heap.size w w' := by
  have H1 := Lib.hid h1
  have H2 := Lib.hid h2
  obtain ⟨n, hln⟩ : ∃ n, n = K.length := ⟨_, rfl⟩
  rw [← hln] at hn hc1 hc2 ⊢
  have HLN := Lib.hid hln
  have hc1' : (n : Int) ≤ (c1 : Int) := by omega
  have hc2' : (n : Int) ≤ (c2 : Int) := by omega
  have hnn : (((n : Nat) : Int) != ((n : Nat) : Int)) = false := by simp
  clear h1 h2 hln
  go_enter Tryz.func30, Tryz.ntmps30
  go_wp2
  go_loopw [5] (fun iv wr => ∃ i : Nat, iv = .int .i64 i ∧ i ≤ n ∧ Hid (Below w.heap.size w wr)) (fun iv _ => n - (intOf iv).toNat)
  case atStart => exact ⟨0, rfl, Nat.zero_le _, Lib.hid (Below.refl _ _)⟩
  case round =>
    obtain ⟨i, rfl, hi, HI⟩ := hrel
    by_cases hin : i < n
    · have hin' : (i : Int) < (n : Int) := by omega
      have hil : i < K.length := by rw [← HLN.out]; exact hin
      obtain ⟨g1, o1, hA1, _, a0⟩ := (H1.out.below HI.out) i hil
      obtain ⟨g2, o2, hA2, _, b0⟩ := (H2.out.below HI.out) i hil
      subst hA1 hA2
      have HIN := Lib.hid hin
      generalize K[i] = k at *
      obtain ⟨N, hN⟩ : ∃ N : ByteArray, N = ⟨k.toArray⟩ := ⟨_, rfl⟩
      rw [← hN] at a0 b0
      have hkk : (N.toList != N.toList) = false := by simp
      clear hin hil hN
      go_wp2_with fail
      go_quiet (fail)
      go_wp2
      go_roundw
      case rel => exact ⟨i + 1, by go_num, HIN.out, Lib.hid (below_drewN HI.out _)⟩
      case measure => have := HIN.out; simp [intOf]; omega
    · obtain rfl : i = n := by omega
      have hin' : ¬ (i : Int) < (i : Int) := by omega
      clear hin
      go_wp2
      go_ret
      exact ⟨rfl, HI.out⟩
set_option maxHeartbeats 4000000 in
set_option maxRecDepth 100000 in
theorem lsame9_any (w : World) (A : Option Addr) (c : Nat) (l : List Nd) (h : NdR w w.heap.size A l) (hc : l.length ≤ c) (A2 : Option Addr) (c2 : Nat) (h2 : NdR w w.heap.size A2 l) (hc2 : l.length ≤ c2) (hn : l.length ≤ 1000000) :
    Calls Tryz.prog 33 #[.slice A l.length c, .slice A2 l.length c2] w fun e w' => e = .returned (.bool true) ∧ Below w.heap.size w w' := by
  have H1 := Lib.hid h
  have H2 := Lib.hid h2
  obtain ⟨n, hln⟩ : ∃ n, n = l.length := ⟨_, rfl⟩
  rw [← hln] at hn hc hc2 ⊢
  have HLN := Lib.hid hln
  have hc' : (n : Int) ≤ (c : Int) := by omega
  have hc2' : (n : Int) ≤ (c2 : Int) := by omega
  have hnn : (((n : Nat) : Int) != ((n : Nat) : Int)) = false := by simp
  clear h h2 hln
  go_enter Tryz.func33, Tryz.ntmps33
  go_wp2
  go_loopw [5] (fun i wr => ∃ k : Nat, i = .int .i64 k ∧ k ≤ n ∧ Hid (Below w.heap.size w wr)) (fun i _ => n - (intOf i).toNat)
  case atStart => exact ⟨0, rfl, Nat.zero_le _, Lib.hid (Below.refl _ _)⟩
  case round =>
    obtain ⟨k, rfl, hk, HI⟩ := hrel
    by_cases hlt : k < n
    · have hlt' : (k : Int) < (n : Int) := by omega
      have hkl : k < l.length := by rw [← HLN.out]; exact hlt
      obtain ⟨g, o, hA, hg, q0, q1, q2, q3, q4, q5⟩ := (H1.out.below HI.out) k hkl
      subst hA
      obtain ⟨g', o', hA', hg', p0, p1, p2, p3, p4, p5⟩ := (H2.out.below HI.out) k hkl
      subst hA'
      generalize l[k] = t at *
      obtain ⟨op, num, nm, na, nb, nc⟩ := t
      simp only at q0 q1 q2 q3 q4 q5 p0 p1 p2 p3 p4 p5
      generalize (⟨nm.toArray⟩ : ByteArray) = N at *
      have HIN := Lib.hid hlt
      clear hkl hlt
      go_wp2_with fail
      go_quiet (fail)
      go_wp2
      go_roundw
      case rel => exact ⟨k + 1, by go_num, HIN.out, Lib.hid (below_drewN HI.out _)⟩
      case measure => have := HIN.out; simp [intOf]; omega
    · obtain rfl : k = n := by omega
      have hlt' : ¬ (k : Int) < (k : Int) := by omega
      clear hlt
      go_wp2
      go_ret
      exact ⟨rfl, HI.out⟩
structure TnS (w : World) (A1 : Option Addr) (c1 : Nat) (l : List Nd) (bx : Nat) (A3 : Option Addr) (c3 : Nat) (x : List Nd) (A4 : Option Addr) (c4 : Nat) (v : World) : Prop where
  mo : MoL w A1 c1 l v
  bl : IsBlk v bx 29 #[.slice A3 x.length c3]
  row : NdR v v.heap.size A3 x
  ref : NdR v v.heap.size A4 x
theorem TnS.on {w : World} {A1 : Option Addr} {c1 : Nat} {l : List Nd} {bx : Nat} {A3 : Option Addr} {c3 : Nat} {x : List Nd} {A4 : Option Addr} {c4 : Nat} {v v' : World} (h : TnS w A1 c1 l bx A3 c3 x A4 c4 v) (hb : Below v.heap.size v v') : TnS w A1 c1 l bx A3 c3 x A4 c4 v' :=
  ⟨h.mo.on hb, h.bl.below hb h.bl.lt, h.row.on_ hb, h.ref.on_ hb⟩
theorem TnS.s2 {w : World} {A1 : Option Addr} {c1 : Nat} {l : List Nd} {bx : Nat} {A3 : Option Addr} {c3 : Nat} {x : List Nd} {A4 : Option Addr} {c4 : Nat} {v : World} (h : TnS w A1 c1 l bx A3 c3 x A4 c4 v) : v.cell? ⟨w.heap.size, 0, none⟩ = some (.slice A1 l.length c1) ∧ v.cell? ⟨bx, 0, none⟩ = some (.slice A3 x.length c3) := ⟨h.mo.at_, h.bl.at_ 0⟩
set_option maxHeartbeats 8000000 in
set_option maxRecDepth 100000 in
theorem tnames_law (w : World) (T : Tyx w) (A1 : Option Addr) (c1 : Nat) (l : List Nd) (h1 : NdR w w.heap.size A1 l) (hc1 : l.length ≤ c1) (hn1 : l.length ≤ 9223372036854775807) (ho1 : ∀ n ∈ l, 0 ≤ n.op) (s : ByteArray) (hs : s.size ≤ maxLen)
    (A2 : Option Addr) (c2 : Nat) (ns : List Ty.Nm) (h2 : NsR w w.heap.size A2 ns) (hc2 : ns.length ≤ c2) (hn2 : ns.length ≤ 9223372036854775807) :
    Calls Tryz.prog 6 #[.agg #[.slice A1 l.length c1], .string s, .slice A2 ns.length c2] w fun e w' => e = .returned (.bool true) ∧ Below w.heap.size w w' := by
  have I0 := Lib.hid (MoL.new w A1 c1 l)
  have k1 := I0.out.at_
  have HF1 := Lib.hid (fun v (i : MoL w A1 c1 l v) => fewt_any v A1 c1 l (h1.to i.below) hc1 hn1 A2 c2 ns (h2.on i.below) hc2 hn2)
  have HWK := Lib.hid (fun v (i : MoL w A1 c1 l v) => tworks_any v (T.below i.below))
  by_cases f1 : FewT l ns
  · rw [decide_eq_true f1] at HF1
    by_cases h4 : 400 < s.size
    · have h4' : (s.size : Int) > 400 := by omega
      clear T h1 ho1 h2 hs h4 f1
      go_enter Tryz.func6, Tryz.ntmps6
      go_wp2_with fail
      refine (HF1.out _ I0.out).mono ?_
      rintro e v1 ⟨rfl, hb⟩
      have I1 := Lib.hid (I0.out.on hb)
      clear hb
      go_wp2_with fail
      refine (HWK.out _ I1.out).mono ?_
      rintro e vw ⟨rfl, hb⟩
      have IW := Lib.hid (I1.out.on hb)
      clear hb
      go_wp2
      go_ret
      exact ⟨rfl, IW.out.below⟩
    · have h4' : ¬ (s.size : Int) > 400 := by omega
      have hfl := few_fit f1 ho1
      have hl6 : l.length ≤ 1000000 := by have := hfl.1.1; omega
      have hfR : FitR l := ⟨hl6, hfl.1.2⟩
      have hns := hfl.2.1
      have HGU := Lib.hid (fun v (i : MoL w A1 c1 l v) => guard_any v (T.below i.below) s hs A2 c2 ns (h2.on i.below) hc2 hfl.2)
      have HRG := Lib.hid (fun v (i : MoL w A1 c1 l v) => rguard_any s v A2 c2 ns (h2.on i.below) hc2 hns)
      have HNM := Lib.hid (fun v (i : MoL w A1 c1 l v) => names_any v (T.below i.below) A1 c1 l (h1.to i.below) hc1 hfl.1)
      have HRF := Lib.hid (fun v (i : MoL w A1 c1 l v) => eref9_any v A1 c1 l (h1.to i.below) hc1 hl6)
      have HRN := Lib.hid (fun v A c (hr : NdR v v.heap.size A l) (hc : l.length ≤ c) => rnames_any v A c l hr hc hfR)
      have hnl : (nmsP l).length ≤ 1000000 := by
        unfold nmsP
        split
        · exact Nat.zero_le _
        · have := Ty.nms_len l []; simp at this; omega
      have hxl : (grd s.data.toList ns).1.length ≤ 1000000 := by
        have hp := @prse_fit (gtx s.data.toList)
        unfold grd grX
        split
        · exact Nat.zero_le _
        · rename_i hz
          split
          · exact Nat.zero_le _
          · have := (hp (Decidable.byContradiction hz)).1.1
            simp only; omega
      generalize nmsP l = L at *
      generalize grd s.data.toList ns = X at *
      obtain ⟨x, p, z⟩ := X
      simp only at hxl
      have HTY := Lib.hid (fun v A A' c c' (q1 : NsR v v.heap.size A L) (q2 : NsR v v.heap.size A' L) (q3 : L.length ≤ c) (q4 : L.length ≤ c') => texts_yes v A A' c c' L q1 q2 q3 q4 hnl)
      have HRX := Lib.hid (fun v A c (q1 : NdR v v.heap.size A x) (q2 : x.length ≤ c) => eref9_any v A c x q1 q2 hxl)
      have HSX := Lib.hid (fun v A c (q1 : NdR v v.heap.size A x) (q2 : x.length ≤ c) A' c' (q3 : NdR v v.heap.size A' x) (q4 : x.length ≤ c') => lsame9_any v A c x q1 q2 A' c' q3 q4 hxl)
      have g2 : (((p : Nat) : Int) == ((p : Nat) : Int)) = true := by simp
      have g3 : (z == z) = true := by simp
      clear T h1 hc1 hn1 ho1 h2 hc2 hn2 f1 hfl hl6 hfR hns hnl hxl hs h4
      go_enter Tryz.func6, Tryz.ntmps6
      go_wp2_with fail
      refine (HF1.out _ I0.out).mono ?_
      rintro e v1 ⟨rfl, hb⟩
      have I1 := Lib.hid (I0.out.on hb)
      clear hb k1
      go_wp2_with fail
      refine (HGU.out _ I1.out).mono ?_
      rintro e v2 ⟨A3, c3, hr3, hc3, rfl, hb⟩
      simp only at hr3 hc3
      obtain ⟨W3, hW3⟩ : ∃ W3, W3 = v2.alloc (.cells #[.slice A3 x.length c3] 29) := ⟨_, rfl⟩
      have hb3 : Below v2.heap.size v2 W3 := by rw [hW3]; exact (Below.refl _ _).alloc (Nat.le_refl _) _
      have I3 := Lib.hid ((I1.out.on hb).on hb3)
      have HBX := Lib.hid (show IsBlk W3 v2.heap.size 29 #[.slice A3 x.length c3] from by rw [hW3]; exact IsBlk.new _ _ _)
      have HR3 := Lib.hid (hr3.on_ hb3)
      have HC3 := Lib.hid hc3
      have HW3 := Lib.hid hW3
      obtain ⟨bx, hbx⟩ : ∃ bx, bx = v2.heap.size := ⟨_, rfl⟩
      have HBE := Lib.hid hbx
      rw [← hbx] at HBX
      clear hr3 hc3 hb hb3 hW3 hbx
      simp only
      go_wp2_with fail
      rw [← HW3.out]
      refine (HRG.out _ I3.out).mono ?_
      rintro e v4 ⟨A4, c4, hr4, hc4, rfl, hb⟩
      simp only at hr4 hc4
      rw [← HBE.out]
      have HK := Lib.hid (show TnS w A1 c1 l bx A3 c3 x A4 c4 v4 from ⟨I3.out.on hb, HBX.out.below hb HBX.out.lt, HR3.out.on_ hb, hr4⟩)
      have HC4 := Lib.hid hc4
      clear hr4 hc4 hb HBX HR3 I3 I1 I0
      simp only
      go_wp2_with fail
      refine wp_region_held_drew (S := fun w' => w'.cell? ⟨w.heap.size, 0, none⟩ = some (.slice A1 l.length c1) ∧ w'.cell? ⟨bx, 0, none⟩ = some (.slice A3 x.length c3)) (by kernel_rfl) (HK.out.on (Below.refl _ _).drew).s2 (fun hHeld => ?_)
      refine wpAnyH_take (i := 0) (v := .agg #[.slice A1 l.length c1]) rfl (by kernel_rfl) (by kernel_rfl) (by kernel_rfl) (fun _ _ _ h => h) (Or.inl ⟨by rfl, by (intro w hS; try (obtain ⟨s0, s1⟩ := hS); go_simp)⟩) hHeld ?_
      try simp only [Act.put, List.getElem_toArray, List.getElem_cons_zero, List.setIfInBounds_toArray, List.set_cons_zero, List.set_cons_succ]
      refine wpAnyH_take (i := 2) (v := .agg #[.slice A1 l.length c1]) rfl (by kernel_rfl) (by kernel_rfl) (by kernel_rfl) (fun _ _ _ h => h) (Or.inl ⟨by rfl, by (intro w hS; try (obtain ⟨s0, s1⟩ := hS); go_simp)⟩) hHeld ?_
      try simp only [Act.put, List.getElem_toArray, List.getElem_cons_succ, List.getElem_cons_zero, List.setIfInBounds_toArray, List.set_cons_zero, List.set_cons_succ]
      refine wpAnyH_ready (rs := [1]) (by kernel_rfl) (by simp) ?_
      refine AllReadyH.cons rfl (fun K hK => ?_) AllReadyH.nil
      go_simp
      refine (HNM.out _ (HK.out.on (Below.refl _ _).drew).mo).mono ?_
      rintro e v5 ⟨vn, hon, rfl, hb5⟩
      obtain ⟨An, cn, rfl, hcn, _, _⟩ := own_sliced hon
      replace HK := Lib.hid ((HK.out.on (Below.refl _ _).drew).on hb5)
      have HN5 := Lib.hid (own_nsr hon rfl).1
      have HCN := Lib.hid hcn
      clear hon hb5 hcn
      refine hK _ _ HK.out.s2 (fun hHeld => ?_)
      clear hK K
      try simp only [Act.put, List.getElem_toArray, List.getElem_cons_succ, List.getElem_cons_zero, List.setIfInBounds_toArray, List.set_cons_zero, List.set_cons_succ]
      refine wpAnyH_ready (rs := [3]) (by kernel_rfl) (by simp) ?_
      refine AllReadyH.cons rfl (fun K hK => ?_) AllReadyH.nil
      go_simp
      refine (HRF.out _ HK.out.mo).mono ?_
      rintro e v6 ⟨vr, rfl, ho6, hb6⟩
      obtain ⟨Ar, cr, rfl, hcr, _, _⟩ := own_sliced ho6
      replace HK := Lib.hid (HK.out.on hb6)
      replace HN5 := Lib.hid (HN5.out.on hb6)
      have HR6 := Lib.hid (own_rnr ho6 rfl).1
      have HC6 := Lib.hid hcr
      clear ho6 hb6 hcr
      refine hK _ _ HK.out.s2 (fun hHeld => ?_)
      clear hK K
      try simp only [Act.put, List.getElem_toArray, List.getElem_cons_succ, List.getElem_cons_zero, List.setIfInBounds_toArray, List.set_cons_zero, List.set_cons_succ]
      refine wpAnyH_ready (rs := [4]) (by kernel_rfl) (by simp) ?_
      refine AllReadyH.cons rfl (fun K hK => ?_) AllReadyH.nil
      go_simp
      refine (HRN.out _ Ar cr HR6.out HC6.out).mono ?_
      rintro e v7 ⟨vm, ho7, rfl, hb7⟩
      obtain ⟨Am, cm, rfl, hcm, _, _⟩ := own_sliced ho7
      replace HK := Lib.hid (HK.out.on hb7)
      replace HN5 := Lib.hid (HN5.out.on hb7)
      have HN7 := Lib.hid (own_nsr ho7 rfl).1
      have HC7 := Lib.hid hcm
      clear ho7 hb7 hcm
      refine hK _ _ HK.out.s2 (fun hHeld => ?_)
      clear hK K
      try simp only [Act.put, List.getElem_toArray, List.getElem_cons_succ, List.getElem_cons_zero, List.setIfInBounds_toArray, List.set_cons_zero, List.set_cons_succ]
      refine wpAnyH_ready (rs := [5]) (by kernel_rfl) (by simp) ?_
      refine AllReadyH.cons rfl (fun K hK => ?_) AllReadyH.nil
      go_simp
      refine (HTY.out _ An Am cn cm HN5.out HN7.out HCN.out HC7.out).mono ?_
      rintro e v8 ⟨rfl, hb8⟩
      replace HK := Lib.hid (HK.out.on hb8)
      clear hb8
      refine hK _ _ HK.out.s2 (fun hHeld => ?_)
      clear hK K
      try simp only [Act.put, List.getElem_toArray, List.getElem_cons_succ, List.getElem_cons_zero, List.setIfInBounds_toArray, List.set_cons_zero, List.set_cons_succ]
      refine wpAnyH_take (i := 6) (v := .bool true) rfl (by kernel_rfl) (by kernel_rfl) (by kernel_rfl) (fun _ _ _ h => h) (Or.inl ⟨by rfl, by (intro w hS; try (obtain ⟨s0, s1⟩ := hS); go_simp)⟩) hHeld ?_
      try simp only [Act.put, List.getElem_toArray, List.getElem_cons_succ, List.getElem_cons_zero, List.setIfInBounds_toArray, List.set_cons_zero, List.set_cons_succ]
      refine wpAnyH_take (i := 7) (v := .agg #[.slice A3 x.length c3]) rfl (by kernel_rfl) (by kernel_rfl) (by kernel_rfl) (fun _ _ _ h => h) (Or.inl ⟨by rfl, by (intro w hS; try (obtain ⟨s0, s1⟩ := hS); go_simp)⟩) hHeld ?_
      try simp only [Act.put, List.getElem_toArray, List.getElem_cons_succ, List.getElem_cons_zero, List.setIfInBounds_toArray, List.set_cons_zero, List.set_cons_succ]
      refine wpAnyH_take (i := 9) (v := .slice A4 x.length c4) rfl (by kernel_rfl) (by kernel_rfl) (by kernel_rfl) (fun _ _ _ h => h) (Or.inl ⟨by rfl, by (intro w hS; try (obtain ⟨s0, s1⟩ := hS); go_simp)⟩) hHeld ?_
      try simp only [Act.put, List.getElem_toArray, List.getElem_cons_succ, List.getElem_cons_zero, List.setIfInBounds_toArray, List.set_cons_zero, List.set_cons_succ]
      refine wpAnyH_ready (rs := [8]) (by kernel_rfl) (by simp) ?_
      refine AllReadyH.cons rfl (fun K hK => ?_) AllReadyH.nil
      go_simp
      refine (HRX.out _ A3 c3 HK.out.row HC3.out).mono ?_
      rintro e v9 ⟨vr9, rfl, ho9, hb9⟩
      obtain ⟨Ax, cx, rfl, hcx, _, _⟩ := own_sliced ho9
      replace HK := Lib.hid (HK.out.on hb9)
      have HR9 := Lib.hid (own_rnr ho9 rfl).1
      have HC9 := Lib.hid hcx
      clear ho9 hb9 hcx
      refine hK _ _ HK.out.s2 (fun hHeld => ?_)
      clear hK K
      try simp only [Act.put, List.getElem_toArray, List.getElem_cons_succ, List.getElem_cons_zero, List.setIfInBounds_toArray, List.set_cons_zero, List.set_cons_succ]
      refine wpAnyH_ready (rs := [10]) (by kernel_rfl) (by simp) ?_
      refine AllReadyH.cons rfl (fun K hK => ?_) AllReadyH.nil
      go_simp
      refine (HSX.out _ Ax cx HR9.out HC9.out A4 c4 HK.out.ref HC4.out).mono ?_
      rintro e va ⟨rfl, hba⟩
      replace HK := Lib.hid (HK.out.on hba)
      clear hba
      refine hK _ _ HK.out.s2 (fun hHeld => ?_)
      clear hK K
      try simp only [Act.put, List.getElem_toArray, List.getElem_cons_succ, List.getElem_cons_zero, List.setIfInBounds_toArray, List.set_cons_zero, List.set_cons_succ]
      refine wpAnyH_take (i := 11) (v := .bool true) rfl (by kernel_rfl) (by kernel_rfl) (by kernel_rfl) (fun _ _ _ h => h) (Or.inl ⟨by rfl, by (intro w hS; try (obtain ⟨s0, s1⟩ := hS); go_simp)⟩) hHeld ?_
      try simp only [Act.put, List.getElem_toArray, List.getElem_cons_succ, List.getElem_cons_zero, List.setIfInBounds_toArray, List.set_cons_zero, List.set_cons_succ]
      refine wpAnyH_take (i := 12) (v := .bool true) rfl (by kernel_rfl) (by kernel_rfl) (by kernel_rfl) (fun _ _ _ h => h) (Or.inl ⟨by rfl, by (intro w hS; try (obtain ⟨s0, s1⟩ := hS); go_simp)⟩) hHeld ?_
      try simp only [Act.put, List.getElem_toArray, List.getElem_cons_succ, List.getElem_cons_zero, List.setIfInBounds_toArray, List.set_cons_zero, List.set_cons_succ]
      refine wpAnyH_take (i := 13) (v := .int .i64 p) rfl (by kernel_rfl) (by kernel_rfl) (by kernel_rfl) (fun _ _ _ h => h) (Or.inl ⟨by rfl, by (intro w hS; try (obtain ⟨s0, s1⟩ := hS); go_simp)⟩) hHeld ?_
      try simp only [Act.put, List.getElem_toArray, List.getElem_cons_succ, List.getElem_cons_zero, List.setIfInBounds_toArray, List.set_cons_zero, List.set_cons_succ]
      refine wpAnyH_take (i := 14) (v := .int .i64 p) rfl (by kernel_rfl) (by kernel_rfl) (by kernel_rfl) (fun _ _ _ h => h) (Or.inl ⟨by rfl, by (intro w hS; try (obtain ⟨s0, s1⟩ := hS); go_simp)⟩) hHeld ?_
      try simp only [Act.put, List.getElem_toArray, List.getElem_cons_succ, List.getElem_cons_zero, List.setIfInBounds_toArray, List.set_cons_zero, List.set_cons_succ]
      refine wpAnyH_take (i := 15) (v := .bool true) rfl (by kernel_rfl) (by kernel_rfl) (by kernel_rfl) (fun _ _ _ h => h) (Or.inl ⟨by rfl, by (intro w hS; try (obtain ⟨s0, s1⟩ := hS); go_simp)⟩) hHeld ?_
      try simp only [Act.put, List.getElem_toArray, List.getElem_cons_succ, List.getElem_cons_zero, List.setIfInBounds_toArray, List.set_cons_zero, List.set_cons_succ]
      refine wpAnyH_take (i := 16) (v := .bool true) rfl (by kernel_rfl) (by kernel_rfl) (by kernel_rfl) (fun _ _ _ h => h) (Or.inl ⟨by rfl, by (intro w hS; try (obtain ⟨s0, s1⟩ := hS); go_simp)⟩) hHeld ?_
      try simp only [Act.put, List.getElem_toArray, List.getElem_cons_succ, List.getElem_cons_zero, List.setIfInBounds_toArray, List.set_cons_zero, List.set_cons_succ]
      refine wpAnyH_take (i := 17) (v := .bool true) rfl (by kernel_rfl) (by kernel_rfl) (by kernel_rfl) (fun _ _ _ h => h) (Or.inl ⟨by rfl, by (intro w hS; try (obtain ⟨s0, s1⟩ := hS); go_simp)⟩) hHeld ?_
      try simp only [Act.put, List.getElem_toArray, List.getElem_cons_succ, List.getElem_cons_zero, List.setIfInBounds_toArray, List.set_cons_zero, List.set_cons_succ]
      refine wpAnyH_take (i := 18) (v := .int .i64 z) rfl (by kernel_rfl) (by kernel_rfl) (by kernel_rfl) (fun _ _ _ h => h) (Or.inl ⟨by rfl, by (intro w hS; try (obtain ⟨s0, s1⟩ := hS); go_simp)⟩) hHeld ?_
      try simp only [Act.put, List.getElem_toArray, List.getElem_cons_succ, List.getElem_cons_zero, List.setIfInBounds_toArray, List.set_cons_zero, List.set_cons_succ]
      refine wpAnyH_take (i := 19) (v := .int .i64 z) rfl (by kernel_rfl) (by kernel_rfl) (by kernel_rfl) (fun _ _ _ h => h) (Or.inl ⟨by rfl, by (intro w hS; try (obtain ⟨s0, s1⟩ := hS); go_simp)⟩) hHeld ?_
      try simp only [Act.put, List.getElem_toArray, List.getElem_cons_succ, List.getElem_cons_zero, List.setIfInBounds_toArray, List.set_cons_zero, List.set_cons_succ]
      refine wpAnyH_take (i := 20) (v := .bool true) rfl (by kernel_rfl) (by kernel_rfl) (by kernel_rfl) (fun _ _ _ h => h) (Or.inl ⟨by rfl, by (intro w hS; try (obtain ⟨s0, s1⟩ := hS); go_simp)⟩) hHeld ?_
      try simp only [Act.put, List.getElem_toArray, List.getElem_cons_succ, List.getElem_cons_zero, List.setIfInBounds_toArray, List.set_cons_zero, List.set_cons_succ]
      refine wpAnyH_take (i := 21) (v := .bool true) rfl (by kernel_rfl) (by kernel_rfl) (by kernel_rfl) (fun _ _ _ h => h) (Or.inl ⟨by rfl, by (intro w hS; try (obtain ⟨s0, s1⟩ := hS); go_simp)⟩) hHeld ?_
      try simp only [Act.put, List.getElem_toArray, List.getElem_cons_succ, List.getElem_cons_zero, List.setIfInBounds_toArray, List.set_cons_zero, List.set_cons_succ]
      refine wpAnyH_take (i := 22) (v := .bool true) rfl (by kernel_rfl) (by kernel_rfl) (by kernel_rfl) (fun _ _ _ h => h) (Or.inl ⟨by rfl, by (intro w hS; try (obtain ⟨s0, s1⟩ := hS); go_simp)⟩) hHeld ?_
      try simp only [Act.put, List.getElem_toArray, List.getElem_cons_succ, List.getElem_cons_zero, List.setIfInBounds_toArray, List.set_cons_zero, List.set_cons_succ]
      refine wpAnyH_ready (rs := [23]) (by kernel_rfl) (by simp) ?_
      refine AllReadyH.cons rfl (fun K hK => ?_) AllReadyH.nil
      go_simp
      refine (HWK.out _ HK.out.mo).mono ?_
      rintro e vb ⟨rfl, hbb⟩
      replace HK := Lib.hid (HK.out.on hbb)
      clear hbb
      refine hK _ _ HK.out.s2 (fun hHeld => ?_)
      clear hK K
      try simp only [Act.put, List.getElem_toArray, List.getElem_cons_succ, List.getElem_cons_zero, List.setIfInBounds_toArray, List.set_cons_zero, List.set_cons_succ]
      refine wpAnyH_take (i := 24) (v := .bool true) rfl (by kernel_rfl) (by kernel_rfl) (by kernel_rfl) (fun _ _ _ h => h) (Or.inl ⟨by rfl, by (intro w hS; try (obtain ⟨s0, s1⟩ := hS); go_simp)⟩) hHeld ?_
      try simp only [Act.put, List.getElem_toArray, List.getElem_cons_succ, List.getElem_cons_zero, List.setIfInBounds_toArray, List.set_cons_zero, List.set_cons_succ]
      refine wpAnyH_take (i := 25) (v := .bool true) rfl (by kernel_rfl) (by kernel_rfl) (by kernel_rfl) (fun _ _ _ h => h) (Or.inl ⟨by rfl, by (intro w hS; try (obtain ⟨s0, s1⟩ := hS); go_simp)⟩) hHeld ?_
      try simp only [Act.put, List.getElem_toArray, List.getElem_cons_succ, List.getElem_cons_zero, List.setIfInBounds_toArray, List.set_cons_zero, List.set_cons_succ]
      refine wpAnyH_done (by kernel_rfl) ?_ _
      go_wp2
      go_ret
      exact ⟨rfl, HK.out.mo.below⟩
  · rw [decide_eq_false f1] at HF1
    clear T h1 ho1 h2
    go_enter Tryz.func6, Tryz.ntmps6
    go_wp2_with fail
    refine (HF1.out _ I0.out).mono ?_
    rintro e v1 ⟨rfl, hb⟩
    have I1 := Lib.hid (I0.out.on hb)
    clear hb
    go_wp2_with fail
    refine (HWK.out _ I1.out).mono ?_
    rintro e vw ⟨rfl, hb⟩
    have IW := Lib.hid (I1.out.on hb)
    clear hb
    go_wp2
    go_ret
    exact ⟨rfl, IW.out.below⟩
end Go.Proofs.YtdcjpinbflmikaaGreatDoor
