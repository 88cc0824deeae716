/- Facts and walks for the statement. -/
import Derived.Test.YtdcjpinbflmikaaGreatDoorPzT14
import Derived.Test.YtdcjpinbflmikaaGreatDoorPzT15
import Derived.Laws.AppendOwnNone
import Derived.LaidSub
import Derived.Deep.Strs
namespace Go.Proofs.YtdcjpinbflmikaaGreatDoor
open Go.RowKit Ex Go.Maps
def nmV (q : Ty.Nm) : Value := .string ⟨q.toArray⟩
theorem infoStr : (Tryz.prog.info? 9).map (fun i => (i.zero, i.size, i.bytes)) = some (some (.string ⟨#[]⟩), 1, 16) := by kernel_rfl
theorem own_nsr {w : World} {B n c : Nat} {A : Option Addr} {L : List Ty.Nm} (h : w.ownsRow B 9 1 (.slice A n c) n (L.map nmV)) (hn : n = L.length) : NsR w w.heap.size A L ∧ n ≤ c ∧ c ≤ maxLen := by
  obtain ⟨A', c', e, h1, h2, h3⟩ := own_sliced h
  injection e with e1 _ e3
  subst e1 e3
  refine ⟨fun j hj => ?_, h1, h2⟩
  obtain ⟨g, rfl, _, hg⟩ := h3 (by omega)
  refine ⟨g, 0, rfl, hg, ?_⟩
  have := own_cell h (j := j) (u := nmV L[j]) (by rw [List.getElem?_map, List.getElem?_eq_getElem hj]; rfl)
  simpa [nmV] using this
def nmsP (l : List Nd) : List Ty.Nm := if dep l = 0 then [] else Ty.nms l []
def NmP (L : List Ty.Nm) (w : World) (e : Ending) (w' : World) : Prop :=
  ∃ v, w'.ownsRow w.heap.size 9 1 v L.length (L.map nmV) ∧ e = .returned v ∧ Below w.heap.size w w'
structure NmI (w1 : World) (l : List Nd) (m : Nat) (R : List Ty.Nm) (wr : World) (i : Nat) (v : Value) (K : List Ty.Nm) : Prop where
  below : Below w1.heap.size w1 wr
  set : KnM wr w1.heap.size m K
  own : wr.ownsRow (w1.heap.size + 1) 9 1 v K.length (K.map nmV)
  len : K.length ≤ i
  eq : R = Ty.nms (l.drop i) K
set_option maxHeartbeats 8000000 in
set_option maxRecDepth 100000 in
theorem names_any (w : World) (T : Tyx w) (A : Option Addr) (c : Nat) (l : List Nd) (hl : NdR w w.heap.size A l) (hc : l.length ≤ c) (hf : Fit l) :
    Calls Tryz.prog 31 #[.agg #[.slice A l.length c]] w (NmP (nmsP l) w) := by
  obtain ⟨W0, hW0⟩ : ∃ W0, W0 = w.alloc (.cells #[.slice A l.length c] 29) := ⟨_, rfl⟩
  have hb0 : Below w.heap.size w W0 := by rw [hW0]; exact (Below.refl _ _).alloc (Nat.le_refl _) _
  have k0 : IsBlk W0 w.heap.size 29 #[.slice A l.length c] := by rw [hW0]; exact IsBlk.new _ _ _
  have HCK := Lib.hid (check_any W0 (T.below hb0).tx A c l ((hl.below hb0).more hb0.size) hc hf)
  obtain ⟨R, hR⟩ : ∃ R, R = nmsP l := ⟨_, rfl⟩
  rw [← hR]
  have hzd : chk l = 2 ↔ dep l = 0 := by
    unfold chk
    by_cases h : dep l = 0
    · rw [if_pos h]; exact ⟨fun _ => h, fun _ => rfl⟩
    · rw [if_neg h]; refine ⟨fun q => ?_, fun q => absurd q h⟩; split at q <;> cases q
  obtain ⟨z, hz⟩ : ∃ z, z = chk l := ⟨_, rfl⟩
  rw [← hz] at HCK hzd
  unfold nmsP at hR
  have HW0 := Lib.hid hW0
  have HB0 := Lib.hid hb0
  have K0 := Lib.hid k0
  have hcI : (l.length : Int) ≤ (c : Int) := by omega
  have hlN : (l.length : Int) ≤ 800000 := by have := hf.1; omega
  by_cases hz0 : z = 2
  · rw [if_pos (hzd.1 hz0)] at hR
    have HE := Lib.hid hR
    subst hz0
    clear hW0 hb0 hR hl hf T k0 hz hzd
    go_enter Tryz.func31, Tryz.ntmps31
    go_wp2_with fail
    rw [← HW0.out]
    refine HCK.out.mono ?_
    rintro e w1 ⟨rfl, hb1⟩
    have HB1 := Lib.hid (HB0.out.trans (hb1.mono HB0.out.size))
    clear hb1
    go_wp2
    go_ret
    exact ⟨.slice none 0 0, by rw [HE.out]; exact World.ownsRow_nil _ _ _ _, rfl, HB1.out⟩
  · have hz1 : (z == 2) = false := by simpa using hz0
    have hd0 : dep l ≠ 0 := fun h => hz0 (hzd.2 h)
    rw [if_neg hd0] at hR
    have HR := Lib.hid hR
    have HG := Lib.hid (And.intro hl (And.intro hf T))
    have HD := Lib.hid hd0
    clear hW0 hb0 hR hl hf T k0 hz hzd hd0 hz0
    obtain ⟨n, hnl⟩ : ∃ n, n = l.length := ⟨_, rfl⟩
    rw [← hnl] at HCK HW0 hcI hlN K0
    rw [← hnl]
    have HN := Lib.hid hnl
    have hmm := @run_makeMap Tryz.prog
    obtain ⟨i0, hi, hy0, hy1, hy2⟩ := info_parts infoStr
    clear hnl hc
    go_enter Tryz.func31, Tryz.ntmps31
    go_wp2_with fail
    rw [← HW0.out]
    refine HCK.out.mono ?_
    rintro e w1 ⟨rfl, hb1⟩
    have HB1 := Lib.hid (HB0.out.trans (hb1.mono HB0.out.size))
    have K1 := Lib.hid (K0.out.below hb1 K0.out.lt)
    clear hb1
    obtain ⟨wa, hwa⟩ : ∃ wa, wa = w1.alloc (.map #[] 0) := ⟨_, rfl⟩
    have hba : Below w1.heap.size w1 wa := by rw [hwa]; exact (Below.refl _ _).alloc (Nat.le_refl _) _
    have HMA := Lib.hid (show KnM wa w1.heap.size 0 [] from by rw [hwa]; exact KnM.made w1)
    have HBA := Lib.hid hba
    have e0 : wa.cell? ⟨w.heap.size, 0, none⟩ = some (.slice A n c) := (K1.out.below hba K1.out.lt).at_ 0
    have HWA := Lib.hid hwa
    rw [hwa] at e0
    clear hwa hba
    go_wp2
    rw [← HWA.out]
    go_loopw [3, 16] (fun lv iv wx => ∃ (v : Value) (j m : Nat) (K : List Ty.Nm), lv = v ∧ iv = .int .i64 j ∧ j ≤ n ∧ m ≤ j ∧ Hid (NmI w1 l m R wx j v K)) (fun _ iv _ => n - (intOf iv).toNat)
    case atStart => exact ⟨_, 0, 0, [], rfl, rfl, Nat.zero_le _, Nat.le_refl _, Lib.hid ⟨HBA.out, HMA.out, World.ownsRow_nil _ _ _ _, Nat.le_refl _, HR.out⟩⟩
    case round =>
      obtain ⟨v, j, m, K, hv, rfl, hj, hmj, HI⟩ := hrel
      have hv := hv.symm
      subst hv
      have HBX := Lib.hid (HB1.out.trans (HI.out.below.mono HB1.out.size))
      have HMB := Lib.hid HI.out.set.lt
      have hws := HBX.out.size
      clear e0
      obtain ⟨A3, c3, hv, _, _, _, hcm⟩ := own_slice HI.out.own
      subst hv
      by_cases hjn : j < n
      · have hjn' : (j : Int) < (n : Int) := by omega
        have hjl : j < l.length := by rw [← HN.out]; exact hjn
        obtain ⟨g, o, hA, hg, q0, q1, q2, q3, q4, q5⟩ := (HG.out.1.below HBX.out) j hjl
        subst hA
        have HNM := Lib.hid (HG.out.2.1.2 _ (List.getElem_mem hjl))
        have HEQ := Lib.hid (show R = if l[j].op = 2 ∧ l[j].nm ∉ K then Ty.nms (l.drop (j + 1)) (K ++ [l[j].nm]) else Ty.nms (l.drop (j + 1)) K from by rw [HI.out.eq, List.drop_eq_getElem_cons hjl]; rfl)
        obtain ⟨W2, hW2⟩ : ∃ W2, W2 = wr.alloc (.cells (ndV l[j]).toArray 34) := ⟨_, rfl⟩
        have hb2 : Below wr.heap.size wr W2 := by rw [hW2]; exact (Below.refl _ _).alloc (Nat.le_refl _) _
        have k2 : IsBlk W2 wr.heap.size 34 (ndV l[j]).toArray := by rw [hW2]; exact IsBlk.new _ _ _
        have HI2 := Lib.hid (show NmI w1 l m R W2 j (.slice A3 K.length c3) K from ⟨HI.out.below.trans (hb2.mono HI.out.below.size), HI.out.set.below hb2, own_below HI.out.own hb2, HI.out.len, HI.out.eq⟩)
        have HK2 := Lib.hid k2
        have HW2 := Lib.hid hW2
        have y0 := k2.at_ 0
        have y2 := k2.at_ 2
        generalize l[j] = X at *
        obtain ⟨op, num, nm, na, nb, nc⟩ := X
        simp only [ndV, List.getElem?_toArray, List.getElem?_cons_zero, List.getElem?_cons_succ] at q0 q1 q2 q3 q4 q5 y0 y2 HW2 HNM HEQ HK2
        obtain ⟨N, hN⟩ : ∃ N : ByteArray, N = ⟨nm.toArray⟩ := ⟨_, rfl⟩
        rw [← hN] at q2 y2 HW2 HK2
        have HNN := Lib.hid hN
        have HJ := Lib.hid hjn
        clear hW2 hb2 k2 hjl hN
        by_cases hop : op = 2
        · have hop1 : (op == 2) = true := by simp [hop]
          have hop2 : (op != 2) = false := by simp [hop]
          obtain ⟨D, hown, hD, hhas⟩ := HI2.out.set
          have hkey : keyOf Tryz.prog 9 (.string N) = some (.string nm) := by
            rw [Go.WideMaps.keyOf_string_mk Tryz.underlying9 (show N.size ≤ maxLen by rw [Lib.size_eq, HNN.out]; have := HNM.out.1; unfold maxLen; simp only; omega), HNN.out]
          have hok := hhas nm
          have HDD := Lib.hid (And.intro hD hhas)
          clear hD hhas
          by_cases hkn : nm ∈ K
          · have HE := Lib.hid (show R = Ty.nms (l.drop (j + 1)) K from by rw [HEQ.out, if_neg (fun h => h.2 hkn)])
            rw [decide_eq_true hkn] at hok
            clear hop hkn HEQ
            go_wp2_with (first | (at_lookup; refine wpList_lookup_own_unit _ rfl _ _ 135 rfl 9 136 lawS Tryz.underlying135 (zeroU _) w1.heap.size m D rfl (by first | exact hown | (rw [← HW2.out]; exact hown)) _ _ rfl hkey ?_; rw [hok]) | go_in)
            go_roundw
            case rel => exact ⟨_, j + 1, m, K, rfl, by go_num, HJ.out, by omega, Lib.hid (by
              rw [← HW2.out]
              have b := (Below.refl W2.heap.size W2).alloc (Nat.le_refl _) (.cells #[] 136)
              exact ⟨HI2.out.below.trans (b.mono HI2.out.below.size), HI2.out.set.below b, own_below HI2.out.own b, by have := HI2.out.len; omega, HE.out⟩)⟩
            case measure => have := HJ.out; simp [intOf]; omega
          · have HE := Lib.hid (show R = Ty.nms (l.drop (j + 1)) (K ++ [nm]) from by rw [HEQ.out, if_pos ⟨hop, hkn⟩])
            rw [decide_eq_false hkn] at hok
            have K3 := Lib.hid (HK2.out.below ((Below.refl _ _).alloc (Nat.le_refl _) (.cells #[] 136)) HK2.out.lt)
            have HO3 := Lib.hid (own_below HI2.out.own ((Below.refl _ _).alloc (Nat.le_refl _) (.cells #[] 136)))
            have HL3 := Lib.hid (HI2.out.below.trans (((Below.refl W2.heap.size W2).alloc (Nat.le_refl _) (.cells #[] 136)).mono HI2.out.below.size))
            have hmx : m < maxLen := by unfold maxLen; omega
            have hown3 := hown.alloc (.cells #[] 136)
            have HCL := Lib.hid (fun w0 => clone_any N w0 (by rw [Lib.size_eq, HNN.out]; have := HNM.out.1; simp only; omega))
            clear hop hkn HEQ
            go_wp2_with (first | (at_lookup; refine wpList_lookup_own_unit _ rfl _ _ 135 rfl 9 136 lawS Tryz.underlying135 (zeroU _) w1.heap.size m D rfl (by first | exact hown | (rw [← HW2.out]; exact hown)) _ _ rfl hkey ?_; rw [hok]) | (at_mapUpdate; rw [← HW2.out]; refine wpList_mapUpdate_own _ rfl _ _ _ 135 rfl 9 136 lawS Tryz.underlying135 unitElem w1.heap.size m D rfl hown3 hmx _ _ _ rfl rfl hkey (.agg []) [] unitElem_mk ?_; intro w4 hown4 hgr4; have y4 : w4.cell? ⟨wr.heap.size, 2, none⟩ = some (.string N) := (K3.out.grown hgr4 (fun e => by have h1 := HMB.out; injection e; omega)).at_ 2; have HM4 := Lib.hid (And.intro hown4 hgr4); clear hown4 hgr4) | fail)
            refine (HCL.out w4).mono ?_
            rintro e w5 ⟨rfl, hb5⟩
            have HL4 := Lib.hid (HL3.out.grown HM4.out.2 HL3.out.size (fun k hk => by cases hk; exact Nat.le_refl _))
            have hob : ∀ k, (Value.slice A3 K.length c3).ownBlock = some k → w1.heap.size + 1 ≤ k := fun k hk => (HO3.out.lt k hk).1
            have HO4 := Lib.hid (HO3.out.kept HM4.out.2 (Or.inr (fun e => by have := hob _ e; omega)))
            have HS4 := Lib.hid (show KnM w4 w1.heap.size (m + 1) (K ++ [nm]) from ⟨_, HM4.out.1, HDD.out.1.put _ _, fun x => has_put HDD.out.1 HDD.out.2 nm x⟩)
            have HL5 := Lib.hid (HL4.out.trans (hb5.mono HL4.out.size))
            have HO5 := Lib.hid (own_below HO4.out hb5)
            have HS5 := Lib.hid (HS4.out.below hb5)
            have HOB := Lib.hid hob
            have hsz5 := HS5.out.lt
            have hnk := HI.out.len
            obtain ⟨N3, hN3⟩ : ∃ N3, N3 = K.length := ⟨_, rfl⟩
            rw [← hN3] at HO5 HOB hnk
            rw [← hN3]
            have HN3 := Lib.hid hN3
            have hbig : N3 + 1 ≤ maxLen := by unfold maxLen; omega
            clear hb5 hN3 hown hown3 hok hkey hob y4
            go_wp2_with (at_builtin; (refine wpList_append_own _ rfl _ _ _ rfl (w1.heap.size + 1) 9 i0 _ 1 16 Tryz.underlying44 hi hy0 hy1 hy2 rfl (by omega) (.slice A3 N3 c3) N3 (K.map nmV) (by rfl) (by exact World.ownsRow.alloc HO5.out _) _ 1 _ [.string N] (by rfl) rfl (by intro j u hu; exact news_at _ _ _ _ (by simp) j u hu) (by intro u hu; simp at hu; subst hu; rfl) hbig (by omega) (by simp; omega) ?_); intro v9 w9 hown9 hgr9 _; have HR9 := Lib.hid (And.intro hown9 (And.intro (show Below w1.heap.size w1 w9 from Below.grown (HL5.out.alloc HL5.out.size _) hgr9 (by simp; omega) (fun k hk => by have := HOB.out k hk; omega)) (show KnM w9 w1.heap.size (m + 1) (K ++ [nm]) from (HS5.out.below ((Below.refl _ _).alloc (Nat.le_refl _) _)).grown hgr9 (fun e => by have h1 := HOB.out _ e.symm; omega)))); clear hown9 hgr9)
            go_roundw
            case rel => exact ⟨v9, j + 1, m + 1, K ++ [nm], rfl, by go_num, HJ.out, by omega, Lib.hid ⟨HR9.out.2.1, HR9.out.2.2, by
              have h := HR9.out.1
              rw [HNN.out] at h
              rw [List.length_append, List.map_append, ← HN3.out]; exact h, by rw [List.length_append, ← HN3.out]; simp; omega, HE.out⟩⟩
            case measure => have := HJ.out; simp [intOf]; omega
        · have hop1 : (op == 2) = false := by simpa using hop
          have hop2 : (op != 2) = true := by simp [bne, hop1]
          have HE := Lib.hid (show R = Ty.nms (l.drop (j + 1)) K from by rw [HEQ.out, if_neg (fun h => hop h.1)])
          clear hop HEQ
          go_wp2
          go_roundw
          case rel => exact ⟨_, j + 1, m, K, rfl, by go_num, HJ.out, by omega, Lib.hid (by
            rw [← HW2.out]
            exact ⟨HI2.out.below, HI2.out.set, HI2.out.own, by have := HI2.out.len; omega, HE.out⟩)⟩
          case measure => have := HJ.out; simp [intOf]; omega
      · obtain rfl : j = n := by omega
        have hjn' : ¬ (j : Int) < (j : Int) := by omega
        have HE := Lib.hid (show R = K from by
          have h := HI.out.eq
          rw [List.drop_of_length_le (by rw [← HN.out]; exact Nat.le_refl _)] at h
          exact h)
        clear hjn
        go_wp2
        go_ret
        exact ⟨_, by rw [HE.out]; exact own_less HI.out.own (Nat.le_succ_of_le HB1.out.size), rfl, HBX.out⟩
end Go.Proofs.YtdcjpinbflmikaaGreatDoor
namespace Go.Proofs.YtdcjpinbflmikaaGreatDoor
open Go.RowKit Ex
theorem prse_fit {s : List UInt8} (h : (prse s).2.2 = 0) : Fit (prse s).1 ∧ ∃ x, (prse s).1 = flat x 0 ∧ wr x ∧ dp x ≤ 64 := by
  obtain ⟨x, h1, h2, h3, h4⟩ := prse_ok h
  obtain ⟨q1, q2, _, q4⟩ := read_fine h3
  have hs : s.length ≤ 65536 := Decidable.byContradiction fun hn => by
    unfold Lx.toks at h4; rw [if_pos (by omega)] at h4; cases h4
  have h5 := toks_less hs
  have hk : (kxs (Lx.toks s).1).length = (Lx.toks s).1.length := by simp [kxs]
  have hf := flat_fine x 0 q1 q2
  rw [h1]
  exact ⟨⟨by rw [flat_len]; omega, fun n hn => ⟨by have := (hf n hn).1.1; omega, (hf n hn).1.2⟩⟩, x, rfl, q1, h2⟩
theorem ndr_nil (w : World) (B : Nat) : NdR w B none [] := fun _ hj => absurd hj (Nat.not_lt_zero _)
def gtx (s : List UInt8) : List UInt8 := if (Lx.toks s).2.2 = 0 ∧ (Lx.toks s).1 = [] then [116, 114, 117, 101] else s
def grX (X : List Nd × Nat × Int) (ns : List Ty.Nm) : List Nd × Nat × Int :=
  if X.2.2 ≠ 0 then ([], X.2.1, X.2.2) else if (ofs (kds X.1 ns)).1 ≠ 2 then ([], 0, 90) else (X.1, 0, 0)
def grd (s : List UInt8) (ns : List Ty.Nm) : List Nd × Nat × Int := grX (prse (gtx s)) ns
set_option maxHeartbeats 8000000 in
set_option maxRecDepth 100000 in
theorem guard_any (w : World) (T : Tyx w) (s : ByteArray) (hs : s.size ≤ maxLen) (A3 : Option Addr) (c3 : Nat) (ns : List Ty.Nm) (hn : NsR w w.heap.size A3 ns) (hc3 : ns.length ≤ c3) (hfn : FitN ns) :
    Calls Tryz.prog 28 #[.string s, .slice A3 ns.length c3] w (PrA (grd s.data.toList ns) w) := by
  obtain ⟨W0, hW0⟩ : ∃ W0, W0 = w.alloc (.cells #[.slice none 0 0] 29) := ⟨_, rfl⟩
  have hb0 : Below w.heap.size w W0 := by rw [hW0]; exact (Below.refl _ _).alloc (Nat.le_refl _) _
  have k0 : IsBlk W0 w.heap.size 29 #[.slice none 0 0] := by rw [hW0]; exact IsBlk.new _ _ _
  have HTK := Lib.hid (ltoks_any s W0 hs (T.below hb0).tx.sg)
  obtain ⟨u, hu⟩ : ∃ u : ByteArray, u.data.toList = gtx s.data.toList ∧ u.size ≤ maxLen ∧ (((Lx.toks s.data.toList).2.2 = 0 ∧ (Lx.toks s.data.toList).1 = []) ∧ u = ⟨#[116, 114, 117, 101]⟩ ∨ ¬ ((Lx.toks s.data.toList).2.2 = 0 ∧ (Lx.toks s.data.toList).1 = []) ∧ u = s) := by
    by_cases h : (Lx.toks s.data.toList).2.2 = 0 ∧ (Lx.toks s.data.toList).1 = []
    · exact ⟨⟨#[116, 114, 117, 101]⟩, (if_pos h).symm, by decide, Or.inl ⟨h, rfl⟩⟩
    · exact ⟨s, (if_neg h).symm, hs, Or.inr ⟨h, rfl⟩⟩
  obtain ⟨Y, hY⟩ : ∃ Y, Y = grd s.data.toList ns := ⟨_, rfl⟩
  rw [← hY]
  unfold grd at hY
  rw [← hu.1] at hY
  have HPA := Lib.hid (fun w0 (T0 : Tx w0) => eparse_any u w0 T0 hu.2.1)
  have HFT := Lib.hid (@prse_fit u.data.toList)
  generalize prse u.data.toList = XX at *
  obtain ⟨X, p, z⟩ := XX
  simp only at HPA HFT
  have HY := Lib.hid hY
  have HW0 := Lib.hid hW0
  have HB0 := Lib.hid hb0
  have K0 := Lib.hid k0
  have HU := Lib.hid hu.2.2
  generalize Lx.toks s.data.toList = L at *
  obtain ⟨ts, tp, tz⟩ := L
  simp only at HU
  clear hW0 hb0 k0 hY hu
  go_enter Tryz.func28, Tryz.ntmps28
  go_wp2_with fail
  rw [← HW0.out]
  refine HTK.out.mono ?_
  rintro e w1 ⟨At, ct, hot, rfl, hb1⟩
  simp only at hot
  have HB1 := Lib.hid (HB0.out.trans (hb1.mono HB0.out.size))
  have HG1 := Lib.hid (And.intro (T.below HB1.out) (K0.out.below hb1 K0.out.lt))
  clear hot hb1
  rcases HU.out with ⟨⟨rfl, rfl⟩, rfl⟩ | ⟨hno, rfl⟩
  · clear HU
    go_wp2_with fail
    refine (HPA.out w1 HG1.out.1.tx).mono ?_
    rintro e w2 ⟨A2, c2, ho, rfl, hb2⟩
    simp only at ho
    have hk2 := HG1.out.2.below hb2 HG1.out.2.lt
    have hs0 : w.heap.size < w1.heap.size := HG1.out.2.lt
    obtain ⟨V, hV⟩ : ∃ V, V = w2.setCell ⟨w.heap.size, 0, none⟩ (.slice A2 X.length c2) := ⟨_, rfl⟩
    have hkV : IsBlk V w.heap.size 29 #[.slice A2 X.length c2] := by rw [hV]; exact hk2.set 0 _
    have hoV : V.ownsRow w1.heap.size 34 6 (.slice A2 X.length c2) X.length (X.flatMap ndV) := by rw [hV]; exact own_set ho hk2 (by decide) 0 _
    have hbV : Below w.heap.size w V := by rw [hV]; exact (HB1.out.trans (hb2.mono HB1.out.size)).setCell (p := ⟨w.heap.size, 0, none⟩) (Nat.le_refl _) _
    have m0 := hk2.at_ 0
    have f0 := hk2.fz 0
    simp only [List.getElem?_toArray, List.getElem?_cons_zero] at m0
    have HKV := Lib.hid (And.intro hkV (And.intro hoV hbV))
    have n0 := hkV.at_ 0
    have f1 := hkV.fz 0
    simp only [List.getElem?_toArray, List.getElem?_cons_zero] at n0
    have HV := Lib.hid hV
    rw [hV] at n0 f1
    clear hV hkV hoV hbV ho hb2 hk2
    by_cases hz : z = 0
    · subst hz
      obtain ⟨hfit, _⟩ := HFT.out rfl
      have hnd := own_ndr HKV.out.2.1 rfl
      have HOF := Lib.hid (of_any V (T.below HKV.out.2.2) A2 c2 X hnd.1 hnd.2.1 hfit A3 c3 ns (hn.on HKV.out.2.2) hc3 hfn)
      have HE := Lib.hid (show Y = if (ofs (kds X ns)).1 ≠ 2 then ([], 0, 90) else (X, 0, 0) from by rw [HY.out]; exact if_neg (fun h => h rfl))
      generalize ofs (kds X ns) = O at *
      obtain ⟨k, a, y⟩ := O
      simp only at HOF HE
      go_wp2_with fail
      rw [← HV.out]
      refine HOF.out.mono ?_
      rintro e w3 ⟨rfl, hb3⟩
      have k3 := HKV.out.1.below hb3 HKV.out.1.lt
      have r0 := k3.at_ 0
      have r1 := k3.fz 0
      simp only [List.getElem?_toArray, List.getElem?_cons_zero] at r0
      have HK3 := Lib.hid (And.intro k3 (And.intro (own_below HKV.out.2.1 hb3) (HKV.out.2.2.trans (hb3.mono HKV.out.2.2.size))))
      clear hb3 k3 n0 f1 m0 f0
      by_cases hk : k = 2
      · subst hk
        have HE2 := Lib.hid (show Y = (X, 0, 0) from by rw [HE.out]; exact if_neg (fun h => h rfl))
        go_wp2
        have k4 := HK3.out.1.set 0 (.slice A2 X.length c2)
        have r4 := k4.at_ 0
        refine bodyPost_ret (v := .tuple #[.agg #[.slice A2 X.length c2], .int .i64 0, .int .i64 0]) (by simp [results, Tryz.results28, go_sem, r4]) rfl ?_
        rw [HE2.out]
        have o4 := own_set HK3.out.2.1 HK3.out.1 (by decide) 0 (.slice A2 X.length c2)
        have h4 := own_ndr o4 rfl
        exact ⟨A2, c2, h4.1, h4.2.1, rfl, HK3.out.2.2.setCell (p := ⟨w.heap.size, 0, none⟩) (Nat.le_refl _) _⟩
      · have hk1 : ((k : Int) == 2) = false := beq_eq_false_iff_ne.2 (by omega)
        have HE2 := Lib.hid (show Y = ([], 0, 90) from by rw [HE.out]; exact if_pos hk)
        go_wp2
        have k4 := HK3.out.1.set 0 (.slice none 0 0)
        have r4 := k4.at_ 0
        refine bodyPost_ret (v := .tuple #[.agg #[.slice none 0 0], .int .i64 0, .int .i64 90]) (by simp [results, Tryz.results28, go_sem, r4]) rfl ?_
        rw [HE2.out]
        exact ⟨none, 0, ndr_nil _ _, Nat.le_refl _, rfl, HK3.out.2.2.setCell (p := ⟨w.heap.size, 0, none⟩) (Nat.le_refl _) _⟩
    · have hz1 : (z == 0) = false := by simpa using hz
      have hz2 : (z != 0) = true := by simp [bne, hz1]
      have HE := Lib.hid (show Y = ([], p, z) from by rw [HY.out]; exact if_pos hz)
      go_wp2
      have k4 := HKV.out.1.set 0 (.slice none 0 0)
      have r4 := k4.at_ 0
      have b4 := HKV.out.2.2.setCell (p := ⟨w.heap.size, 0, none⟩) (Nat.le_refl _) (.slice none 0 0)
      rw [HV.out] at r4 b4
      refine bodyPost_ret (v := .tuple #[.agg #[.slice none 0 0], .int .i64 (p : Nat), .int .i64 z]) (by simp [results, Tryz.results28, go_sem, r4]) rfl ?_
      rw [HE.out]
      exact ⟨none, 0, ndr_nil _ _, Nat.le_refl _, rfl, b4⟩
  · have htz : (tz == 0) = false ∨ (tz == 0) = true ∧ ((ts.length : Int) == 0) = false := by
      by_cases h : tz = 0
      · right
        refine ⟨by simp [h], beq_eq_false_iff_ne.2 (fun q => hno ⟨h, List.eq_nil_of_length_eq_zero (by omega)⟩)⟩
      · left; simpa using h
    clear HU hno
    rcases htz with h1 | ⟨h1, h2⟩
    all_goals
      go_wp2_with fail
      refine (HPA.out w1 HG1.out.1.tx).mono ?_
      rintro e w2 ⟨A2, c2, ho, rfl, hb2⟩
      simp only at ho
      have hk2 := HG1.out.2.below hb2 HG1.out.2.lt
      have hs0 : w.heap.size < w1.heap.size := HG1.out.2.lt
      obtain ⟨V, hV⟩ : ∃ V, V = w2.setCell ⟨w.heap.size, 0, none⟩ (.slice A2 X.length c2) := ⟨_, rfl⟩
      have hkV : IsBlk V w.heap.size 29 #[.slice A2 X.length c2] := by rw [hV]; exact hk2.set 0 _
      have hoV : V.ownsRow w1.heap.size 34 6 (.slice A2 X.length c2) X.length (X.flatMap ndV) := by rw [hV]; exact own_set ho hk2 (by decide) 0 _
      have hbV : Below w.heap.size w V := by rw [hV]; exact (HB1.out.trans (hb2.mono HB1.out.size)).setCell (p := ⟨w.heap.size, 0, none⟩) (Nat.le_refl _) _
      have m0 := hk2.at_ 0
      have f0 := hk2.fz 0
      simp only [List.getElem?_toArray, List.getElem?_cons_zero] at m0
      have HKV := Lib.hid (And.intro hkV (And.intro hoV hbV))
      have n0 := hkV.at_ 0
      have f1 := hkV.fz 0
      simp only [List.getElem?_toArray, List.getElem?_cons_zero] at n0
      have HV := Lib.hid hV
      rw [hV] at n0 f1
      clear hV hkV hoV hbV ho hb2 hk2
      by_cases hz : z = 0
      · subst hz
        obtain ⟨hfit, _⟩ := HFT.out rfl
        have hnd := own_ndr HKV.out.2.1 rfl
        have HOF := Lib.hid (of_any V (T.below HKV.out.2.2) A2 c2 X hnd.1 hnd.2.1 hfit A3 c3 ns (hn.on HKV.out.2.2) hc3 hfn)
        have HE := Lib.hid (show Y = if (ofs (kds X ns)).1 ≠ 2 then ([], 0, 90) else (X, 0, 0) from by rw [HY.out]; exact if_neg (fun h => h rfl))
        generalize ofs (kds X ns) = O at *
        obtain ⟨k, a, y⟩ := O
        simp only at HOF HE
        go_wp2_with fail
        rw [← HV.out]
        refine HOF.out.mono ?_
        rintro e w3 ⟨rfl, hb3⟩
        have k3 := HKV.out.1.below hb3 HKV.out.1.lt
        have r0 := k3.at_ 0
        have r1 := k3.fz 0
        simp only [List.getElem?_toArray, List.getElem?_cons_zero] at r0
        have HK3 := Lib.hid (And.intro k3 (And.intro (own_below HKV.out.2.1 hb3) (HKV.out.2.2.trans (hb3.mono HKV.out.2.2.size))))
        clear hb3 k3 n0 f1 m0 f0
        by_cases hk : k = 2
        · subst hk
          have HE2 := Lib.hid (show Y = (X, 0, 0) from by rw [HE.out]; exact if_neg (fun h => h rfl))
          go_wp2
          have k4 := HK3.out.1.set 0 (.slice A2 X.length c2)
          have r4 := k4.at_ 0
          refine bodyPost_ret (v := .tuple #[.agg #[.slice A2 X.length c2], .int .i64 0, .int .i64 0]) (by simp [results, Tryz.results28, go_sem, r4]) rfl ?_
          rw [HE2.out]
          have o4 := own_set HK3.out.2.1 HK3.out.1 (by decide) 0 (.slice A2 X.length c2)
          have h4 := own_ndr o4 rfl
          exact ⟨A2, c2, h4.1, h4.2.1, rfl, HK3.out.2.2.setCell (p := ⟨w.heap.size, 0, none⟩) (Nat.le_refl _) _⟩
        · have hk1 : ((k : Int) == 2) = false := beq_eq_false_iff_ne.2 (by omega)
          have HE2 := Lib.hid (show Y = ([], 0, 90) from by rw [HE.out]; exact if_pos hk)
          go_wp2
          have k4 := HK3.out.1.set 0 (.slice none 0 0)
          have r4 := k4.at_ 0
          refine bodyPost_ret (v := .tuple #[.agg #[.slice none 0 0], .int .i64 0, .int .i64 90]) (by simp [results, Tryz.results28, go_sem, r4]) rfl ?_
          rw [HE2.out]
          exact ⟨none, 0, ndr_nil _ _, Nat.le_refl _, rfl, HK3.out.2.2.setCell (p := ⟨w.heap.size, 0, none⟩) (Nat.le_refl _) _⟩
      · have hz1 : (z == 0) = false := by simpa using hz
        have hz2 : (z != 0) = true := by simp [bne, hz1]
        have HE := Lib.hid (show Y = ([], p, z) from by rw [HY.out]; exact if_pos hz)
        go_wp2
        have k4 := HKV.out.1.set 0 (.slice none 0 0)
        have r4 := k4.at_ 0
        have b4 := HKV.out.2.2.setCell (p := ⟨w.heap.size, 0, none⟩) (Nat.le_refl _) (.slice none 0 0)
        rw [HV.out] at r4 b4
        refine bodyPost_ret (v := .tuple #[.agg #[.slice none 0 0], .int .i64 (p : Nat), .int .i64 z]) (by simp [results, Tryz.results28, go_sem, r4]) rfl ?_
        rw [HE.out]
        exact ⟨none, 0, ndr_nil _ _, Nat.le_refl _, rfl, b4⟩
end Go.Proofs.YtdcjpinbflmikaaGreatDoor
namespace Go.Proofs.YtdcjpinbflmikaaGreatDoor
open Go.RowKit Ex
def ofX (X : List Nd × Nat × Int) (ns : List Ty.Nm) : Nat × Int × Int := if X.2.2 ≠ 0 then (0, -1, X.2.2) else ((ofs (kds X.1 ns)).1, ((ofs (kds X.1 ns)).2.1 : Nat), (ofs (kds X.1 ns)).2.2)
set_option maxHeartbeats 4000000 in
set_option maxRecDepth 100000 in
theorem oft_any (w : World) (T : Tyx w) (s : ByteArray) (hs : s.size ≤ maxLen) (A3 : Option Addr) (c3 : Nat) (ns : List Ty.Nm) (hn : NsR w w.heap.size A3 ns) (hc3 : ns.length ≤ c3) (hfn : FitN ns) {O : Nat × Int × Int} (hO : ofX (prse s.data.toList) ns = O) :
    Calls Tryz.prog 70 #[.string s, .slice A3 ns.length c3] w fun e w' => e = .returned (.tuple #[.int .u8 (O.1 : Nat), .int .i64 O.2.1, .int .i64 O.2.2]) ∧ Below w.heap.size w w' := by
  have HPA := Lib.hid (parse_val s rfl hs w T.tx)
  have HFT := Lib.hid (@prse_fit s.data.toList)
  generalize prse s.data.toList = XX at *
  obtain ⟨X, p, z⟩ := XX
  simp only at HFT
  have HO := Lib.hid hO
  obtain ⟨k, a, y⟩ := O
  simp only
  by_cases hz : z = 0
  · subst hz
    have HE := Lib.hid (show ((ofs (kds X ns)).1, ((ofs (kds X ns)).2.1 : Int), (ofs (kds X ns)).2.2) = (k, a, y) from by rw [← HO.out]; exact (if_neg (fun h => h rfl)).symm)
    have HG := Lib.hid (And.intro T (And.intro hn (And.intro hc3 hfn)))
    clear T hn hc3 hfn hO HO hs
    go_enter Tryz.func70, Tryz.ntmps70
    go_wp2_with fail
    refine HPA.out.mono ?_
    rintro e w1 ⟨A1, c1, row, cap, rfl, hb⟩
    simp only at row cap
    obtain ⟨V, hV⟩ : ∃ V, V = w1.alloc (.cells #[.slice A1 X.length c1] 29) := ⟨_, rfl⟩
    have hv := hb.alloc hb.size (.cells #[.slice A1 X.length c1] 29)
    rw [← hV] at hv
    have xb : Xb V w1.heap.size A1 c1 X := by rw [hV]; exact Xb.new row cap
    have k0 := xb.at_
    have HOF := Lib.hid (of_any V (HG.out.1.below hv) A1 c1 X xb.row cap (HFT.out (by first | rfl | exact True.intro)).1 A3 c3 ns (HG.out.2.1.on hv) HG.out.2.2.1 HG.out.2.2.2)
    have HV := Lib.hid hV
    have HB := Lib.hid hv
    rw [hV] at k0
    generalize ofs (kds X ns) = OO at *
    obtain ⟨k2, a2, y2⟩ := OO
    simp only at HE HOF
    clear hV hv xb row cap hb
    go_wp2_with fail
    rw [← HV.out]
    refine HOF.out.mono ?_
    rintro e w3 ⟨rfl, hb3⟩
    have HB3 := Lib.hid (HB.out.trans (hb3.mono HB.out.size))
    clear hb3 k0
    have he := HE.out
    injection he with e1 he
    injection he with e2 e3
    subst e1 e2 e3
    clear HE
    go_wp2
    go_ret3
    exact ⟨rfl, HB3.out⟩
  · have hz1 : (z == 0) = false := by simpa using hz
    have hz2 : (z != 0) = true := by simp [bne, hz1]
    have he : (0, (-1 : Int), z) = (k, a, y) := by rw [← hO]; exact (if_pos hz).symm
    injection he with e1 he
    injection he with e2 e3
    subst e1 e2 e3
    clear hO HO hz
    go_enter Tryz.func70, Tryz.ntmps70
    go_wp2_with fail
    refine HPA.out.mono ?_
    rintro e w1 ⟨A1, c1, row, cap, rfl, hb⟩
    simp only at row cap
    have HB := Lib.hid (hb.alloc hb.size (.cells #[.slice A1 X.length c1] 29))
    clear row cap hb
    go_wp2
    go_ret3
    exact ⟨rfl, HB.out⟩
abbrev t1_ : ByteArray := ⟨#[120, 32, 43, 32, 49]⟩
abbrev t2_ : ByteArray := ⟨#[120, 32, 60, 32, 49]⟩
abbrev t3_ : ByteArray := ⟨#[105, 102, 32, 116, 114, 117, 101, 32, 116, 104, 101, 110, 32, 120, 32, 101, 108, 115, 101, 32, 49, 32, 101, 110, 100, 105, 102]⟩
abbrev t4_ : ByteArray := ⟨#[120, 32, 43, 32, 116, 114, 117, 101]⟩
abbrev t5_ : ByteArray := ⟨#[121]⟩
abbrev t6_ : ByteArray := ⟨#[]⟩
abbrev t8_ : ByteArray := ⟨#[120, 32, 61, 32]⟩
abbrev nx_ : List Ty.Nm := [[120]]
theorem o1 : ofX (prse t1_.data.toList) nx_ = (1, 0, 0) := by kernel_rfl
theorem o2 : ofX (prse t2_.data.toList) nx_ = (2, 0, 0) := by kernel_rfl
theorem o3 : ofX (prse t3_.data.toList) nx_ = (1, 0, 0) := by kernel_rfl
theorem o4 : ofX (prse t4_.data.toList) nx_ = (0, 2, 90) := by kernel_rfl
theorem o5 : ofX (prse t5_.data.toList) nx_ = (0, 0, 90) := by kernel_rfl
theorem g6 : grd t6_.data.toList [] = ([⟨3, 0, [], -1, -1, -1⟩], 0, 0) := by kernel_rfl
theorem g7 : grd t1_.data.toList nx_ = ([], 0, 90) := by kernel_rfl
theorem g8 : grd t8_.data.toList [] = ([], 4, 80) := by kernel_rfl
theorem fn1 : FitN nx_ := ⟨by decide, by decide⟩
theorem fn0 : FitN [] := ⟨by decide, fun q hq => nomatch hq⟩
theorem nsx (w : World) : NsR (w.alloc (.cells #[.string ⟨#[120]⟩] 9)) (w.alloc (.cells #[.string ⟨#[120]⟩] 9)).heap.size (some ⟨w.heap.size, 0, none⟩) nx_ := fun j hj => by
  obtain rfl : j = 0 := by simp at hj; exact hj
  exact ⟨w.heap.size, 0, rfl, by simp, (IsBlk.new w 9 #[.string ⟨#[120]⟩]).at_ 0⟩
theorem ns0 (w : World) : NsR w w.heap.size none [] := fun _ hj => absurd hj (Nat.not_lt_zero _)
theorem guard_val (s : ByteArray) (hs : s.size ≤ maxLen) (A3 : Option Addr) (c3 : Nat) (ns : List Ty.Nm) (hc3 : ns.length ≤ c3) (hfn : FitN ns) {X : List Nd × Nat × Int} (hX : grd s.data.toList ns = X) (w : World) (T : Tyx w) (hn : NsR w w.heap.size A3 ns) :
    Calls Tryz.prog 28 #[.string s, .slice A3 ns.length c3] w (PrA X w) := by
  have h := guard_any w T s hs A3 c3 ns hn hc3 hfn
  rw [hX] at h; exact h
end Go.Proofs.YtdcjpinbflmikaaGreatDoor
namespace Go.Proofs.YtdcjpinbflmikaaGreatDoor
open Go.RowKit Ex
set_option maxHeartbeats 4000000 in
set_option maxRecDepth 100000 in
theorem tworks_any (w : World) (T : Tyx w) :
    Calls Tryz.prog 21 #[] w fun e w' => e = .returned (.bool true) ∧ Below w.heap.size w w' := by
  have T0 := Lib.hid T
  have B0 := Lib.hid (Below.refl w.heap.size w)
  have P1 := Lib.hid (fun (w0 : World) (T0 : Tyx w0) => oft_any (w0.alloc (.cells #[.string ⟨#[120]⟩] 9)) (T0.below ((Below.refl _ _).alloc (Nat.le_refl _) _)) t1_ (by decide) (some ⟨w0.heap.size, 0, none⟩) 1 nx_ (nsx w0) (by decide) fn1 o1)
  have P2 := Lib.hid (fun (w0 : World) (T0 : Tyx w0) => oft_any (w0.alloc (.cells #[.string ⟨#[120]⟩] 9)) (T0.below ((Below.refl _ _).alloc (Nat.le_refl _) _)) t2_ (by decide) (some ⟨w0.heap.size, 0, none⟩) 1 nx_ (nsx w0) (by decide) fn1 o2)
  have P3 := Lib.hid (fun (w0 : World) (T0 : Tyx w0) => oft_any (w0.alloc (.cells #[.string ⟨#[120]⟩] 9)) (T0.below ((Below.refl _ _).alloc (Nat.le_refl _) _)) t3_ (by decide) (some ⟨w0.heap.size, 0, none⟩) 1 nx_ (nsx w0) (by decide) fn1 o3)
  have P4 := Lib.hid (fun (w0 : World) (T0 : Tyx w0) => oft_any (w0.alloc (.cells #[.string ⟨#[120]⟩] 9)) (T0.below ((Below.refl _ _).alloc (Nat.le_refl _) _)) t4_ (by decide) (some ⟨w0.heap.size, 0, none⟩) 1 nx_ (nsx w0) (by decide) fn1 o4)
  have P5 := Lib.hid (fun (w0 : World) (T0 : Tyx w0) => oft_any (w0.alloc (.cells #[.string ⟨#[120]⟩] 9)) (T0.below ((Below.refl _ _).alloc (Nat.le_refl _) _)) t5_ (by decide) (some ⟨w0.heap.size, 0, none⟩) 1 nx_ (nsx w0) (by decide) fn1 o5)
  have P6 := Lib.hid (fun (w0 : World) (T0 : Tyx w0) => guard_val t6_ (by decide) none 0 [] (by decide) fn0 g6 w0 T0 (ns0 w0))
  have P7 := Lib.hid (fun (w0 : World) (T0 : Tyx w0) (z : Nat) (hz : z = w0.heap.size) => guard_val t1_ (by decide) (some ⟨z, 0, none⟩) 1 nx_ (by decide) fn1 g7 (w0.alloc (.cells #[.string ⟨#[120]⟩] 9)) (T0.below ((Below.refl _ _).alloc (Nat.le_refl _) _)) (by rw [hz]; exact nsx w0))
  have P8 := Lib.hid (fun (w0 : World) (T0 : Tyx w0) => guard_val t8_ (by decide) none 0 [] (by decide) fn0 g8 w0 T0 (ns0 w0))
  simp only [List.length_cons, List.length_nil, Nat.zero_add] at P1 P2 P3 P4 P5 P6 P7 P8
  clear T
  go_enter Tryz.func21, Tryz.ntmps21
  go_wp2_with fail
  refine (P1.out _ T0.out).mono ?_
  rintro e w1 ⟨rfl, hb⟩
  have hv := ((Below.refl _ _).alloc (Nat.le_refl _) (.cells #[.string ⟨#[120]⟩] 9)).trans (hb.mono (by simp))
  have T1 := Lib.hid (T0.out.below hv)
  have B1 := Lib.hid (B0.out.trans (hv.mono B0.out.size))
  clear hb hv
  go_wp2_with fail
  refine (P2.out _ T1.out).mono ?_
  rintro e w2 ⟨rfl, hb⟩
  have hv := ((Below.refl _ _).alloc (Nat.le_refl _) (.cells #[.string ⟨#[120]⟩] 9)).trans (hb.mono (by simp))
  have T2 := Lib.hid (T1.out.below hv)
  have B2 := Lib.hid (B1.out.trans (hv.mono B1.out.size))
  clear hb hv
  go_wp2_with fail
  refine (P3.out _ T2.out).mono ?_
  rintro e w3 ⟨rfl, hb⟩
  have hv := ((Below.refl _ _).alloc (Nat.le_refl _) (.cells #[.string ⟨#[120]⟩] 9)).trans (hb.mono (by simp))
  have T3 := Lib.hid (T2.out.below hv)
  have B3 := Lib.hid (B2.out.trans (hv.mono B2.out.size))
  clear hb hv
  go_wp2_with fail
  refine (P4.out _ T3.out).mono ?_
  rintro e w4 ⟨rfl, hb⟩
  have hv := ((Below.refl _ _).alloc (Nat.le_refl _) (.cells #[.string ⟨#[120]⟩] 9)).trans (hb.mono (by simp))
  have T4 := Lib.hid (T3.out.below hv)
  have B4 := Lib.hid (B3.out.trans (hv.mono B3.out.size))
  clear hb hv
  go_wp2_with fail
  refine (P5.out _ T4.out).mono ?_
  rintro e w5 ⟨rfl, hb⟩
  have hv := ((Below.refl _ _).alloc (Nat.le_refl _) (.cells #[.string ⟨#[120]⟩] 9)).trans (hb.mono (by simp))
  have T5 := Lib.hid (T4.out.below hv)
  have B5 := Lib.hid (B4.out.trans (hv.mono B4.out.size))
  clear hb hv
  go_wp2_with fail
  refine (P6.out _ T5.out).mono ?_
  rintro e w6 ⟨A6, c6, row, cap, rfl, hb⟩
  simp only at row cap
  obtain ⟨g6, o6, hA6, hg6, x0, -⟩ := row 0 (by decide)
  subst hA6
  simp only [Nat.zero_mul, Nat.add_zero, List.getElem_cons_zero] at x0
  have hb6 := hb.alloc hb.size (.cells #[.slice (some ⟨g6, o6, none⟩) 1 c6] 29)
  have T6 := Lib.hid (T5.out.below hb6)
  have B6 := Lib.hid (B5.out.trans (hb6.mono B5.out.size))
  have K6 := Lib.hid (IsBlk.new w6 29 #[.slice (some ⟨g6, o6, none⟩) 1 c6])
  have HX6 := Lib.hid (show (w6.alloc (.cells #[.slice (some ⟨g6, o6, none⟩) 1 c6] 29)).cell? ⟨g6, o6, none⟩ = some (.int .u8 3) from (((Below.refl w6.heap.size w6).alloc (Nat.le_refl _) _).cell (p := ⟨g6, o6, none⟩) hg6).trans x0)
  have HG6 := Lib.hid hg6
  have hc6 : (1 : Int) ≤ (c6 : Int) := by simp at cap; omega
  clear hb hb6 row cap x0 hg6
  go_wp2_with fail
  refine (P7.out _ T6.out _ (by simp)).mono ?_
  rintro e w7 ⟨A7, c7, row, cap, rfl, hb⟩
  simp only at row cap
  have hv := ((Below.refl _ _).alloc (Nat.le_refl _) (.cells #[.string ⟨#[120]⟩] 9)).trans (hb.mono (by simp))
  have hv := hv.alloc hv.size (.cells #[.slice A7 0 c7] 29)
  have T7 := Lib.hid (T6.out.below hv)
  have B7 := Lib.hid (B6.out.trans (hv.mono B6.out.size))
  have K7 := Lib.hid (K6.out.below hv K6.out.lt)
  have HX7 := Lib.hid ((hv.cell (p := ⟨g6, o6, none⟩) (by have := HG6.out; simp; omega)).trans HX6.out)
  have HZ7 := Lib.hid hv.size
  clear hb hv row cap
  go_wp2_with fail
  refine (P8.out _ T7.out).mono ?_
  rintro e w8 ⟨A8, c8, row, cap, rfl, hb⟩
  simp only at row cap
  have hv := hb.alloc hb.size (.cells #[.slice A8 0 c8] 29)
  have B8 := Lib.hid (B7.out.trans (hv.mono B7.out.size))
  have x8 := (K7.out.below hv K7.out.lt).at_ 0
  have y8 := (hv.cell (p := ⟨g6, o6, none⟩) (by have h1 := HG6.out; have h2 := HZ7.out; simp at h2 ⊢; omega)).trans HX7.out
  simp only [List.getElem?_toArray, List.getElem?_cons_zero] at x8
  clear hb hv row cap
  go_wp2
  go_ret
  exact ⟨rfl, B8.out⟩
end Go.Proofs.YtdcjpinbflmikaaGreatDoor
namespace Go.Proofs.YtdcjpinbflmikaaGreatDoor
open Go.RowKit Ex
def FewT (l : List Nd) (ns : List Ty.Nm) : Prop := (l.length ≤ 60 ∧ ns.length ≤ 20) ∧ (∀ q ∈ ns, q.length ≤ 100) ∧ ∀ n ∈ l, n.nm.length ≤ 100
instance (l : List Nd) (ns : List Ty.Nm) : Decidable (FewT l ns) := inferInstanceAs (Decidable (_ ∧ _))
set_option maxHeartbeats 4000000 in
set_option maxRecDepth 100000 in
theorem fewt_any (w : World) (A : Option Addr) (c : Nat) (l : List Nd) (hl : NdR w w.heap.size A l) (hc : l.length ≤ c) (hn : l.length ≤ 9223372036854775807) (A2 : Option Addr) (c2 : Nat) (ns : List Ty.Nm) (hs : NsR w w.heap.size A2 ns) (hc2 : ns.length ≤ c2) (hn2 : ns.length ≤ 9223372036854775807) :
    Calls Tryz.prog 20 #[.agg #[.slice A l.length c], .slice A2 ns.length c2] w fun e w' => e = .returned (.bool (decide (FewT l ns))) ∧ Below w.heap.size w w' := by
  obtain ⟨R, hR⟩ : ∃ R, R = decide (FewT l ns) := ⟨_, rfl⟩
  rw [← hR]
  obtain ⟨W0, hW0⟩ : ∃ W0, W0 = w.alloc (.cells #[.slice A l.length c] 29) := ⟨_, rfl⟩
  have hb0 : Below w.heap.size w W0 := by rw [hW0]; exact (Below.refl _ _).alloc (Nat.le_refl _) _
  have X0 := Lib.hid (show Xb W0 w.heap.size A c l by rw [hW0]; exact Xb.new hl hc)
  have HB0 := Lib.hid hb0
  have HS0 := Lib.hid (hs.on hb0)
  have k0 := X0.out.at_
  have HW0 := Lib.hid hW0
  obtain ⟨n, hnl⟩ : ∃ n, n = l.length := ⟨_, rfl⟩
  obtain ⟨m, hml⟩ : ∃ m, m = ns.length := ⟨_, rfl⟩
  rw [← hnl] at hW0 hc hn ⊢
  rw [← hnl] at HW0 k0
  rw [← hml] at hc2 hn2 ⊢
  have HN := Lib.hid (And.intro hnl hml)
  have hc' : (n : Int) ≤ (c : Int) := by omega
  have hc2' : (m : Int) ≤ (c2 : Int) := by omega
  have HR := Lib.hid hR
  rw [HW0.out] at k0
  clear hR hW0 hb0 hl hnl hs hml
  by_cases hbig : n > 60
  · have hbig' : (n : Int) > 60 := by omega
    have HF := Lib.hid (show R = false from by rw [HR.out]; exact decide_eq_false (fun h => by have := h.1.1; rw [← HN.out.1] at this; omega))
    go_enter Tryz.func20, Tryz.ntmps20
    go_wp2
    go_ret
    rw [← HW0.out]
    exact ⟨by rw [HF.out]; rfl, HB0.out⟩
  · have hbig' : ¬ (n : Int) > 60 := by omega
    by_cases hbg2 : m > 20
    · have hbg2' : (m : Int) > 20 := by omega
      have HF := Lib.hid (show R = false from by rw [HR.out]; exact decide_eq_false (fun h => by have := h.1.2; rw [← HN.out.2] at this; omega))
      go_enter Tryz.func20, Tryz.ntmps20
      go_wp2
      go_ret
      rw [← HW0.out]
      exact ⟨by rw [HF.out]; rfl, HB0.out⟩
    · have hbg2' : ¬ (m : Int) > 20 := by omega
      have hn60 : n ≤ 60 := by omega
      have hm20 : m ≤ 20 := by omega
      go_enter Tryz.func20, Tryz.ntmps20
      go_wp2
      rw [← HW0.out]
      clear k0
      go_loopw [5] (fun iv wr => ∃ i : Nat, iv = .int .i64 i ∧ i ≤ m ∧ Hid (Below W0.heap.size W0 wr ∧ ∀ q ∈ ns.take i, q.length ≤ 100)) (fun iv _ => m - (intOf iv).toNat)
      case atStart => exact ⟨0, rfl, Nat.zero_le _, Lib.hid ⟨Below.refl _ _, by simp⟩⟩
      case round =>
        obtain ⟨i, rfl, hi, HI⟩ := hrel
        by_cases hik : i < m
        · have hik' : (i : Int) < (m : Int) := by omega
          have hil : i < ns.length := by rw [← HN.out.2]; exact hik
          obtain ⟨g, o, hA, hg, p2⟩ := (HS0.out.on HI.out.1) i hil
          subst hA
          have HNE := Lib.hid (show 100 < ns[i].length → R = false from fun h => by
            rw [HR.out]; exact decide_eq_false (fun e => by have := e.2.1 _ (List.getElem_mem hil); omega))
          have HEQ := Lib.hid (show ns[i].length ≤ 100 → ∀ q ∈ ns.take (i + 1), q.length ≤ 100 from fun h q hq => by
            rw [List.take_succ_eq_append_getElem hil] at hq
            rcases List.mem_append.1 hq with hq | hq
            · exact HI.out.2 q hq
            · rw [List.mem_singleton.1 hq]; exact h)
          have HIK := Lib.hid hik
          generalize ns[i] = nm at *
          clear hik hil
          obtain ⟨N, hN⟩ : ∃ N : ByteArray, N = ⟨nm.toArray⟩ := ⟨_, rfl⟩
          rw [← hN] at p2
          have hNs : N.size = nm.length := by rw [hN]; simp [ByteArray.size]
          rw [← hNs] at HNE HEQ
          clear hN hNs
          by_cases e0 : 100 < N.size
          · have e0' : (N.size : Int) > 100 := by omega
            have HD0 := Lib.hid (HNE.out e0)
            clear HNE HEQ e0
            go_wp2
            go_ret
            exact ⟨by rw [HD0.out]; rfl, HB0.out.trans (HI.out.1.mono HB0.out.size)⟩
          · have e0' : ¬ (N.size : Int) > 100 := by omega
            have HE := Lib.hid (HEQ.out (by omega))
            clear HNE HEQ e0
            go_wp2
            go_roundw
            case rel => exact ⟨i + 1, by go_num, HIK.out, Lib.hid ⟨HI.out.1, HE.out⟩⟩
            case measure => have := HIK.out; simp [intOf]; omega
        · obtain rfl : i = m := by omega
          have hik' : ¬ ((i : Nat) : Int) < (i : Int) := by omega
          have HNS := Lib.hid (show ∀ q ∈ ns, q.length ≤ 100 from by
            have h3 := HI.out.2
            rw [List.take_of_length_le (by rw [← HN.out.2]; exact Nat.le_refl _)] at h3
            exact h3)
          have HBA := Lib.hid HI.out.1
          clear hik HI
          go_wp2
          generalize wr = wa at *
          go_loopw [6] (fun iv wr => ∃ k : Nat, iv = .int .i64 k ∧ k ≤ n ∧ Hid (Below wa.heap.size wa wr ∧ ∀ q ∈ l.take k, q.nm.length ≤ 100)) (fun iv _ => n - (intOf iv).toNat)
          case atStart => exact ⟨0, rfl, Nat.zero_le _, Lib.hid ⟨Below.refl _ _, by simp⟩⟩
          case round =>
            obtain ⟨k, rfl, hk, HJ⟩ := hrel
            have HB2 := Lib.hid (HBA.out.trans (HJ.out.1.mono HBA.out.size))
            have XI := Lib.hid (X0.out.below HB2.out)
            have k0 := XI.out.at_
            rw [← HN.out.1] at k0
            by_cases hkk : k < n
            · have hkk' : (k : Int) < (n : Int) := by omega
              have hkl : k < l.length := by rw [← HN.out.1]; exact hkk
              obtain ⟨g, o, hA, hg, p0, p1, p2, p3, p4, p5⟩ := XI.out.row k hkl
              subst hA
              have HNE := Lib.hid (show 100 < l[k].nm.length → R = false from fun h => by
                rw [HR.out]; exact decide_eq_false (fun e => by have := e.2.2 _ (List.getElem_mem hkl); omega))
              have HEQ := Lib.hid (show l[k].nm.length ≤ 100 → ∀ q ∈ l.take (k + 1), q.nm.length ≤ 100 from fun h q hq => by
                rw [List.take_succ_eq_append_getElem hkl] at hq
                rcases List.mem_append.1 hq with hq | hq
                · exact HJ.out.2 q hq
                · rw [List.mem_singleton.1 hq]; exact h)
              have HIK := Lib.hid hkk
              generalize l[k].nm = nm at *
              clear hkk hkl p0 p1 p3 p4 p5
              obtain ⟨N, hN⟩ : ∃ N : ByteArray, N = ⟨nm.toArray⟩ := ⟨_, rfl⟩
              rw [← hN] at p2
              have hNs : N.size = nm.length := by rw [hN]; simp [ByteArray.size]
              rw [← hNs] at HNE HEQ
              clear hN hNs
              by_cases e0 : 100 < N.size
              · have e0' : (N.size : Int) > 100 := by omega
                have HD0 := Lib.hid (HNE.out e0)
                clear HNE HEQ e0
                go_wp2
                go_ret
                exact ⟨by rw [HD0.out]; rfl, HB0.out.trans (HB2.out.mono HB0.out.size)⟩
              · have e0' : ¬ (N.size : Int) > 100 := by omega
                have HE := Lib.hid (HEQ.out (by omega))
                clear HNE HEQ e0
                go_wp2
                go_roundw
                case rel => exact ⟨k + 1, by go_num, HIK.out, Lib.hid ⟨HJ.out.1, HE.out⟩⟩
                case measure => have := HIK.out; simp [intOf]; omega
            · obtain rfl : k = n := by omega
              have hkk' : ¬ ((k : Nat) : Int) < (k : Int) := by omega
              have HE := Lib.hid (show R = true from by
                have h3 := HJ.out.2
                rw [List.take_of_length_le (by rw [← HN.out.1]; exact Nat.le_refl _)] at h3
                rw [HR.out]; exact decide_eq_true ⟨⟨by rw [← HN.out.1]; exact hn60, by rw [← HN.out.2]; exact hm20⟩, HNS.out, h3⟩)
              clear hkk
              go_wp2
              go_ret
              exact ⟨by rw [HE.out]; rfl, HB0.out.trans (HB2.out.mono HB0.out.size)⟩
end Go.Proofs.YtdcjpinbflmikaaGreatDoor
namespace Go.Proofs.YtdcjpinbflmikaaGreatDoor
open Go.RowKit Ex
theorem ofs_ok {l : List Nd} {ns : List Ty.Nm} (h : (kds l ns).2.2 = 0) : ∃ k, (k = 1 ∨ k = 2) ∧ ofs (kds l ns) = (k, 0, 0) := by
  obtain ⟨_, _, h2, h3, h4, _⟩ := kds_ok h
  refine ⟨(kds l ns).1.getLastD 0, ?_, if_neg (fun q => q h)⟩
  refine h4 _ ?_
  rw [List.getLastD_eq_getLast?, List.getLast?_eq_getElem?, List.getElem?_eq_getElem (by omega)]
  exact List.getElem_mem _
theorem ofs_bad {X : List Nat × Nat × Int} (h : X.2.2 ≠ 0) : ofs X = (0, X.2.1, X.2.2) := if_pos h
theorem few_fit {l : List Nd} {ns : List Ty.Nm} (h : FewT l ns) (ho : ∀ n ∈ l, 0 ≤ n.op) : Fit l ∧ FitN ns :=
  ⟨⟨by have := h.1.1; omega, fun n hn => ⟨by have := h.2.2 n hn; omega, ho n hn⟩⟩, ⟨by have := h.1.2; omega, fun q hq => by have := h.2.1 q hq; omega⟩⟩
structure MoL (w : World) (A1 : Option Addr) (c1 : Nat) (l : List Nd) (v : World) : Prop where
  below : Below w.heap.size w v
  blk : IsBlk v w.heap.size 29 #[.slice A1 l.length c1]
theorem MoL.new (w : World) (A1 : Option Addr) (c1 : Nat) (l : List Nd) : MoL w A1 c1 l (w.alloc (.cells #[.slice A1 l.length c1] 29)) :=
  ⟨(Below.refl w.heap.size w).alloc (Nat.le_refl _) _, IsBlk.new _ _ _⟩
theorem MoL.on {w : World} {A1 : Option Addr} {c1 : Nat} {l : List Nd} {v v' : World} (h : MoL w A1 c1 l v) (hb : Below v.heap.size v v') : MoL w A1 c1 l v' :=
  ⟨h.below.trans (hb.mono h.below.size), h.blk.below hb h.blk.lt⟩
theorem MoL.at_ {w : World} {A1 : Option Addr} {c1 : Nat} {l : List Nd} {v : World} (h : MoL w A1 c1 l v) : v.cell? ⟨w.heap.size, 0, none⟩ = some (.slice A1 l.length c1) := h.blk.at_ 0
theorem NdR.to {w v : World} {A : Option Addr} {l : List Nd} (h : NdR w w.heap.size A l) (hb : Below w.heap.size w v) : NdR v v.heap.size A l := (h.below hb).more hb.size
end Go.Proofs.YtdcjpinbflmikaaGreatDoor
namespace Go.Proofs.YtdcjpinbflmikaaGreatDoor
open Go.RowKit Go.Shelf Go.Lib
open Go.ChangeShapes Go.WideShapes Go.ChangeAt
set_option maxRecDepth 100000
def laidAllTy : List (String × DataW Unit) := [("math/bits.deBruijn32tab", Rows.laid_math_bits_deBruijn32tab), ("math/bits.deBruijn64tab", Rows.laid_math_bits_deBruijn64tab), ("internal/strconv.uint64pow10", Rows.laid_internal_strconv_uint64pow10), ("unicode/utf8.acceptRanges", Rows.laid_unicode_utf8_acceptRanges), ("strconv.ErrRange", Rows.laid_strconv_ErrRange), ("strconv.ErrSyntax", Rows.laid_strconv_ErrSyntax), ("hopscotch/lex.signs", Rows.laid_hopscotch_lex_signs), ("hopscotch/expr.forms", Rows.laid_hopscotch_expr_forms), ("hopscotch/types.rules", Rows.laid_hopscotch_types_rules), ("unicode/utf8.first", Rows.laid_unicode_utf8_first)]
theorem laid_less : laidAllTy.filter (fun x => x.1 != "hopscotch/types.rules") = laidAllOf := by kernel_rfl
theorem rules_eq : (Rows.laid_hopscotch_types_rules : DataW Unit) = .agg ((List.range 23).map fun op => .agg [.agg [.lit (.int .u8 ((Ty.rl op).1 : Nat)), .lit (.int .u8 ((Ty.rl op).2.1 : Nat)), .lit (.int .u8 ((Ty.rl op).2.2.1 : Nat))], .lit (.int .u8 ((Ty.rl op).2.2.2 : Nat))]) := by kernel_rfl
theorem gRules : Tryz.prog.globalNamed "hopscotch/types.rules" = some 1 := by kernel_rfl
theorem yRules : (Tryz.prog.globals[1]?).map (·.type) = some 210 := by kernel_rfl
theorem cRule : Tryz.prog.cellsOf 209 = 4 := by kernel_rfl
theorem cU8 : Tryz.prog.cellsOf 5 = 1 := by kernel_rfl
theorem cParts : Tryz.prog.cellsOf 207 = 3 := by kernel_rfl
theorem rl_of {W : World} (hL : laidMet Tryz.prog laidAllTy W) : Rl W := by
  have h : VarReads Tryz.prog W "hopscotch/types.rules" Rows.laid_hopscotch_types_rules := laidMet.reads hL (.tail _ (.tail _ (.tail _ (.tail _ (.tail _ (.tail _ (.tail _ (.tail _ (.head _)))))))))
  obtain ⟨g, t, cs, fuel, p, hg, hty, hvar, hd⟩ := h
  obtain rfl := Option.some.inj (gRules.symm.trans hg)
  obtain rfl := Option.some.inj (yRules.symm.trans hty)
  rw [rules_eq] at hd
  intro op hop
  obtain ⟨fuel', d, q, hdi, he⟩ := array_elem Tryz.underlying210 hd op hop
  rw [List.getElem?_map, List.getElem?_range hop] at hdi
  simp only [Option.map_some, Option.some.injEq] at hdi
  subst hdi
  rw [cRule] at he
  obtain ⟨xs, n', _, hxe, _, hxl, hg3⟩ := DataW.trod_struct Tryz.underlying209 he
  have hx2 : xs.length = 2 := hxl
  have hm := (Prod.mk.inj hxe).1
  simp only [DataW.agg.injEq] at hm
  have m := fun (j : Nat) => congrArg (fun (l : List (DataW Unit)) => l[j]?) hm
  have t0 : DataW.trod _ Tryz.prog W _ _ _ n' 207 (List.take (Tryz.prog.cellsOf 207) (List.drop 0 _)) = some (xs[0]'(by omega)) := (hg3 0 _ rfl).trans (List.getElem?_eq_getElem (by omega))
  have t1 : DataW.trod _ Tryz.prog W _ _ _ n' 5 (List.take (Tryz.prog.cellsOf 5) (List.drop 3 _)) = some (xs[1]'(by omega)) := (hg3 1 _ rfl).trans (List.getElem?_eq_getElem (by omega))
  obtain ⟨ys, n2, _, hye, _, hyl, hg4⟩ := DataW.trod_struct Tryz.underlying207 t0
  have hy3 : ys.length = 3 := hyl
  have u0 : DataW.trod _ Tryz.prog W _ _ _ n2 5 (List.take (Tryz.prog.cellsOf 5) (List.drop 0 _)) = some (ys[0]'(by omega)) := (hg4 0 _ rfl).trans (List.getElem?_eq_getElem (by omega))
  have u1 : DataW.trod _ Tryz.prog W _ _ _ n2 5 (List.take (Tryz.prog.cellsOf 5) (List.drop 1 _)) = some (ys[1]'(by omega)) := (hg4 1 _ rfl).trans (List.getElem?_eq_getElem (by omega))
  have u2 : DataW.trod _ Tryz.prog W _ _ _ n2 5 (List.take (Tryz.prog.cellsOf 5) (List.drop 2 _)) = some (ys[2]'(by omega)) := (hg4 2 _ rfl).trans (List.getElem?_eq_getElem (by omega))
  simp only [cU8, cParts] at t1 u0 u1 u2
  obtain ⟨a0, e0, d0, _⟩ := DataW.trod_int Tryz.underlying5 u0
  obtain ⟨a1, e1, d1, _⟩ := DataW.trod_int Tryz.underlying5 u1
  obtain ⟨a2, e2, d2, _⟩ := DataW.trod_int Tryz.underlying5 u2
  obtain ⟨a3, e3, d3, _⟩ := DataW.trod_int Tryz.underlying5 t1
  have m0 := m 0
  have m1 := m 1
  simp only [List.getElem?_map, List.getElem?_eq_getElem (show 0 < xs.length by omega), List.getElem?_eq_getElem (show 1 < xs.length by omega), Option.map_some, d3, hye, List.getElem?_cons_zero, List.getElem?_cons_succ, Option.some.injEq, DataW.lit.injEq, Lit.int.injEq, true_and] at m0 m1
  simp only [DataW.agg.injEq] at m0
  have k := fun (j : Nat) => congrArg (fun (l : List (DataW Unit)) => l[j]?) m0
  have k0 := k 0
  have k1 := k 1
  have k2 := k 2
  simp only [List.getElem?_map, List.getElem?_eq_getElem (show 0 < ys.length by omega), List.getElem?_eq_getElem (show 1 < ys.length by omega), List.getElem?_eq_getElem (show 2 < ys.length by omega), Option.map_some, d0, d1, d2, List.getElem?_cons_zero, List.getElem?_cons_succ, Option.some.injEq, DataW.lit.injEq, Lit.int.injEq, true_and] at k0 k1 k2
  have q0 := congrArg (·[0]?) e0
  have q1 := congrArg (·[0]?) e1
  have q2 := congrArg (·[0]?) e2
  have q3 := congrArg (·[0]?) e3
  simp only [List.getElem?_take, List.getElem?_drop] at q0 q1 q2 q3
  rw [World.var?_cell gRules hvar, World.var?_cell gRules hvar, World.var?_cell gRules hvar, World.var?_cell gRules hvar, ← Array.getElem?_toList, ← Array.getElem?_toList, ← Array.getElem?_toList, ← Array.getElem?_toList, k0, k1, k2, m1]
  exact ⟨by simpa using q0, by simpa using q1, by simpa using q2, by simpa using q3⟩
theorem tyx_of {W : World} (hL : laidMet Tryz.prog laidAllTy W) : Tyx W :=
  ⟨tx_of (by have h := laidMet.filter (fun x => x.1 != "hopscotch/types.rules") hL; rw [laid_less] at h; exact h), rl_of hL⟩
section
variable {H : Type} {enc : TypeId × Value → H} {W : World}
theorem strs_of {r : Reach} {b0 : Nat} {v : Value} {d : DataW H} {p : List MemPlace} (hv : Value.okWide Tryz.prog W r b0 44 v) (h : DataW.Trod enc Tryz.prog W 0 (fun _ => true) true 44 v d p) :
    ∃ A c ns, v = .slice A ns.length c ∧ ns.length ≤ c ∧ c ≤ maxLen ∧ (A = none → ns.length = 0 ∧ c = 0) ∧ NsR W W.heap.size A ns := by
  obtain ⟨a0, len0, cap0, rfl⟩ := okWide_slice Tryz.underlying44 hv
  obtain ⟨fuel, hf⟩ := h
  rcases Deep.open_strs Tryz.underlying44 Tryz.underlying9 (by kernel_rfl) hf with ⟨hc, _⟩ | ⟨a, len, cap, m, Sx, hcs, _, hl, hm, hmm, _, hi⟩
  · simp only [Value.cells, List.cons.injEq, and_true] at hc
    exact ⟨none, 0, [], hc, Nat.le_refl _, by decide, fun _ => ⟨rfl, rfl⟩, fun j hj => absurd hj (by simp)⟩
  · simp only [Value.cells, List.cons.injEq, and_true] at hcs
    have hlen : ((List.range len).map fun i => (Sx i).data.toList).length = len := by simp
    refine ⟨some a, cap, (List.range len).map fun i => (Sx i).data.toList, by rw [hlen]; exact hcs, by rw [hlen]; exact hl, hm, (fun h => (by cases h)), fun j hj => ?_⟩
    rw [hlen] at hj
    have h0 := (hi 0 (by rw [hmm]; simp; omega)).1
    have hj1 := (hi j (by rw [hmm]; simp; omega)).1
    obtain ⟨ha, hb⟩ := cell_plain h0
    have hz : a.add 0 = a := by unfold Addr.add; rw [if_pos rfl]
    rw [hz] at ha hb
    refine ⟨a.block, a.off, by rw [← ha], hb, ?_⟩
    rw [ha, add_plain] at hj1
    rw [List.getElem_map, List.getElem_range]
    exact hj1
end
end Go.Proofs.YtdcjpinbflmikaaGreatDoor
