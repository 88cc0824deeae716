/- Facts and walks for the statement. -/
import Derived.Test.YtmmdigeciphglaaGreatDoorPzB22
namespace Go.Proofs.YtmmdigeciphglaaGreatDoor
open Go.RowKit Ex Go.Maps
set_option maxHeartbeats 4000000 in
set_option maxRecDepth 100000 in
theorem ahas_any (w : World) (b m : Nat) (ns : List Ty.Nm) (h : KnM w b m ns) (nm : Ty.Nm) (hn : nm.length ≤ 1000000) :
    Calls Tryz.prog 79 #[.map (some b), .string ⟨nm.toArray⟩] w fun e w' => e = .returned (.bool (decide (nm ∈ ns))) ∧ Below w.heap.size w w' := by
  obtain ⟨D, hown, hD, hhas⟩ := h
  obtain ⟨N, hN⟩ : ∃ N : ByteArray, N = ⟨nm.toArray⟩ := ⟨_, rfl⟩
  rw [← hN]
  have hnd : N.data.toList = nm := by rw [hN]
  have hkey : keyOf Tryz.prog 9 (.string N) = some (.string nm) := by
    rw [Go.WideMaps.keyOf_string_mk Tryz.underlying9 (show N.size ≤ maxLen by rw [Lib.size_eq, hnd]; unfold maxLen; omega), hnd]
  have hok := hhas nm
  obtain ⟨R, hR⟩ : ∃ R, R = decide (nm ∈ ns) := ⟨_, rfl⟩
  rw [← hR] at hok ⊢
  clear hN hnd hn hhas hR hD
  go_enter Tryz.func79, Tryz.ntmps79
  cases R with
  | true =>
    go_wp2_with (first | (at_lookup; refine wpList_lookup_own_unit _ rfl _ _ 110 rfl 9 162 lawS Tryz.underlying110 (zeroU _) b m D rfl (by exact hown) _ _ rfl hkey ?_; rw [hok]) | fail)
    go_ret
    exact ⟨rfl, (Below.refl _ _).alloc (Nat.le_refl _) _⟩
  | false =>
    go_wp2_with (first | (at_lookup; refine wpList_lookup_own_unit _ rfl _ _ 110 rfl 9 162 lawS Tryz.underlying110 (zeroU _) b m D rfl (by exact hown) _ _ rfl hkey ?_; rw [hok]) | fail)
    go_ret
    exact ⟨rfl, (Below.refl _ _).alloc (Nat.le_refl _) _⟩
theorem run_mkset (w : World) : (Instr.makeMap 110 none).run Tryz.prog w = .ok (.map (some w.heap.size)) (w.alloc (.map #[] 0)) := by kernel_rfl
def SoP (ns : List Ty.Nm) (w : World) (e : Ending) (w' : World) : Prop := ∃ b m, e = .returned (.map (some b)) ∧ KnM w' b m ns ∧ w.heap.size ≤ b ∧ Below w.heap.size w w'
set_option maxHeartbeats 4000000 in
set_option maxRecDepth 100000 in
theorem asetof_any (w : World) (A : Option Addr) (c : Nat) (ns : List Ty.Nm) (hn : NsR w w.heap.size A ns) (hc : ns.length ≤ c) (hf : FitN ns) :
    Calls Tryz.prog 45 #[.slice A ns.length c] w (SoP ns w) := by
  obtain ⟨W1, hW1⟩ : ∃ W1, W1 = w.alloc (.map #[] 0) := ⟨_, rfl⟩
  have hb1 : Below w.heap.size w W1 := by rw [hW1]; exact (Below.refl _ _).alloc (Nat.le_refl _) _
  have HM1 := Lib.hid (show KnM W1 w.heap.size 0 [] from by rw [hW1]; exact KnM.made w)
  have HB1 := Lib.hid hb1
  have HNS := Lib.hid hn
  have HF := Lib.hid hf
  have HW1 := Lib.hid hW1
  have hcI : (ns.length : Int) ≤ (c : Int) := by omega
  have hnI : (ns.length : Int) ≤ 1000000 := by have := hf.1; omega
  obtain ⟨n, hnl⟩ : ∃ n, n = ns.length := ⟨_, rfl⟩
  have HN := Lib.hid hnl
  rw [← hnl] at hcI hnI ⊢
  clear hW1 hb1 hn hc hf hnl
  have fmk := run_mkset w
  go_enter Tryz.func45, Tryz.ntmps45
  go_wp2
  clear fmk
  rw [← HW1.out]
  go_loopw [9] (fun iv wr => ∃ j : Nat, iv = .int .i64 j ∧ j ≤ n ∧ Hid (Below w.heap.size w wr ∧ KnM wr w.heap.size j (ns.take j))) (fun iv _ => n - (intOf iv).toNat)
  case atStart => exact ⟨0, rfl, Nat.zero_le _, Lib.hid ⟨HB1.out, HM1.out⟩⟩
  case round =>
    obtain ⟨j, rfl, hj, HI⟩ := hrel
    by_cases hlt : j < n
    · have hlt' : (j : Int) < (n : Int) := by omega
      have hjl : j < ns.length := by have := HN.out; omega
      obtain ⟨g, o, hA, hg, c0⟩ := (HNS.out.below HI.out.1) j hjl
      subst hA
      have hnm := HF.out.2 _ (List.getElem_mem hjl)
      have HTK := Lib.hid (show ns.take (j + 1) = ns.take j ++ [ns[j]] from by rw [List.take_succ_eq_append_getElem hjl])
      generalize ns[j] = nm at *
      obtain ⟨N, hN⟩ : ∃ N : ByteArray, N = ⟨nm.toArray⟩ := ⟨_, rfl⟩
      rw [← hN] at c0
      have hnd : N.data.toList = nm := by rw [hN]
      have hkey : keyOf Tryz.prog 9 (.string N) = some (.string nm) := by
        rw [Go.WideMaps.keyOf_string_mk Tryz.underlying9 (show N.size ≤ maxLen by rw [Lib.size_eq, hnd]; unfold maxLen; omega), hnd]
      obtain ⟨D, hown, hD, hhas⟩ := HI.out.2
      have HDD := Lib.hid (And.intro hD hhas)
      have hmx : j < maxLen := by unfold maxLen; omega
      clear hN hnd hnm hD hhas hlt
      go_wp2_with (first | (at_mapUpdate; refine wpList_mapUpdate_own _ rfl _ _ _ 110 rfl 9 162 lawS Tryz.underlying110 unitElem w.heap.size j D rfl hown hmx _ _ _ rfl rfl hkey (.agg []) [] unitElem_mk ?_; intro w4 hown4 hgr4; have HM4 := Lib.hid (And.intro hown4 hgr4); clear hown4 hgr4) | fail)
      go_roundw
      case rel => exact ⟨j + 1, by go_num, by omega, Lib.hid ⟨HI.out.1.grown HM4.out.2 HI.out.1.size (fun k hk => by cases hk; exact Nat.le_refl _), by
        rw [HTK.out]
        exact ⟨_, HM4.out.1, HDD.out.1.put _ _, fun x => has_put HDD.out.1 HDD.out.2 nm x⟩⟩⟩
      case measure => simp [intOf]; omega
    · obtain rfl : j = n := by omega
      have hlt' : ¬ ((j : Nat) : Int) < (j : Int) := by omega
      have HK := Lib.hid (show KnM wr w.heap.size j ns from by have h := HI.out.2; rwa [List.take_of_length_le (by rw [← HN.out]; exact Nat.le_refl _)] at h)
      go_wp2
      go_ret
      exact ⟨_, _, rfl, HK.out, Nat.le_refl _, HI.out.1⟩
end Go.Proofs.YtmmdigeciphglaaGreatDoor
namespace Go.Proofs.YtmmdigeciphglaaGreatDoor
open Go.RowKit Ex Go.Maps
theorem nmsP_fit {l : List Nd} (hf : Fit l) : FitN (nmsP l) := by
  unfold nmsP
  split
  · exact ⟨Nat.zero_le _, fun q hq => by cases hq⟩
  · exact ⟨by have := Ty.nms_len l []; have := hf.1; simp only [List.length_nil] at *; omega, Ty.nms_all l [] (fun q hq => by cases hq) (fun n hn => (hf.2 n hn).1)⟩
abbrev argW : Ty.Nm := [97, 114, 103]
def isI (vs : List Ty.Nm) (l : List Nd) : Bool := (nmsP l).all (fun q => decide (q = argW ∨ q ∈ vs)) && decide ((ofs (kds l (nmsP l))).1 = 1)
set_option maxHeartbeats 8000000 in
set_option maxRecDepth 100000 in
theorem aisint_any (w : World) (T : Tyx w) (bv mv : Nat) (be : Value) (vs : List Ty.Nm) (hv : KnM w bv mv vs) (A : Option Addr) (c : Nat) (l : List Nd) (hl : NdR w w.heap.size A l) (hc : l.length ≤ c) (hf : Fit l) :
    Calls Tryz.prog 80 #[.agg #[.map (some bv), be], .agg #[.slice A l.length c]] w fun e w' => e = .returned (.bool (isI vs l)) ∧ Below w.heap.size w w' := by
  obtain ⟨W0, hW0⟩ : ∃ W0, W0 = w.alloc (.cells #[.map (some bv), be] 113) := ⟨_, rfl⟩
  have hb0 : Below w.heap.size w W0 := by rw [hW0]; exact (Below.refl _ _).alloc (Nat.le_refl _) _
  have hz0 : W0.heap.size = w.heap.size + 1 := by rw [hW0]; simp
  obtain ⟨W1, hW1⟩ : ∃ W1, W1 = W0.alloc (.cells #[.slice A l.length c] 78) := ⟨_, rfl⟩
  have hb01 : Below W0.heap.size W0 W1 := by rw [hW1]; exact (Below.refl _ _).alloc (Nat.le_refl _) _
  have hb1 : Below w.heap.size w W1 := hb0.trans (hb01.mono hb0.size)
  have k0 : IsBlk W1 w.heap.size 113 #[.map (some bv), be] := by
    have q : IsBlk W0 w.heap.size 113 #[.map (some bv), be] := by rw [hW0]; exact IsBlk.new _ _ _
    exact q.below hb01 q.lt
  have k1 : IsBlk W1 (w.heap.size + 1) 78 #[.slice A l.length c] := by rw [← hz0, hW1]; exact IsBlk.new _ _ _
  have x1 : W1.cell? ⟨w.heap.size + 1, 0, none⟩ = some (.slice A l.length c) := k1.at_ 0
  have HNM := Lib.hid (names_any W1 (T.below hb1) A c l ((hl.below hb1).more hb1.size) hc hf)
  have HOF := Lib.hid (fun w' (hb : Below w.heap.size w w') A2 c2 h1 h2 => of_any w' (T.below hb) A c l ((hl.below hb).more hb.size) hc hf A2 c2 (nmsP l) h1 h2 (nmsP_fit hf))
  have HFN := Lib.hid (nmsP_fit hf)
  have HV := Lib.hid hv
  have HB1 := Lib.hid hb1
  have HK0 := Lib.hid k0
  have HK1 := Lib.hid k1
  have HW1 := Lib.hid (And.intro hW0 hW1)
  obtain ⟨R, hR⟩ : ∃ R, R = isI vs l := ⟨_, rfl⟩
  rw [← hR]
  unfold isI at hR
  generalize nmsP l = L at *
  generalize ofs (kds l L) = O at *
  obtain ⟨o1, o2, o3⟩ := O
  simp only at hR
  have HR := Lib.hid hR
  rw [hW1, hW0] at x1
  clear hR hW0 hb0 hz0 hW1 hb01 hb1 k0 k1 T hv hl hc hf
  go_enter Tryz.func80, Tryz.ntmps80
  go_wp2_with fail
  rw [← HW1.out.1, ← HW1.out.2]
  refine HNM.out.mono ?_
  rintro e w2 ⟨v, ho2, rfl, hb2⟩
  obtain ⟨A2, c2, hv, hlc, hcm, -⟩ := own_sliced ho2
  subst hv
  have hns := own_nsr ho2 rfl
  have B2 := Lib.hid (HB1.out.trans (hb2.mono HB1.out.size))
  have K0 := Lib.hid (HK0.out.below hb2 HK0.out.lt)
  have K1 := Lib.hid (HK1.out.below hb2 HK1.out.lt)
  have HNS := Lib.hid hns.1
  have hcI : (L.length : Int) ≤ (c2 : Int) := by omega
  have hnI : (L.length : Int) ≤ 1000000 := by have := HFN.out.1; omega
  have HLC := Lib.hid hlc
  obtain ⟨n, hnl⟩ : ∃ n, n = L.length := ⟨_, rfl⟩
  have HN := Lib.hid hnl
  rw [← hnl] at hcI hnI ⊢
  clear ho2 hb2 hlc hcm hns hnl x1 HNM
  go_wp2
  go_loopw [15] (fun iv wr => ∃ j : Nat, iv = .int .i64 j ∧ j ≤ n ∧ Hid (Below w2.heap.size w2 wr ∧ ∀ q ∈ L.take j, q = argW ∨ q ∈ vs)) (fun iv _ => n - (intOf iv).toNat)
  case atStart => exact ⟨0, rfl, Nat.zero_le _, Lib.hid ⟨Below.refl _ _, fun q hq => by cases hq⟩⟩
  case round =>
    obtain ⟨j, rfl, hj, HI⟩ := hrel
    have k0 := K0.out.below HI.out.1 K0.out.lt
    have y0 : wr.cell? ⟨w.heap.size, 0, none⟩ = some (.map (some bv)) := k0.at_ 0
    clear k0
    by_cases hlt : j < n
    · have hlt' : (j : Int) < (n : Int) := by omega
      have hjl : j < L.length := by have := HN.out; omega
      obtain ⟨g, o, hA, hg, c0⟩ := (HNS.out.below HI.out.1) j hjl
      subst hA
      have hnm := HFN.out.2 _ (List.getElem_mem hjl)
      have HBW := Lib.hid (B2.out.trans (HI.out.1.mono B2.out.size))
      have HHS := Lib.hid (ahas_any wr bv mv vs (HV.out.below HBW.out) L[j] hnm)
      have HTK := Lib.hid (show (L[j] = argW ∨ L[j] ∈ vs) → ∀ q ∈ L.take (j + 1), q = argW ∨ q ∈ vs from fun h q hq => by
        rw [List.take_succ_eq_append_getElem hjl] at hq
        rcases List.mem_append.1 hq with hq | hq
        · exact HI.out.2 q hq
        · rw [List.mem_singleton.1 hq]; exact h)
      have HNO := Lib.hid (show ¬ (L[j] = argW ∨ L[j] ∈ vs) → R = false from fun h => by
        rw [HR.out, Bool.and_eq_false_iff]
        refine Or.inl (List.all_eq_false.2 ⟨_, List.getElem_mem hjl, by simpa using h⟩))
      generalize L[j] = nm at *
      obtain ⟨N, hN⟩ : ∃ N : ByteArray, N = ⟨nm.toArray⟩ := ⟨_, rfl⟩
      rw [← hN] at c0 HHS
      have HNT := Lib.hid (show N.toList = nm from by rw [Lib.toList_data, hN])
      clear hN hnm hlt
      by_cases ha : nm = argW
      · have e1 : (N.toList == [97, 114, 103]) = true := by rw [HNT.out, ha]; rfl
        have e2 : (N.toList != [97, 114, 103]) = false := by rw [HNT.out, ha]; rfl
        have HT2 := Lib.hid (HTK.out (Or.inl ha))
        clear ha HHS
        go_wp2
        go_roundw
        case rel => exact ⟨j + 1, by go_num, by omega, Lib.hid ⟨HI.out.1, HT2.out⟩⟩
        case measure => simp [intOf]; omega
      · have e1 : (N.toList == [97, 114, 103]) = false := by rw [HNT.out]; exact beq_eq_false_iff_ne.2 ha
        have e2 : (N.toList != [97, 114, 103]) = true := by rw [HNT.out]; simpa using ha
        obtain ⟨z, hz⟩ : ∃ z, z = decide (nm ∈ vs) := ⟨_, rfl⟩
        rw [← hz] at HHS
        have HZ := Lib.hid hz
        have HA := Lib.hid ha
        clear hz ha
        go_wp2_with fail
        refine HHS.out.mono ?_
        rintro e w5 ⟨rfl, hb5⟩
        have B5 := Lib.hid (HI.out.1.trans (hb5.mono HI.out.1.size))
        clear hb5 c0 y0
        cases z with
        | true =>
          have HT2 := Lib.hid (HTK.out (Or.inr (of_decide_eq_true HZ.out.symm)))
          go_wp2
          go_roundw
          case rel => exact ⟨j + 1, by go_num, by omega, Lib.hid ⟨B5.out, HT2.out⟩⟩
          case measure => simp [intOf]; omega
        | false =>
          have HF := Lib.hid (HNO.out (fun q => q.elim HA.out (of_decide_eq_false HZ.out.symm)))
          go_wp2
          go_ret
          exact ⟨by rw [HF.out]; rfl, B2.out.trans (B5.out.mono B2.out.size)⟩
    · obtain rfl : j = n := by omega
      have hlt' : ¬ ((j : Nat) : Int) < (j : Int) := by omega
      have HBW := Lib.hid (B2.out.trans (HI.out.1.mono B2.out.size))
      have HRR := Lib.hid (show R = decide (o1 = 1) from by
        rw [HR.out]
        have h := HI.out.2
        rw [List.take_of_length_le (by rw [← HN.out]; exact Nat.le_refl _)] at h
        rw [show (L.all fun q => decide (q = argW ∨ q ∈ vs)) = true from List.all_eq_true.2 (fun q hq => decide_eq_true (h q hq))]
        rfl)
      have k1 := K1.out.below HI.out.1 K1.out.lt
      have y1 : wr.cell? ⟨w.heap.size + 1, 0, none⟩ = some (.slice A l.length c) := k1.at_ 0
      have HOO := Lib.hid (HOF.out wr HBW.out A2 c2 (((HNS.out.below HI.out.1).more HI.out.1.size)) HLC.out)
      rw [← HN.out] at HOO
      clear k1 hlt hj y0
      go_wp2_with fail
      refine HOO.out.mono ?_
      rintro e w5 ⟨rfl, hb5⟩
      have B5 := Lib.hid (HBW.out.trans (hb5.mono HBW.out.size))
      clear hb5 y1
      simp only
      have hoo : ((o1 : Int) == 1) = decide (o1 = 1) := by
        by_cases h : o1 = 1
        · rw [h]; rfl
        · rw [decide_eq_false h, beq_eq_false_iff_ne.2 (by omega)]
      go_wp2
      go_ret
      exact ⟨by rw [HRR.out]; first | rfl | (rw [← hoo]; rfl), B5.out⟩
end Go.Proofs.YtmmdigeciphglaaGreatDoor
namespace Go.Proofs.YtmmdigeciphglaaGreatDoor
open Go.RowKit Ex Go.Maps
def tak (vs es : List Ty.Nm) (s : Ac.St) : Bool := if s.k = 2 then decide (s.nm ∈ es) && (decide (s.x = []) || isI vs s.x) else decide (s.nm ∈ vs) && isI vs s.x
set_option maxHeartbeats 8000000 in
set_option maxRecDepth 100000 in
theorem atakes_any (w : World) (T : Tyx w) (bv mv be me : Nat) (vs es : List Ty.Nm) (hv : KnM w bv mv vs) (he : KnM w be me es) (s : Ac.St) (A : Option Addr) (c : Nat) (hl : NdR w w.heap.size A s.x) (hc : s.x.length ≤ c) (hf : Fit s.x) (hn : s.nm.length ≤ 1000000) :
    Calls Tryz.prog 46 #[.agg #[.map (some bv), .map (some be)], .agg #[.int .u8 s.k, .string ⟨s.nm.toArray⟩, .slice A s.x.length c]] w fun e w' => e = .returned (.bool (tak vs es s)) ∧ Below w.heap.size w w' := by
  obtain ⟨R, hR⟩ : ∃ R, R = tak vs es s := ⟨_, rfl⟩
  rw [← hR]
  obtain ⟨k, nm, xs⟩ := s
  simp only at hl hc hf hn ⊢
  unfold tak at hR
  simp only at hR
  obtain ⟨N, hN⟩ : ∃ N : ByteArray, N = ⟨nm.toArray⟩ := ⟨_, rfl⟩
  obtain ⟨W0, hW0⟩ : ∃ W0, W0 = w.alloc (.cells #[.map (some bv), .map (some be)] 113) := ⟨_, rfl⟩
  have hb0 : Below w.heap.size w W0 := by rw [hW0]; exact (Below.refl _ _).alloc (Nat.le_refl _) _
  have hz0 : W0.heap.size = w.heap.size + 1 := by rw [hW0]; simp
  obtain ⟨W1, hW1⟩ : ∃ W1, W1 = W0.alloc (.cells #[.int .u8 k, .string N, .slice A xs.length c] 80) := ⟨_, rfl⟩
  have hb01 : Below W0.heap.size W0 W1 := by rw [hW1]; exact (Below.refl _ _).alloc (Nat.le_refl _) _
  have hb1 : Below w.heap.size w W1 := hb0.trans (hb01.mono hb0.size)
  have k0 : IsBlk W1 w.heap.size 113 #[.map (some bv), .map (some be)] := by
    have q : IsBlk W0 w.heap.size 113 #[.map (some bv), .map (some be)] := by rw [hW0]; exact IsBlk.new _ _ _
    exact q.below hb01 q.lt
  have k1 : IsBlk W1 (w.heap.size + 1) 80 #[.int .u8 k, .string N, .slice A xs.length c] := by rw [← hz0, hW1]; exact IsBlk.new _ _ _
  have y0 : W1.cell? ⟨w.heap.size, 0, none⟩ = some (.map (some bv)) := k0.at_ 0
  have y1 : W1.cell? ⟨w.heap.size, 1, none⟩ = some (.map (some be)) := k0.at_ 1
  have x0 : W1.cell? ⟨w.heap.size + 1, 0, none⟩ = some (.int .u8 k) := k1.at_ 0
  have x1 : W1.cell? ⟨w.heap.size + 1, 1, none⟩ = some (.string N) := k1.at_ 1
  have HHV := Lib.hid (ahas_any W1 bv mv vs (hv.below hb1) nm hn)
  have HHE := Lib.hid (ahas_any W1 be me es (he.below hb1) nm hn)
  rw [← hN] at HHV HHE
  rw [← hN]
  have HBR := Lib.hid (fun w' => abare_any w' k N A xs.length c)
  have HIN := Lib.hid (fun w' (hb : Below w.heap.size w w') => aisint_any w' (T.below hb) bv mv (.map (some be)) vs (hv.below hb) A c xs ((hl.below hb).more hb.size) hc hf)
  have HB1 := Lib.hid hb1
  have HK0 := Lib.hid k0
  have HK1 := Lib.hid k1
  have HW1 := Lib.hid (And.intro hW0 hW1)
  have HR := Lib.hid hR
  generalize isI vs xs = I at *
  rw [hW1, hW0] at x0 x1 y0 y1
  clear hN hR hW0 hb0 hz0 hW1 hb01 hb1 k0 k1 T hv he hl hc hf hn
  by_cases hk : k = 2
  · have hkb : (k == 2) = true := by rw [hk]; rfl
    have HK := Lib.hid hk
    have HR := Lib.hid (HR.out.trans (if_pos hk))
    obtain ⟨z, hz⟩ : ∃ z, z = decide (nm ∈ es) := ⟨_, rfl⟩
    have HZ := Lib.hid hz
    rw [← hz] at HHE
    have HHS := HHE
    clear hk hz HHE HHV
    go_enter Tryz.func46, Tryz.ntmps46
    go_wp2_with fail
    rw [← HW1.out.1, ← HW1.out.2]
    refine HHS.out.mono ?_
    rintro e w2 ⟨rfl, hb2⟩
    have B2 := Lib.hid (HB1.out.trans (hb2.mono HB1.out.size))
    have K0 := Lib.hid (HK0.out.below hb2 HK0.out.lt)
    have K1 := Lib.hid (HK1.out.below hb2 HK1.out.lt)
    clear hb2 HHS x1 y0 y1
    cases z with
    | false =>
      have HF := Lib.hid (show R = false from by rw [HR.out, ← HZ.out]; rfl)
      clear x0
      go_wp2
      go_ret
      exact ⟨by rw [HF.out]; rfl, B2.out⟩
    | true =>
      have HR := Lib.hid (show R = (decide (xs = []) || I) from by rw [HR.out, ← HZ.out]; rfl)
      have u0 : w2.cell? ⟨w.heap.size + 1, 0, none⟩ = some (.int .u8 k) := K1.out.at_ 0
      have u1 : w2.cell? ⟨w.heap.size + 1, 1, none⟩ = some (.string N) := K1.out.at_ 1
      have u2 : w2.cell? ⟨w.heap.size + 1, 2, none⟩ = some (.slice A xs.length c) := K1.out.at_ 2
      have v0 : w2.cell? ⟨w.heap.size, 0, none⟩ = some (.map (some bv)) := K0.out.at_ 0
      have v1 : w2.cell? ⟨w.heap.size, 1, none⟩ = some (.map (some be)) := K0.out.at_ 1
      clear x0
      go_wp2_with fail
      refine (HBR.out w2).mono ?_
      rintro e w3 ⟨rfl, hb3⟩
      have B3 := Lib.hid (B2.out.trans (hb3.mono B2.out.size))
      have k0 := K0.out.below hb3 K0.out.lt
      have k1 := K1.out.below hb3 K1.out.lt
      have p2 : w3.cell? ⟨w.heap.size + 1, 2, none⟩ = some (.slice A xs.length c) := k1.at_ 2
      have p0 : w3.cell? ⟨w.heap.size, 0, none⟩ = some (.map (some bv)) := k0.at_ 0
      have p1 : w3.cell? ⟨w.heap.size, 1, none⟩ = some (.map (some be)) := k0.at_ 1
      clear hb3 k0 k1 u0 u1 u2 v0 v1
      by_cases hx : xs = []
      · have hd : decide (k = 2 ∧ xs.length = 0) = true := decide_eq_true ⟨HK.out, by rw [hx]; rfl⟩
        have HR := Lib.hid (show R = true from by rw [HR.out, hx]; rfl)
        rw [hd]
        clear hd hx
        go_wp2
        go_ret
        exact ⟨by rw [HR.out]; rfl, B3.out⟩
      · have hd : decide (k = 2 ∧ xs.length = 0) = false := decide_eq_false (fun q => hx (List.length_eq_zero_iff.1 q.2))
        have HR := Lib.hid (show R = I from by rw [HR.out, decide_eq_false hx]; rfl)
        rw [hd]
        clear hd hx
        go_wp2_with fail
        refine (HIN.out w3 B3.out).mono ?_
        rintro e w4 ⟨rfl, hb4⟩
        have B4 := Lib.hid (B3.out.trans (hb4.mono B3.out.size))
        clear hb4 p0 p1 p2
        cases I <;> go_wp2 <;> go_ret <;> exact ⟨by rw [HR.out]; rfl, B4.out⟩
  · have hkb : (k == 2) = false := beq_eq_false_iff_ne.2 hk
    have HR := Lib.hid (HR.out.trans (if_neg hk))
    obtain ⟨z, hz⟩ : ∃ z, z = decide (nm ∈ vs) := ⟨_, rfl⟩
    have HZ := Lib.hid hz
    rw [← hz] at HHV
    have HHS := HHV
    clear hk hz HHE HHV
    go_enter Tryz.func46, Tryz.ntmps46
    go_wp2_with fail
    rw [← HW1.out.1, ← HW1.out.2]
    refine HHS.out.mono ?_
    rintro e w2 ⟨rfl, hb2⟩
    have B2 := Lib.hid (HB1.out.trans (hb2.mono HB1.out.size))
    have K0 := Lib.hid (HK0.out.below hb2 HK0.out.lt)
    have K1 := Lib.hid (HK1.out.below hb2 HK1.out.lt)
    clear hb2 HHS x1 y0 y1
    cases z with
    | false =>
      have HF := Lib.hid (show R = false from by rw [HR.out, ← HZ.out]; rfl)
      clear x0
      go_wp2
      go_ret
      exact ⟨by rw [HF.out]; rfl, B2.out⟩
    | true =>
      have HR := Lib.hid (show R = I from by rw [HR.out, ← HZ.out]; rfl)
      have u0 : w2.cell? ⟨w.heap.size + 1, 0, none⟩ = some (.int .u8 k) := K1.out.at_ 0
      have u1 : w2.cell? ⟨w.heap.size + 1, 1, none⟩ = some (.string N) := K1.out.at_ 1
      have u2 : w2.cell? ⟨w.heap.size + 1, 2, none⟩ = some (.slice A xs.length c) := K1.out.at_ 2
      have v0 : w2.cell? ⟨w.heap.size, 0, none⟩ = some (.map (some bv)) := K0.out.at_ 0
      have v1 : w2.cell? ⟨w.heap.size, 1, none⟩ = some (.map (some be)) := K0.out.at_ 1
      clear x0
      go_wp2_with fail
      refine (HIN.out w2 B2.out).mono ?_
      rintro e w4 ⟨rfl, hb4⟩
      have B4 := Lib.hid (B2.out.trans (hb4.mono B2.out.size))
      clear hb4 u0 u1 u2 v0 v1
      cases I <;> go_wp2 <;> go_ret <;> exact ⟨by rw [HR.out]; rfl, B4.out⟩
end Go.Proofs.YtmmdigeciphglaaGreatDoor
namespace Go.Proofs.YtmmdigeciphglaaGreatDoor
open Go.RowKit Ex Go.Maps
def tyg (vs es : List Ty.Nm) : List Ac.St → Nat → Nat × Int
  | [], _ => (0, 0)
  | s :: r, i => if tak vs es s = true then tyg vs es r (i + 1) else (i, 90)
def TpP (ss : List Ac.St) (vs es : List Ty.Nm) (w : World) (e : Ending) (w' : World) : Prop :=
  ((Ac.okB ss ∧ e = .returned (.tuple #[.int .i64 ((tyg vs es ss 0).1 : Nat), .int .i64 (tyg vs es ss 0).2])) ∨ (¬ Ac.okB ss ∧ e = .returned (.tuple #[.int .i64 0, .int .i64 2]))) ∧ Below w.heap.size w w'
theorem tyg_go {vs es : List Ty.Nm} {ss : List Ac.St} {k : Nat} (h : k < ss.length) : tyg vs es (ss.drop k) k = if tak vs es ss[k] = true then tyg vs es (ss.drop (k + 1)) (k + 1) else (k, 90) := by
  rw [List.drop_eq_getElem_cons h]; rfl
set_option maxHeartbeats 8000000 in
set_option maxRecDepth 100000 in
theorem atypes_any (w : World) (T : Tyx w) (A : Option Addr) (c : Nat) (ps : List (Ac.St × Value)) (hl : ps.length ≤ c) (hc : c ≤ maxLen) (h : StR w w.heap.size A ps) (hf : FitAc ps) (Av : Option Addr) (cv : Nat) (vs : List Ty.Nm) (hv : NsR w w.heap.size Av vs) (hcv : vs.length ≤ cv) (hfv : FitN vs) (Ae : Option Addr) (ce : Nat) (es : List Ty.Nm) (he : NsR w w.heap.size Ae es) (hce : es.length ≤ ce) (hfe : FitN es) :
    Calls Tryz.prog 21 #[.agg #[.slice A ps.length c], .slice Av vs.length cv, .slice Ae es.length ce] w (TpP (ps.map (·.1)) vs es w) := by
  obtain ⟨W1, hW1⟩ : ∃ W1, W1 = w.alloc (.cells #[.slice A ps.length c] 29) := ⟨_, rfl⟩
  have hb1 : Below w.heap.size w W1 := by rw [hW1]; exact (Below.refl _ _).alloc (Nat.le_refl _) _
  have k1 : IsBlk W1 w.heap.size 29 #[.slice A ps.length c] := by rw [hW1]; exact IsBlk.new _ _ _
  have x0 : W1.cell? ⟨w.heap.size, 0, none⟩ = some (.slice A ps.length c) := k1.at_ 0
  have HCK := Lib.hid (acheck_any W1 (T.below hb1).tx A c ps hl hc (h.on hb1) hf)
  have HSV := Lib.hid (fun w' (hb : Below w.heap.size w w') => asetof_any w' Av cv vs ((hv.below hb).more hb.size) hcv hfv)
  have HSE := Lib.hid (fun w' (hb : Below w.heap.size w w') => asetof_any w' Ae ce es ((he.below hb).more hb.size) hce hfe)
  have HT := Lib.hid T
  have HST := Lib.hid h
  have HFP := Lib.hid hf
  have HK1 := Lib.hid k1
  have HB1 := Lib.hid hb1
  have HW1 := Lib.hid hW1
  have hlI : (ps.length : Int) ≤ (c : Int) := by omega
  have hvI : (vs.length : Int) ≤ (cv : Int) := by omega
  have heI : (es.length : Int) ≤ (ce : Int) := by omega
  obtain ⟨n, hn⟩ : ∃ n, n = ps.length := ⟨_, rfl⟩
  have HN := Lib.hid hn
  rw [← hn] at x0 HCK HW1 HK1 hlI ⊢
  rw [HW1.out] at x0
  clear hW1 hb1 k1 T hl hc h hf hn hv hcv hfv he hce hfe
  go_enter Tryz.func21, Tryz.ntmps21
  go_wp2_with fail
  rw [← HW1.out]
  refine HCK.out.mono ?_
  rintro e w2 ⟨hq, hb2⟩
  have B2 := Lib.hid (HB1.out.trans (hb2.mono HB1.out.size))
  have K2 := Lib.hid (HK1.out.below hb2 HK1.out.lt)
  clear hb2 x0 HCK
  rcases hq with ⟨rfl, hok⟩ | ⟨rfl, hno⟩
  · have HOK := Lib.hid hok
    have hn5 : n ≤ 512 := by have := hok.1; rw [List.length_map, ← HN.out] at this; exact this
    have hn5I : (n : Int) ≤ 512 := by omega
    clear hok
    go_wp2_with fail
    refine (HSV.out w2 B2.out).mono ?_
    rintro e w3 ⟨bv, mv, rfl, hkv, -, hb3⟩
    have B3 := Lib.hid (B2.out.trans (hb3.mono B2.out.size))
    have K3 := Lib.hid (K2.out.below hb3 K2.out.lt)
    have HKV := Lib.hid hkv
    clear hb3 hkv HSV
    go_wp2_with fail
    refine (HSE.out w3 B3.out).mono ?_
    rintro e w4 ⟨be, me, rfl, hke, -, hb4⟩
    have B4 := Lib.hid (B3.out.trans (hb4.mono B3.out.size))
    obtain ⟨W5, hW5⟩ : ∃ W5, W5 = w4.alloc (.cells #[.map (some bv), .map (some be)] 113) := ⟨_, rfl⟩
    have hb5 : Below w4.heap.size w4 W5 := by rw [hW5]; exact (Below.refl _ _).alloc (Nat.le_refl _) _
    obtain ⟨g5, hg5⟩ : ∃ g5, g5 = w4.heap.size := ⟨_, rfl⟩
    have K5 := Lib.hid (show IsBlk W5 g5 113 #[.map (some bv), .map (some be)] from by rw [hg5, hW5]; exact IsBlk.new _ _ _)
    have y0 : W5.cell? ⟨w.heap.size, 0, none⟩ = some (.slice A n c) := ((K3.out.below hb4 K3.out.lt).below hb5 (K3.out.below hb4 K3.out.lt).lt).at_ 0
    have MV := Lib.hid ((HKV.out.below hb4).below hb5)
    have ME := Lib.hid (hke.below hb5)
    have B5 := Lib.hid (B4.out.trans (hb5.mono B4.out.size))
    have HW5 := Lib.hid (And.intro hW5 hg5)
    rw [hW5] at y0
    clear hW5 hg5 hb4 hke hb5 HSE
    go_wp2
    rw [← HW5.out.1, ← HW5.out.2]
    go_loopw [22] (fun iv wr => ∃ k : Nat, iv = .int .i64 k ∧ k ≤ n ∧ Hid (Below W5.heap.size W5 wr ∧ tyg vs es (ps.map (·.1)) 0 = tyg vs es ((ps.map (·.1)).drop k) k)) (fun iv _ => n - (intOf iv).toNat)
    case atStart => exact ⟨0, rfl, Nat.zero_le _, Lib.hid ⟨Below.refl _ _, by rw [List.drop_zero]⟩⟩
    case round =>
      clear y0
      obtain ⟨k, rfl, hk, HI⟩ := hrel
      by_cases hlt : k < n
      · have hlt' : (k : Int) < (n : Int) := by omega
        have hkl : k < ps.length := by have := HN.out; omega
        have HBW := Lib.hid (B5.out.trans (HI.out.1.mono B5.out.size))
        obtain ⟨g, o, hA, hg, c0, c1, c2⟩ := (HST.out.below HBW.out).cells k hkl
        subst hA
        obtain ⟨Ax, cx, hsx, hcx, hnd⟩ := HST.out.nds _ (List.getElem_mem hkl)
        have hfa := HFP.out _ (List.getElem_mem hkl)
        rw [hsx] at c2
        have HTG := Lib.hid (HI.out.2.trans (tyg_go (vs := vs) (es := es) (ss := ps.map (·.1)) (k := k) (by rw [List.length_map]; exact hkl)))
        rw [List.getElem_map] at HTG
        obtain ⟨W6, hW6⟩ : ∃ W6, W6 = wr.alloc (.cells #[.int .u8 ps[k].1.k, .string ⟨ps[k].1.nm.toArray⟩, .slice Ax ps[k].1.x.length cx] 80) := ⟨_, rfl⟩
        have hb6 : Below wr.heap.size wr W6 := by rw [hW6]; exact (Below.refl _ _).alloc (Nat.le_refl _) _
        have k6 : IsBlk W6 wr.heap.size 80 #[.int .u8 ps[k].1.k, .string ⟨ps[k].1.nm.toArray⟩, .slice Ax ps[k].1.x.length cx] := by rw [hW6]; exact IsBlk.new _ _ _
        have HI6 := Lib.hid (HI.out.1.trans (hb6.mono HI.out.1.size))
        have B6 := Lib.hid (HBW.out.trans (hb6.mono HBW.out.size))
        have k5 := K5.out.below HI6.out K5.out.lt
        have HTA := Lib.hid (atakes_any W6 (HT.out.below B6.out) bv mv be me vs es (MV.out.below HI6.out) (ME.out.below HI6.out) ps[k].1 Ax cx ((hnd.below B6.out).more B6.out.size) hcx hfa.1 hfa.2)
        have z0 : W6.cell? ⟨wr.heap.size, 0, none⟩ = some (.int .u8 ps[k].1.k) := k6.at_ 0
        have z1 : W6.cell? ⟨wr.heap.size, 1, none⟩ = some (.string ⟨ps[k].1.nm.toArray⟩) := k6.at_ 1
        have z2 : W6.cell? ⟨wr.heap.size, 2, none⟩ = some (.slice Ax ps[k].1.x.length cx) := k6.at_ 2
        have v0 : W6.cell? ⟨g5, 0, none⟩ = some (.map (some bv)) := k5.at_ 0
        have v1 : W6.cell? ⟨g5, 1, none⟩ = some (.map (some be)) := k5.at_ 1
        have HW6 := Lib.hid hW6
        rw [hW6] at z0 z1 z2 v0 v1
        clear hsx hcx hnd hfa hW6 hb6 k6 k5
        generalize ps[k] = a at *
        obtain ⟨⟨kk, nm, xs⟩, av⟩ := a
        simp only at c0 c1 c2 HTA HW6 z0 z1 z2 HTG
        generalize (⟨nm.toArray⟩ : ByteArray) = N at *
        generalize tak vs es ⟨kk, nm, xs⟩ = b at *
        clear hlt HI
        go_wp2_with fail
        rw [← HW6.out]
        refine HTA.out.mono ?_
        rintro e w7 ⟨rfl, hb7⟩
        have HI7 := Lib.hid (HI6.out.trans (hb7.mono HI6.out.size))
        have B7 := Lib.hid (B6.out.trans (hb7.mono B6.out.size))
        clear hb7 c0 c1 c2 z0 z1 z2 v0 v1
        cases b with
        | true =>
          have HTG := Lib.hid (HTG.out.trans (if_pos rfl))
          go_wp2
          go_roundw
          case rel => exact ⟨k + 1, by go_num, by omega, Lib.hid ⟨HI7.out, HTG.out⟩⟩
          case measure => simp [intOf]; omega
        | false =>
          have HTG := Lib.hid (HTG.out.trans (if_neg (by decide)))
          go_wp2
          refine bodyPost_ret (v := .tuple #[.int .i64 (k : Int), .int .i64 90]) (by simp [results, Tryz.results21, go_sem]) rfl ?_
          exact ⟨Or.inl ⟨HOK.out, by rw [HTG.out]⟩, B7.out⟩
      · obtain rfl : k = n := by omega
        have hlt' : ¬ ((k : Nat) : Int) < (k : Int) := by omega
        have HTG := Lib.hid (show tyg vs es (ps.map (·.1)) 0 = (0, 0) from by rw [HI.out.2, List.drop_of_length_le (by rw [List.length_map, ← HN.out]; exact Nat.le_refl _)]; rfl)
        have HBW := Lib.hid (B5.out.trans (HI.out.1.mono B5.out.size))
        clear HI hlt hk
        go_wp2
        refine bodyPost_ret (v := .tuple #[.int .i64 0, .int .i64 0]) (by simp [results, Tryz.results21, go_sem]) rfl ?_
        exact ⟨Or.inl ⟨HOK.out, by rw [HTG.out]; rfl⟩, HBW.out⟩
  · have HNO := Lib.hid hno
    clear hno
    go_wp2
    refine bodyPost_ret (v := .tuple #[.int .i64 0, .int .i64 2]) (by simp [results, Tryz.results21, go_sem]) rfl ?_
    exact ⟨Or.inr ⟨HNO.out, rfl⟩, B2.out⟩
end Go.Proofs.YtmmdigeciphglaaGreatDoor
