/- Facts and walks for the statement. -/
import Derived.Test.YtdcjpinbflmikaaGreatDoorPzW30
import Derived.Test.YtdcjpinbflmikaaGreatDoorPzW21
import Derived.Test.YtdcjpinbflmikaaGreatDoorPzW24
import Derived.Deep.DeepMust
namespace Go.Proofs.YtdcjpinbflmikaaGreatDoor
open Go.RowKit Ex
theorem rworth_at {w : World} {A : Option Addr} {l : List Nd} {c : Nat} {A2 : Option Addr} {c2 : Nat} {bs : List Ev.Bd} (E : EvD w A l c A2 c2 bs) : ∀ (x : Ex.E) (s : Nat), At l s x → wr x → small x → RwC (lkA A l.length c A2 bs.length c2) w ((s + Ex.sz x : Nat) - 1) (Ev.wo bs x)
  | .num v, s, h, _, _ => by
    have q2 := at_one.1 h.1
    rw [show ((s + Ex.sz (.num v) : Nat) : Int) - 1 = (s : Int) by simp only [Ex.sz]; omega]
    exact rworth1 E q2
  | .name v, s, h, _, _ => by
    have q2 := at_one.1 h.1
    rw [show ((s + Ex.sz (.name v) : Nat) : Int) - 1 = (s : Int) by simp only [Ex.sz]; omega]
    exact rworth2 E q2
  | .tt, s, h, _, _ => by
    have q2 := at_one.1 h.1
    rw [show ((s + Ex.sz .tt : Nat) : Int) - 1 = (s : Int) by simp only [Ex.sz]; omega]
    exact rworth3 E q2
  | .ff, s, h, _, _ => by
    have q2 := at_one.1 h.1
    rw [show ((s + Ex.sz .ff : Nat) : Int) - 1 = (s : Int) by simp only [Ex.sz]; omega]
    exact rworth4 E q2
  | .un op a, s, h, hw, hs => by
    obtain ⟨ha, q⟩ := at_un h
    rw [show ((s + Ex.sz (.un op a) : Nat) : Int) - 1 = ((s + Ex.sz a : Nat) : Int) by simp only [Ex.sz]; omega]
    have iA := rworth_at E a s ha hw.2 hs
    rcases hw.1 with rfl | rfl
    · exact rworth5 E q (Ev.wo_fine E.fit.fit hs) iA
    · exact rworth6 E q (Ev.wo_fine E.fit.fit hs) iA
  | .bin op a b, s, h, hw, hs => by
    obtain ⟨ha, hb, q⟩ := at_bin h
    rw [show ((s + Ex.sz (.bin op a b) : Nat) : Int) - 1 = ((s + Ex.sz a + Ex.sz b : Nat) : Int) by simp only [Ex.sz]; omega]
    obtain ⟨h7, h21, hwa, hwb⟩ := hw
    have iA := rworth_at E a s ha hwa hs.1
    have iB := rworth_at E b (s + Ex.sz a) hb hwb hs.2
    have fA := Ev.wo_fine E.fit.fit hs.1
    have fB := Ev.wo_fine E.fit.fit hs.2
    have e : op = 7 ∨ op = 8 ∨ op = 9 ∨ op = 10 ∨ op = 11 ∨ op = 12 ∨ op = 13 ∨ op = 14 ∨ op = 15 ∨ op = 16 ∨ op = 17 ∨ op = 18 ∨ op = 19 ∨ op = 20 ∨ op = 21 := by omega
    rcases e with rfl | rfl | rfl | rfl | rfl | rfl | rfl | rfl | rfl | rfl | rfl | rfl | rfl | rfl | rfl
    · exact rworth7 E q fA fB iA iB
    · exact rworth8 E q fA fB iA iB
    · exact rworth9 E q fA fB iA iB
    · exact rworth10 E q fA fB iA iB
    · exact rworth11 E q fA fB iA iB
    · exact rworth12 E q fA fB iA iB
    · exact rworth13 E q fA fB iA iB
    · exact rworth14 E q fA fB iA iB
    · exact rworth15 E q fA fB iA iB
    · exact rworth16 E q fA fB iA iB
    · exact rworth17 E q fA fB iA iB
    · exact rworth18 E q fA fB iA iB
    · exact rworth19 E q fA fB iA iB
    · exact rworth20 E q fA fB iA iB
    · exact rworth21 E q fA fB iA iB
  | .ite a b c', s, h, hw, hs => by
    obtain ⟨ha, hb, hcx, q⟩ := at_ite h
    rw [show ((s + Ex.sz (.ite a b c') : Nat) : Int) - 1 = ((s + Ex.sz a + Ex.sz b + Ex.sz c' : Nat) : Int) by simp only [Ex.sz]; omega]
    exact rworth22 E q (Ev.wo_fine E.fit.fit hs.1) (rworth_at E a s ha hw.1 hs.1) (rworth_at E b (s + Ex.sz a) hb hw.2.1 hs.2.1) (rworth_at E c' (s + Ex.sz a + Ex.sz b) hcx hw.2.2 hs.2.2)
theorem only_prt {R : Ev.Rz} (hF : Ev.Fine R) (k : Nat) : onlyZ k (resZ R) = resZ (Ev.prt R k) := by
  cases R with
  | ok v =>
    show (if (0 : Int) = 0 ∧ v.k ≠ k then _ else _) = resZ (if v.k = k then _ else _)
    by_cases h : v.k = k
    · rw [if_pos h, if_neg (fun e => e.2 h)]
    · rw [if_neg h, if_pos ⟨rfl, h⟩]; rfl
  | er z =>
    have hz : z ≠ 0 := by rcases hF with h | h | h <;> omega
    unfold onlyZ
    rw [if_neg (fun e => hz e.1)]; rfl
theorem root_at {l : List Nd} {x : Ex.E} (h : l = flat x 0) : At l 0 x := ⟨by rw [List.drop_zero, h, ← flat_len x 0, List.take_length], by rw [h, flat_len]; omega⟩
set_option maxHeartbeats 1000000 in
set_option maxRecDepth 100000 in
theorem rEval_any (w : World) (A : Option Addr) (c : Nat) (l : List Nd) (hl : NdR w w.heap.size A l) (hc : l.length ≤ c) (hf : FitR l) (A2 : Option Addr) (c2 : Nat) (bs : List Ev.Bd) (hb : BdR w w.heap.size A2 bs) (hc2 : bs.length ≤ c2) (hfb : FitB bs) (X : Ev.Vl × Int) (hX : EvA l bs X) :
    Calls Tryz.prog 39 #[.slice A l.length c, .slice A2 bs.length c2] w fun e w' => e = outZ X ∧ Below w.heap.size w w' := by
  obtain ⟨W1, hW1⟩ : ∃ W1, W1 = w.alloc (.cells #[.int .u8 0, .int .i64 0, .bool false] 70) := ⟨_, rfl⟩
  have hb1 : Below w.heap.size w W1 := by rw [hW1]; exact (Below.refl _ _).alloc (Nat.le_refl _) _
  have kv : IsBlk W1 w.heap.size 70 #[.int .u8 0, .int .i64 0, .bool false] := by rw [hW1]; exact IsBlk.new _ _ _
  have HCK := Lib.hid (rCheck_any A c l hc hf W1 (hl.on_ hb1))
  have HB1 := Lib.hid hb1
  have HV := Lib.hid kv
  have HW1 := Lib.hid hW1
  have hcI : (l.length : Int) ≤ (c : Int) := by omega
  have hc2I : (bs.length : Int) ≤ (c2 : Int) := by omega
  rcases hX with ⟨hz, rfl⟩ | ⟨hz, x, h1, h2, h3, h4, rfl⟩
  · have hz1 : (chk l == 0) = false := by simpa using hz
    have hz2 : (chk l != 0) = true := by simp [bne, hz1]
    generalize chk l = z at *
    clear hW1 hb1 hl hb hf hfb kv hz
    go_enter Tryz.func39, Tryz.ntmps39
    go_wp2_with fail
    rw [← HW1.out]
    refine HCK.out.mono ?_
    rintro e w1 ⟨rfl, hb⟩
    have kz := HV.out.below hb HV.out.lt
    have k0 := kz.at_ 0
    have k1 := kz.at_ 1
    have k2 := kz.at_ 2
    have f0 := kz.fz 0
    have f1 := kz.fz 1
    have f2 := kz.fz 2
    simp only [List.getElem?_toArray, List.getElem?_cons_zero, List.getElem?_cons_succ] at k0 k1 k2
    have HBF := Lib.hid ((((HB1.out.trans (hb.mono HB1.out.size)).setCell (p := ⟨w.heap.size, 0, none⟩) (Nat.le_refl _) (.int .u8 0)).setCell (p := ⟨w.heap.size, 1, none⟩) (Nat.le_refl _) (.int .i64 0)).setCell (p := ⟨w.heap.size, 2, none⟩) (Nat.le_refl _) (.bool false))
    clear hb kz
    go_wp2
    refine bodyPost_ret (v := .tuple #[vlA ⟨0, 0, false⟩, .int .i64 z]) (by simp [results, Tryz.results39, go_sem, vlA, k0, k1, k2]) rfl ?_
    exact ⟨rfl, HBF.out⟩
  · rw [hz] at HCK
    have hln : 1 ≤ (l.length : Int) ∧ (l.length : Int) ≤ 1000000 := ⟨by have h5 : 1 ≤ l.length := by { rw [h4, flat_len]; exact Ex.sz_pos x }; omega, by have := hf.1; omega⟩
    have HX := Lib.hid (show ∀ v, Below W1.heap.size W1 v → Calls Tryz.prog 81 #[lkA A l.length c A2 bs.length c2, .int .i64 ((l.length : Int) - 1)] v fun e w'' => e = outZ (resZ (Ev.wo bs x)) ∧ Below v.heap.size v w'' from fun v hv => by
      have hbv := hb1.trans (hv.mono hb1.size)
      have := rworth_at (w := v) (A := A) (c := c) (A2 := A2) (c2 := c2) ⟨hl.on_ hbv, hc, hb.on hbv, hc2, hfb⟩ x 0 (root_at h4) h1 h3
      rw [Nat.zero_add, ← flat_len x 0, ← h4] at this
      exact this v (Below.refl _ _))
    generalize resZ (Ev.wo bs x) = Z at *
    obtain ⟨⟨zk, zn, zb⟩, ze⟩ := Z
    unfold outZ vlA at HX ⊢
    unfold lkA at HX
    simp only at HX ⊢
    generalize l.length = n at *
    generalize bs.length = m at *
    clear hW1 hb1 hl hb hf hfb kv hz h1 h2 h3 h4
    obtain ⟨hln, hln2⟩ := hln
    go_enter Tryz.func39, Tryz.ntmps39
    go_wp2_with fail
    rw [← HW1.out]
    refine HCK.out.mono ?_
    rintro e w1 ⟨rfl, hb⟩
    go_wp2_with fail
    refine (HX.out _ hb).mono ?_
    rintro e w2 ⟨rfl, hb2⟩
    replace hb := hb.trans (hb2.mono hb.size)
    clear hb2
    have kz := HV.out.below hb HV.out.lt
    have k0 := kz.at_ 0
    have k1 := kz.at_ 1
    have k2 := kz.at_ 2
    have f0 := kz.fz 0
    have f1 := kz.fz 1
    have f2 := kz.fz 2
    simp only [List.getElem?_toArray, List.getElem?_cons_zero, List.getElem?_cons_succ] at k0 k1 k2
    have HBF := Lib.hid ((((HB1.out.trans (hb.mono HB1.out.size)).setCell (p := ⟨w.heap.size, 0, none⟩) (Nat.le_refl _) (.int .u8 (zk : Nat))).setCell (p := ⟨w.heap.size, 1, none⟩) (Nat.le_refl _) (.int .i64 zn)).setCell (p := ⟨w.heap.size, 2, none⟩) (Nat.le_refl _) (.bool zb))
    clear hb kz
    go_wp2
    refine bodyPost_ret (v := .tuple #[.agg #[.int .u8 (zk : Nat), .int .i64 zn, .bool zb], .int .i64 ze]) (by simp [results, Tryz.results39, go_sem, k0, k1, k2]) rfl ?_
    exact ⟨rfl, HBF.out⟩
set_option maxHeartbeats 1000000 in
set_option maxRecDepth 100000 in
theorem rNumber_any (w : World) (A : Option Addr) (c : Nat) (l : List Nd) (hl : NdR w w.heap.size A l) (hc : l.length ≤ c) (hf : FitR l) (A2 : Option Addr) (c2 : Nat) (bs : List Ev.Bd) (hb : BdR w w.heap.size A2 bs) (hc2 : bs.length ≤ c2) (hfb : FitB bs) (X : Ev.Vl × Int) (hX : EvA l bs X) :
    Calls Tryz.prog 41 #[.slice A l.length c, .slice A2 bs.length c2] w fun e w' => e = outN (onlyZ 1 X) ∧ Below w.heap.size w w' := by
  have HCK := Lib.hid (rCheck_any A c l hc hf w hl)
  have hcI : (l.length : Int) ≤ (c : Int) := by omega
  have hc2I : (bs.length : Int) ≤ (c2 : Int) := by omega
  rcases hX with ⟨hz, rfl⟩ | ⟨hz, x, h1, h2, h3, h4, rfl⟩
  · have hz1 : (chk l == 0) = false := by simpa using hz
    have hz2 : (chk l != 0) = true := by simp [bne, hz1]
    have HE := Lib.hid (show outN (onlyZ 1 (⟨0, 0, false⟩, chk l)) = .returned (.tuple #[.int .i64 0, .int .i64 (chk l)]) from by
      unfold onlyZ
      rw [if_neg (fun e => hz e.1)]; rfl)
    generalize chk l = z at *
    clear hl hb hf hfb hz
    go_enter Tryz.func41, Tryz.ntmps41
    go_wp2_with fail
    refine HCK.out.mono ?_
    rintro e w1 ⟨rfl, hb⟩
    have HBF := Lib.hid hb
    clear hb
    go_wp2
    go_ret2
    exact ⟨by rw [HE.out]; rfl, HBF.out⟩
  · rw [hz] at HCK
    have hln : 1 ≤ (l.length : Int) ∧ (l.length : Int) ≤ 1000000 := ⟨by have h5 : 1 ≤ l.length := by { rw [h4, flat_len]; exact Ex.sz_pos x }; omega, by have := hf.1; omega⟩
    have hFx := Ev.wo_fine hfb.fit h3
    rw [only_prt hFx]
    have HX := Lib.hid (show ∀ v, Below w.heap.size w v → Calls Tryz.prog 83 #[lkA A l.length c A2 bs.length c2, .int .i64 ((l.length : Int) - 1)] v fun e w'' => e = outN (resZ (Ev.prt (Ev.wo bs x) 1)) ∧ Below v.heap.size v w'' from fun v hbv => by
      have := rworth_at (w := v) (A := A) (c := c) (A2 := A2) (c2 := c2) ⟨hl.on_ hbv, hc, hb.on hbv, hc2, hfb⟩ x 0 (root_at h4) h1 h3
      rw [Nat.zero_add, ← flat_len x 0, ← h4] at this
      exact r10number_any A l.length c A2 bs.length c2 v _ _ hFx this v (Below.refl _ _))
    generalize resZ (Ev.prt (Ev.wo bs x) 1) = Z at *
    obtain ⟨⟨zk, zn, zb⟩, ze⟩ := Z
    unfold outN at HX ⊢
    unfold lkA at HX
    simp only at HX ⊢
    generalize l.length = n at *
    generalize bs.length = m at *
    clear hl hb hf hfb hz h1 h2 h3 h4 hFx
    obtain ⟨hln, hln2⟩ := hln
    go_enter Tryz.func41, Tryz.ntmps41
    go_wp2_with fail
    refine HCK.out.mono ?_
    rintro e w1 ⟨rfl, hb⟩
    go_wp2_with fail
    refine (HX.out _ hb).mono ?_
    rintro e w2 ⟨rfl, hb2⟩
    have HBF := Lib.hid (hb.trans (hb2.mono hb.size))
    clear hb hb2
    go_wp2
    go_ret2
    exact ⟨rfl, HBF.out⟩
set_option maxHeartbeats 1000000 in
set_option maxRecDepth 100000 in
theorem rTruth_any (w : World) (A : Option Addr) (c : Nat) (l : List Nd) (hl : NdR w w.heap.size A l) (hc : l.length ≤ c) (hf : FitR l) (A2 : Option Addr) (c2 : Nat) (bs : List Ev.Bd) (hb : BdR w w.heap.size A2 bs) (hc2 : bs.length ≤ c2) (hfb : FitB bs) (X : Ev.Vl × Int) (hX : EvA l bs X) :
    Calls Tryz.prog 43 #[.slice A l.length c, .slice A2 bs.length c2] w fun e w' => e = outB (onlyZ 2 X) ∧ Below w.heap.size w w' := by
  have HCK := Lib.hid (rCheck_any A c l hc hf w hl)
  have hcI : (l.length : Int) ≤ (c : Int) := by omega
  have hc2I : (bs.length : Int) ≤ (c2 : Int) := by omega
  rcases hX with ⟨hz, rfl⟩ | ⟨hz, x, h1, h2, h3, h4, rfl⟩
  · have hz1 : (chk l == 0) = false := by simpa using hz
    have hz2 : (chk l != 0) = true := by simp [bne, hz1]
    have HE := Lib.hid (show outB (onlyZ 2 (⟨0, 0, false⟩, chk l)) = .returned (.tuple #[.bool false, .int .i64 (chk l)]) from by
      unfold onlyZ
      rw [if_neg (fun e => hz e.1)]; rfl)
    generalize chk l = z at *
    clear hl hb hf hfb hz
    go_enter Tryz.func43, Tryz.ntmps43
    go_wp2_with fail
    refine HCK.out.mono ?_
    rintro e w1 ⟨rfl, hb⟩
    have HBF := Lib.hid hb
    clear hb
    go_wp2
    go_ret2
    exact ⟨by rw [HE.out]; rfl, HBF.out⟩
  · rw [hz] at HCK
    have hln : 1 ≤ (l.length : Int) ∧ (l.length : Int) ≤ 1000000 := ⟨by have h5 : 1 ≤ l.length := by { rw [h4, flat_len]; exact Ex.sz_pos x }; omega, by have := hf.1; omega⟩
    have hFx := Ev.wo_fine hfb.fit h3
    rw [only_prt hFx]
    have HX := Lib.hid (show ∀ v, Below w.heap.size w v → Calls Tryz.prog 84 #[lkA A l.length c A2 bs.length c2, .int .i64 ((l.length : Int) - 1)] v fun e w'' => e = outB (resZ (Ev.prt (Ev.wo bs x) 2)) ∧ Below v.heap.size v w'' from fun v hbv => by
      have := rworth_at (w := v) (A := A) (c := c) (A2 := A2) (c2 := c2) ⟨hl.on_ hbv, hc, hb.on hbv, hc2, hfb⟩ x 0 (root_at h4) h1 h3
      rw [Nat.zero_add, ← flat_len x 0, ← h4] at this
      exact r10truth_any A l.length c A2 bs.length c2 v _ _ hFx this v (Below.refl _ _))
    generalize resZ (Ev.prt (Ev.wo bs x) 2) = Z at *
    obtain ⟨⟨zk, zn, zb⟩, ze⟩ := Z
    unfold outB at HX ⊢
    unfold lkA at HX
    simp only at HX ⊢
    generalize l.length = n at *
    generalize bs.length = m at *
    clear hl hb hf hfb hz h1 h2 h3 h4 hFx
    obtain ⟨hln, hln2⟩ := hln
    go_enter Tryz.func43, Tryz.ntmps43
    go_wp2_with fail
    refine HCK.out.mono ?_
    rintro e w1 ⟨rfl, hb⟩
    go_wp2_with fail
    refine (HX.out _ hb).mono ?_
    rintro e w2 ⟨rfl, hb2⟩
    have HBF := Lib.hid (hb.trans (hb2.mono hb.size))
    clear hb hb2
    go_wp2
    go_ret2
    exact ⟨rfl, HBF.out⟩
end Go.Proofs.YtdcjpinbflmikaaGreatDoor
namespace Go.Proofs.YtdcjpinbflmikaaGreatDoor
open Go.RowKit Ex
theorem own_rnr10 {w : World} {B n c : Nat} {A : Option Addr} {l : List Nd} (h : w.ownsRow B 114 6 (.slice A n c) n (l.flatMap ndV)) (hn : n = l.length) : NdR w w.heap.size A l ∧ n ≤ c ∧ c ≤ maxLen := by
  obtain ⟨A', c', e, h1, h2, h3⟩ := own_sliced h
  injection e with e1 _ e3
  subst e1 e3
  refine ⟨fun j hj => ?_, h1, h2⟩
  obtain ⟨g, rfl, _, hg⟩ := h3 (by omega)
  have q := fun (k : Nat) (u : Value) (hk : k < 6) (hu : (ndV l[j])[k]? = some u) => own_cell h ((fl_at (f := ndV) (k := 6) (fun _ => rfl) l j k hj hk).trans hu)
  refine ⟨g, 0, rfl, hg, ?_, ?_, ?_, ?_, ?_, ?_⟩
  · simpa using q 0 _ (by omega) rfl
  · simpa using q 1 _ (by omega) rfl
  · simpa using q 2 _ (by omega) rfl
  · simpa using q 3 _ (by omega) rfl
  · simpa using q 4 _ (by omega) rfl
  · simpa using q 5 _ (by omega) rfl
set_option maxHeartbeats 4000000 in
set_option maxRecDepth 100000 in
theorem evlaww_any (w : World) (T : Tx w) (A1 : Option Addr) (c1 : Nat) (l : List Nd) (h1 : NdR w w.heap.size A1 l) (hc1 : l.length ≤ c1) (hn1 : l.length ≤ 9223372036854775807) (ho1 : Okn l)
    (A2 : Option Addr) (c2 : Nat) (bs : List Ev.Bd) (h2 : BdR w w.heap.size A2 bs) (hc2 : bs.length ≤ c2) (hn2 : bs.length ≤ 9223372036854775807) (hb2 : ∀ q ∈ bs, Nu.fits q.2) :
    Calls Tryz.prog 7 #[.agg #[.slice A1 l.length c1], .slice A2 bs.length c2] w fun e w' => e = .returned (.bool true) ∧ Below w.heap.size w w' := by
  have I0 := Lib.hid (MoL.new w A1 c1 l)
  have HB0 := Lib.hid (Below.refl (w.alloc (.cells #[.slice A1 l.length c1] 29)).heap.size (w.alloc (.cells #[.slice A1 l.length c1] 29)))
  have k1 := I0.out.at_
  have HF1 := Lib.hid (fun v (i : MoL w A1 c1 l v) => fewv_any v A1 c1 l (h1.to i.below) hc1 hn1 A2 c2 bs (h2.on i.below) hc2 hn2)
  have HWK := Lib.hid (fun v (i : MoL w A1 c1 l v) => evworks_any v (T.below i.below))
  by_cases f1 : FewV l bs
  · rw [decide_eq_true f1] at HF1
    have hfl := fewv_fit f1 ho1 hb2
    have hfR : FitR l := ⟨by have := f1.1.1; omega, hfl.1.2⟩
    obtain ⟨X, hX⟩ := eva_ex l bs (fun n hn => (ho1 n hn).2)
    have HE1 := Lib.hid (fun v (i : MoL w A1 c1 l v) => eval_any v (T.below i.below) A1 c1 l (h1.to i.below) hc1 hfl.1 A2 c2 bs (h2.on i.below) hc2 hfl.2 X hX)
    have HE2 := Lib.hid (fun v (i : MoL w A1 c1 l v) => evNumber_any v (T.below i.below) A1 c1 l (h1.to i.below) hc1 hfl.1 A2 c2 bs (h2.on i.below) hc2 hfl.2 X hX _ rfl)
    have HE3 := Lib.hid (fun v (i : MoL w A1 c1 l v) => evTruth_any v (T.below i.below) A1 c1 l (h1.to i.below) hc1 hfl.1 A2 c2 bs (h2.on i.below) hc2 hfl.2 X hX _ rfl)
    have HR1 := Lib.hid (fun v A c Ab cb (hq : NdR v v.heap.size A l) (hc : l.length ≤ c) (hr : BdR v v.heap.size Ab bs) (hcb : bs.length ≤ cb) => rEval_any v A c l hq hc hfR Ab cb bs hr hcb hfl.2 X hX)
    have HR2 := Lib.hid (fun v A c Ab cb (hq : NdR v v.heap.size A l) (hc : l.length ≤ c) (hr : BdR v v.heap.size Ab bs) (hcb : bs.length ≤ cb) => rNumber_any v A c l hq hc hfR Ab cb bs hr hcb hfl.2 X hX)
    have HR3 := Lib.hid (fun v A c Ab cb (hq : NdR v v.heap.size A l) (hc : l.length ≤ c) (hr : BdR v v.heap.size Ab bs) (hcb : bs.length ≤ cb) => rTruth_any v A c l hq hc hfR Ab cb bs hr hcb hfl.2 X hX)
    have HRF := Lib.hid (fun v (i : MoL w A1 c1 l v) => eref10_any v A1 c1 l (h1.to i.below) hc1 (by have := f1.1.1; omega))
    have HBN := Lib.hid (fun v (i : MoL w A1 c1 l v) => binds10_any v A2 c2 bs (h2.on i.below) hc2 (by have := f1.1.2; omega))
    generalize onlyZ 1 X = P at *
    generalize onlyZ 2 X = Q at *
    obtain ⟨⟨pk, pn, pb⟩, pe⟩ := P
    obtain ⟨⟨qk, qn, qb⟩, qe⟩ := Q
    obtain ⟨⟨vk, vn, vb⟩, ve⟩ := X
    unfold outZ vlA at HE1 HR1
    unfold outN at HR2
    unfold outB at HR3
    simp only at HE1 HE2 HE3 HR1 HR2 HR3
    have sK : ((vk : Int) == (vk : Int)) = true := beq_self_eq_true _
    have sN : (vn == vn) = true := beq_self_eq_true _
    have sB : (vb == vb) = true := beq_self_eq_true _
    have sE : (ve == ve) = true := beq_self_eq_true _
    have sP : (pn == pn) = true := beq_self_eq_true _
    have sP2 : (pe == pe) = true := beq_self_eq_true _
    have sQ : (qb == qb) = true := beq_self_eq_true _
    have sQ2 : (qe == qe) = true := beq_self_eq_true _
    obtain ⟨nl, hnl⟩ : ∃ nl, nl = l.length := ⟨_, rfl⟩
    obtain ⟨m, hml⟩ : ∃ m, m = bs.length := ⟨_, rfl⟩
    have k1 : (w.alloc (.cells #[.slice A1 l.length c1] 29)).cell? ⟨w.heap.size, 0, none⟩ = some (.slice A1 nl c1) := by rw [hnl]; exact I0.out.at_
    rw [← hnl] at HF1 HE1 HE2 HE3 HR1 HR2 HR3 HRF I0 HB0 k1
    rw [← hml] at HF1 HE1 HE2 HE3 HR1 HR2 HR3 HBN
    rw [← hnl, ← hml]
    have HN := Lib.hid (And.intro hnl hml)
    clear T h1 h2 ho1 f1 hfl hfR hX hb2 hn1 hn2 hc1 hc2 hnl hml
    go_enter Tryz.func7, Tryz.ntmps7
    go_wp2_with fail
    refine (HF1.out _ I0.out).mono ?_
    rintro e v1 ⟨rfl, hb⟩
    have I1 := Lib.hid (I0.out.on hb)
    have HB1 := Lib.hid (HB0.out.trans (hb.mono HB0.out.size))
    clear hb k1
    have k1 := I1.out.at_
    rw [← HN.out.1] at k1
    go_wp2_with fail
    refine (HRF.out _ I1.out).mono ?_
    rintro e v2 ⟨vr, rfl, hor, hb⟩
    obtain ⟨Ar, cr, hv, _, _, hv1, hv2⟩ := own_slice hor
    subst hv
    have HOR := Lib.hid (own_rnr10 hor HN.out.1)
    have I2 := Lib.hid (I1.out.on hb)
    clear hb hor hv1 hv2 k1 HRF
    have k1 := I2.out.at_
    rw [← HN.out.1] at k1
    go_wp2_with fail
    refine (HBN.out _ I2.out).mono ?_
    rintro e v3 ⟨vr, rfl, hor, hb⟩
    obtain ⟨Ab, cb, hv, _, _, hv1, hv2⟩ := own_slice hor
    subst hv
    have HOB := Lib.hid (own_bdr hor HN.out.2)
    have I3 := Lib.hid (I2.out.on hb)
    have HQ := Lib.hid (fun v (h : Below v3.heap.size v3 v) => (show NdR v v.heap.size Ar l ∧ l.length ≤ cr ∧ BdR v v.heap.size Ab bs ∧ bs.length ≤ cb from ⟨(HOR.out.1.to hb).to h, by have := HOR.out.2.1; rw [← HN.out.1]; exact this, HOB.out.1.on h, by have := HOB.out.2.1; rw [← HN.out.2]; exact this⟩))
    have HB3 := Lib.hid (Below.refl v3.heap.size v3)
    clear hb hor hv1 hv2 k1 HBN HOR HOB
    have k1 := I3.out.at_
    rw [← HN.out.1] at k1
    go_wp2_with fail
    refine (HE1.out _ I3.out).mono ?_
    rintro e v4 ⟨rfl, hb⟩
    have I4 := Lib.hid (I3.out.on hb)
    have HB4 := Lib.hid (HB3.out.trans (hb.mono HB3.out.size))
    skip
    clear hb k1
    have k1 := I4.out.at_
    rw [← HN.out.1] at k1
    have hba := (Below.refl v4.heap.size v4).alloc (Nat.le_refl _) (.cells #[.int .u8 (vk : Nat), .int .i64 vn, .bool vb] 67)
    have I5 := Lib.hid (I4.out.on hba)
    have HB5 := Lib.hid (HB4.out.trans (hba.mono HB4.out.size))
    skip
    have KE := Lib.hid (IsBlk.new v4 67 #[.int .u8 (vk : Nat), .int .i64 vn, .bool vb])
    clear hba k1
    have k1 := I5.out.at_
    rw [← HN.out.1] at k1
    go_wp2_with fail
    refine (HR1.out _ Ar cr Ab cb (HQ.out _ HB5.out).1 (by rw [HN.out.1]; exact (HQ.out _ HB5.out).2.1) (HQ.out _ HB5.out).2.2.1 (by rw [HN.out.2]; exact (HQ.out _ HB5.out).2.2.2)).mono ?_
    rintro e v6 ⟨rfl, hb⟩
    have I6 := Lib.hid (I5.out.on hb)
    have HB6 := Lib.hid (HB5.out.trans (hb.mono HB5.out.size))
    have KE := Lib.hid (KE.out.below hb KE.out.lt)
    clear hb k1
    have k1 := I6.out.at_
    rw [← HN.out.1] at k1
    have hba := (Below.refl v6.heap.size v6).alloc (Nat.le_refl _) (.cells #[.int .u8 (vk : Nat), .int .i64 vn, .bool vb] 70)
    have I7 := Lib.hid (I6.out.on hba)
    have HB7 := Lib.hid (HB6.out.trans (hba.mono HB6.out.size))
    have KE := Lib.hid (KE.out.below hba KE.out.lt)
    have KR := Lib.hid (IsBlk.new v6 70 #[.int .u8 (vk : Nat), .int .i64 vn, .bool vb])
    clear hba k1
    have k1 := I7.out.at_
    rw [← HN.out.1] at k1
    go_wp2_with fail
    refine (HE2.out _ I7.out).mono ?_
    rintro e v8 ⟨rfl, hb⟩
    have I8 := Lib.hid (I7.out.on hb)
    have HB8 := Lib.hid (HB7.out.trans (hb.mono HB7.out.size))
    (have KE := Lib.hid (KE.out.below hb KE.out.lt); have KR := Lib.hid (KR.out.below hb KR.out.lt))
    clear hb k1
    have k1 := I8.out.at_
    rw [← HN.out.1] at k1
    go_wp2_with fail
    refine (HR2.out _ Ar cr Ab cb (HQ.out _ HB8.out).1 (by rw [HN.out.1]; exact (HQ.out _ HB8.out).2.1) (HQ.out _ HB8.out).2.2.1 (by rw [HN.out.2]; exact (HQ.out _ HB8.out).2.2.2)).mono ?_
    rintro e v9 ⟨rfl, hb⟩
    have I9 := Lib.hid (I8.out.on hb)
    have HB9 := Lib.hid (HB8.out.trans (hb.mono HB8.out.size))
    (have KE := Lib.hid (KE.out.below hb KE.out.lt); have KR := Lib.hid (KR.out.below hb KR.out.lt))
    clear hb k1
    have k1 := I9.out.at_
    rw [← HN.out.1] at k1
    go_wp2_with fail
    refine (HE3.out _ I9.out).mono ?_
    rintro e v10 ⟨rfl, hb⟩
    have I10 := Lib.hid (I9.out.on hb)
    have HB10 := Lib.hid (HB9.out.trans (hb.mono HB9.out.size))
    (have KE := Lib.hid (KE.out.below hb KE.out.lt); have KR := Lib.hid (KR.out.below hb KR.out.lt))
    clear hb k1
    have k1 := I10.out.at_
    rw [← HN.out.1] at k1
    go_wp2_with fail
    refine (HR3.out _ Ar cr Ab cb (HQ.out _ HB10.out).1 (by rw [HN.out.1]; exact (HQ.out _ HB10.out).2.1) (HQ.out _ HB10.out).2.2.1 (by rw [HN.out.2]; exact (HQ.out _ HB10.out).2.2.2)).mono ?_
    rintro e v11 ⟨rfl, hb⟩
    have I11 := Lib.hid (I10.out.on hb)
    have HB11 := Lib.hid (HB10.out.trans (hb.mono HB10.out.size))
    (have KE := Lib.hid (KE.out.below hb KE.out.lt); have KR := Lib.hid (KR.out.below hb KR.out.lt))
    clear hb k1
    have k1 := I11.out.at_
    rw [← HN.out.1] at k1
    have y0 := KE.out.at_ 0
    have y1 := KE.out.at_ 1
    have y2 := KE.out.at_ 2
    have z0 := KR.out.at_ 0
    have z1 := KR.out.at_ 1
    have z2 := KR.out.at_ 2
    simp only [List.getElem?_toArray, List.getElem?_cons_zero, List.getElem?_cons_succ] at y0 y1 y2 z0 z1 z2
    go_wp2_with fail
    refine (HWK.out _ I11.out).mono ?_
    rintro e vw ⟨rfl, hb⟩
    have IW := Lib.hid (I11.out.on hb)
    clear hb
    go_wp2
    go_ret
    exact ⟨rfl, IW.out.below⟩
  · rw [decide_eq_false f1] at HF1
    clear T h1 h2 ho1
    go_enter Tryz.func7, Tryz.ntmps7
    go_wp2_with fail
    refine (HF1.out _ I0.out).mono ?_
    rintro e v1 ⟨rfl, hb⟩
    have I1 := Lib.hid (I0.out.on hb)
    have HB1 := Lib.hid (HB0.out.trans (hb.mono HB0.out.size))
    clear hb k1
    have k1 := I1.out.at_
    go_wp2_with fail
    refine (HWK.out _ I1.out).mono ?_
    rintro e vw ⟨rfl, hb⟩
    have IW := Lib.hid (I1.out.on hb)
    clear hb
    go_wp2
    go_ret
    exact ⟨rfl, IW.out.below⟩
end Go.Proofs.YtdcjpinbflmikaaGreatDoor
