/- Facts and walks for the statement. -/
import Derived.Test.YtdcjpinbflmikaaGreatDoorPzW18
import Derived.Test.YtdcjpinbflmikaaGreatDoorPzW19
import Derived.Test.YtdcjpinbflmikaaGreatDoorPzW20
import Derived.Test.YtdcjpinbflmikaaGreatDoorPzW14
import Derived.Deep.CutRange
import Derived.Deep.RegionHeld3
namespace Go.Proofs.YtdcjpinbflmikaaGreatDoor
open Go.RowKit Ex
theorem worth_at {w : World} {A : Option Addr} {l : List Nd} {c mb m pb : Nat} {bs : List Ev.Bd} (E : EvC w A l c mb m pb bs) (hnm : ∀ n ∈ l, n.nm.length ≤ 1000000) : ∀ (x : Ex.E) (s : Nat), At l s x → wr x → small x → WoC (rkA A l.length c mb pb) w ((s + sz x : Nat) - 1) (Ev.wo bs x)
  | .num v, s, h, _, _ => by
    have q2 := at_one.1 h.1
    rw [show ((s + sz (.num v) : Nat) : Int) - 1 = (s : Int) by simp only [sz]; omega]
    exact worth1 E q2
  | .name v, s, h, _, _ => by
    have q2 := at_one.1 h.1
    rw [show ((s + sz (.name v) : Nat) : Int) - 1 = (s : Int) by simp only [sz]; omega]
    exact worth2 E q2 (hnm _ (List.mem_of_getElem? q2))
  | .tt, s, h, _, _ => by
    have q2 := at_one.1 h.1
    rw [show ((s + sz .tt : Nat) : Int) - 1 = (s : Int) by simp only [sz]; omega]
    exact worth3 E q2
  | .ff, s, h, _, _ => by
    have q2 := at_one.1 h.1
    rw [show ((s + sz .ff : Nat) : Int) - 1 = (s : Int) by simp only [sz]; omega]
    exact worth4 E q2
  | .un op a, s, h, hw, hs => by
    obtain ⟨ha, q⟩ := at_un h
    rw [show ((s + sz (.un op a) : Nat) : Int) - 1 = ((s + sz a : Nat) : Int) by simp only [sz]; omega]
    have iA := worth_at E hnm a s ha hw.2 hs
    rcases hw.1 with rfl | rfl
    · exact worth5 E q iA (Ev.wo_fine E.fit.fit hs)
    · exact worth6 E q iA
  | .bin op a b, s, h, hw, hs => by
    obtain ⟨ha, hb, q⟩ := at_bin h
    rw [show ((s + sz (.bin op a b) : Nat) : Int) - 1 = ((s + sz a + sz b : Nat) : Int) by simp only [sz]; omega]
    obtain ⟨h7, h21, hwa, hwb⟩ := hw
    have iA := worth_at E hnm a s ha hwa hs.1
    have iB := worth_at E hnm b (s + sz a) hb hwb hs.2
    have fA := Ev.wo_fine E.fit.fit hs.1
    have fB := Ev.wo_fine E.fit.fit hs.2
    have e : op = 7 ∨ op = 8 ∨ op = 9 ∨ op = 10 ∨ op = 11 ∨ op = 12 ∨ op = 13 ∨ op = 14 ∨ op = 15 ∨ op = 16 ∨ op = 17 ∨ op = 18 ∨ op = 19 ∨ op = 20 ∨ op = 21 := by omega
    rcases e with rfl | rfl | rfl | rfl | rfl | rfl | rfl | rfl | rfl | rfl | rfl | rfl | rfl | rfl | rfl
    · exact worth7 E q iA iB fA fB
    · exact worth8 E q iA iB fA fB
    · exact worth9 E q iA iB fA fB
    · exact worth10 E q iA iB fA fB
    · exact worth11 E q iA iB fA fB
    · exact worth12 E q iA iB fA fB
    · exact worth13 E q iA iB fA fB
    · exact worth14 E q iA iB fA fB
    · exact worth15 E q iA iB fA fB
    · exact worth16 E q iA iB
    · exact worth17 E q iA iB
    · exact worth18 E q iA iB
    · exact worth19 E q iA iB
    · exact worth20 E q iA iB
    · exact worth21 E q iA iB
  | .ite a b c', s, h, hw, hs => by
    obtain ⟨ha, hb, hcx, q⟩ := at_ite h
    rw [show ((s + sz (.ite a b c') : Nat) : Int) - 1 = ((s + sz a + sz b + sz c' : Nat) : Int) by simp only [sz]; omega]
    exact worth22 E q (worth_at E hnm a s ha hw.1 hs.1) (worth_at E hnm b (s + sz a) hb hw.2.1 hs.2.1) (worth_at E hnm c' (s + sz a + sz b) hcx hw.2.2 hs.2.2)
def EvA (l : List Nd) (bs : List Ev.Bd) (X : Ev.Vl × Int) : Prop := (chk l ≠ 0 ∧ X = (⟨0, 0, false⟩, chk l)) ∨ (chk l = 0 ∧ ∃ x, wr x ∧ dp x ≤ 64 ∧ small x ∧ l = flat x 0 ∧ X = resZ (Ev.wo bs x))
theorem chk_row {l : List Nd} (h : chk l = 0) : ∃ x, wr x ∧ dp x ≤ 64 ∧ l = flat x 0 := by
  unfold chk at h
  split at h
  · cases h
  · rename_i hd
    split at h
    · cases h
    · rename_i h64
      obtain ⟨x, h1, h2, h3⟩ := dep_row hd
      exact ⟨x, h1, by omega, h2⟩
theorem eva_ex (l : List Nd) (bs : List Ev.Bd) (hm : ∀ n ∈ l, n.num ≤ 9223372036854775807) : ∃ X, EvA l bs X := by
  by_cases h : chk l = 0
  · obtain ⟨x, h1, h2, h3⟩ := chk_row h
    exact ⟨_, Or.inr ⟨h, x, h1, h2, Ev.small_flat (p := 0) (by rw [← h3]; exact hm), h3, rfl⟩⟩
  · exact ⟨_, Or.inl ⟨h, rfl⟩⟩
theorem NmM.far3 {w : World} {b m : Nat} {bs : List Ev.Bd} (h : NmM w b m bs) {p : Nat} (hne : b ≠ p) (v0 v1 v2 : Value) : NmM (((w.setCell ⟨p, 0, none⟩ v0).setCell ⟨p, 1, none⟩ v1).setCell ⟨p, 2, none⟩ v2) b m bs := by
  obtain ⟨D, h1, h2⟩ := h
  exact ⟨D, ((h1.setCell (a := ⟨p, 0, none⟩) hne v0).setCell (a := ⟨p, 1, none⟩) hne v1).setCell (a := ⟨p, 2, none⟩) hne v2, h2⟩
theorem PaM.far3 {w : World} {b : Nat} (h : PaM w b) {p : Nat} (hne : b ≠ p) (v0 v1 v2 : Value) : PaM (((w.setCell ⟨p, 0, none⟩ v0).setCell ⟨p, 1, none⟩ v1).setCell ⟨p, 2, none⟩ v2) b :=
  (Below.heap_setCell _ _ _ _ hne).trans ((Below.heap_setCell _ _ _ _ hne).trans ((Below.heap_setCell _ _ _ _ hne).trans h))
structure FpI (w1 w2 : World) (mb m : Nat) (bs : List Ev.Bd) : Prop where
  below : Below w1.heap.size w1 w2
  nm : NmM w2 mb m bs
  ge : w1.heap.size ≤ mb
abbrev zBox : Obj := .cells #[.slice none 0 0, .map none, .map none] 152
theorem FpI.on {w1 w2 w3 : World} {mb m : Nat} {bs : List Ev.Bd} (h : FpI w1 w2 mb m bs) (hb : Below w2.heap.size w2 w3) : FpI w1 w3 mb m bs := ⟨h.below.trans (hb.mono h.below.size), h.nm.below hb, h.ge⟩
theorem evMeet {w1 wx : World} {mb m pb p : Nat} {bs : List Ev.Bd} {A : Option Addr} {n c : Nat} (hi : FpI w1 wx mb m bs) (hp : PaM wx pb) (hk : IsBlk wx p 152 #[.slice none 0 0, .map none, .map none]) (hge : w1.heap.size ≤ p) (h1 : mb ≠ p) (h2 : pb ≠ p) :
    IsBlk (((wx.setCell ⟨p, 0, none⟩ (.slice A n c)).setCell ⟨p, 1, none⟩ (.map (some mb))).setCell ⟨p, 2, none⟩ (.map (some pb))) p 152 #[.slice A n c, .map (some mb), .map (some pb)] ∧ FpI w1 (((wx.setCell ⟨p, 0, none⟩ (.slice A n c)).setCell ⟨p, 1, none⟩ (.map (some mb))).setCell ⟨p, 2, none⟩ (.map (some pb))) mb m bs ∧ PaM (((wx.setCell ⟨p, 0, none⟩ (.slice A n c)).setCell ⟨p, 1, none⟩ (.map (some mb))).setCell ⟨p, 2, none⟩ (.map (some pb))) pb :=
  ⟨((hk.set 0 _).set 1 _).set 2 _, ⟨((hi.below.setCell (p := ⟨p, 0, none⟩) hge _).setCell (p := ⟨p, 1, none⟩) hge _).setCell (p := ⟨p, 2, none⟩) hge _, hi.nm.far3 h1 _ _ _, hi.ge⟩, hp.far3 h2 _ _ _⟩
set_option maxHeartbeats 4000000 in
set_option maxRecDepth 100000 in
theorem eval_any (w : World) (T : Tx w) (A : Option Addr) (c : Nat) (l : List Nd) (hl : NdR w w.heap.size A l) (hc : l.length ≤ c) (hf : Fit l) (A2 : Option Addr) (c2 : Nat) (bs : List Ev.Bd) (hb : BdR w w.heap.size A2 bs) (hc2 : bs.length ≤ c2) (hfb : FitB bs) (X : Ev.Vl × Int) (hX : EvA l bs X) :
    Calls Tryz.prog 38 #[.agg #[.slice A l.length c], .slice A2 bs.length c2] w fun e w' => e = outZ X ∧ Below w.heap.size w w' := by
  obtain ⟨W1, hW1⟩ : ∃ W1, W1 = (w.alloc (.cells #[.slice A l.length c] 29)).alloc (.cells #[.int .u8 0, .int .i64 0, .bool false] 67) := ⟨_, rfl⟩
  have hb1 : Below w.heap.size w W1 := by rw [hW1]; exact ((Below.refl _ _).alloc (Nat.le_refl _) _).alloc (by simp) _
  have k0 : IsBlk W1 w.heap.size 29 #[.slice A l.length c] := by rw [hW1]; exact (IsBlk.new _ _ _).below ((Below.refl _ _).alloc (Nat.le_refl _) _) (IsBlk.new w _ _).lt
  have kv : IsBlk W1 (w.heap.size + 1) 67 #[.int .u8 0, .int .i64 0, .bool false] := by
    rw [hW1, show w.heap.size + 1 = (w.alloc (.cells #[.slice A l.length c] 29)).heap.size by simp]; exact IsBlk.new _ _ _
  have HCK := Lib.hid (check_any W1 (T.below hb1) A c l ((hl.below hb1).more hb1.size) hc hf)
  have HB1 := Lib.hid hb1
  have HK := Lib.hid k0
  have HV := Lib.hid kv
  have x0 := k0.at_ 0
  simp only [List.getElem?_toArray, List.getElem?_cons_zero] at x0
  rw [hW1] at x0
  have HW1 := Lib.hid hW1
  have hcI : (l.length : Int) ≤ (c : Int) := by omega
  have hc2I : (bs.length : Int) ≤ (c2 : Int) := by omega
  rcases hX with ⟨hz, rfl⟩ | ⟨hz, x, h1, h2, h3, h4, rfl⟩
  · have hz1 : (chk l == 0) = false := by simpa using hz
    have hz2 : (chk l != 0) = true := by simp [bne, hz1]
    generalize chk l = z at *
    clear hW1 hb1 hl hb hf hfb T k0 kv hz
    go_enter Tryz.func38, Tryz.ntmps38
    go_wp2_with fail
    rw [← HW1.out]
    refine HCK.out.mono ?_
    rintro e w1 ⟨rfl, hb⟩
    have kz := HV.out.below hb HV.out.lt
    have k0 := kz.at_ 0
    have k1 := kz.at_ 1
    have k2 := kz.at_ 2
    have f0 := kz.fz 0
    have f1 := kz.fz 1
    have f2 := kz.fz 2
    simp only [List.getElem?_toArray, List.getElem?_cons_zero, List.getElem?_cons_succ] at k0 k1 k2
    have HBF := Lib.hid ((((HB1.out.trans (hb.mono HB1.out.size)).setCell (p := ⟨w.heap.size + 1, 0, none⟩) (Nat.le_succ _) (.int .u8 0)).setCell (p := ⟨w.heap.size + 1, 1, none⟩) (Nat.le_succ _) (.int .i64 0)).setCell (p := ⟨w.heap.size + 1, 2, none⟩) (Nat.le_succ _) (.bool false))
    clear hb kz
    go_wp2
    refine bodyPost_ret (v := .tuple #[vlA ⟨0, 0, false⟩, .int .i64 z]) (by simp [results, Tryz.results38, go_sem, vlA, k0, k1, k2]) rfl ?_
    exact ⟨rfl, HBF.out⟩
  · rw [hz] at HCK
    have HG := Lib.hid (And.intro hl (And.intro hb (And.intro hf hfb)))
    have HX := Lib.hid (show ∀ v mb pb, NdR v v.heap.size A l → NmM v mb bs.length bs → PaM v pb → WoC (rkA A l.length c mb pb) v ((l.length : Int) - 1) (Ev.wo bs x) from fun v mb pb hr hn hp => by
      have := worth_at (w := v) ⟨hr, hc, hn, hp, hfb⟩ (fun n hn => (hf.2 n hn).1) x 0 ⟨by rw [List.drop_zero, h4, ← flat_len x 0, List.take_length], by rw [h4, flat_len]; omega⟩ h1 h3
      rw [Nat.zero_add, ← flat_len x 0, ← h4] at this
      exact this)
    have hln : 1 ≤ l.length ∧ l.length ≤ 1000000 := ⟨by rw [h4, flat_len]; exact sz_pos x, by have := hf.1; omega⟩
    have HWH := Lib.hid (fun v mb pb h => evwhole_any A l.length c mb pb v (Ev.wo bs x) hln.1 hln.2 h)
    generalize Ev.wo bs x = R at *
    obtain ⟨Z, hZ⟩ : ∃ Z, Z = resZ R := ⟨_, rfl⟩
    rw [← hZ] at HWH ⊢
    obtain ⟨⟨zk, zn, zb⟩, ze⟩ := Z
    unfold outZ vlA at HWH
    simp only at HWH
    obtain ⟨n, hnl⟩ : ∃ n, n = l.length := ⟨_, rfl⟩
    rw [← hnl] at HCK HW1 HK HX HWH x0 hcI ⊢
    obtain ⟨m, hml⟩ : ∃ m, m = bs.length := ⟨_, rfl⟩
    rw [← hml] at HX hc2I ⊢
    have HN := Lib.hid (And.intro hnl hml)
    clear hW1 hb1 hl hb hf hfb T k0 kv hz h1 h2 h3 h4 hZ hln hc hc2 hnl hml
    go_enter Tryz.func38, Tryz.ntmps38
    go_wp2_with fail
    rw [← HW1.out]
    refine HCK.out.mono ?_
    rintro e w1 ⟨rfl, hb⟩
    have HB2 := Lib.hid (HB1.out.trans (hb.mono HB1.out.size))
    have HK2 := Lib.hid (HK.out.below hb HK.out.lt)
    have HV2 := Lib.hid (HV.out.below hb HV.out.lt)
    have HS := Lib.hid (fun v (h : Below w1.heap.size w1 v) => (show v.cell? ⟨w.heap.size, 0, none⟩ = some (.slice A n c) from (HK2.out.below h HK2.out.lt).at_ 0))
    have HF := Lib.hid (fun v (h : Below w1.heap.size w1 v) => (show Calls Tryz.prog 78 #[.slice A2 m c2] v fun e w' => e = .returned (.map (some v.heap.size)) ∧ NmM w' v.heap.size m bs ∧ Below v.heap.size v w' from by
      have hbv := HB2.out.trans (h.mono HB2.out.size)
      have q := firstOnes_any v A2 c2 bs (HG.out.2.1.on hbv) (by rw [← HN.out.2]; omega) HG.out.2.2.2
      rw [← HN.out.2] at q
      exact q))
    have HP := Lib.hid (fun v => (pairs_any v).mono (R' := fun e w' => e = .returned (.map (some v.heap.size)) ∧ PaM w' v.heap.size ∧ Below v.heap.size v w') (fun e w' h => ⟨h.1, by rw [h.2]; exact heap_alloc_new _ _, by rw [h.2]; exact (Below.refl _ _).alloc (Nat.le_refl _) _⟩))
    have HY := Lib.hid (HS.out w1.drew (Below.refl _ _).drew)
    have HD := Lib.hid (Below.refl w1.heap.size w1).drew
    have HD2 := Lib.hid ((Below.refl w1.heap.size w1).alloc (Nat.le_refl _) zBox).drew
    have HSZ := Lib.hid (show (w1.alloc zBox).drew.heap.size = w1.heap.size + 1 from by show (w1.alloc zBox).heap.size = _; simp)
    have HKZ := Lib.hid (show IsBlk (w1.alloc zBox).drew w1.heap.size 152 #[.slice none 0 0, .map none, .map none] from (IsBlk.new w1 _ _).below (Below.refl _ _).drew (IsBlk.new w1 152 #[.slice none 0 0, .map none, .map none]).lt)
    have HQ1 := Lib.hid True.intro
    have HQ2 := Lib.hid True.intro
    clear hb HB1 HK HV HCK
    go_upto_region 4 with fail
    go_cut [7] from 14 to 23 (fun s7 wx => ∃ p mb pb : Nat, s7 = .pointer (some ⟨p, 0, none⟩) ∧ Hid (IsBlk wx p 152 #[.slice A n c, .map (some mb), .map (some pb)] ∧ FpI w1 wx mb m bs ∧ PaM wx pb))
    case first =>
      go_region_held3 (fun v => v.cell? ⟨w.heap.size, 0, none⟩ = some (.slice A n c)) (first | with_reducible exact HY.out | with_reducible exact HS.out _ HQ1.out.below | with_reducible exact HS.out _ HQ2.out.1.below | with_reducible exact HS.out _ HD2.out | with_reducible exact HS.out _ (HQ1.out.below.alloc HQ1.out.below.size _) | with_reducible exact HS.out _ (HQ2.out.1.below.alloc HQ2.out.1.below.size _) | exact HS.out _ (((HQ2.out.1.below.setCell HQ2.out.2.2.2.1 _).setCell HQ2.out.2.2.2.1 _).setCell HQ2.out.2.2.2.1 _) | fail) (first | (go_at_call 78; refine (HF.out _ HD.out).mono ?_; rintro e w2 ⟨rfl, hn2, hb2⟩; have HQ1 := Lib.hid (show FpI w1 w2 w1.heap.size m bs from ⟨HD.out.trans hb2, hn2, Nat.le_refl _⟩); clear hb2 hn2 HF) | (go_at_call 78; refine (HF.out _ HD2.out).mono ?_; rintro e w2 ⟨rfl, hn2, hb2⟩; have HQ1 := Lib.hid (show FpI w1 w2 (w1.heap.size + 1) m bs from ⟨HD2.out.trans (hb2.mono HD2.out.size), (by rw [← HSZ.out]; exact hn2), Nat.le_succ _⟩); have HKB := Lib.hid (show IsBlk w2 w1.heap.size 152 #[.slice none 0 0, .map none, .map none] from HKZ.out.below hb2 HKZ.out.lt); clear hb2 hn2 HF) | (go_at_call 79; refine (HP.out _).mono ?_; rintro e w3 ⟨rfl, hp3, hb3⟩; have hk3 := HKB.out.below hb3 HKB.out.lt; have HQ2 := Lib.hid (And.intro (HQ1.out.on hb3) (And.intro hp3 (And.intro hk3 (And.intro (Nat.le_refl w1.heap.size) (And.intro (show w1.heap.size + 1 ≠ w1.heap.size by omega) (show w2.heap.size ≠ w1.heap.size by have := HKB.out.lt; omega)))))); have e0 := hk3.at_ 0; have e1 := hk3.at_ 1; have e2 := hk3.at_ 2; have g0 := hk3.fz 0; have g1 := hk3.fz 1; have g2 := hk3.fz 2; simp only [List.getElem?_toArray, List.getElem?_cons_zero, List.getElem?_cons_succ] at e0 e1 e2; clear hk3 hp3 hb3 HP) | (go_at_call 79; refine (HP.out w2).mono ?_; rintro e w3 ⟨rfl, hp3, hb3⟩; have HQ2 := Lib.hid (And.intro (HQ1.out.on hb3) hp3); clear hp3 hb3 HP) | (go_at_call 79; refine (HP.out (w2.alloc zBox)).mono ?_; rintro e w3 ⟨rfl, hp3, hb3⟩; have hk3 := (IsBlk.new w2 _ _).below hb3 (IsBlk.new w2 152 #[.slice none 0 0, .map none, .map none]).lt; have HQ2 := Lib.hid (And.intro ((HQ1.out.on ((Below.refl _ _).alloc (Nat.le_refl _) zBox)).on hb3) (And.intro (show PaM w3 (w2.heap.size + 1) from by have q := hp3; rw [show (w2.alloc zBox).heap.size = w2.heap.size + 1 by simp] at q; exact q) (And.intro hk3 (And.intro HQ1.out.below.size (And.intro (show w1.heap.size ≠ w2.heap.size by have := HQ1.out.nm.lt; omega) (show w2.heap.size + 1 ≠ w2.heap.size by omega)))))); have e0 := hk3.at_ 0; have e1 := hk3.at_ 1; have e2 := hk3.at_ 2; have g0 := hk3.fz 0; have g1 := hk3.fz 1; have g2 := hk3.fz 2; simp only [List.getElem?_toArray, List.getElem?_cons_zero, List.getElem?_cons_succ] at e0 e1 e2; clear hk3 hp3 hb3 HP))
      all_goals
        go_wp2_with fail
        go_meet
        first
        | exact ⟨_, _, _, rfl, Lib.hid ⟨IsBlk.new _ _ _, HQ2.out.1.on ((Below.refl _ _).alloc (Nat.le_refl _) _), HQ2.out.2.below ((Below.refl _ _).alloc (Nat.le_refl _) _)⟩⟩
        | exact ⟨_, _, _, rfl, Lib.hid (evMeet HQ2.out.1 HQ2.out.2.1 HQ2.out.2.2.1 HQ2.out.2.2.2.1 HQ2.out.2.2.2.2.1 HQ2.out.2.2.2.2.2)⟩
    case rest =>
      obtain ⟨p, mb, pb, rfl, hq⟩ := hcut
      have HQ := Lib.hid hq.out
      have hbc := HB2.out.trans (HQ.out.2.1.below.mono HB2.out.size)
      have HBC := Lib.hid hbc
      have HWW := Lib.hid (HWH.out wc mb pb (by have q := HX.out wc mb pb ((HG.out.1.below hbc).more hbc.size) HQ.out.2.1.nm HQ.out.2.2; exact q))
      have e0 := HQ.out.1.at_ 0
      have e1 := HQ.out.1.at_ 1
      have e2 := HQ.out.1.at_ 2
      simp only [List.getElem?_toArray, List.getElem?_cons_zero, List.getElem?_cons_succ] at e0 e1 e2
      have HVC := Lib.hid (HV2.out.below HQ.out.2.1.below HV2.out.lt)
      unfold rkA at HWW
      clear hq hbc HX HWH HQ1 HQ2 HKZ HSZ HD HD2 HY HP HF HS x0
      go_wp2_with fail
      refine HWW.out.mono ?_
      rintro e w5 ⟨rfl, hb⟩
      have kz := HVC.out.below hb HVC.out.lt
      have k0 := kz.at_ 0
      have k1 := kz.at_ 1
      have k2 := kz.at_ 2
      have f0 := kz.fz 0
      have f1 := kz.fz 1
      have f2 := kz.fz 2
      simp only [List.getElem?_toArray, List.getElem?_cons_zero, List.getElem?_cons_succ] at k0 k1 k2
      have HBF := Lib.hid ((((HBC.out.trans (hb.mono HBC.out.size)).setCell (p := ⟨w.heap.size + 1, 0, none⟩) (Nat.le_succ _) (.int .u8 (zk : Nat))).setCell (p := ⟨w.heap.size + 1, 1, none⟩) (Nat.le_succ _) (.int .i64 zn)).setCell (p := ⟨w.heap.size + 1, 2, none⟩) (Nat.le_succ _) (.bool zb))
      clear hb kz
      go_wp2
      refine bodyPost_ret (v := .tuple #[vlA ⟨zk, zn, zb⟩, .int .i64 ze]) (by simp [results, Tryz.results38, go_sem, vlA, k0, k1, k2]) rfl ?_
      exact ⟨rfl, HBF.out⟩
end Go.Proofs.YtdcjpinbflmikaaGreatDoor
namespace Go.Proofs.YtdcjpinbflmikaaGreatDoor
open Go.RowKit Ex
def onlyZ (k : Nat) (X : Ev.Vl × Int) : Ev.Vl × Int := if X.2 = 0 ∧ X.1.k ≠ k then (⟨0, 0, false⟩, 90) else X
set_option maxHeartbeats 1000000 in
set_option maxRecDepth 100000 in
theorem only_any (k : Nat) (w : World) (T : Tx w) (A : Option Addr) (c : Nat) (l : List Nd) (hl : NdR w w.heap.size A l) (hc : l.length ≤ c) (hf : Fit l) (A2 : Option Addr) (c2 : Nat) (bs : List Ev.Bd) (hb : BdR w w.heap.size A2 bs) (hc2 : bs.length ≤ c2) (hfb : FitB bs) (X : Ev.Vl × Int) (hX : EvA l bs X) :
    Calls Tryz.prog 82 #[.int .u8 (k : Nat), .agg #[.slice A l.length c], .slice A2 bs.length c2] w fun e w' => e = outZ (onlyZ k X) ∧ Below w.heap.size w w' := by
  obtain ⟨W1, hW1⟩ : ∃ W1, W1 = (w.alloc (.cells #[.slice A l.length c] 29)).alloc (.cells #[.int .u8 0, .int .i64 0, .bool false] 67) := ⟨_, rfl⟩
  have hb1 : Below w.heap.size w W1 := by rw [hW1]; exact ((Below.refl _ _).alloc (Nat.le_refl _) _).alloc (by simp) _
  have k0 : IsBlk W1 w.heap.size 29 #[.slice A l.length c] := by rw [hW1]; exact (IsBlk.new _ _ _).below ((Below.refl _ _).alloc (Nat.le_refl _) _) (IsBlk.new w _ _).lt
  have kv : IsBlk W1 (w.heap.size + 1) 67 #[.int .u8 0, .int .i64 0, .bool false] := by
    rw [hW1, show w.heap.size + 1 = (w.alloc (.cells #[.slice A l.length c] 29)).heap.size by simp]; exact IsBlk.new _ _ _
  have HCE := Lib.hid (eval_any W1 (T.below hb1) A c l ((hl.below hb1).more hb1.size) hc hf A2 c2 bs ((hb.below hb1).more hb1.size) hc2 hfb X hX)
  have HB1 := Lib.hid hb1
  have HV := Lib.hid kv
  have x0 := k0.at_ 0
  simp only [List.getElem?_toArray, List.getElem?_cons_zero] at x0
  rw [hW1] at x0
  have HW1 := Lib.hid hW1
  clear hW1 hb1 hl hb hf hfb T k0 kv hX hc hc2
  obtain ⟨⟨zk, zn, zb⟩, ze⟩ := X
  unfold outZ vlA at HCE
  simp only at HCE
  unfold onlyZ
  by_cases hz : ze = 0
  · subst hz
    by_cases hk : zk = k
    · subst hk
      have hk1 : ((zk : Int) == (zk : Int)) = true := beq_self_eq_true _
      have hk2 : ((zk : Int) != (zk : Int)) = false := by simp [bne]
      rw [if_neg (fun h => h.2 rfl)]
      go_enter Tryz.func82, Tryz.ntmps82
      go_wp2_with fail
      rw [← HW1.out]
      refine HCE.out.mono ?_
      rintro e w1 ⟨rfl, hb⟩
      have kz := HV.out.below hb HV.out.lt
      have kz := kz.below ((Below.refl _ _).alloc (Nat.le_refl _) (.cells #[.int .u8 (zk : Nat), .int .i64 zn, .bool zb] 67)) kz.lt
      have k0 := kz.at_ 0
      have k1 := kz.at_ 1
      have k2 := kz.at_ 2
      have f0 := kz.fz 0
      have f1 := kz.fz 1
      have f2 := kz.fz 2
      simp only [List.getElem?_toArray, List.getElem?_cons_zero, List.getElem?_cons_succ] at k0 k1 k2
      have HBF := Lib.hid (((((HB1.out.trans (hb.mono HB1.out.size)).alloc (HB1.out.trans (hb.mono HB1.out.size)).size (.cells #[.int .u8 (zk : Nat), .int .i64 zn, .bool zb] 67)).setCell (p := ⟨w.heap.size + 1, 0, none⟩) (Nat.le_succ _) (.int .u8 (zk : Nat))).setCell (p := ⟨w.heap.size + 1, 1, none⟩) (Nat.le_succ _) (.int .i64 zn)).setCell (p := ⟨w.heap.size + 1, 2, none⟩) (Nat.le_succ _) (.bool zb))
      clear hb kz
      go_wp2
      refine bodyPost_ret (v := .tuple #[vlA ⟨zk, zn, zb⟩, .int .i64 0]) (by simp [results, Tryz.results82, go_sem, vlA, k0, k1, k2]) rfl ?_
      exact ⟨rfl, HBF.out⟩
    · have hk1 : ((zk : Int) == (k : Int)) = false := beq_eq_false_iff_ne.2 (by omega)
      have hk2 : ((zk : Int) != (k : Int)) = true := by simp [bne, hk1]
      rw [if_pos ⟨rfl, hk⟩]
      clear hk
      go_enter Tryz.func82, Tryz.ntmps82
      go_wp2_with fail
      rw [← HW1.out]
      refine HCE.out.mono ?_
      rintro e w1 ⟨rfl, hb⟩
      have kz := HV.out.below hb HV.out.lt
      have kz := kz.below ((Below.refl _ _).alloc (Nat.le_refl _) (.cells #[.int .u8 (zk : Nat), .int .i64 zn, .bool zb] 67)) kz.lt
      have k0 := kz.at_ 0
      have k1 := kz.at_ 1
      have k2 := kz.at_ 2
      have f0 := kz.fz 0
      have f1 := kz.fz 1
      have f2 := kz.fz 2
      simp only [List.getElem?_toArray, List.getElem?_cons_zero, List.getElem?_cons_succ] at k0 k1 k2
      have HBF := Lib.hid (((((HB1.out.trans (hb.mono HB1.out.size)).alloc (HB1.out.trans (hb.mono HB1.out.size)).size (.cells #[.int .u8 (zk : Nat), .int .i64 zn, .bool zb] 67)).setCell (p := ⟨w.heap.size + 1, 0, none⟩) (Nat.le_succ _) (.int .u8 (0 : Nat))).setCell (p := ⟨w.heap.size + 1, 1, none⟩) (Nat.le_succ _) (.int .i64 0)).setCell (p := ⟨w.heap.size + 1, 2, none⟩) (Nat.le_succ _) (.bool false))
      clear hb kz
      go_wp2
      refine bodyPost_ret (v := .tuple #[vlA ⟨0, 0, false⟩, .int .i64 90]) (by simp [results, Tryz.results82, go_sem, vlA, k0, k1, k2]) rfl ?_
      exact ⟨rfl, HBF.out⟩
  · have hz1 : (ze == 0) = false := by simpa using hz
    rw [if_neg (fun h => hz h.1)]
    clear hz
    go_enter Tryz.func82, Tryz.ntmps82
    go_wp2_with fail
    rw [← HW1.out]
    refine HCE.out.mono ?_
    rintro e w1 ⟨rfl, hb⟩
    have kz := HV.out.below hb HV.out.lt
    have kz := kz.below ((Below.refl _ _).alloc (Nat.le_refl _) (.cells #[.int .u8 (zk : Nat), .int .i64 zn, .bool zb] 67)) kz.lt
    have k0 := kz.at_ 0
    have k1 := kz.at_ 1
    have k2 := kz.at_ 2
    have f0 := kz.fz 0
    have f1 := kz.fz 1
    have f2 := kz.fz 2
    simp only [List.getElem?_toArray, List.getElem?_cons_zero, List.getElem?_cons_succ] at k0 k1 k2
    have HBF := Lib.hid (((((HB1.out.trans (hb.mono HB1.out.size)).alloc (HB1.out.trans (hb.mono HB1.out.size)).size (.cells #[.int .u8 (zk : Nat), .int .i64 zn, .bool zb] 67)).setCell (p := ⟨w.heap.size + 1, 0, none⟩) (Nat.le_succ _) (.int .u8 (zk : Nat))).setCell (p := ⟨w.heap.size + 1, 1, none⟩) (Nat.le_succ _) (.int .i64 zn)).setCell (p := ⟨w.heap.size + 1, 2, none⟩) (Nat.le_succ _) (.bool zb))
    clear hb kz
    go_wp2
    refine bodyPost_ret (v := .tuple #[vlA ⟨zk, zn, zb⟩, .int .i64 ze]) (by simp [results, Tryz.results82, go_sem, vlA, k0, k1, k2]) rfl ?_
    exact ⟨rfl, HBF.out⟩
set_option maxHeartbeats 1000000 in
set_option maxRecDepth 100000 in
theorem evNumber_any (w : World) (T : Tx w) (A : Option Addr) (c : Nat) (l : List Nd) (hl : NdR w w.heap.size A l) (hc : l.length ≤ c) (hf : Fit l) (A2 : Option Addr) (c2 : Nat) (bs : List Ev.Bd) (hb : BdR w w.heap.size A2 bs) (hc2 : bs.length ≤ c2) (hfb : FitB bs) (X : Ev.Vl × Int) (hX : EvA l bs X) (X' : Ev.Vl × Int) (hX' : X' = onlyZ 1 X) :
    Calls Tryz.prog 40 #[.agg #[.slice A l.length c], .slice A2 bs.length c2] w fun e w' => e = .returned (.tuple #[.int .i64 X'.1.n, .int .i64 X'.2]) ∧ Below w.heap.size w w' := by
  obtain ⟨W1, hW1⟩ : ∃ W1, W1 = w.alloc (.cells #[.slice A l.length c] 29) := ⟨_, rfl⟩
  have hb1 : Below w.heap.size w W1 := by rw [hW1]; exact (Below.refl _ _).alloc (Nat.le_refl _) _
  have HCE := Lib.hid (only_any 1 W1 (T.below hb1) A c l ((hl.below hb1).more hb1.size) hc hf A2 c2 bs ((hb.below hb1).more hb1.size) hc2 hfb X hX)
  rw [← hX'] at HCE
  have HB1 := Lib.hid hb1
  have HW1 := Lib.hid hW1
  clear hW1 hb1 hl hb hf hfb T hX hX' hc hc2
  obtain ⟨⟨zk, zn, zb⟩, ze⟩ := X'
  unfold outZ vlA at HCE
  simp only at HCE
  simp only
  go_enter Tryz.func40, Tryz.ntmps40
  go_wp2_with fail
  rw [← HW1.out]
  refine HCE.out.mono ?_
  rintro e w1 ⟨rfl, hb⟩
  have HB := Lib.hid ((HB1.out.trans (hb.mono HB1.out.size)).alloc (HB1.out.trans (hb.mono HB1.out.size)).size (.cells #[.int .u8 (zk : Nat), .int .i64 zn, .bool zb] 67))
  clear hb
  go_wp2
  go_ret2
  exact ⟨rfl, HB.out⟩
set_option maxHeartbeats 1000000 in
set_option maxRecDepth 100000 in
theorem evTruth_any (w : World) (T : Tx w) (A : Option Addr) (c : Nat) (l : List Nd) (hl : NdR w w.heap.size A l) (hc : l.length ≤ c) (hf : Fit l) (A2 : Option Addr) (c2 : Nat) (bs : List Ev.Bd) (hb : BdR w w.heap.size A2 bs) (hc2 : bs.length ≤ c2) (hfb : FitB bs) (X : Ev.Vl × Int) (hX : EvA l bs X) (X' : Ev.Vl × Int) (hX' : X' = onlyZ 2 X) :
    Calls Tryz.prog 42 #[.agg #[.slice A l.length c], .slice A2 bs.length c2] w fun e w' => e = .returned (.tuple #[.bool X'.1.b, .int .i64 X'.2]) ∧ Below w.heap.size w w' := by
  obtain ⟨W1, hW1⟩ : ∃ W1, W1 = w.alloc (.cells #[.slice A l.length c] 29) := ⟨_, rfl⟩
  have hb1 : Below w.heap.size w W1 := by rw [hW1]; exact (Below.refl _ _).alloc (Nat.le_refl _) _
  have HCE := Lib.hid (only_any 2 W1 (T.below hb1) A c l ((hl.below hb1).more hb1.size) hc hf A2 c2 bs ((hb.below hb1).more hb1.size) hc2 hfb X hX)
  rw [← hX'] at HCE
  have HB1 := Lib.hid hb1
  have HW1 := Lib.hid hW1
  clear hW1 hb1 hl hb hf hfb T hX hX' hc hc2
  obtain ⟨⟨zk, zn, zb⟩, ze⟩ := X'
  unfold outZ vlA at HCE
  simp only at HCE
  simp only
  go_enter Tryz.func42, Tryz.ntmps42
  go_wp2_with fail
  rw [← HW1.out]
  refine HCE.out.mono ?_
  rintro e w1 ⟨rfl, hb⟩
  have HB := Lib.hid ((HB1.out.trans (hb.mono HB1.out.size)).alloc (HB1.out.trans (hb.mono HB1.out.size)).size (.cells #[.int .u8 (zk : Nat), .int .i64 zn, .bool zb] 67))
  clear hb
  go_wp2
  go_ret2
  exact ⟨rfl, HB.out⟩
end Go.Proofs.YtdcjpinbflmikaaGreatDoor
