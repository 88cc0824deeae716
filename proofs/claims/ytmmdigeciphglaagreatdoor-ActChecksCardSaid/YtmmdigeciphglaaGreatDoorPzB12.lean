/- Facts and walks for the statement. -/
import Derived.Test.YtmmdigeciphglaaGreatDoorPzB11
import Derived.Deep.RegionWith
import Derived.Test.YtmmdigeciphglaaGreatDoorPzB03
namespace Go.Proofs.YtmmdigeciphglaaGreatDoor
open Go.RowKit Ex
abbrev MTok := Int × ByteArray × Int
def ToR (w : World) (Bx : Nat) (A : Option Addr) (l : List MTok) : Prop := ∀ j (hj : j < l.length), ∃ g o, A = some ⟨g, o, none⟩ ∧ g < Bx ∧ w.cell? ⟨g, o + j * 3, none⟩ = some (.int .u8 l[j].1) ∧ w.cell? ⟨g, o + j * 3 + 1, none⟩ = some (.string l[j].2.1) ∧ w.cell? ⟨g, o + j * 3 + 2, none⟩ = some (.int .i64 l[j].2.2)
theorem ToR.below {w w' : World} {B : Nat} {A : Option Addr} {l : List MTok} (h : ToR w B A l) (hb : Below B w w') : ToR w' B A l := fun j hj => by
  obtain ⟨g, o, e, hg, c0, c1, c2⟩ := h j hj
  exact ⟨g, o, e, hg, (hb.cell (p := ⟨g, _, none⟩) hg).trans c0, (hb.cell (p := ⟨g, _, none⟩) hg).trans c1, (hb.cell (p := ⟨g, _, none⟩) hg).trans c2⟩
theorem ToR.more {w : World} {B B' : Nat} {A : Option Addr} {l : List MTok} (h : ToR w B A l) (hB : B ≤ B') : ToR w B' A l := fun j hj => by
  obtain ⟨g, o, e, hg, q⟩ := h j hj
  exact ⟨g, o, e, Nat.lt_of_lt_of_le hg hB, q⟩
def tks (l : List MTok) : List Tk := l.map fun t => (t.1, t.2.1.data.toList)
theorem tks_drop {l : List MTok} {i : Nat} (h : i < l.length) : (tks l).drop i = (l[i].1, l[i].2.1.data.toList) :: (tks l).drop (i + 1) := by
  unfold tks
  rw [List.drop_eq_getElem_cons (by rw [List.length_map]; exact h), List.getElem_map]
structure RaI (B r : Nat) (w : World) (l : List MTok) (Rn : List Tk × Int × List Fr × Option E) (wr : World) (i : Nat) (K : List (Fr × Nat)) (c : Option E) (nv lv wv : Value) : Prop where
  rd : RdE B r wr K c c.isSome nv lv wv
  below : Below B w wr
  eq : Rn = Ex.run ((tks l).drop i) (K.map (·.1)) c
  ok : ∀ f ∈ K, okf f.1
  vol : volE K c ≤ i
def RaP (B r : Nat) (w : World) (n : Nat) (Rn : List Tk × Int × List Fr × Option E) (e : Ending) (w' : World) : Prop :=
  e = .returned (.tuple #[.int .i64 ((n - Rn.1.length : Nat) : Int), .int .i64 Rn.2.1]) ∧ ∃ K' nv lv wv, K'.map (·.1) = Rn.2.2.1 ∧ RdE B r w' K' Rn.2.2.2 Rn.2.2.2.isSome nv lv wv ∧ Below B w w' ∧ volE K' Rn.2.2.2 ≤ n + 1
theorem step_begin {B r : Nat} {w : World} (T : TxO B w) {K : List (Fr × Nat)} {nv lv wv : Value} (h : RdE B r w K none false nv lv wv) {D : Nat} (hD : D ≤ 900000) (hv : volE K none ≤ D) (t : Tk) (p : Int) (hX : Lx.is t.2 = t.1) (hs : t.2.length ≤ 100000) :
    Calls Tryz.prog 174 #[.pointer (some ⟨r, 0, none⟩), .agg #[.int .u8 t.1, .string ⟨t.2.toArray⟩, .int .i64 p]] w (StP B r w (D + 1) (Ex.step (K.map (·.1)) none t)) :=
  begin_any B r w T K nv lv wv h D hD hv t.1 ⟨t.2.toArray⟩ p hX (by show t.2.toArray.size ≤ _; simpa using hs)
theorem step_behind {B r : Nat} {w : World} (T : TxO B w) {K : List (Fr × Nat)} {x : E} {nv lv wv : Value} (h : RdE B r w K (some x) true nv lv wv) (hok : ∀ f ∈ K, okf f.1) {D : Nat} (hD : D ≤ 900000) (hv : volE K (some x) ≤ D) (t : Tk) (p : Int) :
    Calls Tryz.prog 197 #[.pointer (some ⟨r, 0, none⟩), .agg #[.int .u8 t.1, .string ⟨t.2.toArray⟩, .int .i64 p]] w (StP B r w (D + 1) (Ex.step (K.map (·.1)) (some x) t)) :=
  behind_any B r w T K x nv lv wv h hok D hD hv t.1 ⟨t.2.toArray⟩ p
theorem RaI.next {B r : Nat} {w : World} {l : List MTok} {Rn : List Tk × Int × List Fr × Option E} {wr w2 w3 : World} {i : Nat} {K : List (Fr × Nat)} {c : Option E} {nv lv wv : Value} (h : RaI B r w l Rn wr i K c nv lv wv) (hi : i < l.length) (hb : Below B wr w2) {e : Ending} (hs : StP B r w2 (i + 1) (Ex.step (K.map (·.1)) c (kt (l[i].1, l[i].2.1.data.toList))) e w3) :
    ∃ z, e = .returned (.int .i64 z) ∧ z = (Ex.step (K.map (·.1)) c (kt (l[i].1, l[i].2.1.data.toList))).1 ∧ (z = 0 → ∃ K' c' nv lv wv, RaI B r w l Rn w3 (i + 1) K' c' nv lv wv) ∧ (z ≠ 0 → RaP B r w l.length Rn (.returned (.tuple #[.int .i64 (i : Int), .int .i64 z])) w3) := by
  obtain ⟨he, K', nv', lv', wv', hm, hr, hb3, hv⟩ := hs
  have heq := h.eq
  rw [tks_drop hi] at heq
  unfold Ex.run at heq
  have hokl : ∀ f ∈ K.map (·.1), okf f := fun f hf => by obtain ⟨q, hq, rfl⟩ := List.mem_map.1 hf; exact h.ok q hq
  obtain ⟨q1, q2, q3⟩ := kt_nx (l[i].1, l[i].2.1.data.toList) ((tks l).drop (i + 1))
  have hss := step_Sd (c := c) (ts := (l[i].1, l[i].2.1.data.toList) :: (tks l).drop (i + 1)) hokl q1 q2 q3
  refine ⟨_, he, rfl, fun hz => ?_, fun hz => ?_⟩
  · rw [if_pos hz] at heq
    refine ⟨K', _, nv', lv', wv', hr, (h.below.trans hb).trans hb3, by rw [hm]; exact heq, ok_of hm (hss.1 hz).2, hv⟩
  · rw [if_neg hz] at heq
    refine ⟨?_, K', nv', lv', wv', by rw [heq]; exact hm, by rw [heq]; exact hr, (h.below.trans hb).trans hb3, by rw [heq]; exact Nat.le_trans hv (by omega)⟩
    rw [heq]
    have : l.length - ((l[i].1, l[i].2.1.data.toList) :: (tks l).drop (i + 1)).length = i := by
      unfold tks; rw [List.length_cons, List.length_drop, List.length_map]; omega
    rw [this]
theorem RaI.last {B r : Nat} {w : World} {l : List MTok} {Rn : List Tk × Int × List Fr × Option E} {wr w3 : World} {K : List (Fr × Nat)} {c : Option E} {nv lv wv : Value} (h : RaI B r w l Rn wr l.length K c nv lv wv) {e : Ending} (hs : StP B r wr (l.length + 1) (Ex.step (K.map (·.1)) c (0, [])) e w3) :
    ∃ z, e = .returned (.int .i64 z) ∧ RaP B r w l.length Rn (.returned (.tuple #[.int .i64 (l.length : Int), .int .i64 z])) w3 := by
  obtain ⟨he, K', nv', lv', wv', hm, hr, hb3, hv⟩ := hs
  have heq := h.eq
  rw [show (tks l).drop l.length = [] from by unfold tks; rw [List.drop_eq_nil_of_le (by rw [List.length_map]; exact Nat.le_refl _)]] at heq
  have heq2 : Rn = ([], Ex.step (K.map (·.1)) c (0, [])) := heq
  refine ⟨_, he, ?_, K', nv', lv', wv', by rw [heq2]; exact hm, by rw [heq2]; exact hr, h.below.trans hb3, by rw [heq2]; exact hv⟩
  rw [heq2]; rfl
structure RaL (B r : Nat) (w : World) (l : List MTok) (Rn : List Tk × Int × List Fr × Option E) (n : Nat) (iv : Value) (wr : World) : Prop where
  out : ∃ (i : Nat) (K : List (Fr × Nat)) (co : Option E) (nv lv wv : Value), iv = .int .i64 i ∧ i ≤ n ∧ Hid (RaI B r w l Rn wr i K co nv lv wv)
set_option maxHeartbeats 4000000 in
set_option maxRecDepth 100000 in
theorem readAll_any (B r : Nat) (w : World) (T : TxO B w) (nv lv wv : Value) (h : RdE B r w [] none false nv lv wv) (A : Option Addr) (c : Nat) (l : List MTok) (hl : ToR w B A l) (hc : l.length ≤ c) (hn : l.length ≤ 800000) (hx : ∀ t ∈ l, t.2.1.size ≤ 100000) :
    Calls Tryz.prog 159 #[.pointer (some ⟨r, 0, none⟩), .slice A l.length c] w (RaP B r w l.length (Ex.run (tks l) [] none)) := by
  obtain ⟨Rn, hRn⟩ : ∃ Rn, Rn = Ex.run (tks l) [] none := ⟨_, rfl⟩
  rw [← hRn]
  have H0 := Lib.hid (show RaI B r w l Rn w 0 [] none nv lv wv from ⟨h, Below.refl _ _, hRn, by simp, Nat.le_refl _⟩)
  have HT := Lib.hid T
  have HL := Lib.hid hl
  have HX := Lib.hid hx
  obtain ⟨n, hnl⟩ : ∃ n, n = l.length := ⟨_, rfl⟩
  rw [← hnl] at hc hn ⊢
  have HN := Lib.hid hnl
  have hc' : (n : Int) ≤ (c : Int) := by omega
  clear h hRn T hl hx hnl
  go_enter Tryz.func159, Tryz.ntmps159
  go_wp2
  go_loopw [11] (fun iv wr => RaL B r w l Rn n iv wr) (fun iv _ => n - (intOf iv).toNat)
  case atStart => exact ⟨⟨0, [], none, _, _, _, rfl, Nat.zero_le _, H0⟩⟩
  case round =>
    clear H0
    obtain ⟨i, K, co, nv1, lv1, wv1, rfl, hi, HI⟩ := hrel.out
    clear hrel
    by_cases hik : i < n
    · have hik' : (i : Int) < (n : Int) := by omega
      have hil : i < l.length := by rw [← HN.out]; exact hik
      obtain ⟨g, o, hA, hg, q0, q1, q2⟩ := (HL.out.below HI.out.below) i hil
      subst hA
      have hxs := HX.out _ (List.getElem_mem hil)
      have HB := Lib.hid (show B ≤ wr.heap.size from Nat.le_trans HI.out.rd.row.base (Nat.le_of_lt HI.out.rd.row.blk.lt))
      have HNX0 := Lib.hid (fun w2 w3 e (hb : Below B wr w2) hs => HI.out.next hil hb (e := e) (w3 := w3) hs)
      have hgw : g < wr.heap.size := block_lt q0
      generalize l[i] = t at *
      obtain ⟨Kt_, X, P⟩ := t
      simp only at q0 q1 q2 hxs HNX0
      obtain ⟨W1, hW1⟩ : ∃ W1, W1 = wr.alloc (.cells #[.int .u8 Kt_, .string X, .int .i64 P] 143) := ⟨_, rfl⟩
      have hb1 : Below wr.heap.size wr W1 := by rw [hW1]; exact (Below.refl _ _).alloc (Nat.le_refl _) _
      have hk1 : IsBlk W1 wr.heap.size 143 #[.int .u8 Kt_, .string X, .int .i64 P] := by rw [hW1]; exact IsBlk.new _ _ _
      have h1 : RdE B r W1 K co co.isSome nv1 lv1 wv1 := RdM.below HI.out.rd hb1
      have x3 := h1.cells.2.2.2
      have x0 : W1.cell? ⟨wr.heap.size, 0, none⟩ = some (.int .u8 Kt_) := hk1.at_ 0
      have x1 : W1.cell? ⟨wr.heap.size, 1, none⟩ = some (.string X) := hk1.at_ 1
      have x2 : W1.cell? ⟨wr.heap.size, 2, none⟩ = some (.int .i64 P) := hk1.at_ 2
      have HT1 := (HT.out.on HI.out.below).on (hb1.mono HB.out)
      have HKN := Lib.hid (fun w0 (hb : Below W1.heap.size W1 w0) => known_any w0 ((HT1.here.below hb).sg) Kt_ X P (by unfold maxLen; omega))
      have HX3 := Lib.hid (fun w3 (hb : Below W1.heap.size W1 w3) => (show Below W1.heap.size W1 w3 ∧ w3.cell? ⟨r, 3, none⟩ = some (rdF r co.isSome) from ⟨hb, (RdM.cells (RdM.below h1 hb)).2.2.2⟩))
      have hBW : B ≤ W1.heap.size := Nat.le_trans HB.out hb1.size
      have HNX := Lib.hid (fun w3 w4 e (hb : Below W1.heap.size W1 w3) hs => HNX0.out w3 w4 e ((hb1.mono HB.out).trans (hb.mono hBW)) hs)
      have HH1 := Lib.hid h1
      have HTT := Lib.hid (fun w3 (hb : Below W1.heap.size W1 w3) => HT1.on (hb.mono hBW))
      have HW1 := Lib.hid hW1
      have hkl : (kt (Kt_, X.data.toList)).2.length ≤ 100000 := by
        unfold kt; split
        · show X.data.toList.length ≤ _; rw [← Lib.size_eq]; exact hxs
        · exact Nat.zero_le _
      have HKL := Lib.hid hkl
      have HVI := Lib.hid (And.intro HI.out.vol HI.out.ok)
      have HIK := Lib.hid hik
      clear hW1 hb1 hk1 HT1 hBW HNX0 hxs hkl
      cases co with
      | none =>
        replace x3 : W1.cell? ⟨r, 3, none⟩ = some (.func (.func 174) #[.pointer (some ⟨r, 0, none⟩)] #[]) := x3
        have HX4 := Lib.hid (fun w3 (hb : Below W1.heap.size W1 w3) => (show Below W1.heap.size W1 w3 ∧ w3.cell? ⟨r, 3, none⟩ = some (.func (.func 174) #[.pointer (some ⟨r, 0, none⟩)] #[]) from HX3.out w3 hb))
        clear HX3
        have HFN := Lib.hid (fun w3 (hb : Below W1.heap.size W1 w3) p' => (show Calls Tryz.prog 174 #[.pointer (some ⟨r, 0, none⟩), .agg #[.int .u8 (kt (Kt_, X.data.toList)).1, .string ⟨(kt (Kt_, X.data.toList)).2.toArray⟩, .int .i64 p']] w3 (StP B r w3 (i + 1) (Ex.step (K.map (·.1)) none (kt (Kt_, X.data.toList)))) from step_begin (HTT.out w3 hb) (RdM.below HH1.out hb) (by omega) HVI.out.1 _ p' (kt_nx _ []).2.2 HKL.out))
        clear hik h1
        obtain ⟨Z, hZ⟩ : ∃ Z, Z = (Ex.step (K.map (·.1)) none (kt (Kt_, X.data.toList))).1 := ⟨_, rfl⟩
        have HPP := Lib.hid (fun w3 w4 e hb hs => HNX.out w3 w4 e hb hs)
        simp only [← hZ] at HPP
        clear hZ HNX
        go_upto_region 4 with fail
        rw [← HW1.out]
        go_cut [8, 11] from 11 to 27 (fun s8 s11 wx => s8 = .int .i64 Z ∧ s11 = .int .i64 i ∧ Hid ((Z = 0 → ∃ K' c' nv lv wv, RaI B r w l Rn wx (i + 1) K' c' nv lv wv) ∧ (Z ≠ 0 → RaP B r w l.length Rn (.returned (.tuple #[.int .i64 (i : Int), .int .i64 Z])) wx)))
        case first =>
          go_region_with (first | (go_at_call 175; refine (HKN.out _ (by first | exact below_drewN (Below.refl _ _) _ | exact Below.refl _ _)).mono ?_; rintro e w3 ⟨p', rfl, hb3⟩; have HQ3 := Lib.hid (HX4.out w3 (by first | exact (below_drewN (Below.refl _ _) _).trans hb3 | exact hb3)); have y3 := HQ3.out.2; clear hb3) | (go_at_call 174; refine (HFN.out w3 HQ3.out.1 p').mono ?_; intro e w4 hs4; have HZ0 := Lib.hid (HPP.out w3 w4 e HQ3.out.1 hs4); clear hs4; obtain ⟨z, he, hzz, hz0, hz1⟩ := HZ0.out; subst hzz; subst he; have HZ := Lib.hid (And.intro hz0 hz1); clear hz0 hz1 HZ0))
          all_goals
            go_wp2_with fail
            go_meet
            exact ⟨rfl, rfl, HZ⟩
        case rest =>
          obtain ⟨hs8, hs11, HC⟩ := hcut
          subst hs8 hs11
          clear HKN HX4 HFN HPP x0 x1 x2 x3 q0 q1 q2
          by_cases hz : Z = 0
          · obtain ⟨K', c', nv', lv', wv', hj⟩ := HC.out.1 hz
            have HJ := Lib.hid hj
            have hz' : (Z != 0) = false := by simp [hz]
            clear hj hz HC
            go_wp2
            go_roundw
            case rel => exact ⟨i + 1, K', c', nv', lv', wv', by go_num, HIK.out, HJ⟩
            case measure => have := HIK.out; simp [intOf]; omega
          · have hz' : (Z != 0) = true := by simpa using hz
            have HF := Lib.hid (HC.out.2 hz)
            clear hz HC
            go_wp2
            go_ret2
            rw [HN.out]
            exact HF.out
      | some x =>
        replace x3 : W1.cell? ⟨r, 3, none⟩ = some (.func (.func 197) #[.pointer (some ⟨r, 0, none⟩)] #[]) := x3
        have HX4 := Lib.hid (fun w3 (hb : Below W1.heap.size W1 w3) => (show Below W1.heap.size W1 w3 ∧ w3.cell? ⟨r, 3, none⟩ = some (.func (.func 197) #[.pointer (some ⟨r, 0, none⟩)] #[]) from HX3.out w3 hb))
        clear HX3
        have HFN := Lib.hid (fun w3 (hb : Below W1.heap.size W1 w3) p' => (show Calls Tryz.prog 197 #[.pointer (some ⟨r, 0, none⟩), .agg #[.int .u8 (kt (Kt_, X.data.toList)).1, .string ⟨(kt (Kt_, X.data.toList)).2.toArray⟩, .int .i64 p']] w3 (StP B r w3 (i + 1) (Ex.step (K.map (·.1)) (some x) (kt (Kt_, X.data.toList)))) from step_behind (HTT.out w3 hb) (RdM.below HH1.out hb) HVI.out.2 (by omega) HVI.out.1 _ p'))
        clear hik h1
        obtain ⟨Z, hZ⟩ : ∃ Z, Z = (Ex.step (K.map (·.1)) (some x) (kt (Kt_, X.data.toList))).1 := ⟨_, rfl⟩
        have HPP := Lib.hid (fun w3 w4 e hb hs => HNX.out w3 w4 e hb hs)
        simp only [← hZ] at HPP
        clear hZ HNX
        go_upto_region 4 with fail
        rw [← HW1.out]
        go_cut [8, 11] from 11 to 27 (fun s8 s11 wx => s8 = .int .i64 Z ∧ s11 = .int .i64 i ∧ Hid ((Z = 0 → ∃ K' c' nv lv wv, RaI B r w l Rn wx (i + 1) K' c' nv lv wv) ∧ (Z ≠ 0 → RaP B r w l.length Rn (.returned (.tuple #[.int .i64 (i : Int), .int .i64 Z])) wx)))
        case first =>
          go_region_with (first | (go_at_call 175; refine (HKN.out _ (by first | exact below_drewN (Below.refl _ _) _ | exact Below.refl _ _)).mono ?_; rintro e w3 ⟨p', rfl, hb3⟩; have HQ3 := Lib.hid (HX4.out w3 (by first | exact (below_drewN (Below.refl _ _) _).trans hb3 | exact hb3)); have y3 := HQ3.out.2; clear hb3) | (go_at_call 197; refine (HFN.out w3 HQ3.out.1 p').mono ?_; intro e w4 hs4; have HZ0 := Lib.hid (HPP.out w3 w4 e HQ3.out.1 hs4); clear hs4; obtain ⟨z, he, hzz, hz0, hz1⟩ := HZ0.out; subst hzz; subst he; have HZ := Lib.hid (And.intro hz0 hz1); clear hz0 hz1 HZ0))
          all_goals
            go_wp2_with fail
            go_meet
            exact ⟨rfl, rfl, HZ⟩
        case rest =>
          obtain ⟨hs8, hs11, HC⟩ := hcut
          subst hs8 hs11
          clear HKN HX4 HFN HPP x0 x1 x2 x3 q0 q1 q2
          by_cases hz : Z = 0
          · obtain ⟨K', c', nv', lv', wv', hj⟩ := HC.out.1 hz
            have HJ := Lib.hid hj
            have hz' : (Z != 0) = false := by simp [hz]
            clear hj hz HC
            go_wp2
            go_roundw
            case rel => exact ⟨i + 1, K', c', nv', lv', wv', by go_num, HIK.out, HJ⟩
            case measure => have := HIK.out; simp [intOf]; omega
          · have hz' : (Z != 0) = true := by simpa using hz
            have HF := Lib.hid (HC.out.2 hz)
            clear hz HC
            go_wp2
            go_ret2
            rw [HN.out]
            exact HF.out
    · obtain rfl : i = n := by omega
      have hik' : ¬ (i : Int) < (i : Int) := by omega
      have x3 := HI.out.rd.cells.2.2.2
      have HII := Lib.hid (show RaI B r w l Rn wr l.length K co nv1 lv1 wv1 from by rw [← HN.out]; exact HI.out)
      have HT1 := Lib.hid (HT.out.on HI.out.below)
      have HLS := Lib.hid (fun w3 e hs => HII.out.last (w3 := w3) (e := e) hs)
      clear hik
      cases co with
      | none =>
        replace x3 : wr.cell? ⟨r, 3, none⟩ = some (.func (.func 174) #[.pointer (some ⟨r, 0, none⟩)] #[]) := x3
        have HFN := Lib.hid (step_begin HT1.out HII.out.rd (by rw [← HN.out]; omega) HII.out.vol (0, []) 0 (by decide) (by simp))
        go_wp2_with fail
        refine HFN.out.mono ?_
        intro e w4 hs4
        obtain ⟨z, he, hz1⟩ := HLS.out w4 e hs4
        have HF := Lib.hid hz1
        subst he
        clear hs4 hz1 HLS HFN x3
        go_wp2
        go_ret2
        rw [HN.out]
        exact HF.out
      | some x =>
        replace x3 : wr.cell? ⟨r, 3, none⟩ = some (.func (.func 197) #[.pointer (some ⟨r, 0, none⟩)] #[]) := x3
        have HFN := Lib.hid (step_behind HT1.out HII.out.rd HII.out.ok (by rw [← HN.out]; omega) HII.out.vol (0, []) 0)
        go_wp2_with fail
        refine HFN.out.mono ?_
        intro e w4 hs4
        obtain ⟨z, he, hz1⟩ := HLS.out w4 e hs4
        have HF := Lib.hid hz1
        subst he
        clear hs4 hz1 HLS HFN x3
        go_wp2
        go_ret2
        rw [HN.out]
        exact HF.out
end Go.Proofs.YtmmdigeciphglaaGreatDoor
namespace Go.Proofs.YtmmdigeciphglaaGreatDoor
open Go.RowKit Ex
def frm (ts : List Tk) : List Nd × Nat × Int := match R (.lev 1) ts with
  | .bad l e => ([], ts.length - l, e)
  | .ok r x => if 64 < dp x then ([], 0, 3) else (flat x 0, ts.length - r.length, 0)
def FrP (X : List Nd × Nat × Int) (w : World) (e : Ending) (w' : World) : Prop :=
  ∃ A c, w'.ownsRow w.heap.size 105 6 (.slice A X.1.length c) X.1.length (X.1.flatMap ndV) ∧ e = .returned (.tuple #[.agg #[.slice A X.1.length c], .int .i64 (X.2.1 : Nat), .int .i64 X.2.2]) ∧ Below w.heap.size w w'
theorem frm_run {ts : List Tk} {Rn : List Tk × Int × List Fr × Option E} (h : Rn = Ex.run ts [] none) {K : List (Fr × Nat)} (hK : K.map (·.1) = Rn.2.2.1) :
    let d := if K = [] then dpo (loo (all K Rn.2.2.2) 0) else 0
    (d = 0 ∧ frm ts = ([], ts.length - Rn.1.length, Rn.2.1)) ∨ (0 < d ∧ 64 < d ∧ frm ts = ([], 0, 3)) ∨ (0 < d ∧ d ≤ 64 ∧ frm ts = (flats (all K Rn.2.2.2) 0, ts.length - Rn.1.length, 0)) := by
  have hf := run_R ts
  rw [← h] at hf
  obtain ⟨rest, e, S, c⟩ := Rn
  simp only at hK ⊢
  cases K with
  | cons p K =>
    left
    refine ⟨by simp, ?_⟩
    unfold frm
    rw [← hf, fin_bad (Or.inl (by rw [← hK]; simp))]
  | nil =>
    obtain rfl : S = [] := by rw [← hK]; rfl
    cases c with
    | none =>
      left
      refine ⟨rfl, ?_⟩
      unfold frm
      rw [← hf, fin_bad (Or.inr rfl)]
    | some x =>
      right
      have hd : dpo (loo (all [] (some x)) 0) = dp x := rfl
      have hp := dp_pos x
      rw [if_pos rfl, hd]
      have hff : fin (rest, e, [], some x) = .ok rest x := rfl
      rw [hff] at hf
      unfold frm
      rw [← hf]
      simp only
      by_cases h64 : 64 < dp x
      · left; exact ⟨by omega, h64, if_pos h64⟩
      · right
        refine ⟨by omega, by omega, ?_⟩
        rw [if_neg h64]
        have : flats (all [] (some x)) 0 = flat x 0 := by show flat x 0 ++ [] = _; simp
        rw [this]
set_option maxHeartbeats 4000000 in
set_option maxRecDepth 100000 in
theorem from_any (w : World) (T : Tx w) (A : Option Addr) (c : Nat) (l : List MTok) (hl : ToR w w.heap.size A l) (hc : l.length ≤ c) (hn : l.length ≤ 800000) (hx : ∀ t ∈ l, t.2.1.size ≤ 100000) :
    Calls Tryz.prog 131 #[.slice A l.length c] w (FrP (frm (tks l)) w) := by
  obtain ⟨W1, hW1⟩ : ∃ W1, W1 = w.alloc (.cells #[.slice none 0 0] 78) := ⟨_, rfl⟩
  have hb1 : Below w.heap.size w W1 := by rw [hW1]; exact (Below.refl _ _).alloc (Nat.le_refl _) _
  have hk1 : IsBlk W1 w.heap.size 78 #[.slice none 0 0] := by rw [hW1]; exact IsBlk.new _ _ _
  have hz1 : W1.heap.size = w.heap.size + 1 := by rw [hW1]; simp
  have HNR := Lib.hid (newReader_any W1)
  have HRA := Lib.hid (fun w2 nv lv wv (hb : Below W1.heap.size W1 w2) h => readAll_any W1.heap.size W1.heap.size w2 ((T.below hb1).old.on hb) nv lv wv h A c l (((hl.below hb1).more hb1.size).below hb) hc hn hx)
  obtain ⟨Rn, hRn⟩ : ∃ Rn, Rn = Ex.run (tks l) [] none := ⟨_, rfl⟩
  have HFR := Lib.hid (fun (K : List (Fr × Nat)) h => frm_run hRn (K := K) h)
  rw [← hRn] at HRA
  have htl : (tks l).length = l.length := by unfold tks; rw [List.length_map]
  rw [htl] at HFR
  obtain ⟨R, hR⟩ : ∃ R, R = frm (tks l) := ⟨_, rfl⟩
  rw [← hR] at HFR ⊢
  have HB1 := Lib.hid hb1
  have HK1 := Lib.hid hk1
  have HZ1 := Lib.hid hz1
  have HW1 := Lib.hid hW1
  have hnn := hn
  clear hW1 hb1 hk1 hz1 T hl hc hx hRn hR htl
  go_enter Tryz.func131, Tryz.ntmps131
  go_wp2_with fail
  rw [← HW1.out]
  refine HNR.out.mono ?_
  rintro e w2 ⟨rfl, ⟨nv, lv, wv, h2⟩, hb2⟩
  have HR2 := Lib.hid (HRA.out w2 nv lv wv hb2 h2)
  have HB2 := Lib.hid hb2
  clear h2 hb2
  go_wp2_with fail
  refine HR2.out.mono ?_
  rintro e w3 ⟨rfl, K', nv3, lv3, wv3, hm, h3, hb3, hv3⟩
  have hlen := h3.len hv3
  have HDP := Lib.hid (rddepth_any W1.heap.size W1.heap.size w3 K' _ _ _ nv3 lv3 wv3 h3 (by omega) (by omega))
  have HCS := Lib.hid (HFR.out K' hm)
  have H3 := Lib.hid h3
  have HB3 := Lib.hid (HB2.out.trans hb3)
  obtain ⟨d, hd⟩ : ∃ d, d = (if K' = [] then dpo (loo (all K' Rn.2.2.2) 0) else 0) := ⟨_, rfl⟩
  rw [← hd] at HDP HCS
  clear hlen hm h3 hb3 hv3 hd HFR HRA HR2 HNR
  go_wp2_with fail
  refine HDP.out.mono ?_
  rintro e w4 ⟨rfl, hb4⟩
  have H4 := Lib.hid (RdM.below H3.out hb4)
  have HB4 := Lib.hid (HB3.out.trans (hb4.mono (Nat.le_trans HB3.out.size (Nat.le_refl _))))
  have hk4 := HK1.out.below HB4.out HK1.out.lt
  have k0 : w4.cell? ⟨w.heap.size, 0, none⟩ = some (.slice none 0 0) := hk4.at_ 0
  have kf : w4.frozen? ⟨w.heap.size, 0, none⟩ = false := hk4.fz 0
  have HBW := Lib.hid (HB1.out.trans (HB4.out.mono HB1.out.size))
  clear hb4 HDP H3 hk4
  rcases HCS.out with ⟨h0, hfr⟩ | ⟨h0, h64, hfr⟩ | ⟨h0, h64, hfr⟩
  · subst h0
    have HF := Lib.hid (show FrP R w (.returned (.tuple #[.agg #[.slice none 0 0], .int .i64 ((l.length - Rn.1.length : Nat) : Int), .int .i64 Rn.2.1])) (w4.setCell ⟨w.heap.size, 0, none⟩ (.slice none 0 0)) from by
      rw [hfr]; exact ⟨none, 0, World.ownsRow_nil _ _ _ _, rfl, HBW.out.setCell (p := ⟨w.heap.size, 0, none⟩) (Nat.le_refl _) _⟩)
    clear hfr HCS
    go_wp2
    refine bodyPost_ret (v := .tuple #[.agg #[.slice none 0 0], .int .i64 ((l.length - Rn.1.length : Nat) : Int), .int .i64 Rn.2.1]) (by simp [results, Tryz.results131, go_sem, k0]) rfl ?_
    exact HF.out
  · have hd0 : ((d : Int) == 0) = false := beq_eq_false_iff_ne.2 (by omega)
    have hd1 : (d : Int) > 64 := by omega
    have HF := Lib.hid (show FrP R w (.returned (.tuple #[.agg #[.slice none 0 0], .int .i64 0, .int .i64 3])) (w4.setCell ⟨w.heap.size, 0, none⟩ (.slice none 0 0)) from by
      rw [hfr]; exact ⟨none, 0, World.ownsRow_nil _ _ _ _, rfl, HBW.out.setCell (p := ⟨w.heap.size, 0, none⟩) (Nat.le_refl _) _⟩)
    clear hfr HCS h0 h64
    go_wp2
    refine bodyPost_ret (v := .tuple #[.agg #[.slice none 0 0], .int .i64 0, .int .i64 3]) (by simp [results, Tryz.results131, go_sem, k0]) rfl ?_
    exact HF.out
  · have hd0 : ((d : Int) == 0) = false := beq_eq_false_iff_ne.2 (by omega)
    have hd1 : ¬ ((d : Int) > 64) := by omega
    have hn4 := H4.out.row.nown
    obtain ⟨A4, c4, rfl, _, _, _⟩ := own_sliced hn4
    have n0 := H4.out.cells.1
    have HF := Lib.hid (show FrP R w (.returned (.tuple #[.agg #[.slice A4 (flats (all K' Rn.2.2.2) 0).length c4], .int .i64 ((l.length - Rn.1.length : Nat) : Int), .int .i64 0])) (w4.setCell ⟨w.heap.size, 0, none⟩ (.slice A4 (flats (all K' Rn.2.2.2) 0).length c4)) from by
      rw [hfr]
      exact ⟨A4, c4, own_set (own_less hn4 HB1.out.size) (HK1.out.below HB4.out HK1.out.lt) (by decide) 0 _, rfl, HBW.out.setCell (p := ⟨w.heap.size, 0, none⟩) (Nat.le_refl _) _⟩)
    clear hfr HCS h0 h64 hn4
    go_wp2
    refine bodyPost_ret (v := .tuple #[.agg #[.slice A4 (flats (all K' Rn.2.2.2) 0).length c4], .int .i64 ((l.length - Rn.1.length : Nat) : Int), .int .i64 0]) (by simp [results, Tryz.results131, go_sem, k0]) rfl ?_
    exact HF.out
end Go.Proofs.YtmmdigeciphglaaGreatDoor
namespace Go.Proofs.YtmmdigeciphglaaGreatDoor
open Go.RowKit Ex
theorem toks_few (s : List UInt8) : (Lx.toks s).1.length ≤ 140000 ∧ ∀ t ∈ (Lx.toks s).1, t.tx.length ≤ 64 := by
  by_cases h : s.length ≤ 65536
  · rw [Lx.toks_C h]
    have h1 := Lx.C_sum _ (s.drop (Lx.blk false s)) (Lx.blk false s) (Nat.le_refl _)
    have h2 := Lx.C_goods _ (s.drop (Lx.blk false s)) (Lx.blk false s) (Nat.le_refl _)
    refine ⟨?_, fun t ht => (h2 t ht).2.2⟩
    have h3 : ∀ l : List Lx.T, l.length ≤ (l.map fun t => t.tx.length + 1).sum := by
      intro l
      induction l with
      | nil => exact Nat.le_refl _
      | cons t l ih => simp only [List.length_cons, List.map_cons, List.sum_cons]; omega
    have h4 := h3 (Lx.C (s.drop (Lx.blk false s)) (Lx.blk false s)).1
    have h5 : (s.drop (Lx.blk false s)).length ≤ s.length := by rw [List.length_drop]; omega
    omega
  · unfold Lx.toks
    rw [if_pos (by omega)]
    exact ⟨Nat.zero_le _, fun t ht => by cases ht⟩
def kxs (l : List Lx.T) : List Tk := l.map fun t => (t.k, t.tx)
def mtk (t : Lx.T) : MTok := (t.k, ⟨t.tx.toArray⟩, (t.p : Int))
theorem mtk_tks (l : List Lx.T) : tks (l.map mtk) = kxs l := by
  unfold tks kxs; rw [List.map_map]; rfl
theorem own_tor {w : World} {B n c : Nat} {A : Option Addr} {l : List Lx.T} (h : w.ownsRow B 143 3 (.slice A n c) n (l.flatMap tkV)) (hn : n = l.length) : ToR w w.heap.size A (l.map mtk) ∧ n ≤ c := by
  obtain ⟨h1, h2, h3⟩ := own_rd h hn
  refine ⟨fun j hj => ?_, h2⟩
  rw [List.length_map] at hj
  obtain ⟨g, o, hA, hg, hc⟩ := h1 (by omega)
  obtain ⟨c0, c1, c2⟩ := hc j hj
  refine ⟨g, o, hA, hg, ?_⟩
  rw [List.getElem_map]
  exact ⟨c0, c1, c2⟩
theorem frm_le (ts : List Tk) : (frm ts).2.1 ≤ ts.length := by
  unfold frm
  split
  · exact Nat.sub_le _ _
  · split
    · exact Nat.zero_le _
    · exact Nat.sub_le _ _
theorem FrP.none_ {w w' : World} {X : List Nd × Nat × Int} {n : Nat} {e : Int} (hX : X = ([], n, e)) (hb : Below w.heap.size w w') : FrP X w (.returned (.tuple #[.agg #[.slice none 0 0], .int .i64 (n : Int), .int .i64 e])) w' := by
  subst hX; exact ⟨none, 0, World.ownsRow_nil _ _ _ _, rfl, hb⟩
end Go.Proofs.YtmmdigeciphglaaGreatDoor
