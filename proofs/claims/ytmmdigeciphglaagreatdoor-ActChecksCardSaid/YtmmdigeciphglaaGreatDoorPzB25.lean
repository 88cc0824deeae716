/- Facts and walks for the statement. -/
import Derived.Test.YtmmdigeciphglaaGreatDoorPzB18
import Derived.Deep.DeepMust
import Derived.Deep.CutRange
namespace Go.Proofs.YtmmdigeciphglaaGreatDoor
open Go.RowKit Ex
theorem infoRN11 : (Tryz.prog.info? 104).map (fun i => (i.zero, i.size, i.bytes)) = some (some (.agg #[.int .u8 0, .int .i64 0, .string ⟨#[]⟩, .int .i64 0, .int .i64 0, .int .i64 0]), 6, 56) := by kernel_rfl
theorem infoRS11 : (Tryz.prog.info? 91).map (fun i => (i.zero, i.size, i.bytes)) = some (some (.agg #[.int .u8 0, .string ⟨#[]⟩, .slice none 0 0]), 3, 48) := by kernel_rfl
structure SrO (B : Nat) (w : World) (sv : Value) (ps : List (Ac.St × Value)) : Prop where
  row : w.ownsRow B 91 3 sv ps.length (ps.flatMap stV)
  nds : ∀ p ∈ ps, w.ownsRow B 104 6 p.2 p.1.x.length (p.1.x.flatMap ndV)
theorem SrO.nil (B : Nat) (w : World) : SrO B w (.slice none 0 0) [] := ⟨World.ownsRow_nil _ _ _ _, fun p hp => by cases hp⟩
theorem SrO.below {B : Nat} {w w' : World} {sv : Value} {ps : List (Ac.St × Value)} (h : SrO B w sv ps) (hb : Below w.heap.size w w') : SrO B w' sv ps := ⟨own_below h.row hb, fun p hp => own_below (h.nds p hp) hb⟩
theorem SrO.less {B B' : Nat} {w : World} {sv : Value} {ps : List (Ac.St × Value)} (h : SrO B w sv ps) (hB : B' ≤ B) : SrO B' w sv ps := ⟨own_less h.row hB, fun p hp => own_less (h.nds p hp) hB⟩
theorem SrO.snoc {B : Nat} {w1 w2 : World} {v v' : Value} {ps : List (Ac.St × Value)} {p : Ac.St × Value} (h : SrO B w1 v ps) (hn : w1.ownsRow B 104 6 p.2 p.1.x.length (p.1.x.flatMap ndV)) (hgr : w1.grownBy w2 v.ownBlock)
    (hown : w2.ownsRow B 91 3 v' (ps.length + 1) (ps.flatMap stV ++ stV p)) : SrO B w2 v' (ps ++ [p]) := by
  have kg : Kt [91] w1 w2 := Kt.grown hgr h.row (by simp)
  refine ⟨?_, fun q hq => ?_⟩
  · rw [List.length_append, List.flatMap_append, List.length_singleton, show [p].flatMap stV = stV p by simp]
    exact hown
  · rcases List.mem_append.1 hq with hq | hq
    · exact kg.own (h.nds q hq) (by decide)
    · rw [List.mem_singleton.1 hq]; exact kg.own hn (by decide)
theorem own_rdn {w : World} {B n c : Nat} {A : Option Addr} {l : List Nd} (h : w.ownsRow B 104 6 (.slice A n c) n (l.flatMap ndV)) (hn : n = l.length) : NdR w w.heap.size A l ∧ n ≤ c ∧ c ≤ maxLen := by
  obtain ⟨A', c', e, h1, h2, h3⟩ := own_sliced h
  injection e with e1 _ e3
  subst e1 e3
  refine ⟨fun j hj => ?_, h1, h2⟩
  obtain ⟨g, rfl, _, hg⟩ := h3 (by omega)
  have q := fun (k : Nat) (u : Value) (hk : k < 6) (hu : (ndV l[j])[k]? = some u) => own_cell h ((fl_at (f := ndV) (k := 6) (fun _ => rfl) l j k hj hk).trans hu)
  refine ⟨g, 0, rfl, hg, ?_, ?_, ?_, ?_, ?_, ?_⟩
  · simpa using q 0 _ (by omega) rfl
  · simpa using q 1 _ (by omega) rfl
  · simpa using q 2 _ (by omega) rfl
  · simpa using q 3 _ (by omega) rfl
  · simpa using q 4 _ (by omega) rfl
  · simpa using q 5 _ (by omega) rfl
theorem SrO.reads {B : Nat} {w : World} {A : Option Addr} {n c : Nat} {ps : List (Ac.St × Value)} (h : SrO B w (.slice A n c) ps) (hn : n = ps.length) : StR w w.heap.size A ps ∧ n ≤ c ∧ c ≤ maxLen := by
  have h0 := h.row
  subst hn
  obtain ⟨A', c', e, h1, h2, h3⟩ := own_sliced h0
  injection e with e1 _ e3
  subst e1 e3
  refine ⟨⟨fun j hj => ?_, fun p hp => ?_⟩, h1, h2⟩
  · obtain ⟨g, rfl, _, hg⟩ := h3 (by omega)
    have q := fun (k : Nat) (u : Value) (hk : k < 3) (hu : (stV ps[j])[k]? = some u) => own_cell h0 ((fl_at (f := stV) (k := 3) (fun _ => rfl) ps j k hj hk).trans hu)
    refine ⟨g, 0, rfl, hg, ?_, ?_, ?_⟩
    · simpa using q 0 _ (by omega) rfl
    · simpa using q 1 _ (by omega) rfl
    · simpa using q 2 _ (by omega) rfl
  · have hp2 := h.nds p hp
    obtain ⟨A2, c2, e2, _, _, _⟩ := own_sliced hp2
    rw [e2] at hp2
    obtain ⟨q1, q2, _⟩ := own_rdn hp2 rfl
    exact ⟨A2, c2, e2, q2, q1⟩
def LrP (ss : List Ac.St) (w : World) (e : Ending) (w' : World) : Prop := ∃ A c qs, e = .returned (.slice A ss.length c) ∧ SrO w.heap.size w' (.slice A ss.length c) qs ∧ qs.map (·.1) = ss ∧ Below w.heap.size w w'
structure LrO (w : World) (A : Option Addr) (c : Nat) (ps : List (Ac.St × Value)) (wr : World) (k : Nat) (v : Value) (qs : List (Ac.St × Value)) : Prop where
  below : Below w.heap.size w wr
  box : IsBlk wr w.heap.size 29 #[.slice A ps.length c]
  row : SrO (w.heap.size + 1) wr v qs
  len : qs.length = k
  eq : qs.map (·.1) = (ps.take k).map (·.1)
structure LrI (W1 : World) (r : Nat) (K : Int) (N : ByteArray) (xs : List Nd) (wr : World) (m : Nat) (v : Value) : Prop where
  below : Below r W1 wr
  blk : IsBlk wr r 91 #[.int .u8 K, .string N, v]
  own : wr.ownsRow (r + 1) 104 6 v m ((xs.take m).flatMap ndV)
theorem LrI.on {W1 : World} {r : Nat} {K : Int} {N : ByteArray} {xs : List Nd} {wr w' : World} {m : Nat} {v : Value} (h : LrI W1 r K N xs wr m v) (hb : Below wr.heap.size wr w') : LrI W1 r K N xs w' m v :=
  ⟨h.below.trans (hb.mono (Nat.le_of_lt h.blk.lt)), h.blk.below hb h.blk.lt, own_below h.own hb⟩
theorem LrI.more {W1 : World} {r : Nat} {K : Int} {N : ByteArray} {xs : List Nd} {wr : World} {m : Nat} {v : Value} (h : LrI W1 r K N xs wr m v) (hm : m < xs.length) {W' w9 : World} {v9 : Value} (hW : Below wr.heap.size wr W')
    (ho : w9.ownsRow (r + 1) 104 6 v9 (m + 1) ((xs.take m).flatMap ndV ++ ndV xs[m])) (hg : W'.grownBy w9 v.ownBlock) :
    LrI W1 r K N xs (w9.setCell ⟨r, 2, none⟩ v9) (m + 1) v9 ∧ w9.cell? ⟨r, 2, none⟩ = some v ∧ w9.frozen? ⟨r, 2, none⟩ = false := by
  have hlt := h.blk.lt
  have q : IsBlk w9 r 91 #[.int .u8 K, .string N, v] := (h.blk.below hW hlt).grown hg (fun e => by have := (h.own.lt r e.symm).1; omega)
  refine ⟨⟨?_, q.set 2 _, ?_⟩, q.at_ 2, q.fz 2⟩
  · exact ((h.below.trans (hW.mono (Nat.le_of_lt hlt))).grown hg (Nat.le_trans (Nat.le_of_lt hlt) hW.size) (fun z hz => by have := (h.own.lt z hz).1; omega)).setCell (p := ⟨r, 2, none⟩) (Nat.le_refl r) _
  · rw [List.take_succ_eq_append_getElem hm, List.flatMap_append, show [xs[m]].flatMap ndV = ndV xs[m] by simp]
    exact own_set ho q (by decide) 2 _
set_option maxHeartbeats 8000000 in
set_option maxRecDepth 100000 in
theorem aref11_any (w : World) (A : Option Addr) (c : Nat) (ps : List (Ac.St × Value)) (h : StR w w.heap.size A ps) (hc : ps.length ≤ c) (hn : ps.length ≤ 1000000) (hx : ∀ p ∈ ps, p.1.x.length ≤ 1000000) :
    Calls Tryz.prog 15 #[.agg #[.slice A ps.length c]] w (LrP (ps.map (·.1)) w) := by
  have H := Lib.hid h
  have HX := Lib.hid hx
  obtain ⟨n, hnl⟩ : ∃ n, n = ps.length := ⟨_, rfl⟩
  have HN := Lib.hid hnl
  have H0 := Lib.hid (show LrO w A c ps (w.alloc (.cells #[.slice A n c] 29)) 0 (.slice none 0 0) [] from by
    rw [hnl]; exact ⟨(Below.refl _ _).alloc (Nat.le_refl _) _, IsBlk.new _ _ _, SrO.nil _ _, rfl, rfl⟩)
  rw [← hnl] at hn hc ⊢
  have hc' : (n : Int) ≤ (c : Int) := by omega
  clear h hx hnl
  go_enter Tryz.func15, Tryz.ntmps15
  go_wp2
  go_loopw [3, 4] (fun v0 i wr => ∃ (v : Value) (k : Nat) (qs : List (Ac.St × Value)), v = v0 ∧ i = .int .i64 k ∧ k ≤ n ∧ Hid (LrO w A c ps wr k v qs)) (fun _ i _ => n - (intOf i).toNat)
  case atStart => exact ⟨_, 0, [], rfl, rfl, Nat.zero_le _, H0⟩
  case round =>
    obtain ⟨vo, k, qs, hv0, rfl, hk, HI⟩ := hrel
    subst hv0
    clear H0
    obtain ⟨wo, hwo⟩ : ∃ wo, wo = wr := ⟨_, rfl⟩
    subst hwo
    obtain ⟨Ao, co, hvo, hco1, hco2, _⟩ := own_sliced HI.out.row.row
    subst hvo
    have t0 : wo.cell? ⟨w.heap.size, 0, none⟩ = some (.slice A n c) := by rw [HN.out]; exact HI.out.box.at_ 0
    by_cases hlt : k < n
    · have hlt' : (k : Int) < (n : Int) := by omega
      have hkl : k < ps.length := by have := HN.out; omega
      obtain ⟨g, o, hA, hg, c0, c1, c2⟩ := (H.out.below HI.out.below).cells k hkl
      subst hA
      obtain ⟨Ax, cx, hsx, hcx, hnd⟩ := H.out.nds _ (List.getElem_mem hkl)
      have hxl := HX.out _ (List.getElem_mem hkl)
      rw [hsx] at c2
      have HT := Lib.hid (show (ps.take (k + 1)).map (·.1) = (ps.take k).map (·.1) ++ [ps[k].1] from by rw [List.take_succ_eq_append_getElem hkl, List.map_append]; rfl)
      have HLT := Lib.hid hlt
      clear hsx hlt
      generalize ps[k] = a at *
      obtain ⟨⟨kk, nm, xs⟩, av⟩ := a
      simp only at c0 c1 c2 hcx hnd hxl HT
      obtain ⟨N, hN⟩ : ∃ N : ByteArray, N = ⟨nm.toArray⟩ := ⟨_, rfl⟩
      rw [← hN] at c1
      have HNN := Lib.hid hN
      obtain ⟨rx, hrx⟩ : ∃ r, r = wo.heap.size := ⟨_, rfl⟩
      obtain ⟨W1, hW1⟩ : ∃ W1, W1 = (wo.alloc (.cells #[.int .u8 kk, .string N, .slice Ax xs.length cx] 80)).alloc (.cells #[.int .u8 kk, .string N, .slice none 0 0] 91) := ⟨_, rfl⟩
      have hz : (wo.alloc (.cells #[.int .u8 kk, .string N, .slice Ax xs.length cx] 80)).heap.size = wo.heap.size + 1 := by simp
      obtain ⟨r, hr⟩ : ∃ r, r = rx + 1 := ⟨_, rfl⟩
      have HB1 := Lib.hid (show IsBlk W1 rx 80 #[.int .u8 kk, .string N, .slice Ax xs.length cx] ∧ IsBlk W1 r 91 #[.int .u8 kk, .string N, .slice none 0 0] ∧ Below wo.heap.size wo W1 from by
        rw [hW1, hr, hrx]
        exact ⟨(IsBlk.new wo _ _).below ((Below.refl _ _).alloc (Nat.le_refl _) _) (by omega), by rw [← hz]; exact IsBlk.new _ _ _, ((Below.refl _ _).alloc (Nat.le_refl _) _).alloc (by omega) _⟩)
      have HND := Lib.hid hnd
      have HW1 := Lib.hid hW1
      have HRR := Lib.hid (And.intro hr hrx)
      have HJ0 := Lib.hid (show LrI W1 r kk N xs W1 0 (.slice none 0 0) from ⟨Below.refl _ _, HB1.out.2.1, World.ownsRow_nil _ _ _ _⟩)
      have HQ := Lib.hid (show rx < r ∧ wo.heap.size ≤ rx from ⟨by omega, by omega⟩)
      have hcxI : (xs.length : Int) ≤ (cx : Int) := by omega
      obtain ⟨xn, hxn⟩ : ∃ x, x = xs.length := ⟨_, rfl⟩
      have HXN := Lib.hid hxn
      rw [← hxn] at c2 HW1 HB1 hcxI hxl
      clear hN hW1 hz hr hrx hcx hnd hkl hxn
      go_wp2
      rw [← HW1.out, ← HRR.out.2, ← HRR.out.1]
      clear c0 c1 c2 t0
      go_loopw [7] (fun j wr => ∃ (m : Nat) (v : Value), m ≤ xn ∧ j = .int .i64 m ∧ Hid (LrI W1 r kk N xs wr m v)) (fun j _ => xn - (intOf j).toNat)
      case atStart => exact ⟨0, _, Nat.zero_le _, rfl, HJ0⟩
      case round =>
        clear HJ0
        obtain ⟨m, v, hm, rfl, HJ⟩ := hrel
        obtain ⟨Av, cv, hv, hmc, hcm, _⟩ := own_sliced HJ.out.own
        subst hv
        have t1 : wr.cell? ⟨rx, 2, none⟩ = some (.slice Ax xn cx) := (HB1.out.1.below HJ.out.below HQ.out.1).at_ 2
        by_cases hml : m < xn
        · have hml' : (m : Int) < (xn : Int) := by omega
          have hmx : m < xs.length := by have := HXN.out; omega
          have HBW := Lib.hid (show Below w.heap.size w wr from HI.out.below.trans ((HB1.out.2.2.trans (HJ.out.below.mono (by have := HQ.out; omega))).mono HI.out.below.size))
          obtain ⟨ga, oa, hAx, hga, p0, p1, p2, p3, p4, p5⟩ := (HND.out.below HBW.out) m hmx
          subst hAx
          have HMR := Lib.hid (fun (w2 W' w9 : World) (v9 : Value) (h2 : LrI W1 r kk N xs w2 m (.slice Av m cv)) hW ho hg => LrI.more h2 hmx (W' := W') (w9 := w9) (v9 := v9) hW ho hg)
          have HML := Lib.hid hml
          generalize xs[m] = t at *
          clear hmx hml
          obtain ⟨op, num, nn, na, nb, nc⟩ := t
          simp only [ndV] at p0 p1 p2 p3 p4 p5 HMR
          generalize (⟨nn.toArray⟩ : ByteArray) = NN at *
          obtain ⟨rz, hrz⟩ : ∃ r, r = wr.heap.size := ⟨_, rfl⟩
          obtain ⟨W2, hW2⟩ : ∃ W2, W2 = wr.alloc (.cells #[.int .u8 op, .int .i64 num, .string NN, .int .i64 na, .int .i64 nb, .int .i64 nc] 105) := ⟨_, rfl⟩
          have hb2 : Below wr.heap.size wr W2 := by rw [hW2]; exact (Below.refl _ _).alloc (Nat.le_refl _) _
          have k2 : IsBlk W2 rz 105 #[.int .u8 op, .int .i64 num, .string NN, .int .i64 na, .int .i64 nb, .int .i64 nc] := by rw [hW2, hrz]; exact IsBlk.new _ _ _
          have HJ2 := Lib.hid (HJ.out.on hb2)
          have x2 : W2.cell? ⟨r, 2, none⟩ = some (.slice Av m cv) := HJ2.out.blk.at_ 2
          have n0 : W2.cell? ⟨rz, 0, none⟩ = some (.int .u8 op) := k2.at_ 0
          have n1 : W2.cell? ⟨rz, 1, none⟩ = some (.int .i64 num) := k2.at_ 1
          have n2 : W2.cell? ⟨rz, 2, none⟩ = some (.string NN) := k2.at_ 2
          have n3 : W2.cell? ⟨rz, 3, none⟩ = some (.int .i64 na) := k2.at_ 3
          have n4 : W2.cell? ⟨rz, 4, none⟩ = some (.int .i64 nb) := k2.at_ 4
          have n5 : W2.cell? ⟨rz, 5, none⟩ = some (.int .i64 nc) := k2.at_ 5
          have hOW := Lib.hid HJ2.out.own
          obtain ⟨i0, hi, hz0, hz1, hz2⟩ := info_parts infoRN11
          have hmax : m + 1 ≤ maxLen := by unfold maxLen; omega
          have hrW : r + 1 ≤ W2.heap.size := HJ2.out.blk.lt
          have HW2 := Lib.hid (And.intro hW2 hrz)
          clear hW2 hb2 k2 hrz
          go_upto_region 11 with fail
          rw [← HW2.out.1, ← HW2.out.2]
          go_wp2_with (at_builtin; go_must (refine wpList_append_own _ rfl _ _ _ rfl (r + 1) 104 i0 _ 6 56 Tryz.underlying89 hi hz0 hz1 hz2 rfl (by omega) (.slice Av m cv) m ((xs.take m).flatMap ndV) (by rfl) (by exact World.ownsRow.alloc hOW.out _) _ 1 _ [.int .u8 op, .int .i64 num, .string NN, .int .i64 na, .int .i64 nb, .int .i64 nc] (by rfl) rfl (by intro j u hu; exact news_at _ _ _ _ (by simp) j u hu) (by intro u hu; simp at hu; rcases hu with rfl | rfl | rfl | rfl | rfl | rfl <;> rfl) hmax (by omega) (by simp; omega) ?_); go_must (intro v9 w9 hown9 hgr9 _; obtain ⟨A9, c9, hv9, _, _, _⟩ := own_sliced hown9; subst hv9; have H9 := Lib.hid (HMR.out W2 _ w9 _ HJ2.out ((Below.refl _ _).alloc (Nat.le_refl _) _) hown9 hgr9); have y2 := H9.out.2.1; have yf := H9.out.2.2; clear hown9 hgr9))
          (try go_wp2)
          go_roundw
          case rel => exact ⟨m + 1, _, HML.out, by go_num, Lib.hid H9.out.1⟩
          case measure => have := HML.out; simp [intOf]; omega
        · obtain rfl : m = xn := by omega
          have hml' : ¬ (m : Int) < (m : Int) := by omega
          have how := HJ.out.own
          rw [List.take_of_length_le (by have := HXN.out; omega)] at how
          have hbW : Below wo.heap.size wo wr := HB1.out.2.2.trans (HJ.out.below.mono (by have := HQ.out; omega))
          have HRW := Lib.hid (HI.out.row.below hbW)
          have HBL := Lib.hid (HI.out.below.trans (hbW.mono HI.out.below.size))
          have HBX := Lib.hid (HI.out.box.below hbW HI.out.box.lt)
          have HOW := Lib.hid (show wr.ownsRow (w.heap.size + 1) 104 6 (.slice Av m cv) xs.length (xs.flatMap ndV) from by
            have q := own_less how (show w.heap.size + 1 ≤ r + 1 by have := HQ.out; have := HI.out.below.size; omega)
            rw [← HXN.out]; exact q)
          have b0 : wr.cell? ⟨r, 0, none⟩ = some (.int .u8 kk) := HJ.out.blk.at_ 0
          have b1 : wr.cell? ⟨r, 1, none⟩ = some (.string N) := HJ.out.blk.at_ 1
          have b2 : wr.cell? ⟨r, 2, none⟩ = some (.slice Av m cv) := HJ.out.blk.at_ 2
          obtain ⟨q, hq⟩ : ∃ q, q = qs.length := ⟨_, rfl⟩
          have hqk : q = k := hq.trans HI.out.len
          have hq6 : q ≤ 1000000 := by omega
          have HQK := Lib.hid (And.intro hqk hq)
          have hOR := Lib.hid HRW.out.row
          rw [← hq] at hOR ⊢
          obtain ⟨i0, hi, hz0, hz1, hz2⟩ := info_parts infoRS11
          have hmax : q + 1 ≤ maxLen := by unfold maxLen; omega
          have hwl : w.heap.size + 1 ≤ wr.heap.size := HBX.out.lt
          clear how hbW hq hml hqk
          go_wp2_with (at_builtin; go_must (refine wpList_append_own _ rfl _ _ _ rfl (w.heap.size + 1) 91 i0 _ 3 48 Tryz.underlying23 hi hz0 hz1 hz2 rfl (by omega) (.slice Ao q co) q (qs.flatMap stV) (by rfl) (by exact World.ownsRow.alloc hOR.out _) _ 1 _ [.int .u8 kk, .string N, .slice Av m cv] (by rfl) rfl (by intro j u hu; exact news_at _ _ _ _ (by simp) j u hu) (by intro u hu; simp at hu; rcases hu with rfl | rfl | rfl <;> rfl) hmax (by omega) (by simp; omega) ?_); go_must (intro v9 w9 hown9 hgr9 _; have H9 := Lib.hid (And.intro hown9 hgr9); clear hown9 hgr9))
          have HRO := Lib.hid (show LrO w (some ⟨g, o, none⟩) c ps w9 (k + 1) v9 (qs ++ [(⟨kk, nm, xs⟩, .slice Av m cv)]) from by
            have ba := (Below.refl wr.heap.size wr).alloc (Nat.le_refl _) (.cells #[.int .u8 kk, .string N, .slice Av m cv] 91)
            have b3 := Below.grown (HBL.out.trans (ba.mono HBL.out.size)) H9.out.2 (Nat.le_trans HBL.out.size ba.size) (fun z hz => by have := (hOR.out.lt z hz).1; omega)
            refine ⟨b3, (HBX.out.below ba HBX.out.lt).grown H9.out.2 (fun e => by have := (hOR.out.lt _ e.symm).1; omega), SrO.snoc (HRW.out.below ba) (own_below HOW.out ba) (by rw [← HQK.out.2]; exact H9.out.2) ?_, by rw [List.length_append, ← HQK.out.2, HQK.out.1]; rfl, by rw [HT.out, ← HI.out.eq, List.map_append]; rfl⟩
            have h9 := H9.out.1
            show w9.ownsRow _ _ _ _ (qs.length + 1) (qs.flatMap stV ++ [.int .u8 kk, .string ⟨nm.toArray⟩, .slice Av m cv])
            rw [← HNN.out, ← HQK.out.2]
            exact h9)
          (try go_wp2)
          go_roundw
          case rel => exact ⟨_, k + 1, _, rfl, by go_num, HLT.out, HRO⟩
          case measure => have := HLT.out; simp [intOf]; omega
    · obtain rfl : k = n := by omega
      have hlt' : ¬ (k : Int) < (k : Int) := by omega
      have HE := Lib.hid (show qs.map (·.1) = ps.map (·.1) from by
        have h4 := HI.out.eq
        rwa [List.take_of_length_le (by rw [← HN.out]; exact Nat.le_refl _)] at h4)
      have HLE := Lib.hid (show qs.length = ps.length from by rw [HI.out.len, HN.out])
      rw [HLE.out]
      clear hlt
      go_wp2
      go_ret
      refine ⟨Ao, co, qs, by rw [List.length_map]; rfl, ?_, HE.out, HI.out.below⟩
      rw [List.length_map, ← HLE.out]
      exact HI.out.row.less (Nat.le_succ _)
end Go.Proofs.YtmmdigeciphglaaGreatDoor
namespace Go.Proofs.YtmmdigeciphglaaGreatDoor
open Go.RowKit Ex
def sames (a b : Ac.St) : Bool := decide (a.k = b.k ∧ a.nm = b.nm ∧ a.x = b.x)
def sameSs : List Ac.St → List Ac.St → Bool
  | [], [] => true
  | a :: r, b :: q => sames a b && sameSs r q
  | _, _ => false
theorem sameSs_len : ∀ {a b : List Ac.St}, a.length ≠ b.length → sameSs a b = false
  | [], [], h => absurd rfl h
  | [], _ :: _, _ => rfl
  | _ :: _, [], _ => rfl
  | a :: r, b :: q, h => by
    show (sames a b && sameSs r q) = false
    rw [sameSs_len (fun e => h (by simp [e]))]
    simp
set_option maxHeartbeats 4000000 in
set_option maxRecDepth 100000 in
theorem asamest_any (w : World) (a b : Ac.St) (A : Option Addr) (c : Nat) (hl : NdR w w.heap.size A a.x) (hc : a.x.length ≤ c) (A2 : Option Addr) (c2 : Nat) (hl2 : NdR w w.heap.size A2 b.x) (hc2 : b.x.length ≤ c2) (hf : b.x.length ≤ 1000000) :
    Calls Tryz.prog 54 #[.agg #[.int .u8 a.k, .string ⟨a.nm.toArray⟩, .slice A a.x.length c], .agg #[.int .u8 b.k, .string ⟨b.nm.toArray⟩, .slice A2 b.x.length c2]] w fun e w' => e = .returned (.bool (sames a b)) ∧ Below w.heap.size w w' := by
  obtain ⟨R, hR⟩ : ∃ R, R = sames a b := ⟨_, rfl⟩
  rw [← hR]
  obtain ⟨k, nm, xs⟩ := a
  obtain ⟨k2, nm2, ys⟩ := b
  simp only at hl hc hl2 hc2 hf ⊢
  obtain ⟨N, hN⟩ : ∃ N : ByteArray, N = ⟨nm.toArray⟩ := ⟨_, rfl⟩
  obtain ⟨M, hM⟩ : ∃ N : ByteArray, N = ⟨nm2.toArray⟩ := ⟨_, rfl⟩
  rw [← hN, ← hM]
  obtain ⟨W0, hW0⟩ : ∃ W0, W0 = w.alloc (.cells #[.int .u8 k, .string N, .slice A xs.length c] 80) := ⟨_, rfl⟩
  have hb0 : Below w.heap.size w W0 := by rw [hW0]; exact (Below.refl _ _).alloc (Nat.le_refl _) _
  have hz0 : W0.heap.size = w.heap.size + 1 := by rw [hW0]; simp
  obtain ⟨W1, hW1⟩ : ∃ W1, W1 = W0.alloc (.cells #[.int .u8 k2, .string M, .slice A2 ys.length c2] 80) := ⟨_, rfl⟩
  have hb01 : Below W0.heap.size W0 W1 := by rw [hW1]; exact (Below.refl _ _).alloc (Nat.le_refl _) _
  have hb1 : Below w.heap.size w W1 := hb0.trans (hb01.mono hb0.size)
  have k0 : IsBlk W1 w.heap.size 80 #[.int .u8 k, .string N, .slice A xs.length c] := by
    have q : IsBlk W0 w.heap.size 80 #[.int .u8 k, .string N, .slice A xs.length c] := by rw [hW0]; exact IsBlk.new _ _ _
    exact q.below hb01 q.lt
  have k1 : IsBlk W1 (w.heap.size + 1) 80 #[.int .u8 k2, .string M, .slice A2 ys.length c2] := by rw [← hz0, hW1]; exact IsBlk.new _ _ _
  have x0 : W1.cell? ⟨w.heap.size, 0, none⟩ = some (.int .u8 k) := k0.at_ 0
  have x1 : W1.cell? ⟨w.heap.size, 1, none⟩ = some (.string N) := k0.at_ 1
  have x2 : W1.cell? ⟨w.heap.size, 2, none⟩ = some (.slice A xs.length c) := k0.at_ 2
  have y0 : W1.cell? ⟨w.heap.size + 1, 0, none⟩ = some (.int .u8 k2) := k1.at_ 0
  have y1 : W1.cell? ⟨w.heap.size + 1, 1, none⟩ = some (.string M) := k1.at_ 1
  have y2 : W1.cell? ⟨w.heap.size + 1, 2, none⟩ = some (.slice A2 ys.length c2) := k1.at_ 2
  have HSM := Lib.hid (same_any W1 A A2 c c2 xs ys ((hl.below hb1).more hb1.size) ((hl2.below hb1).more hb1.size) hc hc2 hf)
  have HR := Lib.hid (show R = decide (k = k2 ∧ nm = nm2 ∧ xs = ys) from hR)
  have HNT := Lib.hid (show N.toList = nm ∧ M.toList = nm2 from ⟨by rw [Lib.toList_data, hN], by rw [Lib.toList_data, hM]⟩)
  have HB1 := Lib.hid hb1
  have HW1 := Lib.hid (And.intro hW0 hW1)
  obtain ⟨z, hz⟩ : ∃ z, z = decide (xs = ys) := ⟨_, rfl⟩
  have HZ := Lib.hid hz
  rw [← hz] at HSM
  rw [hW1, hW0] at x0 x1 x2 y0 y1 y2
  clear hR hN hM hW0 hb0 hz0 hW1 hb01 hb1 k0 k1 hl hc hl2 hc2 hf hz
  by_cases hk : k = k2
  · have hkb : (k == k2) = true := beq_iff_eq.2 hk
    by_cases hn : nm = nm2
    · have hnb : (N.toList == M.toList) = true := by rw [HNT.out.1, HNT.out.2]; exact beq_iff_eq.2 hn
      have HR := Lib.hid (show R = z from by rw [HR.out, HZ.out]; exact decide_eq_decide.2 ⟨fun h => h.2.2, fun h => ⟨hk, hn, h⟩⟩)
      clear hk hn
      go_enter Tryz.func54, Tryz.ntmps54
      go_wp2_with fail
      rw [← HW1.out.1, ← HW1.out.2]
      refine HSM.out.mono ?_
      rintro e w2 ⟨rfl, hb2⟩
      have B2 := Lib.hid (HB1.out.trans (hb2.mono HB1.out.size))
      clear hb2 x0 x1 x2 y0 y1 y2
      cases z <;> go_wp2 <;> go_ret <;> exact ⟨by rw [HR.out]; rfl, B2.out⟩
    · have hnb : (N.toList == M.toList) = false := by rw [HNT.out.1, HNT.out.2]; exact beq_eq_false_iff_ne.2 hn
      have HR := Lib.hid (show R = false from by rw [HR.out]; exact decide_eq_false (fun h => hn h.2.1))
      clear hk hn
      go_enter Tryz.func54, Tryz.ntmps54
      go_wp2
      go_ret
      rw [← HW1.out.1, ← HW1.out.2]
      exact ⟨by rw [HR.out]; rfl, HB1.out⟩
  · have hkb : (k == k2) = false := beq_eq_false_iff_ne.2 hk
    have HR := Lib.hid (show R = false from by rw [HR.out]; exact decide_eq_false (fun h => hk h.1))
    clear hk
    go_enter Tryz.func54, Tryz.ntmps54
    go_wp2
    go_ret
    rw [← HW1.out.1, ← HW1.out.2]
    exact ⟨by rw [HR.out]; rfl, HB1.out⟩
theorem sameSs_go {a b : List Ac.St} {k : Nat} (h1 : k < a.length) (h2 : k < b.length) : sameSs (a.drop k) (b.drop k) = (sames a[k] b[k] && sameSs (a.drop (k + 1)) (b.drop (k + 1))) := by
  rw [List.drop_eq_getElem_cons h1, List.drop_eq_getElem_cons h2]; rfl
set_option maxHeartbeats 8000000 in
set_option maxRecDepth 100000 in
theorem aeqf_any (w : World) (A : Option Addr) (c : Nat) (ps : List (Ac.St × Value)) (hl : ps.length ≤ c) (hc : c ≤ maxLen) (h : StR w w.heap.size A ps) (A2 : Option Addr) (c2 : Nat) (qs : List (Ac.St × Value)) (hl2 : qs.length ≤ c2) (h2 : StR w w.heap.size A2 qs) (hf2 : FitAc qs) :
    Calls Tryz.prog 53 #[.slice A ps.length c, .slice A2 qs.length c2, .func (Fn.func 54) #[] #[]] w fun e w' => e = .returned (.bool (sameSs (ps.map (·.1)) (qs.map (·.1)))) ∧ Below w.heap.size w w' := by
  obtain ⟨R, hR⟩ : ∃ R, R = sameSs (ps.map (·.1)) (qs.map (·.1)) := ⟨_, rfl⟩
  rw [← hR]
  have H1 := Lib.hid h
  have H2 := Lib.hid h2
  have HF := Lib.hid hf2
  have HR := Lib.hid hR
  have hlI : (ps.length : Int) ≤ (c : Int) := by omega
  have hl2I : (qs.length : Int) ≤ (c2 : Int) := by omega
  have hmI : (c : Int) ≤ 9223372036854775807 := by unfold maxLen at hc; omega
  clear hR h h2 hf2 hl hl2 hc
  by_cases hlen : ps.length = qs.length
  · obtain ⟨n, hn⟩ : ∃ n, n = qs.length := ⟨_, rfl⟩
    have HN1 := Lib.hid (show n = ps.length by omega)
    have HN2 := Lib.hid hn
    rw [hlen, ← hn]
    rw [hlen, ← hn] at hlI
    rw [← hn] at hl2I
    clear hlen hn
    go_enter Tryz.func53, Tryz.ntmps53
    go_wp2
    go_loopw [17] (fun i wr => ∃ k : Nat, k ≤ n ∧ i = .int .i64 k ∧ Hid (Below w.heap.size w wr ∧ R = sameSs ((ps.map (·.1)).drop k) ((qs.map (·.1)).drop k))) (fun i _ => n - (intOf i).toNat)
    case atStart => exact ⟨0, Nat.zero_le _, rfl, Lib.hid ⟨Below.refl _ _, HR.out⟩⟩
    case round =>
      obtain ⟨k, hk, rfl, HI⟩ := hrel
      by_cases hlt : k < n
      · have hlt' : (k : Int) < (n : Int) := by omega
        have hka : k < ps.length := by have := HN1.out; omega
        have hkb : k < qs.length := by have := HN2.out; omega
        obtain ⟨g, o, hA, hg, c0, c1, c2_⟩ := (H1.out.below HI.out.1).cells k hka
        obtain ⟨g2, o2, hA2, hg2, d0, d1, d2⟩ := (H2.out.below HI.out.1).cells k hkb
        subst hA hA2
        obtain ⟨Ax, cx, hsx, hcx, hnd⟩ := H1.out.nds _ (List.getElem_mem hka)
        obtain ⟨Ay, cy, hsy, hcy, hndy⟩ := H2.out.nds _ (List.getElem_mem hkb)
        have hfa := HF.out _ (List.getElem_mem hkb)
        rw [hsx] at c2_
        rw [hsy] at d2
        have HE := Lib.hid (HI.out.2.trans (sameSs_go (a := ps.map (·.1)) (b := qs.map (·.1)) (k := k) (by rw [List.length_map]; exact hka) (by rw [List.length_map]; exact hkb)))
        rw [List.getElem_map, List.getElem_map] at HE
        obtain ⟨W5, hW5⟩ : ∃ W5, W5 = wr.alloc (.cells #[.int .u8 ps[k].1.k, .string ⟨ps[k].1.nm.toArray⟩, .slice Ax ps[k].1.x.length cx] 80) := ⟨_, rfl⟩
        have hb5 : Below wr.heap.size wr W5 := by rw [hW5]; exact (Below.refl _ _).alloc (Nat.le_refl _) _
        have hz5 : W5.heap.size = wr.heap.size + 1 := by rw [hW5]; simp
        obtain ⟨W6, hW6⟩ : ∃ W6, W6 = W5.alloc (.cells #[.int .u8 qs[k].1.k, .string ⟨qs[k].1.nm.toArray⟩, .slice Ay qs[k].1.x.length cy] 80) := ⟨_, rfl⟩
        have hb56 : Below W5.heap.size W5 W6 := by rw [hW6]; exact (Below.refl _ _).alloc (Nat.le_refl _) _
        have k5 : IsBlk W5 wr.heap.size 80 #[.int .u8 ps[k].1.k, .string ⟨ps[k].1.nm.toArray⟩, .slice Ax ps[k].1.x.length cx] := by rw [hW5]; exact IsBlk.new _ _ _
        have k6 : IsBlk W6 (wr.heap.size + 1) 80 #[.int .u8 qs[k].1.k, .string ⟨qs[k].1.nm.toArray⟩, .slice Ay qs[k].1.x.length cy] := by rw [← hz5, hW6]; exact IsBlk.new _ _ _
        have k56 := k5.below hb56 k5.lt
        have d0' : W5.cell? ⟨g2, o2 + k * 3, none⟩ = some (.int .u8 qs[k].1.k) := (hb5.cell (p := ⟨g2, _, none⟩) (Nat.lt_of_lt_of_le hg2 HI.out.1.size)).trans d0
        have d1' : W5.cell? ⟨g2, o2 + k * 3 + 1, none⟩ = some (.string ⟨qs[k].1.nm.toArray⟩) := (hb5.cell (p := ⟨g2, _, none⟩) (Nat.lt_of_lt_of_le hg2 HI.out.1.size)).trans d1
        have d2' : W5.cell? ⟨g2, o2 + k * 3 + 2, none⟩ = some (.slice Ay qs[k].1.x.length cy) := (hb5.cell (p := ⟨g2, _, none⟩) (Nat.lt_of_lt_of_le hg2 HI.out.1.size)).trans d2
        have B6 := Lib.hid (HI.out.1.trans ((hb5.trans (hb56.mono hb5.size)).mono HI.out.1.size))
        have HSS := Lib.hid (asamest_any W6 ps[k].1 qs[k].1 Ax cx ((hnd.below B6.out).more B6.out.size) hcx Ay cy ((hndy.below B6.out).more B6.out.size) hcy (by have := hfa.1.1; omega))
        have z0 : W6.cell? ⟨wr.heap.size, 0, none⟩ = some (.int .u8 ps[k].1.k) := k56.at_ 0
        have z1 : W6.cell? ⟨wr.heap.size, 1, none⟩ = some (.string ⟨ps[k].1.nm.toArray⟩) := k56.at_ 1
        have z2 : W6.cell? ⟨wr.heap.size, 2, none⟩ = some (.slice Ax ps[k].1.x.length cx) := k56.at_ 2
        have v0 : W6.cell? ⟨wr.heap.size + 1, 0, none⟩ = some (.int .u8 qs[k].1.k) := k6.at_ 0
        have v1 : W6.cell? ⟨wr.heap.size + 1, 1, none⟩ = some (.string ⟨qs[k].1.nm.toArray⟩) := k6.at_ 1
        have v2 : W6.cell? ⟨wr.heap.size + 1, 2, none⟩ = some (.slice Ay qs[k].1.x.length cy) := k6.at_ 2
        have HW6 := Lib.hid (And.intro hW5 hW6)
        rw [hW6, hW5] at z0 z1 z2 v0 v1 v2
        rw [hW5] at d0' d1' d2'
        clear hsx hcx hnd hsy hcy hndy hfa hW5 hb5 hz5 hW6 hb56 k5 k6 k56 d0 d1 d2
        generalize ps[k] = a at *
        generalize qs[k] = b at *
        obtain ⟨⟨kk, nm, xs⟩, av⟩ := a
        obtain ⟨⟨kk2, nm2, ys⟩, bv⟩ := b
        simp only at c0 c1 c2_ d0' d1' d2' HSS HW6 z0 z1 z2 v0 v1 v2 HE
        generalize (⟨nm.toArray⟩ : ByteArray) = N at *
        generalize (⟨nm2.toArray⟩ : ByteArray) = M at *
        generalize sames ⟨kk, nm, xs⟩ ⟨kk2, nm2, ys⟩ = bb at *
        clear hlt HI hka hkb
        go_wp2_with fail
        rw [← HW6.out.1, ← HW6.out.2]
        refine HSS.out.mono ?_
        rintro e w7 ⟨rfl, hb7⟩
        have B7 := Lib.hid (B6.out.trans (hb7.mono B6.out.size))
        clear hb7 c0 c1 c2_ d0' d1' d2' z0 z1 z2 v0 v1 v2
        cases bb with
        | true =>
          have HE := Lib.hid (HE.out.trans (Bool.true_and _))
          go_wp2
          go_roundw
          case rel => exact ⟨k + 1, by omega, by go_num, Lib.hid ⟨B7.out, HE.out⟩⟩
          case measure => simp [intOf]; omega
        | false =>
          have HE := Lib.hid (HE.out.trans (Bool.false_and _))
          go_wp2
          go_ret
          exact ⟨by rw [HE.out]; rfl, B7.out⟩
      · obtain rfl : k = n := by omega
        have hlt' : ¬ ((k : Nat) : Int) < (k : Int) := by omega
        have HE := Lib.hid (show R = true from by
          rw [HI.out.2, List.drop_of_length_le (by rw [List.length_map]; exact Nat.le_of_eq HN1.out.symm), List.drop_of_length_le (by rw [List.length_map]; exact Nat.le_of_eq HN2.out.symm)]; rfl)
        go_wp2
        go_ret
        exact ⟨by rw [HE.out]; rfl, HI.out.1⟩
  · have hne : ((ps.length : Int) != (qs.length : Int)) = true := by
      have : (ps.length : Int) ≠ (qs.length : Int) := by omega
      simpa using this
    have HE := Lib.hid (show R = false from by rw [HR.out]; exact sameSs_len (by rw [List.length_map, List.length_map]; exact hlen))
    clear hlen
    go_enter Tryz.func53, Tryz.ntmps53
    go_wp2
    go_ret
    exact ⟨by rw [HE.out]; rfl, Below.refl _ _⟩
set_option maxHeartbeats 4000000 in
theorem asame_any (w : World) (A : Option Addr) (c : Nat) (ps : List (Ac.St × Value)) (hl : ps.length ≤ c) (hc : c ≤ maxLen) (h : StR w w.heap.size A ps) (A2 : Option Addr) (c2 : Nat) (qs : List (Ac.St × Value)) (hl2 : qs.length ≤ c2) (h2 : StR w w.heap.size A2 qs) (hf2 : FitAc qs) :
    Calls Tryz.prog 25 #[.agg #[.slice A ps.length c], .agg #[.slice A2 qs.length c2]] w fun e w' => e = .returned (.bool (sameSs (ps.map (·.1)) (qs.map (·.1)))) ∧ Below w.heap.size w w' := by
  obtain ⟨W0, hW0⟩ : ∃ W0, W0 = w.alloc (.cells #[.slice A ps.length c] 29) := ⟨_, rfl⟩
  have hb0 : Below w.heap.size w W0 := by rw [hW0]; exact (Below.refl _ _).alloc (Nat.le_refl _) _
  have hz0 : W0.heap.size = w.heap.size + 1 := by rw [hW0]; simp
  obtain ⟨W1, hW1⟩ : ∃ W1, W1 = W0.alloc (.cells #[.slice A2 qs.length c2] 29) := ⟨_, rfl⟩
  have hb01 : Below W0.heap.size W0 W1 := by rw [hW1]; exact (Below.refl _ _).alloc (Nat.le_refl _) _
  have hb1 : Below w.heap.size w W1 := hb0.trans (hb01.mono hb0.size)
  have k0 : IsBlk W1 w.heap.size 29 #[.slice A ps.length c] := by
    have q : IsBlk W0 w.heap.size 29 #[.slice A ps.length c] := by rw [hW0]; exact IsBlk.new _ _ _
    exact q.below hb01 q.lt
  have k1 : IsBlk W1 (w.heap.size + 1) 29 #[.slice A2 qs.length c2] := by rw [← hz0, hW1]; exact IsBlk.new _ _ _
  have x0 : W1.cell? ⟨w.heap.size, 0, none⟩ = some (.slice A ps.length c) := k0.at_ 0
  have y0 : W1.cell? ⟨w.heap.size + 1, 0, none⟩ = some (.slice A2 qs.length c2) := k1.at_ 0
  have HE := Lib.hid (aeqf_any W1 A c ps hl hc (h.on hb1) A2 c2 qs hl2 (h2.on hb1) hf2)
  have HB1 := Lib.hid hb1
  have HW1 := Lib.hid (And.intro hW0 hW1)
  rw [hW1, hW0] at x0 y0
  generalize sameSs (ps.map (·.1)) (qs.map (·.1)) = R at *
  clear hW0 hb0 hz0 hW1 hb01 hb1 k0 k1 h h2 hf2
  go_enter Tryz.func25, Tryz.ntmps25
  go_wp2_with fail
  rw [← HW1.out.1, ← HW1.out.2]
  refine HE.out.mono ?_
  rintro e w2 ⟨rfl, hb2⟩
  have B2 := Lib.hid (HB1.out.trans (hb2.mono HB1.out.size))
  clear hb2
  go_wp2
  go_ret
  exact ⟨rfl, B2.out⟩
end Go.Proofs.YtmmdigeciphglaaGreatDoor
