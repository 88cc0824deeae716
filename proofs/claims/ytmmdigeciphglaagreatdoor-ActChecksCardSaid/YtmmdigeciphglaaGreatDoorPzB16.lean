/- Facts and walks for the statement. -/
import Derived.Test.YtmmdigeciphglaaGreatDoorPzB15
import Derived.Test.YtmmdigeciphglaaGreatDoorPzB13
import Derived.Test.YtmmdigeciphglaaGreatDoorPzB14
import Derived.Test.YtmmdigeciphglaaGreatDoorPzB12
import Derived.Deep.DeepMust
import Derived.Deep.CutRange
import Derived.BigQuiet
namespace Go.Proofs.YtmmdigeciphglaaGreatDoor
open Go.RowKit Ex
set_option maxHeartbeats 2000000 in
set_option maxRecDepth 100000 in
theorem abare_any (w : World) (k : Int) (N : ByteArray) (A : Option Addr) (n c : Nat) :
    Calls Tryz.prog 73 #[.agg #[.int .u8 k, .string N, .slice A n c]] w fun e w' => e = .returned (.bool (decide (k = 2 ∧ n = 0))) ∧ Below w.heap.size w w' := by
  obtain ⟨W1, hW1⟩ : ∃ W1, W1 = w.alloc (.cells #[.int .u8 k, .string N, .slice A n c] 80) := ⟨_, rfl⟩
  have hb1 : Below w.heap.size w W1 := by rw [hW1]; exact (Below.refl _ _).alloc (Nat.le_refl _) _
  have k1 : IsBlk W1 w.heap.size 80 #[.int .u8 k, .string N, .slice A n c] := by rw [hW1]; exact IsBlk.new _ _ _
  have x0 : W1.cell? ⟨w.heap.size, 0, none⟩ = some (.int .u8 k) := k1.at_ 0
  have x2 : W1.cell? ⟨w.heap.size, 2, none⟩ = some (.slice A n c) := k1.at_ 2
  have HW1 := Lib.hid hW1
  have HB1 := Lib.hid hb1
  rw [hW1] at x0 x2
  clear hW1 hb1 k1
  by_cases hk : k = 2
  · have hkb : (k == 2) = true := beq_iff_eq.2 hk
    have HE := Lib.hid (show decide (k = 2 ∧ n = 0) = decide ((n : Int) = 0) from decide_eq_decide.2 ⟨fun h => by have := h.2; omega, fun h => ⟨hk, by omega⟩⟩)
    have hd : decide ((n : Int) = 0) = ((n : Int) == 0) := by
      by_cases h : (n : Int) = 0
      · rw [h]; rfl
      · rw [decide_eq_false h, beq_eq_false_iff_ne.2 h]
    clear hk
    rw [HE.out, hd]
    clear hd
    go_enter Tryz.func73, Tryz.ntmps73
    go_wp2
    go_ret
    rw [← HW1.out]
    exact ⟨rfl, HB1.out⟩
  · have hkb : (k == 2) = false := beq_eq_false_iff_ne.2 hk
    have HE := Lib.hid (show decide (k = 2 ∧ n = 0) = false from decide_eq_false (fun h => hk h.1))
    clear hk
    rw [HE.out]
    go_enter Tryz.func73, Tryz.ntmps73
    go_wp2
    go_ret
    rw [← HW1.out]
    exact ⟨rfl, HB1.out⟩
def ImP (s : Ac.St) (w : World) (e : Ending) (w' : World) : Prop := (∃ b, e = .returned (.bool b) ∧ (b = true ↔ ¬ Ac.okS s)) ∧ Below w.heap.size w w'
set_option maxHeartbeats 4000000 in
set_option maxRecDepth 100000 in
theorem aimp_any (w : World) (T : Tx w) (s : Ac.St) (A : Option Addr) (c : Nat) (hl : NdR w w.heap.size A s.x) (hc : s.x.length ≤ c) (hf : Fit s.x) (hn : s.nm.length ≤ 1000000) :
    Calls Tryz.prog 50 #[.agg #[.int .u8 s.k, .string ⟨s.nm.toArray⟩, .slice A s.x.length c]] w (ImP s w) := by
  obtain ⟨k, nm, xs⟩ := s
  simp only at hl hc hf hn ⊢
  obtain ⟨N, hN⟩ : ∃ N : ByteArray, N = ⟨nm.toArray⟩ := ⟨_, rfl⟩
  rw [← hN]
  obtain ⟨W1, hW1⟩ : ∃ W1, W1 = w.alloc (.cells #[.int .u8 k, .string N, .slice A xs.length c] 80) := ⟨_, rfl⟩
  have hb1 : Below w.heap.size w W1 := by rw [hW1]; exact (Below.refl _ _).alloc (Nat.le_refl _) _
  have k1 : IsBlk W1 w.heap.size 80 #[.int .u8 k, .string N, .slice A xs.length c] := by rw [hW1]; exact IsBlk.new _ _ _
  have HIS := Lib.hid (is_any N W1 (by rw [hN]; show nm.toArray.size ≤ _; simp; unfold maxLen; omega) (T.below hb1).sg)
  have hnd : N.data.toList = nm := by rw [hN]
  rw [hnd] at HIS
  obtain ⟨z, hz⟩ : ∃ z, z = Lx.is nm := ⟨_, rfl⟩
  rw [← hz] at HIS
  have HZ := Lib.hid hz
  obtain ⟨ch, hch⟩ : ∃ ch, ch = chk xs := ⟨_, rfl⟩
  have HCC := Lib.hid hch
  have HCH := Lib.hid (fun w' (hb : Below w.heap.size w w') => check_any w' (T.below hb) A c xs ((hl.below hb).more hb.size) hc hf)
  rw [← hch] at HCH
  have HK1 := Lib.hid k1
  have HB1 := Lib.hid hb1
  have HW1 := Lib.hid hW1
  have x0 : W1.cell? ⟨w.heap.size, 0, none⟩ = some (.int .u8 k) := k1.at_ 0
  have x1 : W1.cell? ⟨w.heap.size, 1, none⟩ = some (.string N) := k1.at_ 1
  rw [hW1] at x0 x1
  clear hN hnd hz hch hW1 hb1 k1 T hl hc hf hn
  by_cases hk1 : k = 1
  · have e1 : (k != 1) = false := by rw [hk1]; rfl
    have HKK := Lib.hid (show k = 1 ∨ k = 2 from Or.inl hk1)
    clear hk1
    by_cases hz : z = 2
    · have hzb : (z != 2) = false := by rw [hz]; rfl
      have HZ2 := Lib.hid (show Lx.is nm = 2 from HZ.out.symm.trans hz)
      clear hz
      go_enter Tryz.func50, Tryz.ntmps50
      go_wp2_with fail
      rw [← HW1.out]
      refine (HIS.out).mono ?_
      rintro e w2 ⟨rfl, hb2⟩
      have B2 := Lib.hid (HB1.out.trans (hb2.mono HB1.out.size))
      have k2 := HK1.out.below hb2 HK1.out.lt
      have x0 : w2.cell? ⟨w.heap.size, 0, none⟩ = some (.int .u8 k) := k2.at_ 0
      have x1 : w2.cell? ⟨w.heap.size, 1, none⟩ = some (.string N) := k2.at_ 1
      have x2 : w2.cell? ⟨w.heap.size, 2, none⟩ = some (.slice A xs.length c) := k2.at_ 2
      have K2 := Lib.hid k2
      clear k2 hb2
      have HBR := Lib.hid (abare_any w2 k N A xs.length c)
      go_wp2_with fail
      refine HBR.out.mono ?_
      rintro e w3 ⟨rfl, hb3⟩
      have B3 := Lib.hid (B2.out.trans (hb3.mono B2.out.size))
      have k3 := K2.out.below hb3 K2.out.lt
      have y2 : w3.cell? ⟨w.heap.size, 2, none⟩ = some (.slice A xs.length c) := k3.at_ 2
      have HCK := Lib.hid (HCH.out w3 B3.out)
      clear hb3 k3 x0 x1 x2
      by_cases hbr : k = 2 ∧ xs.length = 0
      · have hd : decide (k = 2 ∧ xs.length = 0) = true := decide_eq_true hbr
        have HOK := Lib.hid (show Ac.okS ⟨k, nm, xs⟩ from ⟨HKK.out, HZ2.out, Or.inl ⟨hbr.1, List.length_eq_zero_iff.1 hbr.2⟩⟩)
        rw [hd]
        clear hd hbr
        go_wp2
        go_ret
        exact ⟨⟨false, rfl, ⟨fun h => (by cases h), fun h => absurd HOK.out h⟩⟩, B3.out⟩
      · have hd : decide (k = 2 ∧ xs.length = 0) = false := decide_eq_false hbr
        have HNB := Lib.hid hbr
        rw [hd]
        clear hd hbr
        go_wp2_with fail
        refine HCK.out.mono ?_
        rintro e w4 ⟨rfl, hb4⟩
        have B4 := Lib.hid (B3.out.trans (hb4.mono B3.out.size))
        clear hb4 y2
        by_cases hch : ch = 0
        · have hcb : (ch != 0) = false := by rw [hch]; rfl
          have HOK := Lib.hid (show Ac.okS ⟨k, nm, xs⟩ from ⟨HKK.out, HZ2.out, Or.inr (HCC.out.symm.trans hch)⟩)
          clear hch
          go_wp2
          go_ret
          exact ⟨⟨false, rfl, ⟨fun h => (by cases h), fun h => absurd HOK.out h⟩⟩, B4.out⟩
        · have hcb : (ch != 0) = true := by simpa using hch
          have HOK := Lib.hid (show ¬ Ac.okS ⟨k, nm, xs⟩ from fun h => h.2.2.elim (fun q => HNB.out ⟨q.1, List.length_eq_zero_iff.2 q.2⟩) (fun q => hch (HCC.out.trans q)))
          clear hch
          go_wp2
          go_ret
          exact ⟨⟨true, rfl, ⟨fun _ => HOK.out, fun _ => rfl⟩⟩, B4.out⟩
    · have hzb : (z != 2) = true := by simpa using hz
      have HOK := Lib.hid (show ¬ Ac.okS ⟨k, nm, xs⟩ from fun h => hz (HZ.out.trans h.2.1))
      clear hz
      go_enter Tryz.func50, Tryz.ntmps50
      go_wp2_with fail
      rw [← HW1.out]
      refine (HIS.out).mono ?_
      rintro e w2 ⟨rfl, hb2⟩
      have B2 := Lib.hid (HB1.out.trans (hb2.mono HB1.out.size))
      have k2 := HK1.out.below hb2 HK1.out.lt
      have x0 : w2.cell? ⟨w.heap.size, 0, none⟩ = some (.int .u8 k) := k2.at_ 0
      have x1 : w2.cell? ⟨w.heap.size, 1, none⟩ = some (.string N) := k2.at_ 1
      have x2 : w2.cell? ⟨w.heap.size, 2, none⟩ = some (.slice A xs.length c) := k2.at_ 2
      have K2 := Lib.hid k2
      clear k2 hb2
      go_wp2
      go_ret
      exact ⟨⟨true, rfl, ⟨fun _ => HOK.out, fun _ => rfl⟩⟩, B2.out⟩
  · have e1 : (k != 1) = true := by simpa using hk1
    by_cases hk2 : k = 2
    · have e2 : (k != 2) = false := by rw [hk2]; rfl
      have HKK := Lib.hid (show k = 1 ∨ k = 2 from Or.inr hk2)
      clear hk1 hk2
      by_cases hz : z = 2
      · have hzb : (z != 2) = false := by rw [hz]; rfl
        have HZ2 := Lib.hid (show Lx.is nm = 2 from HZ.out.symm.trans hz)
        clear hz
        go_enter Tryz.func50, Tryz.ntmps50
        go_wp2_with fail
        rw [← HW1.out]
        refine (HIS.out).mono ?_
        rintro e w2 ⟨rfl, hb2⟩
        have B2 := Lib.hid (HB1.out.trans (hb2.mono HB1.out.size))
        have k2 := HK1.out.below hb2 HK1.out.lt
        have x0 : w2.cell? ⟨w.heap.size, 0, none⟩ = some (.int .u8 k) := k2.at_ 0
        have x1 : w2.cell? ⟨w.heap.size, 1, none⟩ = some (.string N) := k2.at_ 1
        have x2 : w2.cell? ⟨w.heap.size, 2, none⟩ = some (.slice A xs.length c) := k2.at_ 2
        have K2 := Lib.hid k2
        clear k2 hb2
        have HBR := Lib.hid (abare_any w2 k N A xs.length c)
        go_wp2_with fail
        refine HBR.out.mono ?_
        rintro e w3 ⟨rfl, hb3⟩
        have B3 := Lib.hid (B2.out.trans (hb3.mono B2.out.size))
        have k3 := K2.out.below hb3 K2.out.lt
        have y2 : w3.cell? ⟨w.heap.size, 2, none⟩ = some (.slice A xs.length c) := k3.at_ 2
        have HCK := Lib.hid (HCH.out w3 B3.out)
        clear hb3 k3 x0 x1 x2
        by_cases hbr : k = 2 ∧ xs.length = 0
        · have hd : decide (k = 2 ∧ xs.length = 0) = true := decide_eq_true hbr
          have HOK := Lib.hid (show Ac.okS ⟨k, nm, xs⟩ from ⟨HKK.out, HZ2.out, Or.inl ⟨hbr.1, List.length_eq_zero_iff.1 hbr.2⟩⟩)
          rw [hd]
          clear hd hbr
          go_wp2
          go_ret
          exact ⟨⟨false, rfl, ⟨fun h => (by cases h), fun h => absurd HOK.out h⟩⟩, B3.out⟩
        · have hd : decide (k = 2 ∧ xs.length = 0) = false := decide_eq_false hbr
          have HNB := Lib.hid hbr
          rw [hd]
          clear hd hbr
          go_wp2_with fail
          refine HCK.out.mono ?_
          rintro e w4 ⟨rfl, hb4⟩
          have B4 := Lib.hid (B3.out.trans (hb4.mono B3.out.size))
          clear hb4 y2
          by_cases hch : ch = 0
          · have hcb : (ch != 0) = false := by rw [hch]; rfl
            have HOK := Lib.hid (show Ac.okS ⟨k, nm, xs⟩ from ⟨HKK.out, HZ2.out, Or.inr (HCC.out.symm.trans hch)⟩)
            clear hch
            go_wp2
            go_ret
            exact ⟨⟨false, rfl, ⟨fun h => (by cases h), fun h => absurd HOK.out h⟩⟩, B4.out⟩
          · have hcb : (ch != 0) = true := by simpa using hch
            have HOK := Lib.hid (show ¬ Ac.okS ⟨k, nm, xs⟩ from fun h => h.2.2.elim (fun q => HNB.out ⟨q.1, List.length_eq_zero_iff.2 q.2⟩) (fun q => hch (HCC.out.trans q)))
            clear hch
            go_wp2
            go_ret
            exact ⟨⟨true, rfl, ⟨fun _ => HOK.out, fun _ => rfl⟩⟩, B4.out⟩
      · have hzb : (z != 2) = true := by simpa using hz
        have HOK := Lib.hid (show ¬ Ac.okS ⟨k, nm, xs⟩ from fun h => hz (HZ.out.trans h.2.1))
        clear hz
        go_enter Tryz.func50, Tryz.ntmps50
        go_wp2_with fail
        rw [← HW1.out]
        refine (HIS.out).mono ?_
        rintro e w2 ⟨rfl, hb2⟩
        have B2 := Lib.hid (HB1.out.trans (hb2.mono HB1.out.size))
        have k2 := HK1.out.below hb2 HK1.out.lt
        have x0 : w2.cell? ⟨w.heap.size, 0, none⟩ = some (.int .u8 k) := k2.at_ 0
        have x1 : w2.cell? ⟨w.heap.size, 1, none⟩ = some (.string N) := k2.at_ 1
        have x2 : w2.cell? ⟨w.heap.size, 2, none⟩ = some (.slice A xs.length c) := k2.at_ 2
        have K2 := Lib.hid k2
        clear k2 hb2
        go_wp2
        go_ret
        exact ⟨⟨true, rfl, ⟨fun _ => HOK.out, fun _ => rfl⟩⟩, B2.out⟩
    · have e2 : (k != 2) = true := by simpa using hk2
      have HOK := Lib.hid (show ¬ Ac.okS ⟨k, nm, xs⟩ from fun h => h.1.elim hk1 hk2)
      clear hk1 hk2
      go_enter Tryz.func50, Tryz.ntmps50
      go_wp2
      go_ret
      rw [← HW1.out]
      exact ⟨⟨true, rfl, ⟨fun _ => HOK.out, fun _ => rfl⟩⟩, HB1.out⟩
end Go.Proofs.YtmmdigeciphglaaGreatDoor
namespace Go.Proofs.YtmmdigeciphglaaGreatDoor
open Go.RowKit Ex
structure CuR (B r : Nat) (w : World) (A : Option Addr) (c : Nat) (ls : List Lx.T) (i : Nat) (sv : Value) : Prop where
  base : B ≤ r
  blk : IsBlk w r 100 #[.slice A ls.length c, .int .i64 i, sv]
  tok : ToR w B A (ls.map mtk)
  le : i ≤ ls.length
  cap : ls.length ≤ c
  nn : A = none → c = 0
  pl : A = none ∨ ∃ g o, A = some ⟨g, o, none⟩
theorem CuR.below {B r : Nat} {w w' : World} {A : Option Addr} {c : Nat} {ls : List Lx.T} {i : Nat} {sv : Value} (h : CuR B r w A c ls i sv) (hb : Below w.heap.size w w') : CuR B r w' A c ls i sv :=
  ⟨h.base, h.blk.below hb h.blk.lt, h.tok.below (hb.mono (Nat.le_trans h.base (Nat.le_of_lt h.blk.lt))), h.le, h.cap, h.nn, h.pl⟩
theorem CuR.bw {B r : Nat} {w w' w0 : World} {A : Option Addr} {c : Nat} {ls : List Lx.T} {i : Nat} {sv : Value} (h : CuR B r w A c ls i sv) (h0 : Below B w0 w) (hb : Below w.heap.size w w') : Below B w0 w' := h0.trans (hb.mono (Nat.le_trans h.base (Nat.le_of_lt h.blk.lt)))
theorem CuR.cells {B r : Nat} {w : World} {A : Option Addr} {c : Nat} {ls : List Lx.T} {i : Nat} {sv : Value} (h : CuR B r w A c ls i sv) : w.cell? ⟨r, 0, none⟩ = some (.slice A ls.length c) ∧ w.cell? ⟨r, 1, none⟩ = some (.int .i64 i) ∧ w.cell? ⟨r, 2, none⟩ = some sv :=
  ⟨h.blk.at_ 0, h.blk.at_ 1, h.blk.at_ 2⟩
theorem CuR.seti {B r : Nat} {w : World} {A : Option Addr} {c : Nat} {ls : List Lx.T} {i : Nat} {sv : Value} (h : CuR B r w A c ls i sv) {k : Nat} (hk : k ≤ ls.length) : CuR B r (w.setCell ⟨r, 1, none⟩ (.int .i64 (k : Nat))) A c ls k sv ∧ Below B w (w.setCell ⟨r, 1, none⟩ (.int .i64 (k : Nat))) ∧ Kt [100] w (w.setCell ⟨r, 1, none⟩ (.int .i64 (k : Nat))) := by
  have hb : Below B w (w.setCell ⟨r, 1, none⟩ (.int .i64 (k : Nat))) := (Below.refl _ _).setCell (p := ⟨r, 1, none⟩) h.base _
  exact ⟨⟨h.base, h.blk.set 1 _, h.tok.below hb, hk, h.cap, h.nn, h.pl⟩, hb, Kt.set (p := ⟨r, 1, none⟩) h.blk (by simp) _⟩
theorem CuR.tcells {B r : Nat} {w : World} {A : Option Addr} {c : Nat} {ls : List Lx.T} {i : Nat} {sv : Value} (h : CuR B r w A c ls i sv) (hi : i < ls.length) : ∃ g o, A = some ⟨g, o, none⟩ ∧ g < w.heap.size ∧ w.cell? ⟨g, o + i * 3, none⟩ = some (.int .u8 ls[i].k) ∧ w.cell? ⟨g, o + i * 3 + 1, none⟩ = some (.string ⟨ls[i].tx.toArray⟩) ∧ w.cell? ⟨g, o + i * 3 + 2, none⟩ = some (.int .i64 (ls[i].p : Int)) := by
  obtain ⟨g, o, e, hg, c0, c1, c2⟩ := h.tok i (by rw [List.length_map]; exact hi)
  rw [List.getElem_map] at c0 c1 c2
  exact ⟨g, o, e, Nat.lt_of_lt_of_le hg (Nat.le_trans h.base (Nat.le_of_lt h.blk.lt)), c0, c1, c2⟩
def tkAt (ls : List Lx.T) (i : Nat) : Int × List UInt8 × Nat := match ls[i]? with
  | some t => (t.k, t.tx, t.p)
  | none => (0, [], 0)
def tkV3 (t : Int × List UInt8 × Nat) : Value := .agg #[.int .u8 t.1, .string ⟨t.2.1.toArray⟩, .int .i64 (t.2.2 : Int)]
theorem tkAt_lt {ls : List Lx.T} {i : Nat} (h : i < ls.length) : tkAt ls i = (ls[i].k, ls[i].tx, ls[i].p) := by unfold tkAt; rw [List.getElem?_eq_getElem h]
theorem tkAt_end {ls : List Lx.T} {i : Nat} (h : ls.length ≤ i) : tkAt ls i = (0, [], 0) := by unfold tkAt; rw [List.getElem?_eq_none h]
theorem kxs_len (ls : List Lx.T) : (kxs ls).length = ls.length := by unfold kxs; rw [List.length_map]
theorem kxs_drop {ls : List Lx.T} {i : Nat} (h : i < ls.length) : (kxs ls).drop i = (ls[i].k, ls[i].tx) :: (kxs ls).drop (i + 1) := by
  unfold kxs
  rw [List.drop_eq_getElem_cons (by rw [List.length_map]; exact h), List.getElem_map]
theorem kxs_tx (ls : List Lx.T) (i : Nat) : Ac.tx0 ((kxs ls).drop i) = (tkAt ls i).2.1 ∧ kd ((kxs ls).drop i) = (tkAt ls i).1 := by
  rcases Nat.lt_or_ge i ls.length with h | h
  · rw [kxs_drop h, tkAt_lt h]; exact ⟨rfl, rfl⟩
  · rw [List.drop_of_length_le (by rw [kxs_len]; exact h), tkAt_end h]; exact ⟨rfl, rfl⟩
set_option maxHeartbeats 4000000 in
set_option maxRecDepth 100000 in
theorem anext_any (B r : Nat) (w : World) (A : Option Addr) (c : Nat) (ls : List Lx.T) (i : Nat) (sv : Value) (h : CuR B r w A c ls i sv) (hn : ls.length ≤ 800000) :
    Calls Tryz.prog 72 #[.pointer (some ⟨r, 0, none⟩)] w fun e w' => e = .returned (tkV3 (tkAt ls i)) ∧ Below w.heap.size w w' := by
  obtain ⟨W1, hW1⟩ : ∃ W1, W1 = w.alloc (.cells #[.int .u8 0, .string ⟨#[]⟩, .int .i64 0] 143) := ⟨_, rfl⟩
  have hb1 : Below w.heap.size w W1 := by rw [hW1]; exact (Below.refl _ _).alloc (Nat.le_refl _) _
  have hk1 : IsBlk W1 w.heap.size 143 #[.int .u8 0, .string ⟨#[]⟩, .int .i64 0] := by rw [hW1]; exact IsBlk.new _ _ _
  have h1 := h.below hb1
  obtain ⟨d0, d1, -⟩ := h1.cells
  have k0 := fun (n : Nat) => (hk1.below (below_drewN (Below.refl _ _) n) hk1.lt).at_ 0
  have k1 := fun (n : Nat) => (hk1.below (below_drewN (Below.refl _ _) n) hk1.lt).at_ 1
  have k2 := fun (n : Nat) => (hk1.below (below_drewN (Below.refl _ _) n) hk1.lt).at_ 2
  have kf := fun (n j : Nat) => (hk1.below (below_drewN (Below.refl _ _) n) hk1.lt).fz j
  simp only [List.getElem?_toArray, List.getElem?_cons_zero, List.getElem?_cons_succ] at k0 k1 k2
  obtain ⟨n, hnl⟩ : ∃ n, n = ls.length := ⟨_, rfl⟩
  have hnI : (n : Int) ≤ 800000 := by omega
  have hcI : (n : Int) ≤ (c : Int) := by have := h.cap; omega
  rw [← hnl] at d0
  obtain ⟨R, hR⟩ : ∃ R, R = tkAt ls i := ⟨_, rfl⟩
  rw [← hR]
  have HW1 := Lib.hid hW1
  have HB1 := Lib.hid hb1
  have HBF := Lib.hid (fun (u : World) (hb : Below w.heap.size w u) (v0 v1 v2 : Value) => (((hb.setCell (p := ⟨w.heap.size, 0, none⟩) (Nat.le_refl _) v0).setCell (p := ⟨w.heap.size, 1, none⟩) (Nat.le_refl _) v1).setCell (p := ⟨w.heap.size, 2, none⟩) (Nat.le_refl _) v2 : Below w.heap.size w _))
  by_cases hi : i < ls.length
  · have hne : ((i : Int) == (n : Int)) = false := beq_eq_false_iff_ne.2 (by omega)
    have hi' : (i : Int) < (n : Int) := by omega
    obtain ⟨g, o, hA, hg, t0, t1, t2⟩ := h1.tcells hi
    subst hA
    rw [tkAt_lt hi] at hR
    generalize ls[i] = t at *
    obtain ⟨tk, tx, tp⟩ := t
    simp only at t0 t1 t2 hR
    subst hR
    obtain ⟨N, hN⟩ : ∃ N : ByteArray, N = ⟨tx.toArray⟩ := ⟨_, rfl⟩
    unfold tkV3
    simp only
    rw [← hN] at t1 ⊢
    clear hW1 hb1 hk1 h h1 hnl hN hi
    go_enter Tryz.func72, Tryz.ntmps72
    go_wp2_with fail
    rw [← HW1.out]
    go_quiet (fail)
    go_wp2_with fail
    go_region
    all_goals
      go_wp2
      refine bodyPost_ret (v := .agg #[.int .u8 tk, .string N, .int .i64 (tp : Int)]) (by simp [results, Tryz.results72, go_sem, k0, k1, k2]) rfl ?_
      exact ⟨rfl, HBF.out _ (below_drewN HB1.out _) _ _ _⟩
  · have hne : ((i : Int) == (n : Int)) = true := beq_iff_eq.2 (by have := h.le; omega)
    rw [tkAt_end (by omega)] at hR
    subst hR
    unfold tkV3
    clear hW1 hb1 hk1 h h1 hnl hi
    go_enter Tryz.func72, Tryz.ntmps72
    go_wp2_with fail
    rw [← HW1.out]
    go_quiet (fail)
    go_wp2
    refine bodyPost_ret (v := .agg #[.int .u8 0, .string ⟨#[]⟩, .int .i64 0]) (by simp [results, Tryz.results72, go_sem, k0, k1, k2]) rfl ?_
    exact ⟨rfl, HBF.out _ (below_drewN HB1.out _) _ _ _⟩
def RsP (B : Nat) (ls : List Lx.T) (i : Nat) (w : World) (e : Ending) (w' : World) : Prop :=
  Below w.heap.size w w' ∧ ∃ A' c', e = .returned (.slice A' (ls.length - i) c') ∧ ls.length - i ≤ c' ∧ ToR w' B A' ((ls.drop i).map mtk)
theorem ToR.drop {w : World} {B g o i : Nat} {ls : List Lx.T} (h : ToR w B (some ⟨g, o, none⟩) (ls.map mtk)) : ToR w B (some ⟨g, o + i * 3, none⟩) ((ls.drop i).map mtk) := fun j hj => by
  rw [List.length_map, List.length_drop] at hj
  obtain ⟨g', o', e, hg, c0, c1, c2⟩ := h (i + j) (by rw [List.length_map]; omega)
  injection e with e
  injection e with e1 e2 _
  subst e1 e2
  have hx : ((ls.drop i).map mtk)[j]'(by rw [List.length_map, List.length_drop]; exact hj) = (ls.map mtk)[i + j]'(by rw [List.length_map]; omega) := by
    rw [List.getElem_map, List.getElem_map, List.getElem_drop]
  rw [hx]
  refine ⟨g, o + i * 3, rfl, hg, ?_, ?_, ?_⟩
  · rw [show o + i * 3 + j * 3 = o + (i + j) * 3 by omega]; exact c0
  · rw [show o + i * 3 + j * 3 + 1 = o + (i + j) * 3 + 1 by omega]; exact c1
  · rw [show o + i * 3 + j * 3 + 2 = o + (i + j) * 3 + 2 by omega]; exact c2
theorem ToR.none_ {w : World} {B : Nat} {A : Option Addr} {ls : List Lx.T} {i : Nat} (h : ls.length ≤ i) : ToR w B A ((ls.drop i).map mtk) := fun j hj => by
  rw [List.length_map, List.length_drop] at hj
  omega
set_option maxHeartbeats 4000000 in
set_option maxRecDepth 100000 in
theorem arest_any (B r : Nat) (w : World) (A : Option Addr) (c : Nat) (ls : List Lx.T) (i : Nat) (sv : Value) (h : CuR B r w A c ls i sv) (hc : c ≤ maxLen) :
    Calls Tryz.prog 70 #[.pointer (some ⟨r, 0, none⟩)] w (RsP B ls i w) := by
  obtain ⟨d0, d1, -⟩ := h.cells
  have HT := Lib.hid (fun (n : Nat) => h.tok.below (below_drewN (Below.refl B w) n))
  have hcI : (ls.length : Int) ≤ (c : Int) := by have := h.cap; omega
  have hiI : (i : Int) ≤ (ls.length : Int) := by have := h.le; omega
  have hle := h.le
  have hcap := h.cap
  have hcm : (c : Int) ≤ 9223372036854775807 := by unfold maxLen at hc; omega
  by_cases hci : c = i
  · have hni : ls.length = i := by omega
    have hT0 := Lib.hid (fun (w1 : World) (A' : Option Addr) => ToR.none_ (w := w1) (B := B) (A := A) (ls := ls) (i := i) (by omega))
    have hT1 := Lib.hid (fun (w1 : World) (A' : Option Addr) => ToR.none_ (w := w1) (B := B) (A := A') (ls := ls) (i := i) (by omega))
    obtain ⟨n, hnl⟩ : ∃ n, n = ls.length := ⟨_, rfl⟩
    have HN := Lib.hid hnl
    rw [← hnl] at d0 hcI hiI hni
    subst hni
    subst hci
    clear h hc hle hcap hnl hT0
    go_enter Tryz.func70, Tryz.ntmps70
    go_wp2_with fail
    go_quiet (fail)
    go_wp2
    go_ret
    refine ⟨below_drewN (Below.refl _ _) _, A, 0, ?_, by rw [← HN.out]; omega, hT1.out _ _⟩
    rw [← HN.out]
    simp
  · have hic : i < c := by omega
    have hicI : (i : Int) < (c : Int) := by omega
    obtain ⟨g, o, rfl⟩ : ∃ g o, A = some ⟨g, o, none⟩ := by
      rcases h.pl with e | e
      · have := h.nn e; omega
      · exact e
    obtain ⟨n, hnl⟩ : ∃ n, n = ls.length := ⟨_, rfl⟩
    have HN := Lib.hid hnl
    rw [← hnl] at d0 hcI hiI hle
    have HCC := Lib.hid (show n - i ≤ c - i from by omega)
    clear h hc hcap hnl hci
    go_enter Tryz.func70, Tryz.ntmps70
    go_wp2_with fail
    go_quiet (fail)
    go_wp2
    go_ret
    refine ⟨below_drewN (Below.refl _ _) _, some ⟨g, o + i * 3, none⟩, c - i, ?_, by rw [← HN.out]; exact HCC.out, (HT.out _).drop⟩
    rw [← HN.out]
    rfl
end Go.Proofs.YtmmdigeciphglaaGreatDoor
namespace Go.Proofs.YtmmdigeciphglaaGreatDoor
open Go.RowKit Ex
theorem run_tok1 (k p : Int) (N : ByteArray) (w : World) : (Instr.field 143 (.agg #[.int .u8 k, .string N, .int .i64 p]) 1).run Tryz.prog w = .ok (.string N) w := by kernel_rfl
theorem run_tok2 (k p : Int) (N : ByteArray) (w : World) : (Instr.field 143 (.agg #[.int .u8 k, .string N, .int .i64 p]) 2).run Tryz.prog w = .ok (.int .i64 p) w := by kernel_rfl
abbrev AcK (w w' : World) : Prop := Kt [100] w w'
set_option maxHeartbeats 4000000 in
set_option maxRecDepth 100000 in
theorem aplace_any (B r : Nat) (w : World) (A : Option Addr) (c : Nat) (ls : List Lx.T) (i : Nat) (sv : Value) (h : CuR B r w A c ls i sv) (hn : ls.length ≤ 800000) (s : ByteArray) :
    Calls Tryz.prog 41 #[.pointer (some ⟨r, 0, none⟩), .string s] w fun e w' => e = .returned (.int .i64 (if i < ls.length then ((tkAt ls i).2.2 : Int) else (s.size : Int))) ∧ Below w.heap.size w w' := by
  have HN := Lib.hid (fun w1 (hb : Below w.heap.size w w1) => anext_any B r w1 A c ls i sv (h.below hb) hn)
  obtain ⟨d0, d1, -⟩ := h.cells
  have hcI : (ls.length : Int) ≤ (c : Int) := by have := h.cap; omega
  have hle := h.le
  have hnI : (ls.length : Int) ≤ 800000 := by omega
  by_cases hi : i < ls.length
  · rw [if_pos hi]
    have hne : ((i : Int) == (ls.length : Int)) = false := beq_eq_false_iff_ne.2 (by omega)
    generalize tkAt ls i = t at *
    obtain ⟨tk, tx, tp⟩ := t
    obtain ⟨n, hnl⟩ : ∃ n, n = ls.length := ⟨_, rfl⟩
    rw [← hnl] at d0 hcI hnI hne
    unfold tkV3 at HN
    have f2 := fun w0 => run_tok2 tk (tp : Int) ⟨tx.toArray⟩ w0
    clear h hn hle hnl hi
    go_enter Tryz.func41, Tryz.ntmps41
    go_wp2_with fail
    go_quiet (fail)
    go_wp2_with fail
    refine (HN.out _ (below_drewN (Below.refl _ _) _)).mono ?_
    rintro e w1 ⟨rfl, hb1⟩
    have HB := Lib.hid ((below_drewN (Below.refl w.heap.size w) _).trans (hb1.mono (below_drewN (Below.refl w.heap.size w) _).size))
    clear hb1
    go_wp2
    go_ret
    exact ⟨rfl, HB.out⟩
  · rw [if_neg hi]
    have hne : ((i : Int) == (ls.length : Int)) = true := beq_iff_eq.2 (by omega)
    obtain ⟨n, hnl⟩ : ∃ n, n = ls.length := ⟨_, rfl⟩
    rw [← hnl] at d0 hcI hnI hne
    clear h hn hle hnl hi HN
    go_enter Tryz.func41, Tryz.ntmps41
    go_wp2_with fail
    go_quiet (fail)
    go_wp2
    go_ret
    exact ⟨rfl, below_drewN (Below.refl _ _) _⟩
def CuS (B r : Nat) (w : World) (A : Option Addr) (c : Nat) (ls : List Lx.T) (i : Nat) (sv : Value) (w' : World) : Prop := CuR B r w' A c ls i sv ∧ Below B w w' ∧ AcK w w'
theorem CuS.of {B r : Nat} {w : World} {A : Option Addr} {c : Nat} {ls : List Lx.T} {i : Nat} {sv : Value} (h : CuR B r w A c ls i sv) : CuS B r w A c ls i sv w := ⟨h, Below.refl _ _, Kt.refl _ _⟩
theorem CuS.on {B r : Nat} {w w1 w2 : World} {A : Option Addr} {c : Nat} {ls : List Lx.T} {i : Nat} {sv : Value} (h : CuS B r w A c ls i sv w1) (hb : Below w1.heap.size w1 w2) : CuS B r w A c ls i sv w2 := ⟨h.1.below hb, h.1.bw h.2.1 hb, h.2.2.on hb⟩
theorem CuS.trans {B r : Nat} {w w1 w2 : World} {A : Option Addr} {c : Nat} {ls : List Lx.T} {i j : Nat} {sv : Value} (h1 : CuS B r w A c ls i sv w1) (h2 : CuS B r w1 A c ls j sv w2) : CuS B r w A c ls j sv w2 := ⟨h2.1, h1.2.1.trans h2.2.1, h1.2.2.trans h2.2.2⟩
theorem CuS.step {B r : Nat} {w w1 : World} {A : Option Addr} {c : Nat} {ls : List Lx.T} {i : Nat} {sv : Value} (h : CuS B r w A c ls i sv w1) {k : Nat} (hk : k ≤ ls.length) : CuS B r w A c ls k sv (w1.setCell ⟨r, 1, none⟩ (.int .i64 (k : Nat))) := by
  obtain ⟨a, b, d⟩ := h.1.seti hk
  exact ⟨a, h.2.1.trans b, h.2.2.trans d⟩
theorem tkAt_lt_of {ls : List Lx.T} {i : Nat} (h : (tkAt ls i).1 ≠ 0 ∨ (tkAt ls i).2.1 ≠ []) : i < ls.length := by
  rcases Nat.lt_or_ge i ls.length with h1 | h1
  · exact h1
  · rw [tkAt_end h1] at h
    rcases h with h | h
    · exact absurd rfl h
    · exact absurd rfl h
set_option maxHeartbeats 4000000 in
set_option maxRecDepth 100000 in
theorem aname_any (B r : Nat) (w : World) (A : Option Addr) (c : Nat) (ls : List Lx.T) (i : Nat) (sv : Value) (h : CuR B r w A c ls i sv) (hn : ls.length ≤ 800000) :
    Calls Tryz.prog 130 #[.pointer (some ⟨r, 0, none⟩)] w fun e w' =>
      ((tkAt ls i).1 = 2 ∧ i < ls.length ∧ e = .returned (.tuple #[.string ⟨(tkAt ls i).2.1.toArray⟩, .bool true]) ∧ CuS B r w A c ls (i + 1) sv w') ∨
      ((tkAt ls i).1 ≠ 2 ∧ e = .returned (.tuple #[.string ⟨#[]⟩, .bool false]) ∧ CuS B r w A c ls i sv w') := by
  have HN := Lib.hid (anext_any B r w A c ls i sv h hn)
  have hlt0 : (tkAt ls i).1 = 2 → i < ls.length := fun e => tkAt_lt_of (Or.inl (by rw [e]; decide))
  have hH := Lib.hid h
  generalize tkAt ls i = t at *
  obtain ⟨tk, tx, tp⟩ := t
  unfold tkV3 at HN
  simp only at HN hlt0 ⊢
  obtain ⟨N, hN⟩ : ∃ N : ByteArray, N = ⟨tx.toArray⟩ := ⟨_, rfl⟩
  rw [← hN] at HN ⊢
  clear hN
  by_cases hk : tk = 2
  · have hi := hlt0 hk
    have HK := Lib.hid hk
    have hkf : (tk != 2) = false := by rw [hk]; rfl
    have HI := Lib.hid hi
    clear hk
    have hiI := Lib.hid (show (i : Int) < 800000 by omega)
    clear hlt0 hn h hi
    go_enter Tryz.func130, Tryz.ntmps130
    go_wp2_with fail
    refine HN.out.mono ?_
    rintro e w1 ⟨rfl, hb1⟩
    have HB := Lib.hid ((CuS.of hH.out).on hb1)
    clear hb1
    obtain ⟨W2, hW2⟩ : ∃ W2, W2 = w1.alloc (.cells #[.int .u8 tk, .string N, .int .i64 (tp : Int)] 143) := ⟨_, rfl⟩
    have hb2 : Below w1.heap.size w1 W2 := by rw [hW2]; exact (Below.refl _ _).alloc (Nat.le_refl _) _
    have nk : IsBlk W2 w1.heap.size 143 #[.int .u8 tk, .string N, .int .i64 (tp : Int)] := by rw [hW2]; exact IsBlk.new _ _ _
    have x0 : W2.cell? ⟨w1.heap.size, 0, none⟩ = some (.int .u8 tk) := nk.at_ 0
    have HS := Lib.hid (HB.out.on hb2)
    have HS3 := Lib.hid (HS.out.step (k := i + 1) HI.out)
    have hrw : w1.heap.size ≠ r := fun e => by have := HB.out.1.blk.lt; omega
    have hcast : ((i + 1 : Nat) : Int) = (i : Int) + 1 := by omega
    have z1 := Lib.hid (show (W2.setCell ⟨r, 1, none⟩ (.int .i64 ((i : Int) + 1))).cell? ⟨w1.heap.size, 1, none⟩ = some (.string N) from (nk.far (p := ⟨r, 1, none⟩) hrw _).at_ 1)
    rw [hcast] at HS3
    have HW2 := Lib.hid hW2
    clear hb2 nk hrw hcast
    clear hW2
    have y1 := HS.out.1.cells.2.1
    have yf : W2.frozen? ⟨r, 1, none⟩ = false := HS.out.1.blk.fz 1
    have z1 := z1.out
    have hiI := hiI.out
    rw [HW2.out] at x0 y1 yf z1
    go_wp2
    rw [← HW2.out]
    refine bodyPost_ret (v := .tuple #[.string N, .bool true]) (by simp [results, Tryz.results130, go_sem]) rfl ?_
    exact Or.inl ⟨HK.out, HI.out, rfl, HS3.out⟩
  · have hkf : (tk == 2) = false := beq_eq_false_iff_ne.2 hk
    have HK := Lib.hid hk
    clear hlt0 hn h hk
    go_enter Tryz.func130, Tryz.ntmps130
    go_wp2_with fail
    refine HN.out.mono ?_
    rintro e w1 ⟨rfl, hb1⟩
    have HB := Lib.hid ((CuS.of hH.out).on hb1)
    clear hb1
    obtain ⟨W2, hW2⟩ : ∃ W2, W2 = w1.alloc (.cells #[.int .u8 tk, .string N, .int .i64 (tp : Int)] 143) := ⟨_, rfl⟩
    have hb2 : Below w1.heap.size w1 W2 := by rw [hW2]; exact (Below.refl _ _).alloc (Nat.le_refl _) _
    have nk : IsBlk W2 w1.heap.size 143 #[.int .u8 tk, .string N, .int .i64 (tp : Int)] := by rw [hW2]; exact IsBlk.new _ _ _
    have x0 : W2.cell? ⟨w1.heap.size, 0, none⟩ = some (.int .u8 tk) := nk.at_ 0
    have HS := Lib.hid (HB.out.on hb2)
    have HW2 := Lib.hid hW2
    clear hb2 nk
    clear hW2
    go_wp2_with fail
    rw [← HW2.out]
    go_wp2
    refine bodyPost_ret (v := .tuple #[.string ⟨#[]⟩, .bool false]) (by simp [results, Tryz.results130, go_sem]) rfl ?_
    exact Or.inr ⟨HK.out, rfl, HS.out⟩
def CmP (B r : Nat) (w : World) (A : Option Addr) (c : Nat) (ls : List Lx.T) (sv : Value) (X : List Tk × Bool) (e : Ending) (w' : World) : Prop :=
  e = .returned (.bool X.2) ∧ ∃ i', X.1 = (kxs ls).drop i' ∧ CuS B r w A c ls i' sv w'
def atxV (ts : List (List UInt8)) : List Value := ts.map fun t => .string ⟨t.toArray⟩
theorem kxs_tail (ls : List Lx.T) (i : Nat) : ((kxs ls).drop i).tail = (kxs ls).drop (i + 1) := by rw [List.tail_drop]
set_option maxHeartbeats 4000000 in
set_option maxRecDepth 100000 in
theorem acome_any (B r : Nat) (w : World) (A : Option Addr) (c : Nat) (ls : List Lx.T) (i : Nat) (sv : Value) (h : CuR B r w A c ls i sv) (hn : ls.length ≤ 800000) (g : Nat) (ts : List (List UInt8)) (hg : IsBlk w g 9 (atxV ts).toArray) (ht : ∀ t ∈ ts, t ≠ []) (hl : ts.length ≤ 9) :
    Calls Tryz.prog 103 #[.pointer (some ⟨r, 0, none⟩), .slice (some ⟨g, 0, none⟩) ts.length ts.length] w (CmP B r w A c ls sv (Ac.come ts ((kxs ls).drop i))) := by
  obtain ⟨X, hX⟩ : ∃ X, X = Ac.come ts ((kxs ls).drop i) := ⟨_, rfl⟩
  rw [← hX]
  have HH := Lib.hid h
  have HN := Lib.hid hn
  have HG := Lib.hid hg
  have HT := Lib.hid ht
  have HX := Lib.hid hX
  obtain ⟨n, hnl⟩ : ∃ n, n = ts.length := ⟨_, rfl⟩
  have HNL := Lib.hid hnl
  rw [← hnl]
  have hn9 : (n : Int) ≤ 9 := by omega
  clear h hn hg ht hX hl hnl
  go_enter Tryz.func103, Tryz.ntmps103
  go_wp2
  go_loopw [9] (fun kv wr => ∃ k j : Nat, kv = .int .i64 k ∧ k ≤ n ∧ Hid (CuS B r w A c ls j sv wr ∧ X = Ac.come (ts.drop k) ((kxs ls).drop j))) (fun kv _ => n - (intOf kv).toNat)
  case atStart => exact ⟨0, i, rfl, Nat.zero_le _, Lib.hid ⟨CuS.of HH.out, HX.out⟩⟩
  case round =>
    obtain ⟨k, j, rfl, hk, HI⟩ := hrel
    by_cases hlt : k < n
    · have hlt' : (k : Int) < (n : Int) := by omega
      have hkl : k < ts.length := by have := HNL.out; omega
      have hgw : IsBlk wr g 9 (atxV ts).toArray := HI.out.1.2.2.blk HG.out (by decide)
      have t0 : wr.cell? ⟨g, k, none⟩ = some (.string ⟨ts[k].toArray⟩) := by
        have := hgw.at_ k
        rw [this]
        unfold atxV
        simp [hkl]
      have hne := HT.out _ (List.getElem_mem hkl)
      have hcm : Ac.come (ts.drop k) ((kxs ls).drop j) = if (tkAt ls j).2.1 = ts[k] then Ac.come (ts.drop (k + 1)) ((kxs ls).drop (j + 1)) else ((kxs ls).drop j, false) := by
        rw [List.drop_eq_getElem_cons hkl, ← kxs_tail, ← (kxs_tx ls j).1]; rfl
      have HCM := Lib.hid (HI.out.2.trans hcm)
      have HNX := Lib.hid (anext_any B r wr A c ls j sv HI.out.1.1 HN.out)
      have HLT := Lib.hid (fun (e : (tkAt ls j).2.1 = ts[k]) => tkAt_lt_of (ls := ls) (i := j) (Or.inr (by rw [e]; exact hne)))
      have y1 := HI.out.1.1.cells.2.1
      clear hgw hcm hne
      generalize ts[k] = tx1 at *
      generalize tkAt ls j = q at *
      obtain ⟨tk, tx, tp⟩ := q
      unfold tkV3 at HNX
      simp only at HNX HCM HLT
      by_cases he : tx = tx1
      · subst he
        have hjl := HLT.out rfl
        have HX2 := Lib.hid (HCM.out.trans (if_pos rfl))
        obtain ⟨N, hN⟩ : ∃ N : ByteArray, N = ⟨tx.toArray⟩ := ⟨_, rfl⟩
        rw [← hN] at HNX t0
        have f1 := fun w0 => run_tok1 tk (tp : Int) N w0
        have HJ := Lib.hid hjl
        have hjI : (j : Int) < 800000 := by have := HN.out; omega
        clear hN HLT HCM hjl hlt hkl
        go_wp2_with fail
        refine HNX.out.mono ?_
        rintro e w1 ⟨rfl, hb1⟩
        have HS := Lib.hid (HI.out.1.on hb1)
        have y2 := HS.out.1.cells.2.1
        have yf : w1.frozen? ⟨r, 1, none⟩ = false := HS.out.1.blk.fz 1
        have HS3 := Lib.hid (HS.out.step (k := j + 1) HJ.out)
        have hcast : ((j + 1 : Nat) : Int) = (j : Int) + 1 := by omega
        rw [hcast] at HS3
        clear hb1 hcast t0 y1
        go_wp2
        go_roundw
        case rel => exact ⟨k + 1, j + 1, by go_num, by omega, Lib.hid ⟨HS3.out, HX2.out⟩⟩
        case measure => simp [intOf]; omega
      · have HX2 := Lib.hid (HCM.out.trans (if_neg he))
        have hf2 : ((⟨tx.toArray⟩ : ByteArray).toList == (⟨tx1.toArray⟩ : ByteArray).toList) = false := beq_eq_false_iff_ne.2 (fun e => he (by rw [Lib.toList_data, Lib.toList_data] at e; exact e))
        generalize (⟨tx.toArray⟩ : ByteArray) = N at *
        generalize (⟨tx1.toArray⟩ : ByteArray) = M at *
        have f1 := fun w0 => run_tok1 tk (tp : Int) N w0
        clear HLT HCM he hlt hkl
        go_wp2_with fail
        refine HNX.out.mono ?_
        rintro e w1 ⟨rfl, hb1⟩
        have HS := Lib.hid (HI.out.1.on hb1)
        clear hb1 t0 y1
        go_wp2
        go_ret
        exact ⟨by rw [HX2.out]; rfl, j, by rw [HX2.out], HS.out⟩
    · obtain rfl : k = n := by omega
      have HX2 := Lib.hid (show X = ((kxs ls).drop j, true) from by rw [HI.out.2, HNL.out, List.drop_length]; rfl)
      clear hlt hk
      go_wp2
      go_ret
      exact ⟨by rw [HX2.out]; rfl, j, by rw [HX2.out], HI.out.1⟩
end Go.Proofs.YtmmdigeciphglaaGreatDoor
