/- Facts and walks for the statement. -/
import Derived.Test.YteadfpkihhaadaaGreatDoorPz39
import Derived.Test.YteadfpkihhaadaaGreatDoorPz24
import Derived.Test.YteadfpkihhaadaaGreatDoorPz27
namespace Go.Proofs.YteadfpkihhaadaaGreatDoor
open Go.RowKit Go.Shelf
theorem element_any (B r : Nat) (A : Option Addr) (c : Nat) (ps : List RTok) (sz : Nat) (ok : ElOk ps) : ∀ f, ElC B r A c ps sz f := by
 intro f
 induction f using Nat.strongRecOn with
 | ind f ih =>
  cases f with
  | zero => intro w i nv qs a0 e0 pa deep _ _ h; omega
  | succ f => exact element_step B r A c ps sz ok f (fun f' h => ih f' (Nat.lt_succ_of_le h))
def RParP (R : List Tr.N × Nat × Int) (w : World) (e : Ending) (w' : World) : Prop :=
 ∃ v ps, e = .returned (.tuple #[.agg #[v], .int .i64 R.2.1, .int .i64 R.2.2]) ∧ NRow w.heap.size w' v ps ∧ ps.map (·.1) = R.1 ∧ Below w.heap.size w w'
structure RpI (w : World) (b r : Nat) (A : Option Addr) (c : Nat) (ps : List RTok) (sz : Nat) (wx : World) (i : Nat) (nv : Value) (qs : List (Tr.N × Value)) (a0 e0 : Int) : Prop where
 rd : RD (b + 1) r wx A c ps i nv qs a0 e0 sz
 res : IsBlk wx b 25 #[.slice none 0 0]
 bl : Below b w wx
theorem RpI.on {w : World} {b r : Nat} {A : Option Addr} {c : Nat} {ps : List RTok} {sz : Nat} {wx wy : World} {i i' : Nat} {nv nv' : Value} {qs qs' : List (Tr.N × Value)} {a0 e0 a1 e1 : Int} (h : RpI w b r A c ps sz wx i nv qs a0 e0) (hr : RD (b + 1) r wy A c ps i' nv' qs' a1 e1 sz) (hk : Kr wx wy) (hb : Below (b + 1) wx wy) : RpI w b r A c ps sz wy i' nv' qs' a1 e1 :=
 ⟨hr, hk.blk h.res (by decide) (by decide), h.bl.trans (hb.mono (Nat.le_succ b))⟩
set_option maxHeartbeats 8000000 in
set_option maxRecDepth 100000 in
theorem rparse_any (s : ByteArray) (hs : s.size ≤ 1000) (w : World) :
  Calls Tryz.prog 8 #[.string s] w (RParP (Tr.rparse s.data.toList) w) := by
 have hll : s.data.toList.length = s.size := (Lib.size_eq s).symm
 obtain ⟨W0, hW0⟩ : ∃ W0, W0 = w.alloc (.cells #[.slice none 0 0] 25) := ⟨_, rfl⟩
 have hb0 : Below w.heap.size w W0 := by rw [hW0]; exact (Below.refl _ _).alloc (Nat.le_refl _) _
 have hk0 : IsBlk W0 w.heap.size 25 #[.slice none 0 0] := by rw [hW0]; exact IsBlk.new _ _ _
 have HZ0 := Lib.hid (show W0.heap.size = w.heap.size + 1 by rw [hW0]; simp)
 have HTK := Lib.hid (rtokens_any s (by unfold maxLen; omega) W0)
 have HB0 := Lib.hid hb0
 have HK0 := Lib.hid hk0
 have HE0 := Lib.hid hW0
 have hkd := Tk.toks_kinds s.data.toList
 have htx := Tk.toks_txs s.data.toList
 have has := Tk.toks_as s.data.toList
 have hct := toks_count s.data.toList
 have HPR := Lib.hid (show Tr.rparse s.data.toList = if (Tk.toks s.data.toList).2.2 ≠ 0 then ([], (Tk.toks s.data.toList).2.1, (Tk.toks s.data.toList).2.2) else match Tr.blanksP (Tk.toks s.data.toList).1 with
  | [] => ([], s.size, 50)
  | t :: r => if t.k = 2 ∨ t.k = 4 then ([], t.p, 50)
   else match Tr.elP (2 * (t :: r).length + 2) s.size (t :: r) 0 (-1) 1 with
    | .bad a e => ([], a, e)
    | .ok r' M => match Tr.blanksP r' with
     | [] => (M, 0, 0)
     | t' :: _ => ([], t'.p, 50) from by unfold Tr.rparse; rw [hll]; rfl)
 obtain ⟨R, hR⟩ : ∃ R, R = Tr.rparse s.data.toList := ⟨_, rfl⟩
 rw [← hR] at HPR ⊢
 rw [hll] at htx hct
 clear hR hW0 hb0 hk0 hll
 obtain ⟨ts, hts⟩ : ∃ ts, ts = (Tk.toks s.data.toList).1 := ⟨_, rfl⟩
 obtain ⟨ta, hta⟩ : ∃ ts, ts = (Tk.toks s.data.toList).2.1 := ⟨_, rfl⟩
 obtain ⟨te, hte⟩ : ∃ ts, ts = (Tk.toks s.data.toList).2.2 := ⟨_, rfl⟩
 rw [← hts, ← hta, ← hte] at HPR
 rw [← hts] at hkd htx has hct
 unfold RCutP at HTK
 rw [← hts, ← hta, ← hte] at HTK
 have HFX := Lib.hid (And.intro hkd (And.intro htx (And.intro has hct)))
 clear hts hta hte hkd htx has hct
 obtain ⟨b, hb⟩ : ∃ b, b = w.heap.size := ⟨_, rfl⟩
 rw [← hb] at HK0 HZ0
 have HBE := Lib.hid hb
 clear hb
 go_enter Tryz.func8, Tryz.ntmps8
 go_wp2_with fail
 rw [← HE0.out, ← HBE.out]
 refine HTK.out.mono ?_
 rintro e w1 ⟨tv, ps, hps, hrow, rfl, h1⟩
 have B1 := Lib.hid (HB0.out.trans (h1.mono HB0.out.size))
 have k1 := HK0.out.below h1 HK0.out.lt
 have r0 : w1.cell? ⟨b, 0, none⟩ = some (.slice none 0 0) := k1.at_ 0
 have rf : w1.frozen? ⟨b, 0, none⟩ = false := k1.fz 0
 have HPS := Lib.hid hps
 have HRW := Lib.hid (show RRow (b + 1) w1 tv ps by rw [← HZ0.out]; exact hrow)
 have HK1 := Lib.hid k1
 have HSZ1 := Lib.hid (show b + 1 ≤ w1.heap.size by rw [← HZ0.out]; exact h1.size)
 clear hps hrow h1 k1
 by_cases hte : te = 0
 ·subst hte
  have HR := Lib.hid (HPR.out.trans (if_neg (by simp)))
  obtain ⟨At, ct, htv, hc1, hc2, hc3⟩ := own_sliced HRW.out.own
  subst htv
  obtain ⟨r, hr⟩ : ∃ r, r = w1.heap.size := ⟨_, rfl⟩
  obtain ⟨W2, hW2⟩ : ∃ W2, W2 = w1.alloc (.cells #[.slice At ps.length ct, .int .i64 0, .slice none 0 0, .int .i64 0, .int .i64 0, .int .i64 s.size] 61) := ⟨_, rfl⟩
  have hb2 : Below w1.heap.size w1 W2 := by rw [hW2]; exact (Below.refl _ _).alloc (Nat.le_refl _) _
  have HI2 := Lib.hid (show RpI w b r At ct ps s.size W2 0 (.slice none 0 0) [] 0 0 from ⟨⟨by rw [hr]; exact HSZ1.out, by rw [hr, hW2]; exact IsBlk.new _ _ _, NRow.nil _ _, HRW.out.below hb2⟩, HK1.out.below hb2 HK1.out.lt, by
   have := B1.out.trans (hb2.mono B1.out.size)
   rwa [← HBE.out] at this⟩)
  have hn : ps.length ≤ 1000 := by
   have := HFX.out.2.2.2
   rw [← HPS.out, List.length_map] at this
   omega
  have ok : ElOk ps := ⟨by omega, fun x hx => HFX.out.1 x.t (by rw [← HPS.out]; exact List.mem_map_of_mem hx), fun x hx => by
   have h1 := HFX.out.2.2.1 x.t (by rw [← HPS.out]; exact List.mem_map_of_mem hx)
   rw [HRW.out.says x hx, List.length_map] at h1
   omega, by have := HFX.out.2.1; rw [HPS.out]; omega⟩
  have htxs : ∀ x ∈ ps, x.t.tx.length ≤ 1000000 := fun x hx => by
   have h1 := txs_mem (show x.t ∈ ts by rw [← HPS.out]; exact List.mem_map_of_mem hx)
   have := HFX.out.2.1
   omega
  have HBK := Lib.hid (fun wx i nv qs a0 e0 (h : RpI w b r At ct ps s.size wx i nv qs a0 e0) (hi : i ≤ ps.length) => rdblanks_any (b + 1) r wx At ct ps i nv qs a0 e0 s.size h.rd (by omega) hi htxs)
  have HFA := Lib.hid (fun wx i nv qs a0 e0 (h : RpI w b r At ct ps s.size wx i nv qs a0 e0) (hi : i ≤ ps.length) => fails_any (b + 1) r wx At ct ps i nv qs a0 e0 s.size h.rd 50 (by omega) hi)
  have HEL := Lib.hid (fun f => element_any (b + 1) r At ct ps s.size ok f)
  have hsi : s.size ≤ 1000 := hs
  have HRW2 := Lib.hid hr
  have HW2 := Lib.hid hW2
  clear hr hW2 hb2 ok htxs hc3 r0 rf
  go_wp2_with fail
  rw [← HW2.out, ← HRW2.out]
  refine (HBK.out W2 0 _ _ _ _ HI2.out (Nat.zero_le _)).mono ?_
  rintro e w3 ⟨rfl, ⟨i1, hi1, _, hb1, rd1⟩, kr1, bl1⟩
  have HI3 := Lib.hid (HI2.out.on rd1 kr1 bl1)
  rw [List.drop_zero, HPS.out] at hb1
  have HBP := Lib.hid hb1
  clear rd1 kr1 bl1 hb1
  have HKD := Lib.hid HFX.out.1
  by_cases hlt : i1 < ps.length
  ·have hlt' : ((i1 : Int) == (ps.length : Int)) = false := by
    apply beq_eq_false_iff_ne.2; omega
   have hltb : (i1 : Int) < (ps.length : Int) := by omega
   obtain ⟨g, hA, hgc, t0, u1, u2, u3, u4⟩ := HI3.out.rd.tcells hlt
   clear u1 u2 u3 u4
   subst hA
   have hgc' : (ps.length : Int) ≤ (ct : Int) := by omega
   have HAT := Lib.hid (show atOf ps i1 s.size = ((ps[i1].t.p : Nat) : Int) from by unfold atOf; rw [List.getElem?_eq_getElem hlt]; rfl)
   have HKS := Lib.hid (HKD.out ps[i1].t (by rw [← HPS.out]; exact List.mem_map_of_mem (List.getElem_mem hlt)))
   obtain ⟨d0, d1, d2, d3, d4, d5⟩ := HI3.out.rd.cells
   have HM := Lib.hid (show R = if ps[i1].t.k = 2 ∨ ps[i1].t.k = 4 then ([], ps[i1].t.p, 50)
     else match Tr.elP (2 * (ps.length - i1) + 2) s.size ((ps.map (·.t)).drop i1) 0 (-1) 1 with
      | .bad a e => ([], a, e)
      | .ok r' M => match Tr.blanksP r' with
       | [] => (M, 0, 0)
       | t' :: _ => ([], t'.p, 50) from by
    have hl : (ps[i1].t :: (ps.map (·.t)).drop (i1 + 1)).length = ps.length - i1 := by
     rw [← drop_tok hlt, List.length_drop, List.length_map]
    rw [HR.out, HBP.out, ← HPS.out, drop_tok hlt]
    simp only
    rw [hl])
   have HE := Lib.hid (fun (hk : ps[i1].t.k = 1 ∨ ps[i1].t.k = 3) => HEL.out (2 * (ps.length - i1) + 2) w3 i1 _ _ 0 0 (-1) 1 HI3.out.rd hlt (by omega) (by simp) (by omega) hk)
   have HF3 := Lib.hid (HFA.out w3 i1 _ _ _ _ HI3.out hi1)
   generalize ps[i1].t = Y at *
   obtain ⟨K, hK⟩ : ∃ K, K = Y.k := ⟨_, rfl⟩
   rw [← hK] at t0 HM HE HKS
   clear hK hlt
   by_cases hk : K = 2 ∨ K = 4
   ·have HF := Lib.hid (show R = ([], Y.p, 50) by rw [HM.out, if_pos hk])
    clear HM HE
    rcases hk with rfl | rfl
    all_goals
     go_wp2_with fail
     refine HF3.out.mono ?_
     rintro e w5 ⟨rfl, rd5, kr5, bl5⟩
     rw [HAT.out] at rd5
     have HJ := Lib.hid (HI3.out.on rd5 kr5 bl5)
     clear rd5 kr5 bl5 d0 d1 d2 d3 d4 d5
     have r0 : w5.cell? ⟨b, 0, none⟩ = some (.slice none 0 0) := HJ.out.res.at_ 0
     have rf : w5.frozen? ⟨b, 0, none⟩ = false := HJ.out.res.fz 0
     obtain ⟨_, _, _, e3, e4, _⟩ := HJ.out.rd.cells
     go_wp2_with fail
     go_region
     have hq : (w5.setCell ⟨b, 0, none⟩ (.slice none 0 0)).cell? ⟨b, 0, none⟩ = some (.slice none 0 0) := (HJ.out.res.set 0 (.slice none 0 0)).at_ 0
     have HBL := Lib.hid (show Below w.heap.size w w5 from by have := HJ.out.bl; rwa [HBE.out] at this)
     have HLE := Lib.hid (show w.heap.size ≤ b by rw [HBE.out]; exact Nat.le_refl _)
     go_wp2
     exact bodyPost_ret (v := .tuple #[.agg #[.slice none 0 0], .int .i64 Y.p, .int .i64 50]) (by first | (simp [results, Tryz.results8, go_sem, hq]; done) | (simp [results, Tryz.results8, go_sem, r0]; done)) rfl ⟨.slice none 0 0, [], by rw [HF.out], NRow.nil _ _, by rw [HF.out]; rfl, by first | exact HBL.out | exact HBL.out.drew | exact (HBL.out.setCell (p := ⟨b, 0, none⟩) HLE.out _).drew | exact HBL.out.setCell (p := ⟨b, 0, none⟩) HLE.out _⟩
   ·have k2 : ((K : Int) == 2) = false := beq_eq_false_iff_ne.2 (fun e => hk (Or.inl e))
    have k4 : ((K : Int) == 4) = false := beq_eq_false_iff_ne.2 (fun e => hk (Or.inr e))
    have HM2 := Lib.hid (HM.out.trans (if_neg hk))
    have HE2 := Lib.hid (HE.out (by have := HKS.out; omega))
    clear HM HE HF3 hk
    obtain ⟨R1, hR1⟩ : ∃ R1, R1 = Tr.elP (2 * (ps.length - i1) + 2) s.size ((ps.map (·.t)).drop i1) 0 (-1) 1 := ⟨_, rfl⟩
    have HM3 := HM2.out
    have HE3 := HE2.out
    rw [show ([] : List (Tr.N × Value)).length = 0 from rfl] at HE3
    rw [← hR1] at HM3 HE3
    have HM4 := Lib.hid HM3
    have HE4 := Lib.hid HE3
    clear HM3 HE3 HM2 HE2 hR1
    go_wp2_with fail
    refine HE4.out.mono ?_
    rintro e w4 ⟨hm, kr4, bl4⟩
    cases R1 with
    | bad a er =>
     obtain ⟨rfl, i2, nv2, qs2, rd2⟩ := hm
     have HF := Lib.hid (show R = ([], a, er) from HM4.out)
     obtain ⟨w5, hw5⟩ : ∃ w5, w5 = w4 := ⟨_, rfl⟩
     rw [← hw5] at rd2 kr4 bl4 ⊢
     have HJ := Lib.hid (HI3.out.on rd2 kr4 bl4)
     clear rd2 kr4 bl4 d0 d1 d2 d3 d4 d5 hw5
     have r0 : w5.cell? ⟨b, 0, none⟩ = some (.slice none 0 0) := HJ.out.res.at_ 0
     have rf : w5.frozen? ⟨b, 0, none⟩ = false := HJ.out.res.fz 0
     obtain ⟨_, _, _, e3, e4, _⟩ := HJ.out.rd.cells
     go_wp2_with fail
     go_region
     have hq : (w5.setCell ⟨b, 0, none⟩ (.slice none 0 0)).cell? ⟨b, 0, none⟩ = some (.slice none 0 0) := (HJ.out.res.set 0 (.slice none 0 0)).at_ 0
     have HBL := Lib.hid (show Below w.heap.size w w5 from by have := HJ.out.bl; rwa [HBE.out] at this)
     have HLE := Lib.hid (show w.heap.size ≤ b by rw [HBE.out]; exact Nat.le_refl _)
     go_wp2
     exact bodyPost_ret (v := .tuple #[.agg #[.slice none 0 0], .int .i64 a, .int .i64 er]) (by first | (simp [results, Tryz.results8, go_sem, hq]; done) | (simp [results, Tryz.results8, go_sem, r0]; done)) rfl ⟨.slice none 0 0, [], by rw [HF.out], NRow.nil _ _, by rw [HF.out]; rfl, by first | exact HBL.out | exact HBL.out.drew | exact (HBL.out.setCell (p := ⟨b, 0, none⟩) HLE.out _).drew | exact HBL.out.setCell (p := ⟨b, 0, none⟩) HLE.out _⟩
    | ok rest M =>
     obtain ⟨rfl, i2, nv2, qs2, hi2, hrest, hmap, rd2⟩ := hm
     have HI4 := Lib.hid (HI3.out.on rd2 kr4 bl4)
     have HRM := Lib.hid (And.intro hrest hmap)
     clear rd2 kr4 bl4 d0 d1 d2 d3 d4 d5 hrest hmap
     go_wp2_with fail
     refine (HBK.out w4 i2 _ _ _ _ HI4.out hi2).mono ?_
     rintro e w6 ⟨rfl, ⟨i3, hi3, _, hb3, rd3⟩, kr3, bl3⟩
     have HI6 := Lib.hid (HI4.out.on rd3 kr3 bl3)
     rw [HRM.out.1] at hb3
     have HB3 := Lib.hid hb3
     obtain ⟨d0, d1, d2, d3, d4, d5⟩ := HI6.out.rd.cells
     clear rd3 kr3 bl3 hb3
     by_cases hlt : i3 < ps.length
     ·have hlt3 : (i3 : Int) < (ps.length : Int) := by omega
      have HAT3 := Lib.hid (show atOf ps i3 s.size = ((ps[i3].t.p : Nat) : Int) from by unfold atOf; rw [List.getElem?_eq_getElem hlt]; rfl)
      have HF := Lib.hid (show R = ([], ps[i3].t.p, 50) from by
       rw [HM4.out]
       rw [HB3.out, drop_tok hlt])
      have HF3 := Lib.hid (HFA.out w6 i3 _ _ _ _ HI6.out hi3)
      generalize ps[i3].t = Y3 at *
      clear hlt
      go_wp2_with fail
      refine HF3.out.mono ?_
      rintro e w5 ⟨rfl, rd5, kr5, bl5⟩
      rw [HAT3.out] at rd5
      have HJ := Lib.hid (HI6.out.on rd5 kr5 bl5)
      clear rd5 kr5 bl5 d0 d1 d2 d3 d4 d5
      have r0 : w5.cell? ⟨b, 0, none⟩ = some (.slice none 0 0) := HJ.out.res.at_ 0
      have rf : w5.frozen? ⟨b, 0, none⟩ = false := HJ.out.res.fz 0
      obtain ⟨_, _, _, e3, e4, _⟩ := HJ.out.rd.cells
      go_wp2_with fail
      go_region
      have hq : (w5.setCell ⟨b, 0, none⟩ (.slice none 0 0)).cell? ⟨b, 0, none⟩ = some (.slice none 0 0) := (HJ.out.res.set 0 (.slice none 0 0)).at_ 0
      have HBL := Lib.hid (show Below w.heap.size w w5 from by have := HJ.out.bl; rwa [HBE.out] at this)
      have HLE := Lib.hid (show w.heap.size ≤ b by rw [HBE.out]; exact Nat.le_refl _)
      go_wp2
      exact bodyPost_ret (v := .tuple #[.agg #[.slice none 0 0], .int .i64 Y3.p, .int .i64 50]) (by first | (simp [results, Tryz.results8, go_sem, hq]; done) | (simp [results, Tryz.results8, go_sem, r0]; done)) rfl ⟨.slice none 0 0, [], by rw [HF.out], NRow.nil _ _, by rw [HF.out]; rfl, by first | exact HBL.out | exact HBL.out.drew | exact (HBL.out.setCell (p := ⟨b, 0, none⟩) HLE.out _).drew | exact HBL.out.setCell (p := ⟨b, 0, none⟩) HLE.out _⟩
     ·have hlt3 : ¬ (i3 : Int) < (ps.length : Int) := by omega
      have HF := Lib.hid (show R = (M, 0, 0) from by
       rw [HM4.out]
       rw [HB3.out, List.drop_of_length_le (by rw [List.length_map]; omega)])
      obtain ⟨An, cn, hnv, _, _, _⟩ := own_sliced HI6.out.rd.row.own
      subst hnv
      have r0 : w6.cell? ⟨b, 0, none⟩ = some (.slice none 0 0) := HI6.out.res.at_ 0
      have rf : w6.frozen? ⟨b, 0, none⟩ = false := HI6.out.res.fz 0
      have hq : (w6.setCell ⟨b, 0, none⟩ (.slice An qs2.length cn)).cell? ⟨b, 0, none⟩ = some (.slice An qs2.length cn) := (HI6.out.res.set 0 (.slice An qs2.length cn)).at_ 0
      have HLE := Lib.hid (show w.heap.size ≤ b by rw [HBE.out]; exact Nat.le_refl _)
      have HBL := Lib.hid (show Below w.heap.size w w6 from by have := HI6.out.bl; rwa [HBE.out] at this)
      have HFR := Lib.hid (fun (B' : Nat) (e : TypeId) (size n : Nat) (v : Value) (xs : List Value) (h1 : w6.ownsRow B' e size v n xs) (hne : 25 ≠ e) => Fr.own h1 (Fr.set (F := fun x => x = b) w6 ⟨b, 0, none⟩ (.slice An qs2.length cn) rfl) (fun g hg e => blk_apart HI6.out.res h1 hne (e ▸ hg)))
      have HND := Lib.hid (show NRow w.heap.size (w6.setCell ⟨b, 0, none⟩ (.slice An qs2.length cn)) (.slice An qs2.length cn) qs2 from
       NRow.less ⟨HFR.out _ _ _ _ _ _ HI6.out.rd.row.own (by decide), fun x hx => HFR.out _ _ _ _ _ _ (HI6.out.rd.row.att x hx) (by decide)⟩ (by rw [HBE.out]; exact Nat.le_succ _))
      clear hlt
      go_wp2
      exact bodyPost_ret (v := .tuple #[.agg #[.slice An qs2.length cn], .int .i64 0, .int .i64 0]) (by simp [results, Tryz.results8, go_sem, hq]) rfl ⟨.slice An qs2.length cn, qs2, by rw [HF.out]; rfl, HND.out, by rw [HF.out]; exact HRM.out.2, HBL.out.setCell (p := ⟨b, 0, none⟩) HLE.out _⟩
  ·have heq : ((i1 : Int) == (ps.length : Int)) = true := by
    have : i1 = ps.length := by omega
    rw [this]; simp
   have HAT := Lib.hid (show atOf ps i1 s.size = (s.size : Int) from by unfold atOf; rw [List.getElem?_eq_none (by omega)]; rfl)
   have HF := Lib.hid (show R = ([], s.size, 50) from by
    rw [HR.out, HBP.out, ← HPS.out, List.drop_of_length_le (by rw [List.length_map]; omega)])
   have HF3 := Lib.hid (HFA.out w3 i1 _ _ _ _ HI3.out hi1)
   obtain ⟨d0, d1, d2, d3, d4, d5⟩ := HI3.out.rd.cells
   clear hlt
   go_wp2_with fail
   refine HF3.out.mono ?_
   rintro e w5 ⟨rfl, rd5, kr5, bl5⟩
   rw [HAT.out] at rd5
   have HJ := Lib.hid (HI3.out.on rd5 kr5 bl5)
   clear rd5 kr5 bl5 d0 d1 d2 d3 d4 d5
   have r0 : w5.cell? ⟨b, 0, none⟩ = some (.slice none 0 0) := HJ.out.res.at_ 0
   have rf : w5.frozen? ⟨b, 0, none⟩ = false := HJ.out.res.fz 0
   obtain ⟨_, _, _, e3, e4, _⟩ := HJ.out.rd.cells
   go_wp2_with fail
   go_region
   have hq : (w5.setCell ⟨b, 0, none⟩ (.slice none 0 0)).cell? ⟨b, 0, none⟩ = some (.slice none 0 0) := (HJ.out.res.set 0 (.slice none 0 0)).at_ 0
   have HBL := Lib.hid (show Below w.heap.size w w5 from by have := HJ.out.bl; rwa [HBE.out] at this)
   have HLE := Lib.hid (show w.heap.size ≤ b by rw [HBE.out]; exact Nat.le_refl _)
   go_wp2
   exact bodyPost_ret (v := .tuple #[.agg #[.slice none 0 0], .int .i64 s.size, .int .i64 50]) (by first | (simp [results, Tryz.results8, go_sem, hq]; done) | (simp [results, Tryz.results8, go_sem, r0]; done)) rfl ⟨.slice none 0 0, [], by rw [HF.out], NRow.nil _ _, by rw [HF.out]; rfl, by first | exact HBL.out | exact HBL.out.drew | exact (HBL.out.setCell (p := ⟨b, 0, none⟩) HLE.out _).drew | exact HBL.out.setCell (p := ⟨b, 0, none⟩) HLE.out _⟩
 ·have htn : (te == 0) = false := beq_eq_false_iff_ne.2 hte
  have HR := Lib.hid (show R = ([], ta, te) from by rw [HPR.out, if_pos hte])
  clear hte
  go_wp2
  exact bodyPost_ret (v := .tuple #[.agg #[.slice none 0 0], .int .i64 ta, .int .i64 te]) (by simp [results, Tryz.results8, go_sem, r0]) rfl ⟨.slice none 0 0, [], by rw [HR.out], NRow.nil _ _, by rw [HR.out]; rfl, by first | exact B1.out | exact B1.out.setCell (p := ⟨b, 0, none⟩) (by show w.heap.size ≤ b; rw [HBE.out]; exact Nat.le_refl _) _⟩
end Go.Proofs.YteadfpkihhaadaaGreatDoor
