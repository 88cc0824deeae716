/- Facts and walks for the statement. -/
import Derived.Test.YteadfpkihhaadaaGreatDoorPz24
import Derived.Test.YteadfpkihhaadaaGreatDoorPz12
namespace Go.Proofs.YteadfpkihhaadaaGreatDoor
open Go.RowKit
theorem incr_len : ∀ (ps : List Nat) (lo n : Nat), ps.Pairwise (· < ·) → (∀ p ∈ ps, lo ≤ p ∧ p < n) → ps.length ≤ n - lo
 | [], _, _, _, _ => Nat.zero_le _
 | p :: ps, lo, n, h, hb => by
  have h1 := List.pairwise_cons.1 h
  have h2 := hb p List.mem_cons_self
  have := incr_len ps (p + 1) n h1.2 (fun q hq => ⟨h1.1 q hq, (hb q (List.mem_cons_of_mem _ hq)).2⟩)
  rw [List.length_cons]; omega
theorem toks_count (L : List UInt8) : (Tk.toks L).1.length ≤ L.length := by
 by_cases h : (Tk.toks L).2.2 = 0
 ·have ho := ((Tk.toks_ord L).1 h).1
  have := incr_len ((Tk.toks L).1.map Tk.T.p) 0 L.length (by rw [List.pairwise_map]; exact ho.2) (by
   intro p hp
   obtain ⟨t, ht, rfl⟩ := List.mem_map.1 hp
   exact ⟨Nat.zero_le _, (ho.1 t ht).2⟩)
  rw [List.length_map] at this
  omega
 ·rw [((Tk.toks_ord L).2 h).1]; exact Nat.zero_le _
theorem txs_mem {ts : List Tk.T} {t : Tk.T} (h : t ∈ ts) : t.tx.length ≤ Tk.txs ts := by
 unfold Tk.txs
 induction ts with
 | nil => cases h
 | cons x l ih =>
  rw [List.map_cons, List.sum_cons]
  rcases List.mem_cons.1 h with rfl | h
  ·omega
  ·have := ih h; omega
theorem txs_take_le (ts : List Tk.T) (k : Nat) : Tk.txs (ts.take k) ≤ Tk.txs ts := by
 conv => rhs; rw [← List.take_append_drop k ts]
 unfold Tk.txs
 rw [List.map_append, List.sum_append]; omega
theorem tokV_len (x : Tk.T × Value) : (tokV x).length = 5 := rfl
theorem PaI.start {B len : Nat} {w w1 : World} {tv : Value} {ps : List (Tk.T × Value)} {R : List Tr.N × Nat × Int} (h1 : Below B w w1) (hres : IsBlk w1 B 31 #[.slice none 0 0]) (hrow : TokRow B w1 tv ps) (hR : R = Tr.loop len (ps.map (·.1)) Tr.G0) :
  PaI B len w tv ps w1.heap.size R (w1.alloc (.cells #[.slice none 0 0, .slice none 0 0] 74)) 0 0 ⟨.slice none 0 0, [], .slice none 0 0, []⟩ := by
 have hb : Below w1.heap.size w1 (w1.alloc (.cells #[.slice none 0 0, .slice none 0 0] 74)) := (Below.refl _ _).alloc (Nat.le_refl _) _
 have hlt := hres.lt
 refine ⟨h1.trans (hb.mono (Nat.le_of_lt hlt)), hres.below hb hlt, ⟨Nat.le_of_lt hlt, IsBlk.new _ _ _, World.ownsRow_nil _ _ _ _, World.ownsRow_nil _ _ _ _, fun _ h => (by cases h), List.Pairwise.nil, fun _ h => (by cases h), fun _ h => (by cases h), Tr.Ok.zero⟩, Nat.ne_of_lt hlt, own_below hrow.own hb, fun j hj _ => own_below (hrow.att _ (List.getElem_mem hj)) hb, fun _ h => (by cases h), ?_, ?_⟩
 ·rw [hR, List.drop_zero]; rfl
 ·rw [List.take_zero]; exact Tr.Bd.zero
set_option maxHeartbeats 8000000 in
set_option maxRecDepth 100000 in
theorem parse_any (s : ByteArray) (hs : s.size ≤ maxLen) (w : World) (T : Tb w) (hmx : Mx w) :
  Calls Tryz.prog 9 #[.string s] w (ParP (Tr.parse s.data.toList) w) := by
 have hll : s.data.toList.length = s.size := (Lib.size_eq s).symm
 obtain ⟨W0, hW0⟩ : ∃ W0, W0 = w.alloc (.cells #[.slice none 0 0] 31) := ⟨_, rfl⟩
 have hb0 : Below w.heap.size w W0 := by rw [hW0]; exact (Below.refl _ _).alloc (Nat.le_refl _) _
 have hk0 : IsBlk W0 w.heap.size 31 #[.slice none 0 0] := by rw [hW0]; exact IsBlk.new _ _ _
 have HTK := Lib.hid (tokens_any s hs W0 (T.below hb0 (Nat.le_refl _)) (hmx.below hb0))
 have HB0 := Lib.hid hb0
 have HK0 := Lib.hid hk0
 have HE0 := Lib.hid hW0
 have HTX := Lib.hid (Tk.toks_txs s.data.toList)
 have HKD := Lib.hid (Tk.toks_kinds s.data.toList)
 have HAS := Lib.hid (Tk.toks_as s.data.toList)
 have HSH := Lib.hid (Tk.toks_short s.data.toList)
 have HCT := Lib.hid (toks_count s.data.toList)
 have HPR := Lib.hid (show Tr.parse s.data.toList = if (Tk.toks s.data.toList).2.2 ≠ 0 then ([], (Tk.toks s.data.toList).2.1, (Tk.toks s.data.toList).2.2) else Tr.loop s.size (Tk.toks s.data.toList).1 Tr.G0 from by unfold Tr.parse; rw [hll])
 obtain ⟨R, hR⟩ : ∃ R, R = Tr.parse s.data.toList := ⟨_, rfl⟩
 rw [← hR] at HPR ⊢
 have HLL := Lib.hid hll
 clear hR hs T hmx hW0 hb0 hk0 hll
 obtain ⟨ts, hts⟩ : ∃ ts, ts = (Tk.toks s.data.toList).1 := ⟨_, rfl⟩
 obtain ⟨ta, hta⟩ : ∃ ts, ts = (Tk.toks s.data.toList).2.1 := ⟨_, rfl⟩
 obtain ⟨te, hte⟩ : ∃ ts, ts = (Tk.toks s.data.toList).2.2 := ⟨_, rfl⟩
 rw [← hts, ← hta, ← hte] at HPR
 rw [← hts] at HTX HKD HAS HSH HCT
 unfold CutP at HTK
 rw [← hts, ← hta, ← hte] at HTK
 clear hts hta hte
 obtain ⟨b, hb⟩ : ∃ b, b = w.heap.size := ⟨_, rfl⟩
 rw [← hb] at HK0
 have HBE := Lib.hid hb
 clear hb
 go_enter Tryz.func9, Tryz.ntmps9
 go_wp2_with fail
 rw [← HE0.out, ← HBE.out]
 refine HTK.out.mono ?_
 rintro e w1 ⟨tv, ps, hps, hrow, rfl, h1⟩
 have B1 := Lib.hid (HB0.out.trans (h1.mono HB0.out.size))
 have k1 := HK0.out.below h1 HK0.out.lt
 have r0 : w1.cell? ⟨b, 0, none⟩ = some (.slice none 0 0) := k1.at_ 0
 have rf : w1.frozen? ⟨b, 0, none⟩ = false := k1.fz 0
 have HPS := Lib.hid hps
 have HRW := Lib.hid (hrow.less HB0.out.size)
 have HK1 := Lib.hid k1
 clear hps hrow h1 k1
 by_cases hte : te = 0
 ·subst hte
  have HR := Lib.hid (show R = Tr.loop s.size ts Tr.G0 from by rw [HPR.out, if_neg (by simp)])
  have HAP := Lib.hid (show Apart5 ps from HRW.out.apart)
  have HSL := Lib.hid (show s.size ≤ 65536 ∨ ps = [] from by
   rcases Nat.lt_or_ge 65536 s.size with h | h
   ·right
    have := HSH.out (by rw [HLL.out]; exact h)
    rw [← HPS.out] at this
    exact List.map_eq_nil_iff.1 this
   ·exact Or.inl h)
  obtain ⟨At, ct, htv, hc1, hc2, hc3⟩ := own_sliced HRW.out.own
  subst htv
  obtain ⟨r, hr⟩ : ∃ r, r = w1.heap.size := ⟨_, rfl⟩
  obtain ⟨W2, hW2⟩ : ∃ W2, W2 = w1.alloc (.cells #[.slice none 0 0, .slice none 0 0] 74) := ⟨_, rfl⟩
  have HS := Lib.hid (show PaI b s.size w (.slice At ps.length ct) ps r R W2 0 0 ⟨.slice none 0 0, [], .slice none 0 0, []⟩ from by
   rw [hr, hW2]
   refine PaI.start ?_ HK1.out ?_ ?_
   ·rw [HBE.out]; exact B1.out
   ·rw [HBE.out]; exact HRW.out
   ·rw [HR.out, HPS.out])
  have HN := Lib.hid hc3
  have HW2 := Lib.hid hW2
  have HRR := Lib.hid hr
  have hn : ps.length ≤ 9223372036854775807 := by unfold maxLen at hc2; omega
  have hnc : (ps.length : Int) ≤ (ct : Int) := by omega
  clear hW2 hr hc3 r0 rf
  go_wp2
  rw [← HW2.out, ← HRR.out]
  go_loopw [23] (fun i wr => ∃ (k : Nat) (m : Gm), i = .int .i64 k ∧ k ≤ ps.length ∧ Hid (PaI b s.size w (.slice At ps.length ct) ps r R wr k k m)) (fun i _ => ps.length - (intOf i).toNat)
  case atStart => exact ⟨0, _, rfl, Nat.zero_le _, HS⟩
  case round =>
   obtain ⟨k, m, rfl, hk, HI⟩ := hrel
   by_cases hlt : k < ps.length
   ·have hlt' : (k : Int) < (ps.length : Int) := by omega
    obtain ⟨tg, hAt, htg1, htg2⟩ := HN.out (by omega)
    subst hAt
    have HT := Lib.hid (show ps[k].1 ∈ ts from by rw [← HPS.out]; exact List.mem_map.2 ⟨_, List.getElem_mem hlt, rfl⟩)
    have hrest := HI.out.rest k hlt (Nat.le_refl _)
    obtain ⟨Ak, ck, hav, _, _, _⟩ := own_sliced hrest
    have q0 := (World.ownsRow.cellAt HI.out.tok (k * 5 + 0) (by omega)).trans (fl_at tokV_len ps k 0 hlt (by omega))
    rw [Nat.add_zero] at q0
    have q1 := (World.ownsRow.cellAt HI.out.tok (k * 5 + 1) (by omega)).trans (fl_at tokV_len ps k 1 hlt (by omega))
    have q2 := (World.ownsRow.cellAt HI.out.tok (k * 5 + 2) (by omega)).trans (fl_at tokV_len ps k 2 hlt (by omega))
    have q3 := (World.ownsRow.cellAt HI.out.tok (k * 5 + 3) (by omega)).trans (fl_at tokV_len ps k 3 hlt (by omega))
    have q4 := (World.ownsRow.cellAt HI.out.tok (k * 5 + 4) (by omega)).trans (fl_at tokV_len ps k 4 hlt (by omega))
    have hq := HT.out
    have has := HAS.out _ HT.out
    have hkd := HKD.out _ HT.out
    have htx : ps[k].1.tx.length ≤ 6 * s.size := by have h1 := txs_mem HT.out; have h2 := HTX.out; rw [HLL.out] at h2; omega
    have hsz : s.size ≤ 65536 := by
     rcases HSL.out with h | h
     ·exact h
     ·rw [h] at hlt; simp at hlt
    have hcnt : ps.length ≤ s.size := by have := HCT.out; rw [← HPS.out, List.length_map, HLL.out] at this; exact this
    have hbd := Tr.inn_bd HI.out.bd
    have htxs : Tk.txs ((ps.map (·.1)).take k) ≤ 6 * s.size := by
     have h1 := txs_take_le (ps.map (·.1)) k
     rw [HPS.out] at h1 ⊢
     have h2 := HTX.out
     rw [HLL.out] at h2
     omega
    have hns := HI.out.bd.ns
    have hop := HI.out.bd.op
    simp only [Gm.g, List.length_map] at hns hop
    have HFT := Lib.hid (show Fits5 m from ⟨by omega, hop, by omega, by omega⟩)
    have HSRT := Lib.hid (fun W3 (hb : Below wr.heap.size wr W3) => sort_any W3 b ps[k].2 ps[k].1.as (own_below hrest hb) (by omega))
    have HNX := Lib.hid (fun W3 w4 (hb : Below wr.heap.size wr W3) (hgr : W3.grownBy w4 ps[k].2.ownBlock) => (HI.out.on hb).sorted HAP.out hlt hgr)
    have HTK2 := Lib.hid (fun w5 w6 m' d (h : PaI b s.size w (.slice (some ⟨tg, 0, none⟩) ps.length ct) ps r R w5 k (k + 1) m) hp hu hd hw hg hm htr => PaI.taken (w' := w6) (m' := m') (d := d) (A := Ak) (c := ck) h hlt hp hu (by rw [hav, hp.length_eq]) hd hw hg hm htr)
    have HBD := Lib.hid (fun w5 d (h : PaI b s.size w (.slice (some ⟨tg, 0, none⟩) ps.length ct) ps r R w5 k (k + 1) m) hp hu hw => PaI.bad (d := d) h hlt hp hu hw)
    obtain ⟨t, ht⟩ : ∃ t, t = ps[k].1 := ⟨_, rfl⟩
    have HWR := Lib.hid (fun w5 (h : PaI b s.size w (.slice (some ⟨tg, 0, none⟩) ps.length ct) ps r R w5 k (k + 1) m) (d : List Tr.At) (hd : d.length = t.as.length) (ho : OwnT b w5 ps[k].2 d) => (show Calls Tryz.prog 28 #[.pointer (some ⟨r, 0, none⟩), .agg (tokC5 t Ak ck)] w5 fun e w' => e = .returned (.int .i64 (Tr.wrongAs m.g ⟨t.k, t.nm, d, t.tx, t.p⟩)) ∧ Below w5.heap.size w5 w' from by
     have hnd : NdOk w5 w5.heap.size ⟨Tr.nodeAs ⟨t.k, t.nm, d, t.tx, t.p⟩, Ak, ck⟩ := OwnT.nd (x := Tr.nodeAs ⟨t.k, t.nm, d, t.tx, t.p⟩) (by rw [hav] at ho; rw [← ht, ← hd] at ho; exact ho)
     have := wrong_any b w5 r m h.gs ⟨t.k, t.nm, d, t.tx, t.p⟩ Ak ck (by rw [ht]; exact hkd) (by rw [ht]; simp only; omega) hnd
     unfold tokC5 at this ⊢
     simp only [hd] at this
     exact this))
    have HTA := Lib.hid (fun w5 (h : PaI b s.size w (.slice (some ⟨tg, 0, none⟩) ps.length ct) ps r R w5 k (k + 1) m) (d : List Tr.At) (hd : d.length = t.as.length) (ho : OwnT b w5 ps[k].2 d) (hw : Tr.wrongAs m.g ⟨t.k, t.nm, d, t.tx, t.p⟩ = 0) => (show Calls Tryz.prog 29 #[.pointer (some ⟨r, 0, none⟩), .agg (tokC5 t Ak ck)] w5 (SetP b r w5 m (fun g => Tr.takeAs g ⟨t.k, t.nm, d, t.tx, t.p⟩) (some ⟨Tr.nodeAs ⟨t.k, t.nm, d, t.tx, t.p⟩, Ak, ck⟩)) from by
     have ho2 : OwnT b w5 (.slice Ak d.length ck) d := by rw [hav] at ho; rw [← ht, ← hd] at ho; exact ho
     have hnd : NdOk w5 w5.heap.size ⟨Tr.nodeAs ⟨t.k, t.nm, d, t.tx, t.p⟩, Ak, ck⟩ := OwnT.nd (x := Tr.nodeAs ⟨t.k, t.nm, d, t.tx, t.p⟩) ho2
     have := take_any b w5 r m h.gs ⟨t.k, t.nm, d, t.tx, t.p⟩ Ak ck (by rw [ht]; exact hkd) (fun hk2 he => Tr.wrong_open hw hk2 (by unfold Gm.g; simp [he])) HFT.out ⟨hnd, fun h0 a ha => h.gs.not_row ho2 (by decide) (by decide) (by decide) (by decide) a.block (by rw [ha]; rfl)⟩
     unfold tokC5 at this ⊢
     simp only [hd] at this
     exact this))
    have hlk : k < ps.length := hlt
    rw [← ht] at HSRT HTK2 HBD
    have q2' : wr.cell? ⟨tg, k * 5 + 2, none⟩ = some (.slice Ak t.as.length ck) := by rw [q2, ht, ← hav]; rfl
    have hBX := Lib.hid (fun w4 (W3 : World) (hk3 : IsBlk W3 wr.heap.size 76 (tokC5 t Ak ck)) (ho : OwnT b W3 ps[k].2 t.as) (hgr : W3.grownBy w4 ps[k].2.ownBlock) => hk3.grown hgr (fun e => blk_apart hk3 ho (by decide) e.symm))
    have HRS := Lib.hid (show OwnT b wr ps[k].2 t.as from by rw [ht]; exact hrest)
    rw [← ht] at hav
    have HAV := Lib.hid hav
    generalize ps[k].2 = av at *
    have q0' : wr.cell? ⟨tg, k * 5, none⟩ = some (.int .u8 t.k) := by rw [q0]; unfold tokV; rw [← ht]; rfl
    have q1' : wr.cell? ⟨tg, k * 5 + 1, none⟩ = some (.string ⟨t.nm.toArray⟩) := by rw [q1]; unfold tokV; rw [← ht]; rfl
    have q3' : wr.cell? ⟨tg, k * 5 + 3, none⟩ = some (.string ⟨t.tx.toArray⟩) := by rw [q3]; unfold tokV; rw [← ht]; rfl
    have q4' : wr.cell? ⟨tg, k * 5 + 4, none⟩ = some (.int .i64 t.p) := by rw [q4]; unfold tokV; rw [← ht]; rfl
    clear q0 q1 q2 q3 q4 hq has hkd htx hsz hcnt hbd htxs hns hop hrest ht hav hlk
    obtain ⟨W3, hW3⟩ : ∃ W3, W3 = wr.alloc (.cells (tokC5 t Ak ck) 76) := ⟨_, rfl⟩
    have hb3 : Below wr.heap.size wr W3 := by rw [hW3]; exact (Below.refl _ _).alloc (Nat.le_refl _) _
    have HK3 := Lib.hid (show IsBlk W3 wr.heap.size 76 (tokC5 t Ak ck) from by rw [hW3]; exact IsBlk.new _ _ _)
    have HB3 := Lib.hid hb3
    have HW3 := Lib.hid hW3
    have HSR := Lib.hid (HSRT.out W3 hb3)
    rw [HAV.out] at HSR
    clear hb3 hW3
    unfold tokC5 at HW3
    clear HT hk
    have HLT := Lib.hid hlt
    go_wp2_with fail
    rw [← HW3.out]
    refine HSR.out.mono ?_
    rintro e w4 ⟨rfl, d, hdp, hdu, hdo, hgr⟩
    rw [← HAV.out] at hdo hgr
    have hdl := hdp.length_eq
    have hJ := HNX.out W3 w4 HB3.out hgr
    have hB4 := hBX.out w4 W3 HK3.out (own_below HRS.out HB3.out) hgr
    have HJ := Lib.hid hJ
    have HB4 := Lib.hid hB4
    have HD := Lib.hid (And.intro hdp (And.intro hdu (And.intro hdo hdl)))
    have z0 : w4.cell? ⟨wr.heap.size, 0, none⟩ = some (.int .u8 t.k) := hB4.at_ 0
    have z1 : w4.cell? ⟨wr.heap.size, 1, none⟩ = some (.string ⟨t.nm.toArray⟩) := hB4.at_ 1
    have z2 : w4.cell? ⟨wr.heap.size, 2, none⟩ = some (.slice Ak t.as.length ck) := hB4.at_ 2
    have z3 : w4.cell? ⟨wr.heap.size, 3, none⟩ = some (.string ⟨t.tx.toArray⟩) := hB4.at_ 3
    have z4 : w4.cell? ⟨wr.heap.size, 4, none⟩ = some (.int .i64 t.p) := hB4.at_ 4
    have HWC := Lib.hid (HWR.out w4 hJ d hdl hdo)
    unfold tokC5 at HWC
    obtain ⟨E, hE⟩ : ∃ E, E = Tr.wrongAs m.g ⟨t.k, t.nm, d, t.tx, t.p⟩ := ⟨_, rfl⟩
    rw [← hE] at HWC
    have HE := Lib.hid hE
    clear hJ hB4 hdp hdu hdo hdl hgr hE
    go_wp2_with fail
    refine HWC.out.mono ?_
    rintro e w5 ⟨rfl, h5⟩
    have HJ5 := Lib.hid (HJ.out.on h5)
    have HB5 := Lib.hid (HB4.out.below h5 HB4.out.lt)
    have HD5 := Lib.hid (own_below HD.out.2.2.1 h5)
    clear h5 z0 z1 z2 z3 z4
    have z0 : w5.cell? ⟨wr.heap.size, 0, none⟩ = some (.int .u8 t.k) := HB5.out.at_ 0
    have z1 : w5.cell? ⟨wr.heap.size, 1, none⟩ = some (.string ⟨t.nm.toArray⟩) := HB5.out.at_ 1
    have z2 : w5.cell? ⟨wr.heap.size, 2, none⟩ = some (.slice Ak t.as.length ck) := HB5.out.at_ 2
    have z3 : w5.cell? ⟨wr.heap.size, 3, none⟩ = some (.string ⟨t.tx.toArray⟩) := HB5.out.at_ 3
    have z4 : w5.cell? ⟨wr.heap.size, 4, none⟩ = some (.int .i64 t.p) := HB5.out.at_ 4
    by_cases hE0 : E = 0
    ·subst hE0
     have HTC := Lib.hid (HTA.out w5 HJ5.out d HD.out.2.2.2 HD5.out HE.out.symm)
     unfold tokC5 SetP at HTC
     go_wp2_with fail
     refine HTC.out.mono ?_
     rintro e w6 ⟨m', rfl, hg, hm, htr⟩
     have HN6 := Lib.hid (HTK2.out w5 w6 m' d HJ5.out HD.out.1 HD.out.2.1 HD5.out HE.out.symm hg hm htr)
     clear hg hm htr z0 z1 z2 z3 z4
     go_wp2
     go_roundw
     case rel => exact ⟨k + 1, m', by go_num, HLT.out, HN6⟩
     case measure => have := HLT.out; simp [intOf]; omega
    ·have hEb : (E == 0) = false := beq_eq_false_iff_ne.2 hE0
     have HF := Lib.hid (show R = ([], t.p, E) from by rw [HE.out]; exact HBD.out w5 d HJ5.out HD.out.1 HD.out.2.1 (by rw [← HE.out]; exact hE0))
     have r0 : w5.cell? ⟨b, 0, none⟩ = some (.slice none 0 0) := HJ5.out.res.at_ 0
     have rf : w5.frozen? ⟨b, 0, none⟩ = false := HJ5.out.res.fz 0
     clear z0 z1 z2 z3 hE0
     go_wp2_with fail
     go_region
     have hq : (w5.setCell ⟨b, 0, none⟩ (.slice none 0 0)).cell? ⟨b, 0, none⟩ = some (.slice none 0 0) := (HJ5.out.res.set 0 (.slice none 0 0)).at_ 0
     have HBL := Lib.hid (show Below w.heap.size w w5 from by have := HJ5.out.bl; rwa [HBE.out] at this)
     have HLE := Lib.hid (show w.heap.size ≤ b by rw [HBE.out]; exact Nat.le_refl _)
     go_wp2
     exact bodyPost_ret (v := .tuple #[.agg #[.slice none 0 0], .int .i64 t.p, .int .i64 E]) (by first | (simp [results, Tryz.results9, go_sem, hq]; done) | (simp [results, Tryz.results9, go_sem, r0]; done)) rfl ⟨.slice none 0 0, [], by rw [HF.out], ⟨World.ownsRow_nil _ _ _ _, fun _ h => (by cases h)⟩, by rw [HF.out]; rfl, by first | exact HBL.out | exact HBL.out.drew | exact (HBL.out.setCell (p := ⟨b, 0, none⟩) HLE.out _).drew | exact HBL.out.setCell (p := ⟨b, 0, none⟩) HLE.out _⟩
   ·obtain rfl : k = ps.length := by omega
    have hlt' : ¬ ((ps.length : Nat) : Int) < (ps.length : Int) := by omega
    have HB := Lib.hid (behind_any b wr r m HI.out.gs)
    have HD := Lib.hid HI.out.done
    obtain ⟨bh, hbh⟩ : ∃ x, x = Tr.behind m.g := ⟨_, rfl⟩
    rw [← hbh] at HB HD
    clear hlt hk hbh
    go_wp2_with fail
    refine HB.out.mono ?_
    rintro e w3 ⟨rfl, h3⟩
    have HJ := Lib.hid (HI.out.on h3)
    clear h3
    have r0 : w3.cell? ⟨b, 0, none⟩ = some (.slice none 0 0) := HJ.out.res.at_ 0
    have rf : w3.frozen? ⟨b, 0, none⟩ = false := HJ.out.res.fz 0
    have HBL := Lib.hid (show Below w.heap.size w w3 from by have := HJ.out.bl; rwa [HBE.out] at this)
    have HLE := Lib.hid (show w.heap.size ≤ b by rw [HBE.out]; exact Nat.le_refl _)
    cases bh with
    | false =>
     have HF := Lib.hid (show R = ([], s.size, 50) from by rw [HD.out]; rfl)
     go_wp2
     exact bodyPost_ret (v := .tuple #[.agg #[.slice none 0 0], .int .i64 s.size, .int .i64 50]) (by simp [results, Tryz.results9, go_sem, r0]) rfl ⟨.slice none 0 0, [], by rw [HF.out], ⟨World.ownsRow_nil _ _ _ _, fun _ h => (by cases h)⟩, by rw [HF.out]; rfl, by first | exact HBL.out | exact HBL.out.setCell (p := ⟨b, 0, none⟩) HLE.out _⟩
    | true =>
     have HF := Lib.hid (show R = (m.g.ns, 0, 0) from by rw [HD.out]; rfl)
     obtain ⟨An, cn, Ao, co, hgc⟩ := HJ.out.gs.cells
     have g0 := hgc.c0
     have HGC := Lib.hid hgc
     clear hgc
     have hq : (w3.setCell ⟨b, 0, none⟩ (.slice An m.ns.length cn)).cell? ⟨b, 0, none⟩ = some (.slice An m.ns.length cn) := (HJ.out.res.set 0 (.slice An m.ns.length cn)).at_ 0
     have HFR := Lib.hid (fun (B' : Nat) (e : TypeId) (size n : Nat) (v : Value) (xs : List Value) (h1 : w3.ownsRow B' e size v n xs) (hne : 31 ≠ e) => Fr.own h1 (Fr.set (F := fun x => x = b) w3 ⟨b, 0, none⟩ (.slice An m.ns.length cn) rfl) (fun g hg e => blk_apart HJ.out.res h1 hne (e ▸ hg)))
     have HND := Lib.hid (show NdRow w.heap.size (w3.setCell ⟨b, 0, none⟩ (.slice An m.ns.length cn)) (.slice An m.ns.length cn) m.ns from by
      have h1 := HFR.out _ _ _ _ _ _ HJ.out.gs.nown (by decide)
      rw [HGC.out.nv] at h1
      rw [← HBE.out]
      exact ⟨h1, fun x hx => HFR.out _ _ _ _ _ _ (HJ.out.nds x hx).1 (by decide)⟩)
     go_wp2
     exact bodyPost_ret (v := .tuple #[.agg #[.slice An m.ns.length cn], .int .i64 0, .int .i64 0]) (by simp [results, Tryz.results9, go_sem, hq]) rfl ⟨.slice An m.ns.length cn, m.ns, by rw [HF.out]; rfl, HND.out, by rw [HF.out]; rfl, HBL.out.setCell (p := ⟨b, 0, none⟩) HLE.out _⟩
 ·have htn : (te == 0) = false := beq_eq_false_iff_ne.2 hte
  have HR := Lib.hid (show R = ([], ta, te) from by rw [HPR.out, if_pos hte])
  clear hte
  go_wp2
  exact bodyPost_ret (v := .tuple #[.agg #[.slice none 0 0], .int .i64 ta, .int .i64 te]) (by simp [results, Tryz.results9, go_sem, r0]) rfl ⟨.slice none 0 0, [], by rw [HR.out], ⟨World.ownsRow_nil _ _ _ _, fun _ h => (by cases h)⟩, by rw [HR.out]; rfl, by first | exact B1.out | exact B1.out.setCell (p := ⟨b, 0, none⟩) (by show w.heap.size ≤ b; rw [HBE.out]; exact Nat.le_refl _) _⟩
end Go.Proofs.YteadfpkihhaadaaGreatDoor
