/- Facts and walks for the statement. -/
import Derived.Test.YtdcjpinbflmikaaGreatDoorPzW15
import Derived.Test.YtdcjpinbflmikaaGreatDoorPzW22
import Derived.Laws.AppendOwnNone
import Derived.Test.YtdcjpinbflmikaaGreatDoorPzW23
import Derived.LaidSub
import Derived.Deep.Strs
import Derived.Deep.DeepMust
import Derived.Deep.CutRange
import Derived.Deep.AppendLies
import Derived.Deep.RegionLaw
import Derived.Test.YtdcjpinbflmikaaGreatDoorPzW18
namespace Go.Proofs.YtdcjpinbflmikaaGreatDoor
open Go.RowKit Ex Go.Maps
end Go.Proofs.YtdcjpinbflmikaaGreatDoor
namespace Go.Proofs.YtdcjpinbflmikaaGreatDoor
open Go.RowKit Ex
end Go.Proofs.YtdcjpinbflmikaaGreatDoor
namespace Go.Proofs.YtdcjpinbflmikaaGreatDoor
open Go.RowKit Ex
end Go.Proofs.YtdcjpinbflmikaaGreatDoor
namespace Go.Proofs.YtdcjpinbflmikaaGreatDoor
open Go.RowKit Ex
end Go.Proofs.YtdcjpinbflmikaaGreatDoor
namespace Go.Proofs.YtdcjpinbflmikaaGreatDoor
open Go.RowKit Ex
end Go.Proofs.YtdcjpinbflmikaaGreatDoor
namespace Go.Proofs.YtdcjpinbflmikaaGreatDoor
open Go.RowKit Ex
structure MoL (w : World) (A1 : Option Addr) (c1 : Nat) (l : List Nd) (v : World) : Prop where
  below : Below w.heap.size w v
  blk : IsBlk v w.heap.size 29 #[.slice A1 l.length c1]
theorem MoL.new (w : World) (A1 : Option Addr) (c1 : Nat) (l : List Nd) : MoL w A1 c1 l (w.alloc (.cells #[.slice A1 l.length c1] 29)) :=
  ⟨(Below.refl w.heap.size w).alloc (Nat.le_refl _) _, IsBlk.new _ _ _⟩
theorem MoL.on {w : World} {A1 : Option Addr} {c1 : Nat} {l : List Nd} {v v' : World} (h : MoL w A1 c1 l v) (hb : Below v.heap.size v v') : MoL w A1 c1 l v' :=
  ⟨h.below.trans (hb.mono h.below.size), h.blk.below hb h.blk.lt⟩
theorem MoL.at_ {w : World} {A1 : Option Addr} {c1 : Nat} {l : List Nd} {v : World} (h : MoL w A1 c1 l v) : v.cell? ⟨w.heap.size, 0, none⟩ = some (.slice A1 l.length c1) := h.blk.at_ 0
theorem NdR.to {w v : World} {A : Option Addr} {l : List Nd} (h : NdR w w.heap.size A l) (hb : Below w.heap.size w v) : NdR v v.heap.size A l := (h.below hb).more hb.size
end Go.Proofs.YtdcjpinbflmikaaGreatDoor
namespace Go.Proofs.YtdcjpinbflmikaaGreatDoor
open Go.RowKit Go.Shelf Go.Lib
open Go.ChangeShapes Go.WideShapes Go.ChangeAt
set_option maxRecDepth 100000
section
variable {H : Type} {enc : TypeId × Value → H} {W : World}
end
end Go.Proofs.YtdcjpinbflmikaaGreatDoor
namespace Go.Proofs.YtdcjpinbflmikaaGreatDoor
open Go.RowKit Ex
theorem fewv_fit {l : List Nd} {bs : List Ev.Bd} (h : FewV l bs) (ho : Okn l) (hb : ∀ q ∈ bs, Nu.fits q.2) : Fit l ∧ FitB bs :=
  ⟨⟨by have := h.1.1; omega, fun n hn => ⟨by have := h.2.1 n hn; omega, (ho n hn).1⟩⟩, ⟨by have := h.1.2; omega, fun q hq => ⟨by have := h.2.2 q hq; omega, hb q hq⟩⟩⟩
def bdV (q : Ev.Bd) : List Value := [.string ⟨q.1.toArray⟩, .int .i64 q.2]
theorem own_bdr {w : World} {B n c : Nat} {A : Option Addr} {bs : List Ev.Bd} {t : TypeId} (h : w.ownsRow B t 2 (.slice A n c) n (bs.flatMap bdV)) (hn : n = bs.length) : BdR w w.heap.size A bs ∧ n ≤ c ∧ c ≤ maxLen := by
  obtain ⟨A', c', e, h1, h2, h3⟩ := own_sliced h
  injection e with e1 _ e3
  subst e1 e3
  refine ⟨fun j hj => ?_, h1, h2⟩
  obtain ⟨g, rfl, _, hg⟩ := h3 (by omega)
  have q := fun (k : Nat) (u : Value) (hk : k < 2) (hu : (bdV bs[j])[k]? = some u) => own_cell h ((fl_at (f := bdV) (k := 2) (fun _ => rfl) bs j k hj hk).trans hu)
  refine ⟨g, 0, rfl, hg, ?_, ?_⟩
  · simpa using q 0 _ (by omega) rfl
  · simpa using q 1 _ (by omega) rfl
end Go.Proofs.YtdcjpinbflmikaaGreatDoor
namespace Go.Proofs.YtdcjpinbflmikaaGreatDoor
open Go.RowKit Go.Shelf Go.Lib
open Go.ChangeShapes Go.WideShapes Go.ChangeAt
set_option maxRecDepth 100000
section
variable {H : Type} {enc : TypeId × Value → H} {W : World}
theorem binds_of {r : Reach} {b0 : Nat} {v : Value} {d : DataW H} {p : List MemPlace} (hv : Value.okWide Tryz.prog W r b0 62 v) (h : DataW.Trod enc Tryz.prog W 0 (fun _ => true) true 62 v d p) :
    ∃ A c bs, v = .slice A bs.length c ∧ bs.length ≤ c ∧ c ≤ maxLen ∧ (A = none → bs.length = 0 ∧ c = 0) ∧ BdR W W.heap.size A bs ∧ ∀ q ∈ bs, Nu.fits q.2 := by
  obtain ⟨a0, len0, cap0, rfl⟩ := okWide_slice Tryz.underlying62 hv
  obtain ⟨fuel, hf⟩ := h
  rcases Deep.open_slice Tryz.underlying62 hf with ⟨hc, _⟩ | ⟨a, len, cap, m, n, D, Pl, hcs, _, hl, hm, hmm, _, hi⟩
  · simp only [Value.cells, List.cons.injEq, and_true] at hc
    exact ⟨none, 0, [], hc, Nat.le_refl _, by decide, fun _ => ⟨rfl, rfl⟩, fun j hj => absurd hj (by simp), fun q hq => nomatch hq⟩
  · simp only [Value.cells, List.cons.injEq, and_true] at hcs
    have hi2 : ∀ i : Fin len, ∃ x : Ev.Bd, (W.cell? (a.add (i.1 * 2)) = some (.string ⟨x.1.toArray⟩) ∧ W.cell? (a.add (i.1 * 2 + 1)) = some (.int .i64 x.2)) ∧ Nu.fits x.2 := fun i => by
      obtain ⟨cs', hce, ht'⟩ := hi i.1 (by rw [hmm]; simp; have := i.2; omega)
      have h5 : Tryz.prog.cellsOf 143 = 2 := by kernel_rfl
      obtain ⟨_, hcl, hat⟩ := World.cells?_some hce
      obtain ⟨xs, n', _, _, _, hxl, hg⟩ := DataW.trod_struct Tryz.underlying143 ht'
      rw [h5] at hcl hat
      have hx5 : xs.length = 2 := hxl
      match cs', hcl with
      | [v0, v1], _ =>
        have t0 : DataW.trod enc Tryz.prog W 0 (fun _ => true) true n' 9 (List.take (Tryz.prog.cellsOf 9) (List.drop 0 [v0, v1])) = some (xs[0]'(by omega)) := (hg 0 _ rfl).trans (List.getElem?_eq_getElem (by omega))
        have t1 : DataW.trod enc Tryz.prog W 0 (fun _ => true) true n' 2 (List.take (Tryz.prog.cellsOf 2) (List.drop 1 [v0, v1])) = some (xs[1]'(by omega)) := (hg 1 _ rfl).trans (List.getElem?_eq_getElem (by omega))
        simp only [show Tryz.prog.cellsOf 2 = 1 by kernel_rfl, show Tryz.prog.cellsOf 9 = 1 by kernel_rfl, List.drop_zero, List.drop_succ_cons, List.take_succ_cons, List.take_zero] at t0 t1
        have c0 := hat 0 (by omega)
        have c1 := hat 1 (by omega)
        rw [Deep.add_add] at c0 c1
        obtain ⟨N, e0, _, _⟩ := DataW.trod_string Tryz.underlying9 t0
        obtain ⟨z1, e1, _, w1⟩ := DataW.trod_int Tryz.underlying2 t1
        simp only [List.cons.injEq, and_true] at e0 e1
        subst e0 e1
        simp [Lit.wf, IntKind.min, IntKind.max, IntKind.signed, IntKind.bits] at w1
        exact ⟨(N.data.toList, z1), ⟨c0, c1⟩, w1⟩
    obtain ⟨f, hf⟩ := Classical.skolem.1 hi2
    have hlen : (List.ofFn f).length = len := List.length_ofFn
    refine ⟨some a, cap, List.ofFn f, by rw [hlen]; exact hcs, by rw [hlen]; exact hl, hm, (fun h => (by cases h)), fun k hk => ?_, fun y hy => ?_⟩
    · have hk' : k < len := by rw [← hlen]; exact hk
      obtain ⟨ha, hb⟩ := cell_plain (hf ⟨0, by omega⟩).1.1
      have hz : a.add (0 * 2) = a := by unfold Addr.add; rw [if_pos (by omega)]
      rw [hz] at ha hb
      have h1 := (hf ⟨k, hk'⟩).1
      rw [ha, add_plain, add_plain] at h1
      rw [List.getElem_ofFn]
      exact ⟨a.block, a.off, by rw [← ha], hb, h1⟩
    · obtain ⟨i, rfl⟩ := List.mem_ofFn.1 hy
      exact (hf i).2
end
end Go.Proofs.YtdcjpinbflmikaaGreatDoor
namespace Go.Proofs.YtdcjpinbflmikaaGreatDoor
open Go.RowKit Ex
theorem infoRN10 : (Tryz.prog.info? 114).map (fun i => (i.zero, i.size, i.bytes)) = some (some (.agg #[.int .u8 0, .int .i64 0, .string ⟨#[]⟩, .int .i64 0, .int .i64 0, .int .i64 0]), 6, 56) := by kernel_rfl
structure RfE (w : World) (A : Option Addr) (c : Nat) (l : List Nd) (wr : World) (v : Value) (k : Nat) : Prop where
  below : Below w.heap.size w wr
  box : IsBlk wr w.heap.size 29 #[.slice A l.length c]
  own : wr.ownsRow (w.heap.size + 1) 114 6 v k ((l.take k).flatMap ndV)
set_option maxHeartbeats 8000000 in
set_option maxRecDepth 100000 in
theorem eref10_any (w : World) (A : Option Addr) (c : Nat) (l : List Nd) (h : NdR w w.heap.size A l) (hc : l.length ≤ c) (hn : l.length ≤ 1000000) :
    Calls Tryz.prog 36 #[.agg #[.slice A l.length c]] w fun e w' => ∃ v, e = .returned v ∧ w'.ownsRow (w.heap.size + 1) 114 6 v l.length (l.flatMap ndV) ∧ Below w.heap.size w w' := by
  have H := Lib.hid h
  obtain ⟨n, hln⟩ : ∃ n, n = l.length := ⟨_, rfl⟩
  have H0 := Lib.hid (show RfE w A c l (w.alloc (.cells #[.slice A l.length c] 29)) (.slice none 0 0) 0 from ⟨(Below.refl _ _).alloc (Nat.le_refl _) _, IsBlk.new _ _ _, World.ownsRow_nil _ _ _ _⟩)
  rw [← hln] at hn hc ⊢
  have HLN := Lib.hid hln
  have hc' : (n : Int) ≤ (c : Int) := by omega
  clear h hln
  go_enter Tryz.func36, Tryz.ntmps36
  go_wp2
  go_loopw [3, 4] (fun v0 i wr => ∃ (v : Value) (k : Nat), v = v0 ∧ i = .int .i64 k ∧ k ≤ n ∧ Hid (RfE w A c l wr v k)) (fun _ i _ => n - (intOf i).toNat)
  case atStart => exact ⟨_, 0, rfl, rfl, Nat.zero_le _, by rw [HLN.out]; exact H0⟩
  case round =>
    obtain ⟨v, k, hv0, rfl, hk, HI⟩ := hrel
    subst hv0
    have k1 : wr.cell? ⟨w.heap.size, 0, none⟩ = some (.slice A n c) := by rw [HLN.out]; exact HI.out.box.at_ 0
    by_cases hlt : k < n
    · have hlt' : (k : Int) < (n : Int) := by omega
      have hkl : k < l.length := by rw [← HLN.out]; exact hlt
      obtain ⟨g, o, hA, hg, q0, q1, q2, q3, q4, q5⟩ := (H.out.below HI.out.below) k hkl
      subst hA
      have HTK := Lib.hid (show (l.take (k + 1)).flatMap ndV = (l.take k).flatMap ndV ++ ndV l[k] by
        rw [List.take_succ_eq_append_getElem hkl, List.flatMap_append]; simp)
      generalize l[k] = t at *
      obtain ⟨op, num, nm, na, nb, nc⟩ := t
      simp only at q0 q1 q2 q3 q4 q5
      obtain ⟨N, hNN⟩ : ∃ N : ByteArray, N = ⟨nm.toArray⟩ := ⟨_, rfl⟩
      rw [← hNN] at q2
      have HNN := Lib.hid hNN
      obtain ⟨Av, cv, hv, _, _, hv1, hv2⟩ := own_slice HI.out.own
      subst hv
      obtain ⟨i0, hi, hz0, hz1, hz2⟩ := info_parts infoRN10
      have hmax : k + 1 ≤ maxLen := by unfold maxLen; omega
      have hbl0 : w.heap.size < wr.heap.size := HI.out.box.lt
      have hOW := Lib.hid HI.out.own
      have HNEW := Lib.hid (fun (W' w9 : World) (v9 : Value) (hW : Below wr.heap.size wr W') (ho : w9.ownsRow (w.heap.size + 1) 114 6 v9 (k + 1) ((l.take k).flatMap ndV ++ [.int .u8 op, .int .i64 num, .string N, .int .i64 na, .int .i64 nb, .int .i64 nc])) (hg : W'.grownBy w9 (Value.slice Av k cv).ownBlock) => (show RfE w (some ⟨g, o, none⟩) c l w9 v9 (k + 1) from by
        have hsz := HI.out.below.size
        have hbl : w.heap.size < wr.heap.size := HI.out.box.lt
        refine ⟨(HI.out.below.trans (hW.mono hsz)).grown hg (Nat.le_trans hsz hW.size) (fun z hz => by have := (hOW.out.lt z hz).1; omega), (HI.out.box.below hW hbl).grown hg (fun e => by have := (hOW.out.lt _ e.symm).1; omega), ?_⟩
        rw [HTK.out]
        show w9.ownsRow _ _ _ _ _ ((l.take k).flatMap ndV ++ [.int .u8 op, .int .i64 num, .string ⟨nm.toArray⟩, .int .i64 na, .int .i64 nb, .int .i64 nc])
        rw [← HNN.out]; exact ho))
      clear hNN
      go_upto_region 6 with fail
      go_wp2_with (at_builtin; go_must (refine wpList_append_own _ rfl _ _ _ rfl (w.heap.size + 1) 114 i0 _ 6 56 Tryz.underlying23 hi hz0 hz1 hz2 rfl (by omega) (.slice Av k cv) k ((l.take k).flatMap ndV) (by rfl) (by exact World.ownsRow.alloc (World.ownsRow.alloc hOW.out _) _) _ 1 _ [.int .u8 op, .int .i64 num, .string N, .int .i64 na, .int .i64 nb, .int .i64 nc] (by rfl) rfl (by intro j u hu; exact news_at _ _ _ _ (by simp) j u hu) (by intro u hu; simp at hu; rcases hu with rfl | rfl | rfl | rfl | rfl | rfl <;> rfl) hmax (by omega) (by simp; omega) ?_); go_must (intro v9 w9 hown9 hgr9 _; have H9 := Lib.hid (HNEW.out _ w9 _ (((Below.refl _ _).alloc (Nat.le_refl _) _).alloc (by simp) _) hown9 hgr9); clear hown9 hgr9))
      go_roundw
      case rel => exact ⟨_, k + 1, rfl, by go_num, hlt, H9⟩
      case measure => simp [intOf]; omega
    · obtain rfl : k = n := by omega
      have hlt' : ¬ (k : Int) < (k : Int) := by omega
      have HE := Lib.hid (show wr.ownsRow (w.heap.size + 1) 114 6 v k (l.flatMap ndV) by
        have h4 := HI.out.own
        rw [List.take_of_length_le (by rw [← HLN.out]; exact Nat.le_refl _)] at h4
        exact h4)
      clear hlt
      go_wp2
      go_ret
      exact ⟨v, rfl, HE.out, HI.out.below⟩
theorem infoRB : (Tryz.prog.info? 146).map (fun i => (i.zero, i.size, i.bytes)) = some (some (.agg #[.string ⟨#[]⟩, .int .i64 0]), 2, 24) := by kernel_rfl
structure BnI (w : World) (bs : List Ev.Bd) (wr : World) (v : Value) (k : Nat) : Prop where
  below : Below w.heap.size w wr
  own : wr.ownsRow w.heap.size 146 2 v k ((bs.take k).flatMap bdV)
set_option maxHeartbeats 8000000 in
set_option maxRecDepth 100000 in
theorem binds10_any (w : World) (A : Option Addr) (c : Nat) (bs : List Ev.Bd) (h : BdR w w.heap.size A bs) (hc : bs.length ≤ c) (hn : bs.length ≤ 1000000) :
    Calls Tryz.prog 37 #[.slice A bs.length c] w fun e w' => ∃ v, e = .returned v ∧ w'.ownsRow w.heap.size 146 2 v bs.length (bs.flatMap bdV) ∧ Below w.heap.size w w' := by
  have H := Lib.hid h
  obtain ⟨n, hln⟩ : ∃ n, n = bs.length := ⟨_, rfl⟩
  have H0 := Lib.hid (show BnI w bs w (.slice none 0 0) 0 from ⟨Below.refl _ _, World.ownsRow_nil _ _ _ _⟩)
  rw [← hln] at hn hc ⊢
  have HLN := Lib.hid hln
  have hc' : (n : Int) ≤ (c : Int) := by omega
  clear h hln
  go_enter Tryz.func37, Tryz.ntmps37
  go_wp2
  go_loopw [3, 4] (fun v0 i wr => ∃ (v : Value) (k : Nat), v = v0 ∧ i = .int .i64 k ∧ k ≤ n ∧ Hid (BnI w bs wr v k)) (fun _ i _ => n - (intOf i).toNat)
  case atStart => exact ⟨_, 0, rfl, rfl, Nat.zero_le _, H0⟩
  case round =>
    obtain ⟨v, k, hv0, rfl, hk, HI⟩ := hrel
    subst hv0
    by_cases hlt : k < n
    · have hlt' : (k : Int) < (n : Int) := by omega
      have hkl : k < bs.length := by rw [← HLN.out]; exact hlt
      obtain ⟨g, o, hA, hg, q0, q1⟩ := (H.out.on HI.out.below) k hkl
      subst hA
      have HTK := Lib.hid (show (bs.take (k + 1)).flatMap bdV = (bs.take k).flatMap bdV ++ bdV bs[k] by
        rw [List.take_succ_eq_append_getElem hkl, List.flatMap_append]; simp)
      generalize bs[k] = t at *
      obtain ⟨nm, num⟩ := t
      simp only at q0 q1
      obtain ⟨N, hNN⟩ : ∃ N : ByteArray, N = ⟨nm.toArray⟩ := ⟨_, rfl⟩
      rw [← hNN] at q0
      have HNN := Lib.hid hNN
      obtain ⟨Av, cv, hv, _, _, hv1, hv2⟩ := own_slice HI.out.own
      subst hv
      obtain ⟨i0, hi, hz0, hz1, hz2⟩ := info_parts infoRB
      have hmax : k + 1 ≤ maxLen := by unfold maxLen; omega
      have hbl0 : w.heap.size ≤ wr.heap.size := HI.out.below.size
      have hOW := Lib.hid HI.out.own
      have HNEW := Lib.hid (fun (W' w9 : World) (v9 : Value) (hW : Below wr.heap.size wr W') (ho : w9.ownsRow w.heap.size 146 2 v9 (k + 1) ((bs.take k).flatMap bdV ++ [.string N, .int .i64 num])) (hg : W'.grownBy w9 (Value.slice Av k cv).ownBlock) => (show BnI w bs w9 v9 (k + 1) from by
        have hsz := HI.out.below.size
        refine ⟨(HI.out.below.trans (hW.mono hsz)).grown hg (Nat.le_trans hsz hW.size) (fun z hz => (hOW.out.lt z hz).1), ?_⟩
        rw [HTK.out]
        show w9.ownsRow _ _ _ _ _ ((bs.take k).flatMap bdV ++ [.string ⟨nm.toArray⟩, .int .i64 num])
        rw [← HNN.out]; exact ho))
      clear hNN
      go_upto_region 5 with fail
      go_region_law (first | (refine step_append_lies _ (by rfl) _ _ _ (by rfl) w.heap.size 146 i0 _ 2 24 Tryz.underlying64 hi hz0 hz1 hz2 rfl (by omega) (.slice Av k cv) k ((bs.take k).flatMap bdV) (by rfl) (by first | exact World.ownsRow.alloc hOW.out _ | exact own_below hOW.out (((Below.refl _ _).alloc (Nat.le_refl _) _).drew)) _ 1 _ [.string N, .int .i64 num] (by rfl) rfl (by intro j u hu; exact news_at _ _ _ _ (by simp) j u hu) (by intro u hu; simp at hu; rcases hu with rfl | rfl <;> rfl) (by omega) hmax (by omega) (by simp; omega) _ rfl ?_; intro g9 cap9 w9 hown9 hgr9 hat9 hlt9; have H9 := Lib.hid (HNEW.out _ w9 _ (by first | exact ((Below.refl _ _).alloc (Nat.le_refl _) _).drew | exact ((Below.refl _ _).drew).alloc (Nat.le_refl _) _ | exact (Below.refl _ _).alloc (Nat.le_refl _) _) hown9 hgr9)))
      all_goals
        go_wp2
        go_roundw
        case rel => exact ⟨_, k + 1, rfl, by go_num, hlt, H9⟩
        case measure => simp [intOf]; omega
    · obtain rfl : k = n := by omega
      have hlt' : ¬ (k : Int) < (k : Int) := by omega
      have HE := Lib.hid (show wr.ownsRow w.heap.size 146 2 v k (bs.flatMap bdV) by
        have h4 := HI.out.own
        rw [List.take_of_length_le (by rw [← HLN.out]; exact Nat.le_refl _)] at h4
        exact h4)
      clear hlt
      go_wp2
      go_ret
      exact ⟨v, rfl, HE.out, HI.out.below⟩
end Go.Proofs.YtdcjpinbflmikaaGreatDoor
namespace Go.Proofs.YtdcjpinbflmikaaGreatDoor
open Go.RowKit Ex
def lkA (A : Option Addr) (n c : Nat) (A2 : Option Addr) (m c2 : Nat) : Value := .agg #[.slice A n c, .slice A2 m c2]
def RwC (lk : Value) (w : World) (p : Int) (R : Ev.Rz) : Prop := ∀ w', Below w.heap.size w w' →
    Calls Tryz.prog 81 #[lk, .int .i64 p] w' fun e w'' => e = outZ (resZ R) ∧ Below w'.heap.size w' w''
def toldR (b : Bool) (z : Int) : Ev.Rz := if z = 0 then .ok (Ev.vb b) else .er z
set_option maxRecDepth 100000 in
theorem rcounted_any (n z : Int) (w : World) : Calls Tryz.prog 140 #[.int .i64 n, .int .i64 z] w fun e w' => e = outZ (resZ (Ev.rk (n, z))) ∧ Below w.heap.size w w' := by
  by_cases hz : z = 0
  · subst hz
    show Calls _ _ _ _ fun e w' => e = .returned (.tuple #[vlA (Ev.vi n), .int .i64 0]) ∧ _
    unfold vlA Ev.vi
    go_enter Tryz.func140, Tryz.ntmps140
    go_wp2
    refine bodyPost_ret (v := .tuple #[.agg #[.int .u8 1, .int .i64 n, .bool false], .int .i64 0]) (by simp [results, Tryz.results140, go_sem]) rfl ?_
    exact ⟨rfl, (Below.refl _ _).alloc (Nat.le_refl _) _⟩
  · have hz1 : (z == 0) = false := by simpa using hz
    have e0 : Ev.rk (n, z) = .er z := if_neg hz
    rw [e0]
    show Calls _ _ _ _ fun e w' => e = .returned (.tuple #[vlA ⟨0, 0, false⟩, .int .i64 z]) ∧ _
    unfold vlA
    clear hz e0
    go_enter Tryz.func140, Tryz.ntmps140
    go_wp2
    refine bodyPost_ret (v := .tuple #[.agg #[.int .u8 0, .int .i64 0, .bool false], .int .i64 z]) (by simp [results, Tryz.results140, go_sem]) rfl ?_
    exact ⟨rfl, (Below.refl _ _).alloc (Nat.le_refl _) _⟩
set_option maxRecDepth 100000 in
theorem rtold_any (b : Bool) (z : Int) (w : World) : Calls Tryz.prog 141 #[.bool b, .int .i64 z] w fun e w' => e = outZ (resZ (toldR b z)) ∧ Below w.heap.size w w' := by
  by_cases hz : z = 0
  · subst hz
    show Calls _ _ _ _ fun e w' => e = .returned (.tuple #[vlA (Ev.vb b), .int .i64 0]) ∧ _
    unfold vlA Ev.vb
    go_enter Tryz.func141, Tryz.ntmps141
    go_wp2
    refine bodyPost_ret (v := .tuple #[.agg #[.int .u8 2, .int .i64 0, .bool b], .int .i64 0]) (by simp [results, Tryz.results141, go_sem]) rfl ?_
    exact ⟨rfl, (Below.refl _ _).alloc (Nat.le_refl _) _⟩
  · have hz1 : (z == 0) = false := by simpa using hz
    have e0 : toldR b z = .er z := if_neg hz
    rw [e0]
    show Calls _ _ _ _ fun e w' => e = .returned (.tuple #[vlA ⟨0, 0, false⟩, .int .i64 z]) ∧ _
    unfold vlA
    clear hz e0
    go_enter Tryz.func141, Tryz.ntmps141
    go_wp2
    refine bodyPost_ret (v := .tuple #[.agg #[.int .u8 0, .int .i64 0, .bool false], .int .i64 z]) (by simp [results, Tryz.results141, go_sem]) rfl ?_
    exact ⟨rfl, (Below.refl _ _).alloc (Nat.le_refl _) _⟩
def outN (X : Ev.Vl × Int) : Ending := .returned (.tuple #[.int .i64 X.1.n, .int .i64 X.2])
def outB (X : Ev.Vl × Int) : Ending := .returned (.tuple #[.bool X.1.b, .int .i64 X.2])
set_option maxHeartbeats 1000000 in
set_option maxRecDepth 100000 in
theorem r10number_any (A : Option Addr) (n c : Nat) (A2 : Option Addr) (m c2 : Nat) (w : World) (p : Int) (R : Ev.Rz) (hF : Ev.Fine R) (h : RwC (lkA A n c A2 m c2) w p R) (w' : World) (hb' : Below w.heap.size w w') :
    Calls Tryz.prog 83 #[lkA A n c A2 m c2, .int .i64 p] w' fun e w'' => e = outN (resZ (Ev.prt R 1)) ∧ Below w'.heap.size w' w'' := by
  obtain ⟨W2, hW2⟩ : ∃ W2, W2 = w'.alloc (.cells #[.slice A n c, .slice A2 m c2] 155) := ⟨_, rfl⟩
  have hb2 : Below w'.heap.size w' W2 := by rw [hW2]; exact (Below.refl _ _).alloc (Nat.le_refl _) _
  have HC := Lib.hid (h W2 (hb'.trans (hb2.mono hb'.size)))
  have HB2 := Lib.hid hb2
  have HW2 := Lib.hid hW2
  unfold lkA at HC ⊢
  clear hW2 hb2 h hb'
  cases R with
  | er z =>
    have hz : z ≠ 0 := by rcases hF with h | h | h <;> omega
    have hz1 : (z == 0) = false := by simpa using hz
    show Calls _ _ _ _ fun e w' => e = .returned (.tuple #[.int .i64 0, .int .i64 z]) ∧ _
    have HC : Hid (Calls _ _ _ _ fun e w'' => e = .returned (.tuple #[vlA ⟨0, 0, false⟩, .int .i64 z]) ∧ _) := HC
    simp only [vlA] at HC
    clear hF hz
    go_enter Tryz.func83, Tryz.ntmps83
    go_wp2_with fail
    rw [← HW2.out]
    refine HC.out.mono ?_
    rintro e w1 ⟨rfl, hb⟩
    have HB := Lib.hid ((HB2.out.trans (hb.mono HB2.out.size)).alloc (HB2.out.trans (hb.mono HB2.out.size)).size (.cells #[.int .u8 0, .int .i64 0, .bool false] 70))
    clear hb
    go_wp2
    go_ret2
    exact ⟨rfl, HB.out⟩
  | ok v =>
    obtain ⟨vk, vn, vb⟩ := v
    have HC : Hid (Calls _ _ _ _ fun e w'' => e = .returned (.tuple #[vlA ⟨vk, vn, vb⟩, .int .i64 0]) ∧ _) := HC
    simp only [vlA] at HC
    rw [prt_ok]
    clear hF
    by_cases hk : vk = 1
    · subst hk
      rw [if_pos rfl]
      show Calls _ _ _ _ fun e w' => e = outN (⟨1, vn, vb⟩, 0) ∧ _
      go_enter Tryz.func83, Tryz.ntmps83
      go_wp2_with fail
      rw [← HW2.out]
      refine HC.out.mono ?_
      rintro e w1 ⟨rfl, hb⟩
      have HB := Lib.hid ((HB2.out.trans (hb.mono HB2.out.size)).alloc (HB2.out.trans (hb.mono HB2.out.size)).size (.cells #[.int .u8 1, .int .i64 vn, .bool vb] 70))
      clear hb
      go_wp2
      go_ret2
      exact ⟨rfl, HB.out⟩
    · have hk1 : ((vk : Int) == 1) = false := beq_eq_false_iff_ne.2 (by omega)
      have hk2 : ((vk : Int) != 1) = true := by simp [bne, hk1]
      rw [if_neg hk]
      show Calls _ _ _ _ fun e w' => e = .returned (.tuple #[.int .i64 0, .int .i64 90]) ∧ _
      clear hk
      go_enter Tryz.func83, Tryz.ntmps83
      go_wp2_with fail
      rw [← HW2.out]
      refine HC.out.mono ?_
      rintro e w1 ⟨rfl, hb⟩
      have HB := Lib.hid ((HB2.out.trans (hb.mono HB2.out.size)).alloc (HB2.out.trans (hb.mono HB2.out.size)).size (.cells #[.int .u8 (vk : Nat), .int .i64 vn, .bool vb] 70))
      clear hb
      go_wp2
      go_ret2
      exact ⟨rfl, HB.out⟩
set_option maxHeartbeats 1000000 in
set_option maxRecDepth 100000 in
theorem r10truth_any (A : Option Addr) (n c : Nat) (A2 : Option Addr) (m c2 : Nat) (w : World) (p : Int) (R : Ev.Rz) (hF : Ev.Fine R) (h : RwC (lkA A n c A2 m c2) w p R) (w' : World) (hb' : Below w.heap.size w w') :
    Calls Tryz.prog 84 #[lkA A n c A2 m c2, .int .i64 p] w' fun e w'' => e = outB (resZ (Ev.prt R 2)) ∧ Below w'.heap.size w' w'' := by
  obtain ⟨W2, hW2⟩ : ∃ W2, W2 = w'.alloc (.cells #[.slice A n c, .slice A2 m c2] 155) := ⟨_, rfl⟩
  have hb2 : Below w'.heap.size w' W2 := by rw [hW2]; exact (Below.refl _ _).alloc (Nat.le_refl _) _
  have HC := Lib.hid (h W2 (hb'.trans (hb2.mono hb'.size)))
  have HB2 := Lib.hid hb2
  have HW2 := Lib.hid hW2
  unfold lkA at HC ⊢
  clear hW2 hb2 h hb'
  cases R with
  | er z =>
    have hz : z ≠ 0 := by rcases hF with h | h | h <;> omega
    have hz1 : (z == 0) = false := by simpa using hz
    show Calls _ _ _ _ fun e w' => e = .returned (.tuple #[.bool false, .int .i64 z]) ∧ _
    have HC : Hid (Calls _ _ _ _ fun e w'' => e = .returned (.tuple #[vlA ⟨0, 0, false⟩, .int .i64 z]) ∧ _) := HC
    simp only [vlA] at HC
    clear hF hz
    go_enter Tryz.func84, Tryz.ntmps84
    go_wp2_with fail
    rw [← HW2.out]
    refine HC.out.mono ?_
    rintro e w1 ⟨rfl, hb⟩
    have HB := Lib.hid ((HB2.out.trans (hb.mono HB2.out.size)).alloc (HB2.out.trans (hb.mono HB2.out.size)).size (.cells #[.int .u8 0, .int .i64 0, .bool false] 70))
    clear hb
    go_wp2
    go_ret2
    exact ⟨rfl, HB.out⟩
  | ok v =>
    obtain ⟨vk, vn, vb⟩ := v
    have HC : Hid (Calls _ _ _ _ fun e w'' => e = .returned (.tuple #[vlA ⟨vk, vn, vb⟩, .int .i64 0]) ∧ _) := HC
    simp only [vlA] at HC
    rw [prt_ok]
    clear hF
    by_cases hk : vk = 2
    · subst hk
      rw [if_pos rfl]
      show Calls _ _ _ _ fun e w' => e = outB (⟨2, vn, vb⟩, 0) ∧ _
      go_enter Tryz.func84, Tryz.ntmps84
      go_wp2_with fail
      rw [← HW2.out]
      refine HC.out.mono ?_
      rintro e w1 ⟨rfl, hb⟩
      have HB := Lib.hid ((HB2.out.trans (hb.mono HB2.out.size)).alloc (HB2.out.trans (hb.mono HB2.out.size)).size (.cells #[.int .u8 2, .int .i64 vn, .bool vb] 70))
      clear hb
      go_wp2
      go_ret2
      exact ⟨rfl, HB.out⟩
    · have hk1 : ((vk : Int) == 2) = false := beq_eq_false_iff_ne.2 (by omega)
      have hk2 : ((vk : Int) != 2) = true := by simp [bne, hk1]
      rw [if_neg hk]
      show Calls _ _ _ _ fun e w' => e = .returned (.tuple #[.bool false, .int .i64 90]) ∧ _
      clear hk
      go_enter Tryz.func84, Tryz.ntmps84
      go_wp2_with fail
      rw [← HW2.out]
      refine HC.out.mono ?_
      rintro e w1 ⟨rfl, hb⟩
      have HB := Lib.hid ((HB2.out.trans (hb.mono HB2.out.size)).alloc (HB2.out.trans (hb.mono HB2.out.size)).size (.cells #[.int .u8 (vk : Nat), .int .i64 vn, .bool vb] 70))
      clear hb
      go_wp2
      go_ret2
      exact ⟨rfl, HB.out⟩
end Go.Proofs.YtdcjpinbflmikaaGreatDoor
