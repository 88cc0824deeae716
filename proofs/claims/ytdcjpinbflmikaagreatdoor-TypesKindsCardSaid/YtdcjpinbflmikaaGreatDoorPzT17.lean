/- Facts and walks for the statement. -/
import Derived.Test.YtdcjpinbflmikaaGreatDoorPzT16
import Derived.Deep.DeepMust
import Derived.Deep.CutRange
import Derived.Deep.AppendLies
import Derived.Deep.RegionLaw
import Derived.Test.YtdcjpinbflmikaaGreatDoorPzT14
import Derived.Test.YtdcjpinbflmikaaGreatDoorPzT02
import Derived.Test.YtdcjpinbflmikaaGreatDoorPzT00
import Derived.Test.YtdcjpinbflmikaaGreatDoorPzT09
import Derived.WalkLawsBesides
import Derived.Maps.OwnSet
import Derived.Maps.Own
import Derived.WideMake
import Derived.Deep.RegionHeld3
import Derived.Defers
import Derived.Recover
import Derived.Test.YtdcjpinbflmikaaGreatDoorPzT13
import Derived.Test.YtdcjpinbflmikaaGreatDoorPzT15
namespace Go.Proofs.YtdcjpinbflmikaaGreatDoor
open Go.RowKit Ex
theorem infoRN9 : (Tryz.prog.info? 114).map (fun i => (i.zero, i.size, i.bytes)) = some (some (.agg #[.int .u8 0, .int .i64 0, .string ⟨#[]⟩, .int .i64 0, .int .i64 0, .int .i64 0]), 6, 56) := by kernel_rfl
structure RfT (w : World) (A : Option Addr) (c : Nat) (l : List Nd) (wr : World) (v : Value) (k : Nat) : Prop where
  below : Below w.heap.size w wr
  box : IsBlk wr w.heap.size 29 #[.slice A l.length c]
  own : wr.ownsRow (w.heap.size + 1) 114 6 v k ((l.take k).flatMap ndV)
set_option maxHeartbeats 8000000 in
set_option maxRecDepth 100000 in
theorem eref9_any (w : World) (A : Option Addr) (c : Nat) (l : List Nd) (h : NdR w w.heap.size A l) (hc : l.length ≤ c) (hn : l.length ≤ 1000000) :
    Calls Tryz.prog 23 #[.agg #[.slice A l.length c]] w fun e w' => ∃ v, e = .returned v ∧ w'.ownsRow (w.heap.size + 1) 114 6 v l.length (l.flatMap ndV) ∧ Below w.heap.size w w' := by
  have H := Lib.hid h
  obtain ⟨n, hln⟩ : ∃ n, n = l.length := ⟨_, rfl⟩
  have H0 := Lib.hid (show RfT w A c l (w.alloc (.cells #[.slice A l.length c] 29)) (.slice none 0 0) 0 from ⟨(Below.refl _ _).alloc (Nat.le_refl _) _, IsBlk.new _ _ _, World.ownsRow_nil _ _ _ _⟩)
  rw [← hln] at hn hc ⊢
  have HLN := Lib.hid hln
  have hc' : (n : Int) ≤ (c : Int) := by omega
  clear h hln
  go_enter Tryz.func23, Tryz.ntmps23
  go_wp2
  go_loopw [3, 4] (fun v0 i wr => ∃ (v : Value) (k : Nat), v = v0 ∧ i = .int .i64 k ∧ k ≤ n ∧ Hid (RfT w A c l wr v k)) (fun _ i _ => n - (intOf i).toNat)
  case atStart => exact ⟨_, 0, rfl, rfl, Nat.zero_le _, by rw [HLN.out]; exact H0⟩
  case round =>
    obtain ⟨v, k, hv0, rfl, hk, HI⟩ := hrel
    subst hv0
    have k1 : wr.cell? ⟨w.heap.size, 0, none⟩ = some (.slice A n c) := by rw [HLN.out]; exact HI.out.box.at_ 0
    by_cases hlt : k < n
    · have hlt' : (k : Int) < (n : Int) := by omega
      have hkl : k < l.length := by rw [← HLN.out]; exact hlt
      obtain ⟨g, o, hA, hg, q0, q1, q2, q3, q4, q5⟩ := (H.out.below HI.out.below) k hkl
      subst hA
      have HTK := Lib.hid (show (l.take (k + 1)).flatMap ndV = (l.take k).flatMap ndV ++ ndV l[k] by
        rw [List.take_succ_eq_append_getElem hkl, List.flatMap_append]; simp)
      generalize l[k] = t at *
      obtain ⟨op, num, nm, na, nb, nc⟩ := t
      simp only at q0 q1 q2 q3 q4 q5
      obtain ⟨N, hNN⟩ : ∃ N : ByteArray, N = ⟨nm.toArray⟩ := ⟨_, rfl⟩
      rw [← hNN] at q2
      have HNN := Lib.hid hNN
      obtain ⟨Av, cv, hv, _, _, hv1, hv2⟩ := own_slice HI.out.own
      subst hv
      obtain ⟨i0, hi, hz0, hz1, hz2⟩ := info_parts infoRN9
      have hmax : k + 1 ≤ maxLen := by unfold maxLen; omega
      have hbl0 : w.heap.size < wr.heap.size := HI.out.box.lt
      have hOW := Lib.hid HI.out.own
      have HNEW := Lib.hid (fun (W' w9 : World) (v9 : Value) (hW : Below wr.heap.size wr W') (ho : w9.ownsRow (w.heap.size + 1) 114 6 v9 (k + 1) ((l.take k).flatMap ndV ++ [.int .u8 op, .int .i64 num, .string N, .int .i64 na, .int .i64 nb, .int .i64 nc])) (hg : W'.grownBy w9 (Value.slice Av k cv).ownBlock) => (show RfT w (some ⟨g, o, none⟩) c l w9 v9 (k + 1) from by
        have hsz := HI.out.below.size
        have hbl : w.heap.size < wr.heap.size := HI.out.box.lt
        refine ⟨(HI.out.below.trans (hW.mono hsz)).grown hg (Nat.le_trans hsz hW.size) (fun z hz => by have := (hOW.out.lt z hz).1; omega), (HI.out.box.below hW hbl).grown hg (fun e => by have := (hOW.out.lt _ e.symm).1; omega), ?_⟩
        rw [HTK.out]
        show w9.ownsRow _ _ _ _ _ ((l.take k).flatMap ndV ++ [.int .u8 op, .int .i64 num, .string ⟨nm.toArray⟩, .int .i64 na, .int .i64 nb, .int .i64 nc])
        rw [← HNN.out]; exact ho))
      clear hNN
      go_upto_region 6 with fail
      go_wp2_with (at_builtin; go_must (refine wpList_append_own _ rfl _ _ _ rfl (w.heap.size + 1) 114 i0 _ 6 56 Tryz.underlying23 hi hz0 hz1 hz2 rfl (by omega) (.slice Av k cv) k ((l.take k).flatMap ndV) (by rfl) (by exact World.ownsRow.alloc (World.ownsRow.alloc hOW.out _) _) _ 1 _ [.int .u8 op, .int .i64 num, .string N, .int .i64 na, .int .i64 nb, .int .i64 nc] (by rfl) rfl (by intro j u hu; exact news_at _ _ _ _ (by simp) j u hu) (by intro u hu; simp at hu; rcases hu with rfl | rfl | rfl | rfl | rfl | rfl <;> rfl) hmax (by omega) (by simp; omega) ?_); go_must (intro v9 w9 hown9 hgr9 _; have H9 := Lib.hid (HNEW.out _ w9 _ (((Below.refl _ _).alloc (Nat.le_refl _) _).alloc (by simp) _) hown9 hgr9); clear hown9 hgr9))
      go_roundw
      case rel => exact ⟨_, k + 1, rfl, by go_num, hlt, H9⟩
      case measure => simp [intOf]; omega
    · obtain rfl : k = n := by omega
      have hlt' : ¬ (k : Int) < (k : Int) := by omega
      have HE := Lib.hid (show wr.ownsRow (w.heap.size + 1) 114 6 v k (l.flatMap ndV) by
        have h4 := HI.out.own
        rw [List.take_of_length_le (by rw [← HLN.out]; exact Nat.le_refl _)] at h4
        exact h4)
      clear hlt
      go_wp2
      go_ret
      exact ⟨v, rfl, HE.out, HI.out.below⟩
set_option maxHeartbeats 2000000 in
set_option maxRecDepth 100000 in
theorem kinds_yes (w : World) (A1 A2 : Option Addr) (c1 c2 : Nat) (K : List Nat) (h1 : KiR w w.heap.size A1 K) (h2 : KiR w w.heap.size A2 K) (hc1 : K.length ≤ c1) (hc2 : K.length ≤ c2) (hn : K.length ≤ 1000000) :
    Calls Tryz.prog 25 #[.slice A1 K.length c1, .slice A2 K.length c2] w fun e w' => e = .returned (.bool true) ∧ Below w.heap.size w w' := by
  have H1 := Lib.hid h1
  have H2 := Lib.hid h2
  obtain ⟨n, hln⟩ : ∃ n, n = K.length := ⟨_, rfl⟩
  rw [← hln] at hn hc1 hc2 ⊢
  have HLN := Lib.hid hln
  have hc1' : (n : Int) ≤ (c1 : Int) := by omega
  have hc2' : (n : Int) ≤ (c2 : Int) := by omega
  have hnn : (((n : Nat) : Int) != ((n : Nat) : Int)) = false := by simp
  clear h1 h2 hln
  go_enter Tryz.func25, Tryz.ntmps25
  go_wp2
  go_loopw [5] (fun iv wr => ∃ i : Nat, iv = .int .i64 i ∧ i ≤ n ∧ Hid (Below w.heap.size w wr)) (fun iv _ => n - (intOf iv).toNat)
  case atStart => exact ⟨0, rfl, Nat.zero_le _, Lib.hid (Below.refl _ _)⟩
  case round =>
    obtain ⟨i, rfl, hi, HI⟩ := hrel
    by_cases hin : i < n
    · have hin' : (i : Int) < (n : Int) := by omega
      have hil : i < K.length := by rw [← HLN.out]; exact hin
      obtain ⟨g1, o1, hA1, _, a0⟩ := (H1.out.below HI.out) i hil
      obtain ⟨g2, o2, hA2, _, b0⟩ := (H2.out.below HI.out) i hil
      subst hA1 hA2
      have HIN := Lib.hid hin
      generalize K[i] = k at *
      have hkk : (((k : Nat) : Int) != ((k : Nat) : Int)) = false := by simp
      clear hin hil
      go_wp2_with fail
      go_quiet (fail)
      go_wp2
      go_roundw
      case rel => exact ⟨i + 1, by go_num, HIN.out, Lib.hid (below_drewN HI.out _)⟩
      case measure => have := HIN.out; simp [intOf]; omega
    · obtain rfl : i = n := by omega
      have hin' : ¬ (i : Int) < (i : Int) := by omega
      clear hin
      go_wp2
      go_ret
      exact ⟨rfl, HI.out⟩
end Go.Proofs.YtdcjpinbflmikaaGreatDoor
namespace Go.Proofs.YtdcjpinbflmikaaGreatDoor
open Go.RowKit Ex
set_option maxHeartbeats 1000000 in
set_option maxRecDepth 100000 in
theorem ramong_any (w : World) (A : Option Addr) (c : Nat) (ns : List Ty.Nm) (h : NsR w w.heap.size A ns) (hc : ns.length ≤ c) (hn : ns.length ≤ 1000000) (s : Ty.Nm) (S : ByteArray) (hS : S = ⟨s.toArray⟩) :
    Calls Tryz.prog 77 #[.string S, .slice A ns.length c] w fun e w' => e = .returned (.bool (decide (s ∈ ns))) ∧ Below w.heap.size w w' := by
  obtain ⟨R, hR⟩ : ∃ R, R = decide (s ∈ ns) := ⟨_, rfl⟩
  rw [← hR]
  have HR := Lib.hid hR
  have H := Lib.hid h
  have HS := Lib.hid hS
  obtain ⟨n, hnl⟩ : ∃ n, n = ns.length := ⟨_, rfl⟩
  rw [← hnl] at hn hc ⊢
  have HN := Lib.hid hnl
  have hc' : (n : Int) ≤ (c : Int) := by omega
  clear hR h hS hnl
  go_enter Tryz.func77, Tryz.ntmps77
  go_wp2
  go_loopw [5] (fun iv wr => ∃ i : Nat, iv = .int .i64 i ∧ i ≤ n ∧ Hid (Below w.heap.size w wr ∧ s ∉ ns.take i)) (fun iv _ => n - (intOf iv).toNat)
  case atStart => exact ⟨0, rfl, Nat.zero_le _, Lib.hid ⟨Below.refl _ _, by simp⟩⟩
  case round =>
    obtain ⟨i, rfl, hi, HI⟩ := hrel
    by_cases hin : i < n
    · have hin' : (i : Int) < (n : Int) := by omega
      have hil : i < ns.length := by rw [← HN.out]; exact hin
      obtain ⟨g, o, hA, hg, q0⟩ := (H.out.below HI.out.1) i hil
      subst hA
      have HT := Lib.hid (show (ns[i] = s → R = true) ∧ (ns[i] ≠ s → s ∉ ns.take (i + 1)) from ⟨fun e => by rw [HR.out]; exact decide_eq_true (e ▸ List.getElem_mem hil), fun e hm => by
        rw [List.take_succ_eq_append_getElem hil] at hm
        rcases List.mem_append.1 hm with hm | hm
        · exact HI.out.2 hm
        · exact e (List.mem_singleton.1 hm).symm⟩)
      have HIN := Lib.hid hin
      generalize ns[i] = t at *
      obtain ⟨U, hU⟩ : ∃ U : ByteArray, U = ⟨t.toArray⟩ := ⟨_, rfl⟩
      rw [← hU] at q0
      by_cases hts : t = s
      · have hUS : U = S := by rw [hU, HS.out, hts]
        have HF := Lib.hid (HT.out.1 hts)
        subst hUS
        clear hts hU HT hin
        go_wp2
        go_ret
        exact ⟨by rw [HF.out]; rfl, HI.out.1⟩
      · have hsN : (U.toList == S.toList) = false := beq_eq_false_iff_ne.2 (fun e => hts (by rw [Lib.toList_data, Lib.toList_data, hU, HS.out] at e; exact e))
        have HF := Lib.hid (HT.out.2 hts)
        clear hts hU HT hin
        go_wp2
        go_roundw
        case rel => exact ⟨i + 1, by go_num, HIN.out, Lib.hid ⟨HI.out.1, HF.out⟩⟩
        case measure => have := HIN.out; simp [intOf]; omega
    · have hin' : ¬ (i : Int) < (n : Int) := by omega
      have HF := Lib.hid (show R = false from by
        rw [HR.out]
        have h3 := HI.out.2
        rw [List.take_of_length_le (by rw [← HN.out]; omega)] at h3
        exact decide_eq_false h3)
      clear hin
      go_wp2
      go_ret
      exact ⟨by rw [HF.out]; rfl, HI.out.1⟩
def RkC (A : Option Addr) (n c : Nat) (A2 : Option Addr) (m c2 : Nat) (w : World) (p : Int) (k : Nat) : Prop := ∀ w', Below w.heap.size w w' →
    Calls Tryz.prog 72 #[.slice A n c, .int .i64 p, .slice A2 m c2] w' fun e w'' => e = .returned (.int .i64 (k : Nat)) ∧ Below w'.heap.size w' w''
structure KdD (w : World) (A : Option Addr) (l : List Nd) (c : Nat) (A2 : Option Addr) (c2 : Nat) (ns : List Ty.Nm) : Prop where
  row : NdR w w.heap.size A l
  cap : l.length ≤ c
  nms : NsR w w.heap.size A2 ns
  cap2 : ns.length ≤ c2
  len : l.length ≤ 1000000 ∧ ns.length ≤ 1000000
set_option maxHeartbeats 1000000 in
set_option maxRecDepth 100000 in
theorem rkind1 {w : World} {A : Option Addr} {l : List Nd} {c : Nat} {A2 : Option Addr} {c2 : Nat} {ns : List Ty.Nm} (E : KdD w A l c A2 c2 ns) {i : Nat} {num : Int} {nm : List UInt8} (hn : l[i]? = some ⟨1, num, nm, -1, -1, -1⟩) : RkC A l.length c A2 ns.length c2 w i 1 := by
  obtain ⟨hi, hn⟩ := List.getElem?_eq_some_iff.1 hn
  intro w' hb'
  obtain ⟨g, o, hAg, hg, q0, q1, q2, q3, q4, q5⟩ := (E.row.to hb') i hi
  subst hAg
  rw [hn] at q0 q1 q2 q3 q4 q5
  obtain ⟨N, hN⟩ : ∃ N : ByteArray, N = ⟨nm.toArray⟩ := ⟨_, rfl⟩
  rw [← hN] at q2
  obtain ⟨W1, hW1⟩ : ∃ W1, W1 = w'.alloc (.cells #[.int .u8 1, .int .i64 num, .string N, .int .i64 (-1), .int .i64 (-1), .int .i64 (-1)] 114) := ⟨_, rfl⟩
  have hb1 : Below w'.heap.size w' W1 := by rw [hW1]; exact (Below.refl _ _).alloc (Nat.le_refl _) _
  have hnb : IsBlk W1 w'.heap.size 114 #[.int .u8 1, .int .i64 num, .string N, .int .i64 (-1), .int .i64 (-1), .int .i64 (-1)] := by rw [hW1]; exact IsBlk.new _ _ _
  have hi' : (i : Int) < (l.length : Int) := by omega
  have hlc : (l.length : Int) ≤ (c : Int) := by have := E.cap; omega
  have hl1 : (l.length : Int) ≤ 1000000 := by have := E.len.1; omega
  have HNM := Lib.hid hN
  have HX := Lib.hid hnb
  have HB1 := Lib.hid hb1
  have HW1 := Lib.hid hW1
  have HBW := Lib.hid (hb'.trans (hb1.mono hb'.size))
  have x0 := hnb.at_ 0
  have x1 := hnb.at_ 1
  have x2 := hnb.at_ 2
  have x3 := hnb.at_ 3
  have x4 := hnb.at_ 4
  have x5 := hnb.at_ 5
  simp only [List.getElem?_toArray, List.getElem?_cons_zero, List.getElem?_cons_succ] at x0 x1 x2 x3 x4 x5
  clear E
  rw [hW1] at x0 x1 x2 x3 x4 x5
  clear hnb hb1 hW1 hb' hi hn hN
  go_enter Tryz.func72, Tryz.ntmps72
  go_wp2
  go_ret
  rw [← HW1.out]
  exact ⟨rfl, HB1.out⟩
set_option maxHeartbeats 1000000 in
set_option maxRecDepth 100000 in
theorem rkind3 {w : World} {A : Option Addr} {l : List Nd} {c : Nat} {A2 : Option Addr} {c2 : Nat} {ns : List Ty.Nm} (E : KdD w A l c A2 c2 ns) {i : Nat} {num : Int} {nm : List UInt8} (hn : l[i]? = some ⟨3, num, nm, -1, -1, -1⟩) : RkC A l.length c A2 ns.length c2 w i 2 := by
  obtain ⟨hi, hn⟩ := List.getElem?_eq_some_iff.1 hn
  intro w' hb'
  obtain ⟨g, o, hAg, hg, q0, q1, q2, q3, q4, q5⟩ := (E.row.to hb') i hi
  subst hAg
  rw [hn] at q0 q1 q2 q3 q4 q5
  obtain ⟨N, hN⟩ : ∃ N : ByteArray, N = ⟨nm.toArray⟩ := ⟨_, rfl⟩
  rw [← hN] at q2
  obtain ⟨W1, hW1⟩ : ∃ W1, W1 = w'.alloc (.cells #[.int .u8 3, .int .i64 num, .string N, .int .i64 (-1), .int .i64 (-1), .int .i64 (-1)] 114) := ⟨_, rfl⟩
  have hb1 : Below w'.heap.size w' W1 := by rw [hW1]; exact (Below.refl _ _).alloc (Nat.le_refl _) _
  have hnb : IsBlk W1 w'.heap.size 114 #[.int .u8 3, .int .i64 num, .string N, .int .i64 (-1), .int .i64 (-1), .int .i64 (-1)] := by rw [hW1]; exact IsBlk.new _ _ _
  have hi' : (i : Int) < (l.length : Int) := by omega
  have hlc : (l.length : Int) ≤ (c : Int) := by have := E.cap; omega
  have hl1 : (l.length : Int) ≤ 1000000 := by have := E.len.1; omega
  have HNM := Lib.hid hN
  have HX := Lib.hid hnb
  have HB1 := Lib.hid hb1
  have HW1 := Lib.hid hW1
  have HBW := Lib.hid (hb'.trans (hb1.mono hb'.size))
  have x0 := hnb.at_ 0
  have x1 := hnb.at_ 1
  have x2 := hnb.at_ 2
  have x3 := hnb.at_ 3
  have x4 := hnb.at_ 4
  have x5 := hnb.at_ 5
  simp only [List.getElem?_toArray, List.getElem?_cons_zero, List.getElem?_cons_succ] at x0 x1 x2 x3 x4 x5
  clear E
  rw [hW1] at x0 x1 x2 x3 x4 x5
  clear hnb hb1 hW1 hb' hi hn hN
  go_enter Tryz.func72, Tryz.ntmps72
  go_wp2
  go_ret
  rw [← HW1.out]
  exact ⟨rfl, HB1.out⟩
set_option maxHeartbeats 1000000 in
set_option maxRecDepth 100000 in
theorem rkind4 {w : World} {A : Option Addr} {l : List Nd} {c : Nat} {A2 : Option Addr} {c2 : Nat} {ns : List Ty.Nm} (E : KdD w A l c A2 c2 ns) {i : Nat} {num : Int} {nm : List UInt8} (hn : l[i]? = some ⟨4, num, nm, -1, -1, -1⟩) : RkC A l.length c A2 ns.length c2 w i 2 := by
  obtain ⟨hi, hn⟩ := List.getElem?_eq_some_iff.1 hn
  intro w' hb'
  obtain ⟨g, o, hAg, hg, q0, q1, q2, q3, q4, q5⟩ := (E.row.to hb') i hi
  subst hAg
  rw [hn] at q0 q1 q2 q3 q4 q5
  obtain ⟨N, hN⟩ : ∃ N : ByteArray, N = ⟨nm.toArray⟩ := ⟨_, rfl⟩
  rw [← hN] at q2
  obtain ⟨W1, hW1⟩ : ∃ W1, W1 = w'.alloc (.cells #[.int .u8 4, .int .i64 num, .string N, .int .i64 (-1), .int .i64 (-1), .int .i64 (-1)] 114) := ⟨_, rfl⟩
  have hb1 : Below w'.heap.size w' W1 := by rw [hW1]; exact (Below.refl _ _).alloc (Nat.le_refl _) _
  have hnb : IsBlk W1 w'.heap.size 114 #[.int .u8 4, .int .i64 num, .string N, .int .i64 (-1), .int .i64 (-1), .int .i64 (-1)] := by rw [hW1]; exact IsBlk.new _ _ _
  have hi' : (i : Int) < (l.length : Int) := by omega
  have hlc : (l.length : Int) ≤ (c : Int) := by have := E.cap; omega
  have hl1 : (l.length : Int) ≤ 1000000 := by have := E.len.1; omega
  have HNM := Lib.hid hN
  have HX := Lib.hid hnb
  have HB1 := Lib.hid hb1
  have HW1 := Lib.hid hW1
  have HBW := Lib.hid (hb'.trans (hb1.mono hb'.size))
  have x0 := hnb.at_ 0
  have x1 := hnb.at_ 1
  have x2 := hnb.at_ 2
  have x3 := hnb.at_ 3
  have x4 := hnb.at_ 4
  have x5 := hnb.at_ 5
  simp only [List.getElem?_toArray, List.getElem?_cons_zero, List.getElem?_cons_succ] at x0 x1 x2 x3 x4 x5
  clear E
  rw [hW1] at x0 x1 x2 x3 x4 x5
  clear hnb hb1 hW1 hb' hi hn hN
  go_enter Tryz.func72, Tryz.ntmps72
  go_wp2
  go_ret
  rw [← HW1.out]
  exact ⟨rfl, HB1.out⟩
set_option maxHeartbeats 1000000 in
set_option maxRecDepth 100000 in
theorem rkind2 {w : World} {A : Option Addr} {l : List Nd} {c : Nat} {A2 : Option Addr} {c2 : Nat} {ns : List Ty.Nm} (E : KdD w A l c A2 c2 ns) {i : Nat} {num : Int} {nm : List UInt8} (hn : l[i]? = some ⟨2, num, nm, -1, -1, -1⟩) : RkC A l.length c A2 ns.length c2 w i (if nm ∈ ns then 1 else 0) := by
  obtain ⟨hi, hn⟩ := List.getElem?_eq_some_iff.1 hn
  intro w' hb'
  obtain ⟨g, o, hAg, hg, q0, q1, q2, q3, q4, q5⟩ := (E.row.to hb') i hi
  subst hAg
  rw [hn] at q0 q1 q2 q3 q4 q5
  obtain ⟨N, hN⟩ : ∃ N : ByteArray, N = ⟨nm.toArray⟩ := ⟨_, rfl⟩
  rw [← hN] at q2
  obtain ⟨W1, hW1⟩ : ∃ W1, W1 = w'.alloc (.cells #[.int .u8 2, .int .i64 num, .string N, .int .i64 (-1), .int .i64 (-1), .int .i64 (-1)] 114) := ⟨_, rfl⟩
  have hb1 : Below w'.heap.size w' W1 := by rw [hW1]; exact (Below.refl _ _).alloc (Nat.le_refl _) _
  have hnb : IsBlk W1 w'.heap.size 114 #[.int .u8 2, .int .i64 num, .string N, .int .i64 (-1), .int .i64 (-1), .int .i64 (-1)] := by rw [hW1]; exact IsBlk.new _ _ _
  have hi' : (i : Int) < (l.length : Int) := by omega
  have hlc : (l.length : Int) ≤ (c : Int) := by have := E.cap; omega
  have hl1 : (l.length : Int) ≤ 1000000 := by have := E.len.1; omega
  have HNM := Lib.hid hN
  have HX := Lib.hid hnb
  have HB1 := Lib.hid hb1
  have HW1 := Lib.hid hW1
  have HBW := Lib.hid (hb'.trans (hb1.mono hb'.size))
  have x0 := hnb.at_ 0
  have x1 := hnb.at_ 1
  have x2 := hnb.at_ 2
  have x3 := hnb.at_ 3
  have x4 := hnb.at_ 4
  have x5 := hnb.at_ 5
  simp only [List.getElem?_toArray, List.getElem?_cons_zero, List.getElem?_cons_succ] at x0 x1 x2 x3 x4 x5
  have HAM := Lib.hid (ramong_any W1 A2 c2 ns ((E.nms.below HBW.out).more HBW.out.size) E.cap2 E.len.2 nm N hN)
  have HD : Hid (∀ b : Bool, b = decide (nm ∈ ns) → (if nm ∈ ns then 1 else 0 : Nat) = if b then 1 else 0) := Lib.hid (fun b hb => by rw [hb]; by_cases h : nm ∈ ns <;> simp [h])
  generalize decide (nm ∈ ns) = b at *
  have HE := Lib.hid (HD.out b rfl)
  generalize (if nm ∈ ns then 1 else 0 : Nat) = k at *
  generalize ns.length = m at *
  clear E HD
  cases b with
  | true =>
    rw [hW1] at x0 x1 x2 x3 x4 x5
    clear hnb hb1 hW1 hb' hi hn hN
    go_enter Tryz.func72, Tryz.ntmps72
    go_wp2_with fail
    rw [← HW1.out]
    refine HAM.out.mono ?_
    rintro e w1 ⟨rfl, hb⟩
    have HB2 := Lib.hid (HB1.out.trans (hb.mono HB1.out.size))
    clear hb
    go_wp2
    go_ret
    exact ⟨by rw [HE.out]; rfl, HB2.out⟩
  | false =>
    rw [hW1] at x0 x1 x2 x3 x4 x5
    clear hnb hb1 hW1 hb' hi hn hN
    go_enter Tryz.func72, Tryz.ntmps72
    go_wp2_with fail
    rw [← HW1.out]
    refine HAM.out.mono ?_
    rintro e w1 ⟨rfl, hb⟩
    have HB2 := Lib.hid (HB1.out.trans (hb.mono HB1.out.size))
    clear hb
    go_wp2
    go_ret
    exact ⟨by rw [HE.out]; rfl, HB2.out⟩
set_option maxHeartbeats 1000000 in
set_option maxRecDepth 100000 in
theorem rkind5 {w : World} {A : Option Addr} {l : List Nd} {c : Nat} {A2 : Option Addr} {c2 : Nat} {ns : List Ty.Nm} (E : KdD w A l c A2 c2 ns) {i : Nat} {num na : Int} {nm : List UInt8} (hn : l[i]? = some ⟨5, num, nm, na, -1, -1⟩) (hna : 0 ≤ na) {ka : Nat} (hka : ka ≤ 2) (hA : RkC A l.length c A2 ns.length c2 w na ka) : RkC A l.length c A2 ns.length c2 w i (if ka = 1 then 1 else 0) := by
  obtain ⟨hi, hn⟩ := List.getElem?_eq_some_iff.1 hn
  intro w' hb'
  obtain ⟨g, o, hAg, hg, q0, q1, q2, q3, q4, q5⟩ := (E.row.to hb') i hi
  subst hAg
  rw [hn] at q0 q1 q2 q3 q4 q5
  obtain ⟨N, hN⟩ : ∃ N : ByteArray, N = ⟨nm.toArray⟩ := ⟨_, rfl⟩
  rw [← hN] at q2
  obtain ⟨W1, hW1⟩ : ∃ W1, W1 = w'.alloc (.cells #[.int .u8 5, .int .i64 num, .string N, .int .i64 na, .int .i64 (-1), .int .i64 (-1)] 114) := ⟨_, rfl⟩
  have hb1 : Below w'.heap.size w' W1 := by rw [hW1]; exact (Below.refl _ _).alloc (Nat.le_refl _) _
  have hnb : IsBlk W1 w'.heap.size 114 #[.int .u8 5, .int .i64 num, .string N, .int .i64 na, .int .i64 (-1), .int .i64 (-1)] := by rw [hW1]; exact IsBlk.new _ _ _
  have hi' : (i : Int) < (l.length : Int) := by omega
  have hlc : (l.length : Int) ≤ (c : Int) := by have := E.cap; omega
  have hl1 : (l.length : Int) ≤ 1000000 := by have := E.len.1; omega
  have HNM := Lib.hid hN
  have HX := Lib.hid hnb
  have HB1 := Lib.hid hb1
  have HW1 := Lib.hid hW1
  have HBW := Lib.hid (hb'.trans (hb1.mono hb'.size))
  have x0 := hnb.at_ 0
  have x1 := hnb.at_ 1
  have x2 := hnb.at_ 2
  have x3 := hnb.at_ 3
  have x4 := hnb.at_ 4
  have x5 := hnb.at_ 5
  simp only [List.getElem?_toArray, List.getElem?_cons_zero, List.getElem?_cons_succ] at x0 x1 x2 x3 x4 x5
  have HA := Lib.hid (hA W1 HBW.out)
  generalize ns.length = m at *
  clear E hA
  rcases (by omega : ka = 0 ∨ ka = 1 ∨ ka = 2) with rfl | rfl | rfl
  all_goals
    rw [hW1] at x0 x1 x2 x3 x4 x5
    clear hnb hb1 hW1 hb' hi hn hN
    go_enter Tryz.func72, Tryz.ntmps72
    go_wp2_with fail
    rw [← HW1.out]
    refine (HA.out).mono ?_
    rintro e w1 ⟨rfl, hb⟩
    have HB2 := Lib.hid (HB1.out.trans (hb.mono HB1.out.size))
    have hk := HX.out.below ((Below.refl W1.heap.size W1).trans (hb)) HX.out.lt
    clear hb x0 x1 x2 x3 x4 x5
    have x0 := hk.at_ 0
    have x1 := hk.at_ 1
    have x2 := hk.at_ 2
    have x3 := hk.at_ 3
    have x4 := hk.at_ 4
    have x5 := hk.at_ 5
    simp only [List.getElem?_toArray, List.getElem?_cons_zero, List.getElem?_cons_succ] at x0 x1 x2 x3 x4 x5
    clear hk
    go_wp2
    go_ret
    exact ⟨rfl, HB2.out⟩
set_option maxHeartbeats 1000000 in
set_option maxRecDepth 100000 in
theorem rkind6 {w : World} {A : Option Addr} {l : List Nd} {c : Nat} {A2 : Option Addr} {c2 : Nat} {ns : List Ty.Nm} (E : KdD w A l c A2 c2 ns) {i : Nat} {num na : Int} {nm : List UInt8} (hn : l[i]? = some ⟨6, num, nm, na, -1, -1⟩) (hna : 0 ≤ na) {ka : Nat} (hka : ka ≤ 2) (hA : RkC A l.length c A2 ns.length c2 w na ka) : RkC A l.length c A2 ns.length c2 w i (if ka = 2 then 2 else 0) := by
  obtain ⟨hi, hn⟩ := List.getElem?_eq_some_iff.1 hn
  intro w' hb'
  obtain ⟨g, o, hAg, hg, q0, q1, q2, q3, q4, q5⟩ := (E.row.to hb') i hi
  subst hAg
  rw [hn] at q0 q1 q2 q3 q4 q5
  obtain ⟨N, hN⟩ : ∃ N : ByteArray, N = ⟨nm.toArray⟩ := ⟨_, rfl⟩
  rw [← hN] at q2
  obtain ⟨W1, hW1⟩ : ∃ W1, W1 = w'.alloc (.cells #[.int .u8 6, .int .i64 num, .string N, .int .i64 na, .int .i64 (-1), .int .i64 (-1)] 114) := ⟨_, rfl⟩
  have hb1 : Below w'.heap.size w' W1 := by rw [hW1]; exact (Below.refl _ _).alloc (Nat.le_refl _) _
  have hnb : IsBlk W1 w'.heap.size 114 #[.int .u8 6, .int .i64 num, .string N, .int .i64 na, .int .i64 (-1), .int .i64 (-1)] := by rw [hW1]; exact IsBlk.new _ _ _
  have hi' : (i : Int) < (l.length : Int) := by omega
  have hlc : (l.length : Int) ≤ (c : Int) := by have := E.cap; omega
  have hl1 : (l.length : Int) ≤ 1000000 := by have := E.len.1; omega
  have HNM := Lib.hid hN
  have HX := Lib.hid hnb
  have HB1 := Lib.hid hb1
  have HW1 := Lib.hid hW1
  have HBW := Lib.hid (hb'.trans (hb1.mono hb'.size))
  have x0 := hnb.at_ 0
  have x1 := hnb.at_ 1
  have x2 := hnb.at_ 2
  have x3 := hnb.at_ 3
  have x4 := hnb.at_ 4
  have x5 := hnb.at_ 5
  simp only [List.getElem?_toArray, List.getElem?_cons_zero, List.getElem?_cons_succ] at x0 x1 x2 x3 x4 x5
  have HA := Lib.hid (hA W1 HBW.out)
  generalize ns.length = m at *
  clear E hA
  rcases (by omega : ka = 0 ∨ ka = 1 ∨ ka = 2) with rfl | rfl | rfl
  all_goals
    rw [hW1] at x0 x1 x2 x3 x4 x5
    clear hnb hb1 hW1 hb' hi hn hN
    go_enter Tryz.func72, Tryz.ntmps72
    go_wp2_with fail
    rw [← HW1.out]
    refine (HA.out).mono ?_
    rintro e w1 ⟨rfl, hb⟩
    have HB2 := Lib.hid (HB1.out.trans (hb.mono HB1.out.size))
    have hk := HX.out.below ((Below.refl W1.heap.size W1).trans (hb)) HX.out.lt
    clear hb x0 x1 x2 x3 x4 x5
    have x0 := hk.at_ 0
    have x1 := hk.at_ 1
    have x2 := hk.at_ 2
    have x3 := hk.at_ 3
    have x4 := hk.at_ 4
    have x5 := hk.at_ 5
    simp only [List.getElem?_toArray, List.getElem?_cons_zero, List.getElem?_cons_succ] at x0 x1 x2 x3 x4 x5
    clear hk
    go_wp2
    go_ret
    exact ⟨rfl, HB2.out⟩
end Go.Proofs.YtdcjpinbflmikaaGreatDoor
