/- Facts and walks for the statement. -/
import Derived.Test.YtmmdigeciphglaaGreatDoorPzB26
import Derived.Test.YtmmdigeciphglaaGreatDoorChecked
import Derived.WalkKit
import Derived.BigQuiet
import Derived.WalkSmall
import Derived.Lib.Bytealg
import Derived.Lib.IndexLaws
import Derived.Deep.AppendLies
import Derived.OwnWalk
import Derived.Lib.OthersKept
import Derived.Lib.Hide
import Derived.Test.YtmmdigeciphglaaGreatDoorPzC01
import Derived.Handy
import Derived.Outline
import Derived.Deep.QuietTactic
import Derived.Deep.RegionLaw
import Derived.Deep.RegionHeld3
import Derived.Lib.ItoaNum
import Derived.Test.YtmmdigeciphglaaGreatDoorPzC00
import Derived.Test.YtmmdigeciphglaaGreatDoorProg
import Derived.Laws.EntriesVeiled
import Derived.Lib.CutLaws
import Derived.WalkLawsBesides
import Derived.Deep.DeepFit
import Derived.WalkSpells
import Derived.IntWalk
import Derived.Lib.ParseIntBCases
import Derived.LaidEql
import Derived.Stop.Asserts
import Derived.RowKitTokens
import Derived.Lib.SmallJoins
import Derived.Lib.LaidTab
import Derived.Deep.CutRange
import Derived.StillTailTactics
import Derived.Deep.RegionWith
import Derived.Maps.OwnSet
namespace Go.Proofs.YtmmdigeciphglaaGreatDoor
open Go.RowKit Ex
set_option maxHeartbeats 1000000 in
set_option maxRecDepth 100000 in
theorem ramong_any (w : World) (A : Option Addr) (c : Nat) (ns : List Ty.Nm) (h : NsR w w.heap.size A ns) (hc : ns.length ≤ c) (hn : ns.length ≤ 1000000) (s : Ty.Nm) (S : ByteArray) (hS : S = ⟨s.toArray⟩) :
    Calls Tryz.prog 139 #[.string S, .slice A ns.length c] w fun e w' => e = .returned (.bool (decide (s ∈ ns))) ∧ Below w.heap.size w w' := by
  obtain ⟨R, hR⟩ : ∃ R, R = decide (s ∈ ns) := ⟨_, rfl⟩
  rw [← hR]
  have HR := Lib.hid hR
  have H := Lib.hid h
  have HS := Lib.hid hS
  obtain ⟨n, hnl⟩ : ∃ n, n = ns.length := ⟨_, rfl⟩
  rw [← hnl] at hn hc ⊢
  have HN := Lib.hid hnl
  have hc' : (n : Int) ≤ (c : Int) := by omega
  clear hR h hS hnl
  go_enter Tryz.func139, Tryz.ntmps139
  go_wp2
  go_loopw [5] (fun iv wr => ∃ i : Nat, iv = .int .i64 i ∧ i ≤ n ∧ Hid (Below w.heap.size w wr ∧ s ∉ ns.take i)) (fun iv _ => n - (intOf iv).toNat)
  case atStart => exact ⟨0, rfl, Nat.zero_le _, Lib.hid ⟨Below.refl _ _, by simp⟩⟩
  case round =>
    obtain ⟨i, rfl, hi, HI⟩ := hrel
    by_cases hin : i < n
    · have hin' : (i : Int) < (n : Int) := by omega
      have hil : i < ns.length := by rw [← HN.out]; exact hin
      obtain ⟨g, o, hA, hg, q0⟩ := (H.out.below HI.out.1) i hil
      subst hA
      have HT := Lib.hid (show (ns[i] = s → R = true) ∧ (ns[i] ≠ s → s ∉ ns.take (i + 1)) from ⟨fun e => by rw [HR.out]; exact decide_eq_true (e ▸ List.getElem_mem hil), fun e hm => by
        rw [List.take_succ_eq_append_getElem hil] at hm
        rcases List.mem_append.1 hm with hm | hm
        · exact HI.out.2 hm
        · exact e (List.mem_singleton.1 hm).symm⟩)
      have HIN := Lib.hid hin
      generalize ns[i] = t at *
      obtain ⟨U, hU⟩ : ∃ U : ByteArray, U = ⟨t.toArray⟩ := ⟨_, rfl⟩
      rw [← hU] at q0
      by_cases hts : t = s
      · have hUS : U = S := by rw [hU, HS.out, hts]
        have HF := Lib.hid (HT.out.1 hts)
        subst hUS
        clear hts hU HT hin
        go_wp2
        go_ret
        exact ⟨by rw [HF.out]; rfl, HI.out.1⟩
      · have hsN : (U.toList == S.toList) = false := beq_eq_false_iff_ne.2 (fun e => hts (by rw [Lib.toList_data, Lib.toList_data, hU, HS.out] at e; exact e))
        have HF := Lib.hid (HT.out.2 hts)
        clear hts hU HT hin
        go_wp2
        go_roundw
        case rel => exact ⟨i + 1, by go_num, HIN.out, Lib.hid ⟨HI.out.1, HF.out⟩⟩
        case measure => have := HIN.out; simp [intOf]; omega
    · have hin' : ¬ (i : Int) < (n : Int) := by omega
      have HF := Lib.hid (show R = false from by
        rw [HR.out]
        have h3 := HI.out.2
        rw [List.take_of_length_le (by rw [← HN.out]; omega)] at h3
        exact decide_eq_false h3)
      clear hin
      go_wp2
      go_ret
      exact ⟨by rw [HF.out]; rfl, HI.out.1⟩
def RkC (A : Option Addr) (n c : Nat) (A2 : Option Addr) (m c2 : Nat) (w : World) (p : Int) (k : Nat) : Prop := ∀ w', Below w.heap.size w w' →
    Calls Tryz.prog 114 #[.slice A n c, .int .i64 p, .slice A2 m c2] w' fun e w'' => e = .returned (.int .i64 (k : Nat)) ∧ Below w'.heap.size w' w''
structure KdD (w : World) (A : Option Addr) (l : List Nd) (c : Nat) (A2 : Option Addr) (c2 : Nat) (ns : List Ty.Nm) : Prop where
  row : NdR w w.heap.size A l
  cap : l.length ≤ c
  nms : NsR w w.heap.size A2 ns
  cap2 : ns.length ≤ c2
  len : l.length ≤ 1000000 ∧ ns.length ≤ 1000000
set_option maxHeartbeats 1000000 in
set_option maxRecDepth 100000 in
theorem rkind1 {w : World} {A : Option Addr} {l : List Nd} {c : Nat} {A2 : Option Addr} {c2 : Nat} {ns : List Ty.Nm} (E : KdD w A l c A2 c2 ns) {i : Nat} {num : Int} {nm : List UInt8} (hn : l[i]? = some ⟨1, num, nm, -1, -1, -1⟩) : RkC A l.length c A2 ns.length c2 w i 1 := by
  obtain ⟨hi, hn⟩ := List.getElem?_eq_some_iff.1 hn
  intro w' hb'
  obtain ⟨g, o, hAg, hg, q0, q1, q2, q3, q4, q5⟩ := (E.row.to hb') i hi
  subst hAg
  rw [hn] at q0 q1 q2 q3 q4 q5
  obtain ⟨N, hN⟩ : ∃ N : ByteArray, N = ⟨nm.toArray⟩ := ⟨_, rfl⟩
  rw [← hN] at q2
  obtain ⟨W1, hW1⟩ : ∃ W1, W1 = w'.alloc (.cells #[.int .u8 1, .int .i64 num, .string N, .int .i64 (-1), .int .i64 (-1), .int .i64 (-1)] 104) := ⟨_, rfl⟩
  have hb1 : Below w'.heap.size w' W1 := by rw [hW1]; exact (Below.refl _ _).alloc (Nat.le_refl _) _
  have hnb : IsBlk W1 w'.heap.size 104 #[.int .u8 1, .int .i64 num, .string N, .int .i64 (-1), .int .i64 (-1), .int .i64 (-1)] := by rw [hW1]; exact IsBlk.new _ _ _
  have hi' : (i : Int) < (l.length : Int) := by omega
  have hlc : (l.length : Int) ≤ (c : Int) := by have := E.cap; omega
  have hl1 : (l.length : Int) ≤ 1000000 := by have := E.len.1; omega
  have HNM := Lib.hid hN
  have HX := Lib.hid hnb
  have HB1 := Lib.hid hb1
  have HW1 := Lib.hid hW1
  have HBW := Lib.hid (hb'.trans (hb1.mono hb'.size))
  have x0 := hnb.at_ 0
  have x1 := hnb.at_ 1
  have x2 := hnb.at_ 2
  have x3 := hnb.at_ 3
  have x4 := hnb.at_ 4
  have x5 := hnb.at_ 5
  simp only [List.getElem?_toArray, List.getElem?_cons_zero, List.getElem?_cons_succ] at x0 x1 x2 x3 x4 x5
  clear E
  rw [hW1] at x0 x1 x2 x3 x4 x5
  clear hnb hb1 hW1 hb' hi hn hN
  go_enter Tryz.func114, Tryz.ntmps114
  go_wp2
  go_ret
  rw [← HW1.out]
  exact ⟨rfl, HB1.out⟩
set_option maxHeartbeats 1000000 in
set_option maxRecDepth 100000 in
theorem rkind3 {w : World} {A : Option Addr} {l : List Nd} {c : Nat} {A2 : Option Addr} {c2 : Nat} {ns : List Ty.Nm} (E : KdD w A l c A2 c2 ns) {i : Nat} {num : Int} {nm : List UInt8} (hn : l[i]? = some ⟨3, num, nm, -1, -1, -1⟩) : RkC A l.length c A2 ns.length c2 w i 2 := by
  obtain ⟨hi, hn⟩ := List.getElem?_eq_some_iff.1 hn
  intro w' hb'
  obtain ⟨g, o, hAg, hg, q0, q1, q2, q3, q4, q5⟩ := (E.row.to hb') i hi
  subst hAg
  rw [hn] at q0 q1 q2 q3 q4 q5
  obtain ⟨N, hN⟩ : ∃ N : ByteArray, N = ⟨nm.toArray⟩ := ⟨_, rfl⟩
  rw [← hN] at q2
  obtain ⟨W1, hW1⟩ : ∃ W1, W1 = w'.alloc (.cells #[.int .u8 3, .int .i64 num, .string N, .int .i64 (-1), .int .i64 (-1), .int .i64 (-1)] 104) := ⟨_, rfl⟩
  have hb1 : Below w'.heap.size w' W1 := by rw [hW1]; exact (Below.refl _ _).alloc (Nat.le_refl _) _
  have hnb : IsBlk W1 w'.heap.size 104 #[.int .u8 3, .int .i64 num, .string N, .int .i64 (-1), .int .i64 (-1), .int .i64 (-1)] := by rw [hW1]; exact IsBlk.new _ _ _
  have hi' : (i : Int) < (l.length : Int) := by omega
  have hlc : (l.length : Int) ≤ (c : Int) := by have := E.cap; omega
  have hl1 : (l.length : Int) ≤ 1000000 := by have := E.len.1; omega
  have HNM := Lib.hid hN
  have HX := Lib.hid hnb
  have HB1 := Lib.hid hb1
  have HW1 := Lib.hid hW1
  have HBW := Lib.hid (hb'.trans (hb1.mono hb'.size))
  have x0 := hnb.at_ 0
  have x1 := hnb.at_ 1
  have x2 := hnb.at_ 2
  have x3 := hnb.at_ 3
  have x4 := hnb.at_ 4
  have x5 := hnb.at_ 5
  simp only [List.getElem?_toArray, List.getElem?_cons_zero, List.getElem?_cons_succ] at x0 x1 x2 x3 x4 x5
  clear E
  rw [hW1] at x0 x1 x2 x3 x4 x5
  clear hnb hb1 hW1 hb' hi hn hN
  go_enter Tryz.func114, Tryz.ntmps114
  go_wp2
  go_ret
  rw [← HW1.out]
  exact ⟨rfl, HB1.out⟩
set_option maxHeartbeats 1000000 in
set_option maxRecDepth 100000 in
theorem rkind4 {w : World} {A : Option Addr} {l : List Nd} {c : Nat} {A2 : Option Addr} {c2 : Nat} {ns : List Ty.Nm} (E : KdD w A l c A2 c2 ns) {i : Nat} {num : Int} {nm : List UInt8} (hn : l[i]? = some ⟨4, num, nm, -1, -1, -1⟩) : RkC A l.length c A2 ns.length c2 w i 2 := by
  obtain ⟨hi, hn⟩ := List.getElem?_eq_some_iff.1 hn
  intro w' hb'
  obtain ⟨g, o, hAg, hg, q0, q1, q2, q3, q4, q5⟩ := (E.row.to hb') i hi
  subst hAg
  rw [hn] at q0 q1 q2 q3 q4 q5
  obtain ⟨N, hN⟩ : ∃ N : ByteArray, N = ⟨nm.toArray⟩ := ⟨_, rfl⟩
  rw [← hN] at q2
  obtain ⟨W1, hW1⟩ : ∃ W1, W1 = w'.alloc (.cells #[.int .u8 4, .int .i64 num, .string N, .int .i64 (-1), .int .i64 (-1), .int .i64 (-1)] 104) := ⟨_, rfl⟩
  have hb1 : Below w'.heap.size w' W1 := by rw [hW1]; exact (Below.refl _ _).alloc (Nat.le_refl _) _
  have hnb : IsBlk W1 w'.heap.size 104 #[.int .u8 4, .int .i64 num, .string N, .int .i64 (-1), .int .i64 (-1), .int .i64 (-1)] := by rw [hW1]; exact IsBlk.new _ _ _
  have hi' : (i : Int) < (l.length : Int) := by omega
  have hlc : (l.length : Int) ≤ (c : Int) := by have := E.cap; omega
  have hl1 : (l.length : Int) ≤ 1000000 := by have := E.len.1; omega
  have HNM := Lib.hid hN
  have HX := Lib.hid hnb
  have HB1 := Lib.hid hb1
  have HW1 := Lib.hid hW1
  have HBW := Lib.hid (hb'.trans (hb1.mono hb'.size))
  have x0 := hnb.at_ 0
  have x1 := hnb.at_ 1
  have x2 := hnb.at_ 2
  have x3 := hnb.at_ 3
  have x4 := hnb.at_ 4
  have x5 := hnb.at_ 5
  simp only [List.getElem?_toArray, List.getElem?_cons_zero, List.getElem?_cons_succ] at x0 x1 x2 x3 x4 x5
  clear E
  rw [hW1] at x0 x1 x2 x3 x4 x5
  clear hnb hb1 hW1 hb' hi hn hN
  go_enter Tryz.func114, Tryz.ntmps114
  go_wp2
  go_ret
  rw [← HW1.out]
  exact ⟨rfl, HB1.out⟩
set_option maxHeartbeats 1000000 in
set_option maxRecDepth 100000 in
theorem rkind2 {w : World} {A : Option Addr} {l : List Nd} {c : Nat} {A2 : Option Addr} {c2 : Nat} {ns : List Ty.Nm} (E : KdD w A l c A2 c2 ns) {i : Nat} {num : Int} {nm : List UInt8} (hn : l[i]? = some ⟨2, num, nm, -1, -1, -1⟩) : RkC A l.length c A2 ns.length c2 w i (if nm ∈ ns then 1 else 0) := by
  obtain ⟨hi, hn⟩ := List.getElem?_eq_some_iff.1 hn
  intro w' hb'
  obtain ⟨g, o, hAg, hg, q0, q1, q2, q3, q4, q5⟩ := (E.row.to hb') i hi
  subst hAg
  rw [hn] at q0 q1 q2 q3 q4 q5
  obtain ⟨N, hN⟩ : ∃ N : ByteArray, N = ⟨nm.toArray⟩ := ⟨_, rfl⟩
  rw [← hN] at q2
  obtain ⟨W1, hW1⟩ : ∃ W1, W1 = w'.alloc (.cells #[.int .u8 2, .int .i64 num, .string N, .int .i64 (-1), .int .i64 (-1), .int .i64 (-1)] 104) := ⟨_, rfl⟩
  have hb1 : Below w'.heap.size w' W1 := by rw [hW1]; exact (Below.refl _ _).alloc (Nat.le_refl _) _
  have hnb : IsBlk W1 w'.heap.size 104 #[.int .u8 2, .int .i64 num, .string N, .int .i64 (-1), .int .i64 (-1), .int .i64 (-1)] := by rw [hW1]; exact IsBlk.new _ _ _
  have hi' : (i : Int) < (l.length : Int) := by omega
  have hlc : (l.length : Int) ≤ (c : Int) := by have := E.cap; omega
  have hl1 : (l.length : Int) ≤ 1000000 := by have := E.len.1; omega
  have HNM := Lib.hid hN
  have HX := Lib.hid hnb
  have HB1 := Lib.hid hb1
  have HW1 := Lib.hid hW1
  have HBW := Lib.hid (hb'.trans (hb1.mono hb'.size))
  have x0 := hnb.at_ 0
  have x1 := hnb.at_ 1
  have x2 := hnb.at_ 2
  have x3 := hnb.at_ 3
  have x4 := hnb.at_ 4
  have x5 := hnb.at_ 5
  simp only [List.getElem?_toArray, List.getElem?_cons_zero, List.getElem?_cons_succ] at x0 x1 x2 x3 x4 x5
  have HAM := Lib.hid (ramong_any W1 A2 c2 ns ((E.nms.below HBW.out).more HBW.out.size) E.cap2 E.len.2 nm N hN)
  have HD : Hid (∀ b : Bool, b = decide (nm ∈ ns) → (if nm ∈ ns then 1 else 0 : Nat) = if b then 1 else 0) := Lib.hid (fun b hb => by rw [hb]; by_cases h : nm ∈ ns <;> simp [h])
  generalize decide (nm ∈ ns) = b at *
  have HE := Lib.hid (HD.out b rfl)
  generalize (if nm ∈ ns then 1 else 0 : Nat) = k at *
  generalize ns.length = m at *
  clear E HD
  cases b with
  | true =>
    rw [hW1] at x0 x1 x2 x3 x4 x5
    clear hnb hb1 hW1 hb' hi hn hN
    go_enter Tryz.func114, Tryz.ntmps114
    go_wp2_with fail
    rw [← HW1.out]
    refine HAM.out.mono ?_
    rintro e w1 ⟨rfl, hb⟩
    have HB2 := Lib.hid (HB1.out.trans (hb.mono HB1.out.size))
    clear hb
    go_wp2
    go_ret
    exact ⟨by rw [HE.out]; rfl, HB2.out⟩
  | false =>
    rw [hW1] at x0 x1 x2 x3 x4 x5
    clear hnb hb1 hW1 hb' hi hn hN
    go_enter Tryz.func114, Tryz.ntmps114
    go_wp2_with fail
    rw [← HW1.out]
    refine HAM.out.mono ?_
    rintro e w1 ⟨rfl, hb⟩
    have HB2 := Lib.hid (HB1.out.trans (hb.mono HB1.out.size))
    clear hb
    go_wp2
    go_ret
    exact ⟨by rw [HE.out]; rfl, HB2.out⟩
set_option maxHeartbeats 1000000 in
set_option maxRecDepth 100000 in
theorem rkind5 {w : World} {A : Option Addr} {l : List Nd} {c : Nat} {A2 : Option Addr} {c2 : Nat} {ns : List Ty.Nm} (E : KdD w A l c A2 c2 ns) {i : Nat} {num na : Int} {nm : List UInt8} (hn : l[i]? = some ⟨5, num, nm, na, -1, -1⟩) (hna : 0 ≤ na) {ka : Nat} (hka : ka ≤ 2) (hA : RkC A l.length c A2 ns.length c2 w na ka) : RkC A l.length c A2 ns.length c2 w i (if ka = 1 then 1 else 0) := by
  obtain ⟨hi, hn⟩ := List.getElem?_eq_some_iff.1 hn
  intro w' hb'
  obtain ⟨g, o, hAg, hg, q0, q1, q2, q3, q4, q5⟩ := (E.row.to hb') i hi
  subst hAg
  rw [hn] at q0 q1 q2 q3 q4 q5
  obtain ⟨N, hN⟩ : ∃ N : ByteArray, N = ⟨nm.toArray⟩ := ⟨_, rfl⟩
  rw [← hN] at q2
  obtain ⟨W1, hW1⟩ : ∃ W1, W1 = w'.alloc (.cells #[.int .u8 5, .int .i64 num, .string N, .int .i64 na, .int .i64 (-1), .int .i64 (-1)] 104) := ⟨_, rfl⟩
  have hb1 : Below w'.heap.size w' W1 := by rw [hW1]; exact (Below.refl _ _).alloc (Nat.le_refl _) _
  have hnb : IsBlk W1 w'.heap.size 104 #[.int .u8 5, .int .i64 num, .string N, .int .i64 na, .int .i64 (-1), .int .i64 (-1)] := by rw [hW1]; exact IsBlk.new _ _ _
  have hi' : (i : Int) < (l.length : Int) := by omega
  have hlc : (l.length : Int) ≤ (c : Int) := by have := E.cap; omega
  have hl1 : (l.length : Int) ≤ 1000000 := by have := E.len.1; omega
  have HNM := Lib.hid hN
  have HX := Lib.hid hnb
  have HB1 := Lib.hid hb1
  have HW1 := Lib.hid hW1
  have HBW := Lib.hid (hb'.trans (hb1.mono hb'.size))
  have x0 := hnb.at_ 0
  have x1 := hnb.at_ 1
  have x2 := hnb.at_ 2
  have x3 := hnb.at_ 3
  have x4 := hnb.at_ 4
  have x5 := hnb.at_ 5
  simp only [List.getElem?_toArray, List.getElem?_cons_zero, List.getElem?_cons_succ] at x0 x1 x2 x3 x4 x5
  have HA := Lib.hid (hA W1 HBW.out)
  generalize ns.length = m at *
  clear E hA
  rcases (by omega : ka = 0 ∨ ka = 1 ∨ ka = 2) with rfl | rfl | rfl
  all_goals
    rw [hW1] at x0 x1 x2 x3 x4 x5
    clear hnb hb1 hW1 hb' hi hn hN
    go_enter Tryz.func114, Tryz.ntmps114
    go_wp2_with fail
    rw [← HW1.out]
    refine (HA.out).mono ?_
    rintro e w1 ⟨rfl, hb⟩
    have HB2 := Lib.hid (HB1.out.trans (hb.mono HB1.out.size))
    have hk := HX.out.below ((Below.refl W1.heap.size W1).trans (hb)) HX.out.lt
    clear hb x0 x1 x2 x3 x4 x5
    have x0 := hk.at_ 0
    have x1 := hk.at_ 1
    have x2 := hk.at_ 2
    have x3 := hk.at_ 3
    have x4 := hk.at_ 4
    have x5 := hk.at_ 5
    simp only [List.getElem?_toArray, List.getElem?_cons_zero, List.getElem?_cons_succ] at x0 x1 x2 x3 x4 x5
    clear hk
    go_wp2
    go_ret
    exact ⟨rfl, HB2.out⟩
set_option maxHeartbeats 1000000 in
set_option maxRecDepth 100000 in
theorem rkind6 {w : World} {A : Option Addr} {l : List Nd} {c : Nat} {A2 : Option Addr} {c2 : Nat} {ns : List Ty.Nm} (E : KdD w A l c A2 c2 ns) {i : Nat} {num na : Int} {nm : List UInt8} (hn : l[i]? = some ⟨6, num, nm, na, -1, -1⟩) (hna : 0 ≤ na) {ka : Nat} (hka : ka ≤ 2) (hA : RkC A l.length c A2 ns.length c2 w na ka) : RkC A l.length c A2 ns.length c2 w i (if ka = 2 then 2 else 0) := by
  obtain ⟨hi, hn⟩ := List.getElem?_eq_some_iff.1 hn
  intro w' hb'
  obtain ⟨g, o, hAg, hg, q0, q1, q2, q3, q4, q5⟩ := (E.row.to hb') i hi
  subst hAg
  rw [hn] at q0 q1 q2 q3 q4 q5
  obtain ⟨N, hN⟩ : ∃ N : ByteArray, N = ⟨nm.toArray⟩ := ⟨_, rfl⟩
  rw [← hN] at q2
  obtain ⟨W1, hW1⟩ : ∃ W1, W1 = w'.alloc (.cells #[.int .u8 6, .int .i64 num, .string N, .int .i64 na, .int .i64 (-1), .int .i64 (-1)] 104) := ⟨_, rfl⟩
  have hb1 : Below w'.heap.size w' W1 := by rw [hW1]; exact (Below.refl _ _).alloc (Nat.le_refl _) _
  have hnb : IsBlk W1 w'.heap.size 104 #[.int .u8 6, .int .i64 num, .string N, .int .i64 na, .int .i64 (-1), .int .i64 (-1)] := by rw [hW1]; exact IsBlk.new _ _ _
  have hi' : (i : Int) < (l.length : Int) := by omega
  have hlc : (l.length : Int) ≤ (c : Int) := by have := E.cap; omega
  have hl1 : (l.length : Int) ≤ 1000000 := by have := E.len.1; omega
  have HNM := Lib.hid hN
  have HX := Lib.hid hnb
  have HB1 := Lib.hid hb1
  have HW1 := Lib.hid hW1
  have HBW := Lib.hid (hb'.trans (hb1.mono hb'.size))
  have x0 := hnb.at_ 0
  have x1 := hnb.at_ 1
  have x2 := hnb.at_ 2
  have x3 := hnb.at_ 3
  have x4 := hnb.at_ 4
  have x5 := hnb.at_ 5
  simp only [List.getElem?_toArray, List.getElem?_cons_zero, List.getElem?_cons_succ] at x0 x1 x2 x3 x4 x5
  have HA := Lib.hid (hA W1 HBW.out)
  generalize ns.length = m at *
  clear E hA
  rcases (by omega : ka = 0 ∨ ka = 1 ∨ ka = 2) with rfl | rfl | rfl
  all_goals
    rw [hW1] at x0 x1 x2 x3 x4 x5
    clear hnb hb1 hW1 hb' hi hn hN
    go_enter Tryz.func114, Tryz.ntmps114
    go_wp2_with fail
    rw [← HW1.out]
    refine (HA.out).mono ?_
    rintro e w1 ⟨rfl, hb⟩
    have HB2 := Lib.hid (HB1.out.trans (hb.mono HB1.out.size))
    have hk := HX.out.below ((Below.refl W1.heap.size W1).trans (hb)) HX.out.lt
    clear hb x0 x1 x2 x3 x4 x5
    have x0 := hk.at_ 0
    have x1 := hk.at_ 1
    have x2 := hk.at_ 2
    have x3 := hk.at_ 3
    have x4 := hk.at_ 4
    have x5 := hk.at_ 5
    simp only [List.getElem?_toArray, List.getElem?_cons_zero, List.getElem?_cons_succ] at x0 x1 x2 x3 x4 x5
    clear hk
    go_wp2
    go_ret
    exact ⟨rfl, HB2.out⟩
end Go.Proofs.YtmmdigeciphglaaGreatDoor
