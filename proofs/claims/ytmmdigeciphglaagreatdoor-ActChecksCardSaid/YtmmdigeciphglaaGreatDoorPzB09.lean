/- Facts and walks for the statement. -/
import Derived.Test.YtmmdigeciphglaaGreatDoorPzB05
import Derived.Test.YtmmdigeciphglaaGreatDoorPzB02
import Derived.WalkKit
import Derived.WalkLawsBesides
import Derived.Outline
import Derived.Handy
import Derived.Lib.OthersKept
import Derived.Lib.Hide
import Derived.WalkSmall
import Derived.Deep.DeepFit
import Derived.Deep.QuietTactic
import Derived.BigQuiet
import Derived.WalkSpells
import Derived.IntWalk
import Derived.Test.YtmmdigeciphglaaGreatDoorPzB03
import Derived.Lib.CutLaws
import Derived.Test.YtmmdigeciphglaaGreatDoorChecked
import Derived.LaidEql
import Derived.Stop.Asserts
import Derived.RowKitTokens
import Derived.Lib.SmallJoins
import Derived.Lib.LaidTab
import Derived.Test.YtmmdigeciphglaaGreatDoorPzB04
import Derived.Test.YtmmdigeciphglaaGreatDoorPzB00
import Derived.Test.YtmmdigeciphglaaGreatDoorPzB08
import Derived.Deep.RegionLaw
import Derived.Deep.CutRange
namespace Go.Proofs.YtmmdigeciphglaaGreatDoor
open Go.RowKit
def tv (p : Int × Int) : Value := .tuple #[.int .i64 p.1, .int .i64 p.2]
end Go.Proofs.YtmmdigeciphglaaGreatDoor
namespace Go.Proofs.YtmmdigeciphglaaGreatDoor
open Go.RowKit
theorem ba_eq {a b : ByteArray} (h : a.data.toList = b.data.toList) : a = b := by
  cases a with | mk x => cases b with | mk y => simpa using h
theorem mk_data (s : ByteArray) : (⟨s.data.toList.toArray⟩ : ByteArray) = s := ba_eq (by simp)
theorem data_mk (l : List UInt8) : (ByteArray.mk l.toArray).data.toList = l := by simp
theorem size_mk (l : List UInt8) : (ByteArray.mk l.toArray).size = l.length := by rw [Lib.size_eq, data_mk]
theorem cutp_no (s p : ByteArray) (h : Lib.hasPrefix s.data.toList p.data.toList = false) (w : World) :
    Calls Tryz.prog 219 #[.string s, .string p] w fun e w' => e = .returned (.tuple #[.string s, .bool false]) ∧ w = w' := by
  refine (Tryz.strings_CutPrefix s p w).mono fun e w' he => ⟨?_, he.2.symm⟩
  have ht : Lib.trimPrefix s.data.toList p.data.toList = s.data.toList := by unfold Lib.trimPrefix; rw [h]; rfl
  rw [he.1, h, ht, mk_data]
theorem cutp_yes (s p : ByteArray) (h : Lib.hasPrefix s.data.toList p.data.toList = true) (w : World) :
    Calls Tryz.prog 219 #[.string s, .string p] w fun e w' => e = .returned (.tuple #[.string ⟨(s.data.toList.drop p.data.toList.length).toArray⟩, .bool true]) ∧ w = w' := by
  refine (Tryz.strings_CutPrefix s p w).mono fun e w' he => ⟨?_, he.2.symm⟩
  have ht : Lib.trimPrefix s.data.toList p.data.toList = s.data.toList.drop p.data.toList.length := by unfold Lib.trimPrefix; rw [h]; rfl
  rw [he.1, h, ht]
end Go.Proofs.YtmmdigeciphglaaGreatDoor
namespace Go.Proofs.YtmmdigeciphglaaGreatDoor
open Go.RowKit Go.Extern.Stop Go.Stop Go.Extern
theorem isTypeOf (v : Value) (w : World) : (Extern.ReflectliteType.typeOf #[.iface 353 v]).run Tryz.prog w = .ok (.iface 334 (.agg #[.pointer (some ⟨11, 353, none⟩)])) w := by kernel_rfl
theorem isComparable (w : World) : ((Extern.ReflectliteType.method fun t => do Extern.Rtype.noPackHeld "Comparable" t; (fun a => Value.bool a.comparable) <$> typeInfo t) #[.agg #[.pointer (some ⟨11, 353, none⟩)]]).run Tryz.prog w = .ok (.bool true) w := by kernel_rfl
theorem isMethodComparable (v : Value) (w : World) : (Go.method 509 334 v "Comparable").run Tryz.prog w = .ok (300, v) w := by kernel_rfl
theorem isComp : (Tryz.prog.info? 353).map (·.comparable) = some true := by kernel_rfl
theorem isSize : (Tryz.prog.info? 355).map (·.size) = some 1 := by kernel_rfl
theorem noIsW (v : Value) (xT : TypeId) (w : World) : (Instr.typeAssert (.iface 330 v) xT 336 true).run Tryz.prog w = .ok (.tuple #[.nilIface, .bool false]) w := run_typeAssert_lacksB Tryz.underlying336 (by kernel_rfl) (by kernel_rfl) v xT w
theorem hasUnwrapW (v : Value) (xT : TypeId) (w : World) : (Instr.typeAssert (.iface 330 v) xT 339 true).run Tryz.prog w = .ok (.tuple #[.iface 330 v, .bool true]) w := run_typeAssert_hasB Tryz.underlying339 (by kernel_rfl) v xT w
theorem methodUnwrap (v : Value) (w : World) : (Go.method 509 330 v "Unwrap").run Tryz.prog w = .ok (296, v) w := by kernel_rfl
theorem is_nil (b : Addr) (w : World) :
    Calls Tryz.prog 210 #[.nilIface, .iface 353 (.pointer (some b))] w fun e w' => e = .returned (.bool false) ∧ w' = w := by
  have hn := run_eql_iface_nil_left (P := Tryz.prog) w 353 (.pointer (some b)) Tryz.underlying157
  go_enter Tryz.func210, Tryz.ntmps210
  go_wp2
  go_ret
  exact ⟨rfl, rfl⟩
set_option maxHeartbeats 1000000 in
set_option maxRecDepth 100000 in
theorem is_wrap_same (pb : Nat) (b : Addr) (w : World) (h1 : w.cell? ⟨pb, 2, none⟩ = some (.iface 353 (.pointer (some b)))) :
    Calls Tryz.prog 210 #[.iface 330 (.pointer (some ⟨pb, 0, none⟩)), .iface 353 (.pointer (some b))] w fun e w' => e = .returned (.bool true) ∧ w' = w := by
  obtain ⟨i, hi, hcmp⟩ := Option.map_eq_some_iff.1 isComp
  obtain ⟨j, hj, hjs⟩ := Option.map_eq_some_iff.1 isSize
  have h8 := @run_callFunc_extern Tryz.prog 223 _ Extern.ReflectliteType.typeOf Tryz.func223 (by kernel_rfl) (by kernel_rfl) (by kernel_rfl) (by kernel_rfl)
  have h32 := @run_callFunc_extern Tryz.prog 300 _ (Extern.ReflectliteType.method fun t => do Extern.Rtype.noPackHeld "Comparable" t; pure (.bool (← typeInfo t).comparable)) Tryz.func300 (by kernel_rfl) (by kernel_rfl) (by kernel_rfl) (by kernel_rfl)
  have tT := isTypeOf
  have cT := isComparable
  have mR := isMethodComparable
  have nW := noIsW
  have uW := hasUnwrapW
  have mU := methodUnwrap
  have heq := run_eql_iface_ptr_same (P := Tryz.prog) w b Tryz.underlying157 Tryz.underlying353 hi hcmp hj
  have hty := run_eql_iface_types (P := Tryz.prog) 330 353 (.pointer (some ⟨pb, 0, none⟩)) (.pointer (some b)) Tryz.underlying157 (by decide) w
  go_enter Tryz.func210, Tryz.ntmps210
  go_wp2
  refine wp_loop_rounds 2 ?_
  rw [rounds_succ]
  go_wp2
  rw [rounds_succ]
  go_wp2
  go_ret
  exact ⟨rfl, rfl⟩
end Go.Proofs.YtmmdigeciphglaaGreatDoor
namespace Go.Proofs.YtmmdigeciphglaaGreatDoor
open Go.RowKit
set_option maxHeartbeats 1000000 in
theorem allDigits_any (s : ByteArray) (w : World) (hs : s.size ≤ 1000000000) :
    Calls Tryz.prog 220 #[.string s] w fun e w' => e = .returned (.bool (Nu.allDg s.data.toList)) ∧ w = w' := by
  obtain ⟨R, hR⟩ : ∃ R, R = Nu.allDg s.data.toList := ⟨_, rfl⟩
  rw [← hR]
  have HR := Lib.hid hR
  have hlen := Lib.hid (Lib.size_eq s)
  clear hR
  go_enter Tryz.func220, Tryz.ntmps220
  go_wp2
  go_loop [6] (fun i => ∃ k : Nat, i = .int .i64 k ∧ k ≤ s.size ∧ Hid (R = Nu.allDg (s.data.toList.drop k))) (fun i => s.size - (intOf i).toNat)
  case atStart => exact ⟨0, rfl, Nat.zero_le _, HR⟩
  case round =>
    obtain ⟨k, rfl, hk, HI⟩ := hrel
    by_cases hlt : k < s.size
    · have hk' : k < s.data.toList.length := by rw [← hlen.out]; exact hlt
      have hd : s.data.toList.drop k = s[k] :: s.data.toList.drop (k + 1) := by rw [List.drop_eq_getElem_cons hk']; rfl
      have HS := Lib.hid (show Nu.allDg (s.data.toList.drop k) = (Nu.isDg s[k] && Nu.allDg (s.data.toList.drop (k + 1))) by rw [hd]; rfl)
      have HD := Lib.hid (show Nu.isDg s[k] = true ↔ (48 ≤ (s[k].toNat : Int) ∧ (s[k].toNat : Int) ≤ 57) by unfold Nu.isDg; rw [decide_eq_true_iff]; omega)
      clear hd
      by_cases h1 : (s[k].toNat : Int) < 48
      · have HE := Lib.hid (show R = false by
          have h2 := HD.out
          rw [HI.out, HS.out]
          cases h3 : Nu.isDg s[k] with
          | false => rfl
          | true => have := h2.1 h3; omega)
        go_wp2
        go_ret
        exact ⟨by rw [HE.out]; rfl, rfl⟩
      · by_cases h2 : (s[k].toNat : Int) > 57
        · have HE := Lib.hid (show R = false by
            have h2 := HD.out
            rw [HI.out, HS.out]
            cases h3 : Nu.isDg s[k] with
            | false => rfl
            | true => have := h2.1 h3; omega)
          go_wp2
          go_ret
          exact ⟨by rw [HE.out]; rfl, rfl⟩
        · have HN := Lib.hid (show R = Nu.allDg (s.data.toList.drop (k + 1)) by
            rw [HI.out, HS.out, HD.out.2 (by omega)]; rfl)
          go_wp2
          go_round
          case rel => exact ⟨k + 1, by go_num, hlt, HN⟩
          case measure => simp [intOf]; omega
    · have HE := Lib.hid (show R = true by rw [HI.out, List.drop_of_length_le (by have := hlen.out; omega)]; rfl)
      have hlt' : ¬ (k : Int) < (s.size : Int) := by omega
      go_wp2
      go_ret
      exact ⟨by rw [HE.out]; rfl, rfl⟩
theorem hp_minus {l : List UInt8} : Lib.hasPrefix l [45] = Nu.below l := by
  unfold Lib.hasPrefix Nu.below
  cases l with
  | nil => rfl
  | cons a r =>
    simp [List.isPrefixOf]
    exact Bool.beq_comm
theorem cut_minus (s : ByteArray) (w : World) : ∃ D : ByteArray, ∃ b, D.data.toList = Nu.strip s.data.toList ∧ D.size ≤ s.size ∧ Calls Tryz.prog 219 #[.string s, .string ⟨#[45]⟩] w fun e w' => e = .returned (.tuple #[.string D, .bool b]) ∧ w = w' := by
  cases h : Nu.below s.data.toList with
  | true =>
    have e := Nu.strip_minus h
    refine ⟨⟨(s.data.toList.drop 1).toArray⟩, true, ?_, ?_, cutp_yes s ⟨#[45]⟩ (by rw [show (⟨#[45]⟩ : ByteArray).data.toList = [45] from rfl, hp_minus]; exact h) w⟩
    · rw [data_mk]; conv => lhs; rw [e]
      rfl
    · rw [size_mk, List.length_drop, Lib.size_eq]; omega
  | false => exact ⟨s, false, (Nu.strip_other h).symm, Nat.le_refl _, cutp_no s ⟨#[45]⟩ (by rw [show (⟨#[45]⟩ : ByteArray).data.toList = [45] from rfl, hp_minus]; exact h) w⟩
set_option maxHeartbeats 1000000 in
theorem isWriting_any (s : ByteArray) (w : World) (hs : s.size ≤ 1000000000) :
    Calls Tryz.prog 208 #[.string s] w fun e w' => e = .returned (.bool (Nu.isW s.data.toList)) ∧ w = w' := by
  by_cases h48 : s = ⟨#[48]⟩
  · subst h48
    go_enter Tryz.func208, Tryz.ntmps208
    go_wp2
    go_ret
    exact ⟨rfl, rfl⟩
  · obtain ⟨D, b, hD, hDs, hC⟩ := cut_minus s w
    have HC := Lib.hid hC
    have HALL := Lib.hid (allDigits_any D w (by omega))
    have hl48 : (s.data.toList == [48]) = false := by
      rw [beq_eq_false_iff_ne]
      intro e
      exact h48 (ba_eq (by rw [e]))
    have HW := Lib.hid (show Nu.isW s.data.toList = (!D.data.toList.isEmpty && D.data.toList.head? != some 48 && Nu.allDg D.data.toList) by unfold Nu.isW; rw [hl48, ← hD]; rfl)
    obtain ⟨R, hR⟩ : ∃ R, R = Nu.isW s.data.toList := ⟨_, rfl⟩
    rw [← hR] at HW ⊢
    clear hR hD hC hl48
    have hs48 : (s.toList == [48]) = false := by
      rw [Lib.toList_data, beq_eq_false_iff_ne]
      intro e
      exact h48 (ba_eq (by rw [e]))
    have HDL := Lib.hid (Lib.size_eq D)
    clear h48
    by_cases h0 : D.size = 0
    · have hDn : D.toList = [] := by rw [Lib.toList_data]; exact List.length_eq_zero_iff.1 (by rw [← HDL.out]; exact h0)
      have HE := Lib.hid (show R = false by rw [HW.out, ← Lib.toList_data, hDn]; rfl)
      go_enter Tryz.func208, Tryz.ntmps208
      go_wp2_with fail
      refine HC.out.mono ?_
      rintro e w1 ⟨rfl, rfl⟩
      go_wp2
      go_ret
      exact ⟨by rw [HE.out]; rfl, rfl⟩
    · have hDn : D.toList.isEmpty = false := by
        rw [Lib.toList_data]
        cases hh : D.data.toList with
        | nil => exfalso; have h1 := HDL.out; rw [hh] at h1; exact h0 h1
        | cons _ _ => rfl
      have hpos : 0 < D.size := by omega
      have HH := Lib.hid (show D.data.toList.head? = some D[0] by
        have : 0 < D.data.toList.length := by rw [← HDL.out]; exact hpos
        rw [List.head?_eq_getElem?, List.getElem?_eq_getElem this]
        rfl)
      have HWB := Lib.hid (show R = (!(D[0] == 48) && Nu.allDg D.data.toList) by rw [HW.out, ← Lib.toList_data, hDn, Lib.toList_data, HH.out]; rfl)
      by_cases hz : (D[0].toNat : Int) = 48
      · have HE := Lib.hid (show R = false by
          rw [HWB.out, show (D[0] == 48) = true from beq_iff_eq.2 (UInt8.toNat_inj.1 (by show D[0].toNat = 48; omega))]; rfl)
        have hz' : ((D[0].toNat : Int) == 48) = true := beq_iff_eq.2 hz
        clear h0
        go_enter Tryz.func208, Tryz.ntmps208
        go_wp2_with fail
        refine HC.out.mono ?_
        rintro e w1 ⟨rfl, rfl⟩
        go_wp2
        go_ret
        exact ⟨by rw [HE.out]; rfl, rfl⟩
      · have HE := Lib.hid (show R = Nu.allDg D.data.toList by
          rw [HWB.out, show (D[0] == 48) = false from beq_eq_false_iff_ne.2 (fun e => hz (by rw [e]; rfl))]; rfl)
        have hz' : ((D[0].toNat : Int) == 48) = false := beq_eq_false_iff_ne.2 hz
        have hz2 : ((D[0].toNat : Int) != 48) = true := by simp [bne, hz']
        clear h0
        go_enter Tryz.func208, Tryz.ntmps208
        go_wp2_with fail
        refine HC.out.mono ?_
        rintro e w1 ⟨rfl, rfl⟩
        go_wp2_with fail
        refine HALL.out.mono ?_
        rintro e w1 ⟨rfl, rfl⟩
        go_wp2
        go_ret
        exact ⟨by rw [HE.out]; rfl, rfl⟩
structure Tb (w : World) : Prop where
  e : ∃ a, w.cell? ⟨5, 0, none⟩ = some (.iface 353 (.pointer (some a)))
  t : Lib.TabIs Tryz.prog w "internal/strconv.uint64pow10" .u64 Lib.pow10Tab
theorem gPow : Tryz.prog.globalNamed "internal/strconv.uint64pow10" = some 4 := by kernel_rfl
theorem cell_ltN {w : World} {a : Addr} {v : Value} (h : w.cell? a = some v) : a.block < w.heap.size := by
  rcases Nat.lt_or_ge a.block w.heap.size with h' | h'
  · exact h'
  · simp [World.cell?, Array.getElem?_eq_none h'] at h
theorem Tb.below {B : Nat} {w w' : World} (h : Tb w) (hb : Below B w w') (hB : w.heap.size ≤ B) : Tb w' := by
  obtain ⟨⟨a, ha⟩, ht⟩ := h
  exact ⟨⟨a, (hb.cell (Nat.lt_of_lt_of_le (cell_ltN ha) hB)).trans ha⟩, Joins.tab_stays gPow ht hb hB⟩
set_option maxHeartbeats 2000000 in
set_option maxRecDepth 100000 in
theorem parse_any (s : ByteArray) (w : World) (T : Tb w) (hs : s.size ≤ 1000000000) :
    Calls Tryz.prog 196 #[.string s] w fun e w' => e = .returned (tv (Nu.prs s.data.toList)) ∧ Below w.heap.size w w' := by
  have HIW := Lib.hid (isWriting_any s w hs)
  have HT := Lib.hid T
  clear T
  unfold Nu.prs
  cases hw : Nu.isW s.data.toList with
  | false =>
    rw [hw] at HIW
    simp only [Bool.false_eq_true, if_false]
    clear hw
    go_enter Tryz.func196, Tryz.ntmps196
    go_wp2_with fail
    refine HIW.out.mono ?_
    rintro e w1 ⟨rfl, rfl⟩
    go_wp2
    go_ret2
    exact ⟨rfl, Below.refl _ _⟩
  | true =>
    rw [hw] at HIW
    simp only [if_true]
    have hp := Nu.parseB hw
    clear hw
    by_cases hf : Nu.fits (Nu.worth s.data.toList)
    · rw [if_pos hf] at hp
      rw [Nu.tell_in hf]
      have HC := Lib.hid (Tryz.strconv_ParseInt_10_at64_ok s (by omega) _ hp w)
      clear hp hf
      generalize Nu.worth s.data.toList = v at *
      unfold tv
      go_enter Tryz.func196, Tryz.ntmps196
      go_wp2_with fail
      refine HIW.out.mono ?_
      rintro e w1 ⟨rfl, rfl⟩
      go_wp2_with fail
      refine HC.out.mono ?_
      rintro e w1 ⟨rfl, hw1⟩
      have hb1 : Below w.heap.size w w1 := by
        rcases hw1 with rfl | ⟨t, rfl⟩
        · exact Below.refl _ _
        · exact Lib.bytesWorld_below _ _ _
      obtain ⟨⟨a, ha⟩, _⟩ := HT.out.below hb1 (Nat.le_refl _)
      have HB := Lib.hid hb1
      have HIS := Lib.hid (is_nil a w1)
      clear hw1 hb1
      go_wp2_with fail
      refine HIS.out.mono ?_
      rintro e w2 ⟨rfl, rfl⟩
      go_wp2
      go_ret2
      exact ⟨rfl, HB.out⟩
    · rw [if_neg hf] at hp
      rw [Nu.tell_out hf]
      obtain ⟨a, ha⟩ := HT.out.e
      have HC := Lib.hid (Tryz.strconv_ParseInt_10_at64_range s (by omega) hp _ w ha (Or.inr ⟨_, _, rfl⟩))
      clear hp hf
      generalize Lib.intSat 64 s.data.toList = v at *
      unfold tv
      have HA := Lib.hid ha
      clear ha
      go_enter Tryz.func196, Tryz.ntmps196
      go_wp2_with fail
      refine HIW.out.mono ?_
      rintro e w1 ⟨rfl, rfl⟩
      go_wp2_with fail
      refine HC.out.mono ?_
      rintro e w1 ⟨N, rfl, hN, hblk, hb1⟩
      have ha1 : w1.cell? ⟨5, 0, none⟩ = some (.iface 353 (.pointer (some a))) := (hb1.cell (cell_ltN HA.out)).trans HA.out
      have HB := Lib.hid hb1
      have HIS := Lib.hid (is_wrap_same N a w1 (by rw [Lib.cell_of_heap hblk 2]; rfl))
      clear hN hblk hb1
      go_wp2_with fail
      refine HIS.out.mono ?_
      rintro e w2 ⟨rfl, rfl⟩
      go_wp2
      go_ret2
      exact ⟨rfl, HB.out⟩
theorem below_growN (w : World) (q : Nat) (os : Array Obj) : Below w.heap.size w (Sort.grow (w.drewN q) os) :=
  ⟨rfl, rfl, rfl, by simp [Sort.grow], fun i hi => by
    show ((w.drewN q).heap ++ os)[i]? = _
    rw [Array.getElem?_append_left (by show i < w.heap.size; omega)]
    rfl⟩
set_option maxHeartbeats 1000000 in
theorem put_any (n : Int) (w : World) (T : Tb w) (hn : Nu.fits n) :
    Calls Tryz.prog 133 #[.int .i64 n] w fun e w' => e = .returned (.string ⟨(Lib.itoa n).toArray⟩) ∧ Below w.heap.size w w' := by
  have HC := Lib.hid (Tryz.strconv_FormatInt_10 n hn.1 hn.2 w T.t)
  generalize (⟨(Lib.itoa n).toArray⟩ : ByteArray) = S at *
  clear T
  go_enter Tryz.func133, Tryz.ntmps133
  go_wp2_with fail
  refine HC.out.mono ?_
  rintro e w1 ⟨rfl, k, os, rfl⟩
  go_wp2
  go_ret
  exact ⟨rfl, below_growN _ _ _⟩
end Go.Proofs.YtmmdigeciphglaaGreatDoor
namespace Go.Proofs.YtmmdigeciphglaaGreatDoor
open Go.RowKit
def ndV (n : Ex.Nd) : List Value := [.int .u8 n.op, .int .i64 n.num, .string ⟨n.nm.toArray⟩, .int .i64 n.a, .int .i64 n.b, .int .i64 n.c]
def loV (p : Nat × Nat) : List Value := [.int .i64 p.1, .int .i64 p.2]
theorem infoNd : (Tryz.prog.info? 105).map (fun i => (i.zero, i.size, i.bytes)) = some (some (.agg #[.int .u8 0, .int .i64 0, .string ⟨#[]⟩, .int .i64 0, .int .i64 0, .int .i64 0]), 6, 56) := by kernel_rfl
theorem infoPart : (Tryz.prog.info? 261).map (fun i => (i.zero, i.size, i.bytes)) = some (some (.agg #[.int .i64 0, .int .i64 0]), 2, 16) := by kernel_rfl
structure RowS (B b : Nat) (t : TypeId) (cs : Array Value) (w : World) (nv lv : Value) (ns : List Ex.Nd) (ls : List (Nat × Nat)) : Prop where
  base : B ≤ b
  blk : IsBlk w b t cs
  c0 : cs[0]? = some nv
  c1 : cs[1]? = some lv
  nown : w.ownsRow B 105 6 nv ns.length (ns.flatMap ndV)
  lown : w.ownsRow B 261 2 lv ls.length (ls.flatMap loV)
theorem RowS.below {B b : Nat} {t : TypeId} {cs : Array Value} {w w' : World} {nv lv : Value} {ns : List Ex.Nd} {ls : List (Nat × Nat)} (h : RowS B b t cs w nv lv ns ls) (hb : Below w.heap.size w w') : RowS B b t cs w' nv lv ns ls :=
  ⟨h.base, h.blk.below hb h.blk.lt, h.c0, h.c1, own_below h.nown hb, own_below h.lown hb⟩
def Parts (w : World) (Bx : Nat) (A : Option Addr) (c : Nat) (ps : List (Nat × Nat)) : Prop := ps.length ≤ c ∧ ∀ j (hj : j < ps.length), ∃ g o, A = some ⟨g, o, none⟩ ∧ g < Bx ∧ w.cell? ⟨g, o + j * 2, none⟩ = some (.int .i64 (ps[j].1 : Int)) ∧ w.cell? ⟨g, o + j * 2 + 1, none⟩ = some (.int .i64 (ps[j].2 : Int))
def plc (ps : List (Nat × Nat)) (i j : Nat) : Int := if j < i then ((ps[j]?).map (fun p => (p.1 : Int))).getD (-1) else -1
def dmx (ps : List (Nat × Nat)) (i : Nat) : Nat := (ps.take i).foldl (fun d p => max d p.2) 0
theorem dmx_succ {ps : List (Nat × Nat)} {i : Nat} (h : i < ps.length) : dmx ps (i + 1) = max (dmx ps i) ps[i].2 := by
  unfold dmx
  rw [List.take_succ_eq_append_getElem h, List.foldl_append]; rfl
theorem plc_succ {ps : List (Nat × Nat)} {i : Nat} (h : i < ps.length) (j : Nat) : plc ps (i + 1) j = if j = i then (ps[i].1 : Int) else plc ps i j := by
  unfold plc
  by_cases hj : j = i
  · subst hj; rw [if_pos (Nat.lt_succ_self _), if_pos rfl, List.getElem?_eq_getElem h]; rfl
  · rw [if_neg hj]
    by_cases hl : j < i
    · rw [if_pos (by omega), if_pos hl]
    · rw [if_neg (by omega), if_neg hl]
def put1 (n : Ex.Nd) (ps : List (Nat × Nat)) : Ex.Nd := { n with a := plc ps ps.length 0, b := plc ps ps.length 1, c := plc ps ps.length 2 }
structure PuI (w0 : World) (n : Nat) (nc : List Value) (ps : List (Nat × Nat)) (wr : World) (i : Nat) : Prop where
  below : Below n w0 wr
  node : IsBlk wr n 105 nc.toArray
  arr : IsBlk wr (n + 1) 259 #[.int .i64 (plc ps i 0), .int .i64 (plc ps i 1), .int .i64 (plc ps i 2)]
theorem PuI.cell {w0 : World} {n : Nat} {nc : List Value} {ps : List (Nat × Nat)} {wr : World} {i : Nat} (h : PuI w0 n nc ps wr i) (hi : i < 3) : wr.cell? ⟨n + 1, i, none⟩ = some (.int .i64 (plc ps i i)) ∧ wr.frozen? ⟨n + 1, i, none⟩ = false := by
  refine ⟨?_, h.arr.fz i⟩
  rw [h.arr.at_ i]
  match i, hi with
  | 0, _ => rfl
  | 1, _ => rfl
  | 2, _ => rfl
theorem PuI.put {w0 : World} {n : Nat} {nc : List Value} {ps : List (Nat × Nat)} {wr : World} {i : Nat} (h : PuI w0 n nc ps wr i) (hi : i < ps.length) (h3 : i < 3) (o : Obj) : PuI w0 n nc ps ((wr.setCell ⟨n + 1, i, none⟩ (.int .i64 (ps[i].1 : Int))).alloc o) (i + 1) := by
  have hs : ∀ u : Value, (wr.setCell ⟨n + 1, i, none⟩ u).heap.size = wr.heap.size := fun u => by simp [World.setCell]
  have hlt := h.arr.lt
  have q : Below (wr.setCell ⟨n + 1, i, none⟩ (.int .i64 (ps[i].1 : Int))).heap.size (wr.setCell ⟨n + 1, i, none⟩ (.int .i64 (ps[i].1 : Int))) ((wr.setCell ⟨n + 1, i, none⟩ (.int .i64 (ps[i].1 : Int))).alloc o) := (Below.refl _ _).alloc (Nat.le_refl _) _
  refine ⟨(h.below.setCell (p := ⟨n + 1, i, none⟩) (Nat.le_succ n) _).alloc (by rw [hs]; omega) _, ?_, ?_⟩
  · exact (h.node.far (p := ⟨n + 1, i, none⟩) (by simp) _).below q (by rw [hs]; omega)
  · have h2 := (h.arr.set i (.int .i64 (ps[i].1 : Int))).below q (by rw [hs]; omega)
    rw [plc_succ hi, plc_succ hi, plc_succ hi]
    match i, h3 with
    | 0, _ => exact h2
    | 1, _ => exact h2
    | 2, _ => exact h2
theorem dmx_le {ps : List (Nat × Nat)} {D : Nat} (h : ∀ p ∈ ps, p.2 ≤ D) (i : Nat) : dmx ps i ≤ D := by
  have q : ∀ (l : List (Nat × Nat)) (d : Nat), (∀ p ∈ l, p.2 ≤ D) → d ≤ D → l.foldl (fun d p => max d p.2) d ≤ D := by
    intro l
    induction l with
    | nil => intro d _ hd; exact hd
    | cons p l ih =>
      intro d hl hd
      exact ih _ (fun q hq => hl q (List.mem_cons_of_mem _ hq)) (Nat.max_le.2 ⟨hd, hl p List.mem_cons_self⟩)
  exact q _ 0 (fun p hp => h p (List.mem_of_mem_take hp)) (Nat.zero_le _)
theorem set_get {cs : Array Value} {i : Nat} {v u : Value} (h : cs[i]? = some v) : (cs.setIfInBounds i u)[i]? = some u := by
  obtain ⟨hi, _⟩ := Array.getElem?_eq_some_iff.1 h
  rw [Array.getElem?_setIfInBounds_self, if_pos hi]
theorem set_far {cs : Array Value} {i j : Nat} {v u : Value} (h : cs[i]? = some v) (hij : j ≠ i) : (cs.setIfInBounds j u)[i]? = some v := by
  rw [Array.getElem?_setIfInBounds_ne hij]; exact h
theorem RowS.setl {B b : Nat} {t : TypeId} {cs : Array Value} {w w9 : World} {nv lv v' : Value} {ns : List Ex.Nd} {ls ls' : List (Nat × Nat)} (h : RowS B b t cs w nv lv ns ls) (ht : t ∉ [261]) (ht2 : t ≠ 105) (k : Kt [261] w w9) (ho : w9.ownsRow B 261 2 v' ls'.length (ls'.flatMap loV)) : RowS B b t (cs.setIfInBounds 1 v') (w9.setCell ⟨b, 1, none⟩ v') nv v' ns ls' := by
  have hb := k.blk h.blk ht
  exact ⟨h.base, hb.set 1 _, set_far h.c0 (by decide), set_get h.c1, own_set (k.own h.nown (by decide)) hb ht2 1 _, own_set ho hb (by simpa using ht) 1 _⟩
theorem RowS.setn {B b : Nat} {t : TypeId} {cs : Array Value} {w w9 : World} {nv lv v' : Value} {ns ns' : List Ex.Nd} {ls : List (Nat × Nat)} (h : RowS B b t cs w nv lv ns ls) (ht : t ∉ [105]) (ht2 : t ≠ 261) (k : Kt [105] w w9) (ho : w9.ownsRow B 105 6 v' ns'.length (ns'.flatMap ndV)) : RowS B b t (cs.setIfInBounds 0 v') (w9.setCell ⟨b, 0, none⟩ v') v' lv ns' ls := by
  have hb := k.blk h.blk ht
  exact ⟨h.base, hb.set 0 _, set_get h.c0, set_far h.c1 (by decide), own_set ho hb (by simpa using ht) 0 _, own_set (k.own h.lown (by decide)) hb ht2 0 _⟩
def LRow : List TypeId := [254, 238, 105, 261]
end Go.Proofs.YtmmdigeciphglaaGreatDoor
namespace Go.Proofs.YtmmdigeciphglaaGreatDoor
open Go.RowKit
set_option maxHeartbeats 4000000 in
set_option maxRecDepth 100000 in
theorem put_fr_ (B b : Nat) (t : TypeId) (cs : Array Value) (w : World) (nv lv : Value) (ns : List Ex.Nd) (ls : List (Nat × Nat)) (h : RowS B b t cs w nv lv ns ls) (ht : t = 254 ∨ t = 238) (n : Ex.Nd) (A : Option Addr) (c : Nat) (ps : List (Nat × Nat)) (hp : Parts w w.heap.size A c ps) (hk : ps.length ≤ 3) (hpl : ps.length ≤ ls.length) (hn : ns.length ≤ 1000000) (hl : ls.length ≤ 1000000) (hd : ∀ p ∈ ps, p.2 ≤ 1000000) :
    Calls Tryz.prog 141 #[.pointer (some ⟨b, 0, none⟩), .agg #[.int .u8 n.op, .int .i64 n.num, .string ⟨n.nm.toArray⟩, .int .i64 n.a, .int .i64 n.b, .int .i64 n.c], .slice A ps.length c] w fun e w' => e = .returned (.tuple #[]) ∧ ∃ nv' lv', RowS B b t ((cs.setIfInBounds 0 nv').setIfInBounds 1 lv') w' nv' lv' (ns ++ [put1 n ps]) (ls.take (ls.length - ps.length) ++ [(ns.length, dmx ps ps.length + 1)]) ∧ Kt LRow w w' ∧ Below B w w' ∧ (∀ k, k < w.heap.size → k ≠ b → lv.ownBlock ≠ some k → nv.ownBlock ≠ some k → w'.heap[k]? = w.heap[k]?) := by
  obtain ⟨op, num, nm, na, nb, nc⟩ := n
  simp only
  obtain ⟨N, hN⟩ : ∃ N : ByteArray, N = ⟨nm.toArray⟩ := ⟨_, rfl⟩
  rw [← hN]
  have HN := Lib.hid hN
  obtain ⟨k, hkk⟩ : ∃ k, k = ps.length := ⟨_, rfl⟩
  have HKK := Lib.hid hkk
  have HP := Lib.hid hp
  rw [← hkk] at hk hpl ⊢
  obtain ⟨W1, hW1⟩ : ∃ W1, W1 = (w.alloc (.cells #[.int .u8 op, .int .i64 num, .string N, .int .i64 na, .int .i64 nb, .int .i64 nc] 105)).alloc (.cells #[.int .i64 (-1), .int .i64 (-1), .int .i64 (-1)] 259) := ⟨_, rfl⟩
  have hz : (w.alloc (.cells #[.int .u8 op, .int .i64 num, .string N, .int .i64 na, .int .i64 nb, .int .i64 nc] 105)).heap.size = w.heap.size + 1 := by simp
  have H0 := Lib.hid (show PuI w w.heap.size [.int .u8 op, .int .i64 num, .string N, .int .i64 na, .int .i64 nb, .int .i64 nc] ps W1 0 from by
    refine ⟨?_, ?_, ?_⟩
    · rw [hW1]; exact ((Below.refl _ _).alloc (Nat.le_refl _) _).alloc (by simp) _
    · rw [hW1]; exact (IsBlk.new w _ _).below ((Below.refl _ _).alloc (Nat.le_refl _) _) (by simp)
    · rw [hW1, ← hz]; exact IsBlk.new _ _ _)
  have HH := Lib.hid h
  have HD := Lib.hid (fun i => dmx_le hd i)
  have HW1 := Lib.hid hW1
  clear h hN hkk hp hd hz hW1
  go_enter Tryz.func141, Tryz.ntmps141
  go_wp2
  rw [← HW1.out]
  go_loopw [7, 13] (fun d iv wr => ∃ i : Nat, iv = .int .i64 i ∧ d = .int .i64 (dmx ps i : Nat) ∧ i ≤ k ∧ Hid (PuI w w.heap.size [.int .u8 op, .int .i64 num, .string N, .int .i64 na, .int .i64 nb, .int .i64 nc] ps wr i)) (fun _ iv _ => k - (intOf iv).toNat)
  case atStart => exact ⟨0, rfl, rfl, Nat.zero_le _, H0⟩
  case round =>
    obtain ⟨i, rfl, rfl, hi, HI⟩ := hrel
    by_cases hik : i < k
    · have hik' : (i : Int) < (k : Int) := by omega
      have hip : i < ps.length := by rw [← HKK.out]; exact hik
      obtain ⟨g, o, hA, hg, q0, q1⟩ := HP.out.2 i hip
      subst hA
      have a0 := (HI.out.below.cell (p := ⟨g, o + i * 2, none⟩) hg).trans q0
      have a1 := (HI.out.below.cell (p := ⟨g, o + i * 2 + 1, none⟩) hg).trans q1
      have hkc : (k : Int) ≤ (c : Int) := by have := HP.out.1; have := HKK.out; omega
      have HDX := Lib.hid (dmx_succ hip)
      have HPX := Lib.hid (fun j => plc_succ hip j)
      have hi3 : (i : Int) < 3 := by omega
      have HIK := Lib.hid hik
      have HPU := Lib.hid (HI.out.put hip (by omega))
      clear q0 q1
      generalize ps[i] = p at *
      obtain ⟨pl, pd⟩ := p
      simp only at a0 a1 HDX HPX
      have hws := HI.out.arr.lt
      obtain ⟨xi, fi⟩ := HI.out.cell (by omega)
      clear hik
      go_wp2_with fail
      go_roundw
      case rel => exact ⟨i + 1, by go_num, by rw [HDX.out]; congr 1; omega, by have := HIK.out; omega, Lib.hid (HPU.out _)⟩
      case measure => have := HIK.out; simp [intOf]; omega
    · obtain rfl : i = k := by omega
      have hik' : ¬ (i : Int) < (i : Int) := by omega
      have x0 : wr.cell? ⟨w.heap.size + 1, 0, none⟩ = some (.int .i64 (plc ps i 0)) := HI.out.arr.at_ 0
      have x1 : wr.cell? ⟨w.heap.size + 1, 1, none⟩ = some (.int .i64 (plc ps i 1)) := HI.out.arr.at_ 1
      have x2 : wr.cell? ⟨w.heap.size + 1, 2, none⟩ = some (.int .i64 (plc ps i 2)) := HI.out.arr.at_ 2
      have f3 : wr.frozen? ⟨w.heap.size, 3, none⟩ = false := HI.out.node.fz 3
      have f4 : wr.frozen? ⟨w.heap.size, 4, none⟩ = false := HI.out.node.fz 4
      have f5 : wr.frozen? ⟨w.heap.size, 5, none⟩ = false := HI.out.node.fz 5
      have n3 : wr.cell? ⟨w.heap.size, 3, none⟩ = some (.int .i64 na) := HI.out.node.at_ 3
      have n4 : wr.cell? ⟨w.heap.size, 4, none⟩ = some (.int .i64 nb) := HI.out.node.at_ 4
      have n5 : wr.cell? ⟨w.heap.size, 5, none⟩ = some (.int .i64 nc) := HI.out.node.at_ 5
      clear hik
      go_wp2
      go_region
      obtain ⟨W3, hW3⟩ : ∃ W3, W3 = (((wr.setCell ⟨w.heap.size, 3, none⟩ (.int .i64 (plc ps i 0))).setCell ⟨w.heap.size, 4, none⟩ (.int .i64 (plc ps i 1))).setCell ⟨w.heap.size, 5, none⟩ (.int .i64 (plc ps i 2))).drew := ⟨_, rfl⟩
      rw [← hW3]
      have hbw : Below w.heap.size w W3 := by
        rw [hW3]; exact (((HI.out.below.setCell (p := ⟨w.heap.size, 3, none⟩) (Nat.le_refl _) _).setCell (p := ⟨w.heap.size, 4, none⟩) (Nat.le_refl _) _).setCell (p := ⟨w.heap.size, 5, none⟩) (Nat.le_refl _) _).drew
      have hnb : IsBlk W3 w.heap.size 105 #[.int .u8 op, .int .i64 num, .string N, .int .i64 (plc ps i 0), .int .i64 (plc ps i 1), .int .i64 (plc ps i 2)] := by
        rw [hW3]; exact ((HI.out.node.set 3 _).set 4 _).set 5 _
      have hr := HH.out.below hbw
      obtain ⟨An, cn, rfl, hn1, hn2, hn3⟩ := own_sliced hr.nown
      obtain ⟨Al, cl, rfl, hl1, hl2, hl3⟩ := own_sliced hr.lown
      have hbl : b < W3.heap.size := hr.blk.lt
      have hbw0 : b < w.heap.size := HH.out.blk.lt
      obtain ⟨m, hm⟩ : ∃ m, m = ls.length - i := ⟨_, rfl⟩
      have HOWN := Lib.hid (own_short (m := m) hr.lown (by omega))
      have HR := Lib.hid hr
      have HNB := Lib.hid hnb
      have HBW := Lib.hid hbw
      have HW3 := Lib.hid hW3
      have HM := Lib.hid hm
      have HDD := Lib.hid (HD.out i)
      have b0 : W3.cell? ⟨b, 0, none⟩ = some (.slice An ns.length cn) := (hr.blk.at_ 0).trans hr.c0
      have b1 : W3.cell? ⟨b, 1, none⟩ = some (.slice Al ls.length cl) := (hr.blk.at_ 1).trans hr.c1
      have s1 : IntKind.i64.wrap ((ls.length : Int) - (i : Int)) = (m : Int) := by rw [IntWalk.i64_in _ (by omega)]; omega
      have s2 : IntKind.i64.wrap ((dmx ps i : Int) + 1) = (dmx ps i : Int) + 1 := IntWalk.i64_in _ (by have := HDD.out; omega)
      have s3 : (0 : Int) ≤ (m : Int) := by omega
      have s4 : (m : Int) ≤ (cl : Int) := by omega
      obtain ⟨i0, hi0, hz0, hz1, hz2⟩ := info_parts infoPart
      have hbig : m + 1 ≤ maxLen := by unfold maxLen; omega
      have hws : W3.heap.size ≤ W3.heap.size := Nat.le_refl _
      have hBw : B ≤ W3.heap.size := by have := hr.base; omega
      have htp : t ∉ [261] := by rcases ht with rfl | rfl <;> decide
      have HAPP := Lib.hid (fun (W' w9 : World) (hb : Below W3.heap.size W3 W') (hgr : W'.grownBy w9 (Value.slice Al m cl).ownBlock) => (show Kt [261] W3 w9 ∧ Below B W3 w9 ∧ w9.cell? ⟨b, 1, none⟩ = some (.slice Al ls.length cl) ∧ w9.frozen? ⟨b, 1, none⟩ = false ∧ (∀ k, k < W3.heap.size → (Value.slice Al m cl).ownBlock ≠ some k → w9.heap[k]? = W3.heap[k]?) from by
        have k : Kt [261] W3 w9 := (Kt.of_below hb).trans (Kt.grown hgr (own_below HOWN.out hb) (by simp))
        have q := k.blk HR.out.blk htp
        refine ⟨k, Below.grown (hb.mono hBw) hgr (Nat.le_trans hBw hb.size) (fun k hk => (HOWN.out.lt k hk).1), (q.at_ 1).trans HR.out.c1, q.fz 1, fun k hk hne => (hgr.block k (Nat.lt_of_lt_of_le hk hb.size) (fun e => hne e.symm)).trans (hb.block k hk)⟩))
      clear hW3 hbw hnb hr x0 x1 x2 f3 f4 f5 n3 n4 n5 hm hn1 hn2 hn3 hl1 hl2 hl3
      have hm6 : m ≤ 1000000 := by have := HM.out; omega
      have htn : t ∉ [105] := by rcases ht with rfl | rfl <;> decide
      have htL : t ∈ LRow := by rcases ht with rfl | rfl <;> decide
      have HTT := Lib.hid (And.intro htp (And.intro htn htL))
      have HLS := Lib.hid (show ls.take m ++ [(ns.length, dmx ps i + 1)] = ls.take (ls.length - i) ++ [(ns.length, dmx ps i + 1)] ∧ (ls.flatMap loV).take (m * 2) ++ [Value.int .i64 (ns.length : Int), .int .i64 ((dmx ps i : Int) + 1)] = (ls.take m ++ [(ns.length, dmx ps i + 1)]).flatMap loV ∧ (ls.take m ++ [(ns.length, dmx ps i + 1)]).length = m + 1 from ⟨by rw [HM.out], by rw [fl_take (k := 2) (fun _ => rfl), List.flatMap_append]; rfl, by have := HM.out; rw [List.length_append, List.length_take, Nat.min_eq_left (by omega)]; rfl⟩)
      have HF9 := Lib.hid (fun (w9 : World) (g9 cap9 : Nat) (hown9 : w9.ownsRow B 261 2 (.slice (some ⟨g9, 0, none⟩) (m + 1) cap9) (m + 1) ((ls.flatMap loV).take (m * 2) ++ [Value.int .i64 (ns.length : Int), .int .i64 ((dmx ps i : Int) + 1)])) (HA9 : Kt [261] W3 w9 ∧ Below B W3 w9 ∧ w9.cell? ⟨b, 1, none⟩ = some (.slice Al ls.length cl) ∧ w9.frozen? ⟨b, 1, none⟩ = false ∧ (∀ k, k < W3.heap.size → (Value.slice Al m cl).ownBlock ≠ some k → w9.heap[k]? = W3.heap[k]?)) => (show ∃ lv', RowS B b t (cs.setIfInBounds 1 lv') (w9.setCell ⟨b, 1, none⟩ (.slice (some ⟨g9, 0, none⟩) (m + 1) cap9)) (.slice An ns.length cn) lv' ns (ls.take m ++ [(ns.length, dmx ps i + 1)]) ∧ IsBlk (w9.setCell ⟨b, 1, none⟩ (.slice (some ⟨g9, 0, none⟩) (m + 1) cap9)) w.heap.size 105 #[.int .u8 op, .int .i64 num, .string N, .int .i64 (plc ps i 0), .int .i64 (plc ps i 1), .int .i64 (plc ps i 2)] ∧ Kt LRow w (w9.setCell ⟨b, 1, none⟩ (.slice (some ⟨g9, 0, none⟩) (m + 1) cap9)) ∧ Below B w (w9.setCell ⟨b, 1, none⟩ (.slice (some ⟨g9, 0, none⟩) (m + 1) cap9)) ∧ (∀ k, k < w.heap.size → k ≠ b → (Value.slice Al ls.length cl).ownBlock ≠ some k → (w9.setCell ⟨b, 1, none⟩ (.slice (some ⟨g9, 0, none⟩) (m + 1) cap9)).heap[k]? = w.heap[k]?) from by
        refine ⟨_, HR.out.setl HTT.out.1 (by intro e; exact HTT.out.2.1 (by simp [e])) HA9.1 (by rw [HLS.out.2.2, ← HLS.out.2.1]; exact hown9), ?_, ?_, ?_, fun k hk hkb hne => (Below.heap_setCell _ _ _ _ hkb).trans ((HA9.2.2.2.2 k (Nat.lt_of_lt_of_le hk HBW.out.size) (fun e => hne (by cases Al with | none => exact e | some a => exact e))).trans (HBW.out.block k hk))⟩
        · exact (HA9.1.blk HNB.out (by decide)).far (p := ⟨b, 1, none⟩) (by simp; omega) _
        · exact (((Kt.of_below HBW.out).trans (HA9.1.more (by decide))).trans (Kt.set (p := ⟨b, 1, none⟩) (HA9.1.blk HR.out.blk HTT.out.1) HTT.out.2.2 _))
        · exact ((HBW.out.mono (by have := HR.out.base; omega)).trans HA9.2.1).setCell (p := ⟨b, 1, none⟩) HR.out.base _))
      go_upto_region 9 with fail
      go_cut [] from 36 to 71 (fun wx => Hid (∃ lv', RowS B b t (cs.setIfInBounds 1 lv') wx (.slice An ns.length cn) lv' ns (ls.take m ++ [(ns.length, dmx ps i + 1)]) ∧ IsBlk wx w.heap.size 105 #[.int .u8 op, .int .i64 num, .string N, .int .i64 (plc ps i 0), .int .i64 (plc ps i 1), .int .i64 (plc ps i 2)] ∧ Kt LRow w wx ∧ Below B w wx ∧ (∀ k, k < w.heap.size → k ≠ b → (Value.slice Al ls.length cl).ownBlock ≠ some k → wx.heap[k]? = w.heap[k]?)))
      case first =>
        go_region_law (first | (refine step_append_lies _ (by rfl) _ _ _ (by rfl) B 261 i0 _ 2 16 Tryz.underlying236 hi0 hz0 hz1 hz2 rfl (by omega) (.slice Al m cl) m ((ls.flatMap loV).take (m * 2)) (by rfl) (by exact World.ownsRow.alloc HOWN.out _) _ 1 _ [.int .i64 (ns.length : Int), .int .i64 ((dmx ps i : Int) + 1)] (by rfl) rfl (by intro j u hu; exact news_at _ _ _ _ (by simp) j u hu) (by intro u hu; simp at hu; rcases hu with rfl | rfl <;> rfl) (by omega) hbig (by omega) (by simp; omega) _ rfl ?_; intro g9 cap9 w9 hown9 hgr9 hat9 hlt9; have HA9 := Lib.hid (HAPP.out _ w9 (by first | exact ((Below.refl _ _).alloc (Nat.le_refl _) _).drew | exact ((Below.refl _ _).drew).alloc (Nat.le_refl _) _ | exact (Below.refl _ _).alloc (Nat.le_refl _) _) hgr9); have y1 := HA9.out.2.2.1; have yf := HA9.out.2.2.2.1))
        all_goals
          go_wp2_with fail
          go_meet
          exact Lib.hid (HF9.out _ _ _ hown9 HA9.out)
      case rest =>
        obtain ⟨lv', r2, nb2, k2, b2, fr2⟩ := hcut.out
        have d0 : wc.cell? ⟨b, 0, none⟩ = some (.slice An ns.length cn) := (r2.blk.at_ 0).trans r2.c0
        have e0 : wc.cell? ⟨w.heap.size, 0, none⟩ = some (.int .u8 op) := nb2.at_ 0
        have e1 : wc.cell? ⟨w.heap.size, 1, none⟩ = some (.int .i64 num) := nb2.at_ 1
        have e2 : wc.cell? ⟨w.heap.size, 2, none⟩ = some (.string N) := nb2.at_ 2
        have e3 : wc.cell? ⟨w.heap.size, 3, none⟩ = some (.int .i64 (plc ps i 0)) := nb2.at_ 3
        have e4 : wc.cell? ⟨w.heap.size, 4, none⟩ = some (.int .i64 (plc ps i 1)) := nb2.at_ 4
        have e5 : wc.cell? ⟨w.heap.size, 5, none⟩ = some (.int .i64 (plc ps i 2)) := nb2.at_ 5
        obtain ⟨j0, hj0, jz0, jz1, jz2⟩ := info_parts infoNd
        have hbig2 : ns.length + 1 ≤ maxLen := by unfold maxLen; omega
        have hBc : B ≤ wc.heap.size := by have := r2.base; have := r2.blk.lt; omega
        have hbc : b < wc.heap.size := r2.blk.lt
        have HR2 := Lib.hid r2
        have HK2 := Lib.hid (And.intro k2 (And.intro b2 fr2))
        have HAPP2 := Lib.hid (fun (W' w9 : World) (hb : Below wc.heap.size wc W') (hgr : W'.grownBy w9 (Value.slice An ns.length cn).ownBlock) => (show Kt [105] wc w9 ∧ Below B wc w9 ∧ w9.cell? ⟨b, 0, none⟩ = some (.slice An ns.length cn) ∧ w9.frozen? ⟨b, 0, none⟩ = false ∧ (∀ k, k < wc.heap.size → (Value.slice An ns.length cn).ownBlock ≠ some k → w9.heap[k]? = wc.heap[k]?) from by
          have k : Kt [105] wc w9 := (Kt.of_below hb).trans (Kt.grown hgr (own_below HR2.out.nown hb) (by simp))
          have q := k.blk HR2.out.blk HTT.out.2.1
          refine ⟨k, Below.grown (hb.mono hBc) hgr (Nat.le_trans hBc hb.size) (fun k hk => (HR2.out.nown.lt k hk).1), (q.at_ 0).trans HR2.out.c0, q.fz 0, fun k hk hne => (hgr.block k (Nat.lt_of_lt_of_le hk hb.size) (fun e => hne e.symm)).trans (hb.block k hk)⟩))
        have HF10 := Lib.hid (fun (w9 : World) (g9 cap9 : Nat) (hown9 : w9.ownsRow B 105 6 (.slice (some ⟨g9, 0, none⟩) (ns.length + 1) cap9) (ns.length + 1) (ns.flatMap ndV ++ [Value.int .u8 op, .int .i64 num, .string N, .int .i64 (plc ps i 0), .int .i64 (plc ps i 1), .int .i64 (plc ps i 2)])) (HA9 : Kt [105] wc w9 ∧ Below B wc w9 ∧ w9.cell? ⟨b, 0, none⟩ = some (.slice An ns.length cn) ∧ w9.frozen? ⟨b, 0, none⟩ = false ∧ (∀ k, k < wc.heap.size → (Value.slice An ns.length cn).ownBlock ≠ some k → w9.heap[k]? = wc.heap[k]?)) => (show ∃ nv' lv', RowS B b t ((cs.setIfInBounds 0 nv').setIfInBounds 1 lv') (w9.setCell ⟨b, 0, none⟩ (.slice (some ⟨g9, 0, none⟩) (ns.length + 1) cap9)) nv' lv' (ns ++ [put1 ⟨op, num, nm, na, nb, nc⟩ ps]) (ls.take (ls.length - i) ++ [(ns.length, dmx ps i + 1)]) ∧ Kt LRow w (w9.setCell ⟨b, 0, none⟩ (.slice (some ⟨g9, 0, none⟩) (ns.length + 1) cap9)) ∧ Below B w (w9.setCell ⟨b, 0, none⟩ (.slice (some ⟨g9, 0, none⟩) (ns.length + 1) cap9)) ∧ (∀ k, k < w.heap.size → k ≠ b → (Value.slice Al ls.length cl).ownBlock ≠ some k → (Value.slice An ns.length cn).ownBlock ≠ some k → (w9.setCell ⟨b, 0, none⟩ (.slice (some ⟨g9, 0, none⟩) (ns.length + 1) cap9)).heap[k]? = w.heap[k]?) from by
          refine ⟨.slice (some ⟨g9, 0, none⟩) (ns.length + 1) cap9, lv', ?_, ?_, ?_, fun k hk hkb hne hne2 => (Below.heap_setCell _ _ _ _ hkb).trans ((HA9.2.2.2.2 k (Nat.lt_of_lt_of_le hk HK2.out.2.1.size) hne2).trans (HK2.out.2.2 k hk hkb hne))⟩
          · rw [show (cs.setIfInBounds 0 (.slice (some ⟨g9, 0, none⟩) (ns.length + 1) cap9)).setIfInBounds 1 lv' = (cs.setIfInBounds 1 lv').setIfInBounds 0 (.slice (some ⟨g9, 0, none⟩) (ns.length + 1) cap9) from Array.setIfInBounds_comm _ _ (by decide), ← HLS.out.1]
            refine HR2.out.setn HTT.out.2.1 (by intro e; exact HTT.out.1 (by simp [e])) HA9.1 ?_
            rw [List.length_append, List.flatMap_append]
            have q : [put1 ⟨op, num, nm, na, nb, nc⟩ ps].flatMap ndV = [Value.int .u8 op, .int .i64 num, .string N, .int .i64 (plc ps i 0), .int .i64 (plc ps i 1), .int .i64 (plc ps i 2)] := by rw [HN.out, HKK.out]; rfl
            rw [q]; exact hown9
          · exact ((HK2.out.1.trans (HA9.1.more (by decide))).trans (Kt.set (p := ⟨b, 0, none⟩) (HA9.1.blk HR2.out.blk HTT.out.2.1) HTT.out.2.2 _))
          · exact (HK2.out.2.1.trans HA9.2.1).setCell (p := ⟨b, 0, none⟩) HR2.out.base _))
        clear r2 nb2 k2 b2 fr2 b0 b1 s1 s2 s3 s4 hi0 hz0 hz1 hz2 hbig hcut
        go_wp2_with fail
        go_region_law (first | (refine step_append_lies _ (by rfl) _ _ _ (by rfl) B 105 j0 _ 6 56 Tryz.underlying76 hj0 jz0 jz1 jz2 rfl (by omega) (.slice An ns.length cn) ns.length (ns.flatMap ndV) (by rfl) (by exact World.ownsRow.alloc HR2.out.nown _) _ 1 _ [.int .u8 op, .int .i64 num, .string N, .int .i64 (plc ps i 0), .int .i64 (plc ps i 1), .int .i64 (plc ps i 2)] (by rfl) rfl (by intro j u hu; exact news_at _ _ _ _ (by simp) j u hu) (by intro u hu; simp at hu; rcases hu with rfl | rfl | rfl | rfl | rfl | rfl <;> rfl) (by omega) hbig2 (by omega) (by simp; omega) _ rfl ?_; intro g9 cap9 w9 hown9 hgr9 hat9 hlt9; have HA9 := Lib.hid (HAPP2.out _ w9 (by first | exact ((Below.refl _ _).alloc (Nat.le_refl _) _).drew | exact ((Below.refl _ _).drew).alloc (Nat.le_refl _) _ | exact (Below.refl _ _).alloc (Nat.le_refl _) _) hgr9); have y1 := HA9.out.2.2.1; have yf := HA9.out.2.2.2.1))
        all_goals
          go_wp2
          go_end0
          exact ⟨rfl, HF10.out _ _ _ hown9 HA9.out⟩
theorem put_any_ (B b : Nat) (t : TypeId) (cs : Array Value) (w : World) (nv lv : Value) (ns : List Ex.Nd) (ls : List (Nat × Nat)) (h : RowS B b t cs w nv lv ns ls) (ht : t = 254 ∨ t = 238) (n : Ex.Nd) (A : Option Addr) (c : Nat) (ps : List (Nat × Nat)) (hp : Parts w w.heap.size A c ps) (hk : ps.length ≤ 3) (hpl : ps.length ≤ ls.length) (hn : ns.length ≤ 1000000) (hl : ls.length ≤ 1000000) (hd : ∀ p ∈ ps, p.2 ≤ 1000000) :
    Calls Tryz.prog 141 #[.pointer (some ⟨b, 0, none⟩), .agg #[.int .u8 n.op, .int .i64 n.num, .string ⟨n.nm.toArray⟩, .int .i64 n.a, .int .i64 n.b, .int .i64 n.c], .slice A ps.length c] w fun e w' => e = .returned (.tuple #[]) ∧ ∃ nv' lv', RowS B b t ((cs.setIfInBounds 0 nv').setIfInBounds 1 lv') w' nv' lv' (ns ++ [put1 n ps]) (ls.take (ls.length - ps.length) ++ [(ns.length, dmx ps ps.length + 1)]) ∧ Kt LRow w w' ∧ Below B w w' :=
  (put_fr_ B b t cs w nv lv ns ls h ht n A c ps hp hk hpl hn hl hd).mono (by
    rintro e w' ⟨h1, nv', lv', h2, h3, h4, _⟩
    exact ⟨h1, nv', lv', h2, h3, h4⟩)
end Go.Proofs.YtmmdigeciphglaaGreatDoor
