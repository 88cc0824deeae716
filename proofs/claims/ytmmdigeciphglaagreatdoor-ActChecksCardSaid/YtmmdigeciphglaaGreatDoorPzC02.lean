/- Facts and walks for the statement. -/
import Derived.Test.YtmmdigeciphglaaGreatDoorPzB26
import Derived.WalkKit
import Derived.BigQuiet
import Derived.WalkSmall
import Derived.Lib.Bytealg
import Derived.Lib.IndexLaws
import Derived.Deep.AppendLies
import Derived.OwnWalk
import Derived.Lib.OthersKept
import Derived.Lib.Hide
import Derived.Lib.ItoaNum
import Derived.Test.YtmmdigeciphglaaGreatDoorPzC00
import Derived.Test.YtmmdigeciphglaaGreatDoorProg
import Derived.Laws.EntriesVeiled
import Derived.Lib.CutLaws
import Derived.Deep.RegionHeld3
import Derived.WalkLawsBesides
import Derived.Outline
import Derived.Handy
import Derived.Deep.DeepFit
import Derived.Deep.QuietTactic
import Derived.WalkSpells
import Derived.IntWalk
import Derived.Lib.ParseIntBCases
import Derived.Test.YtmmdigeciphglaaGreatDoorChecked
import Derived.LaidEql
import Derived.Stop.Asserts
import Derived.RowKitTokens
import Derived.Lib.SmallJoins
import Derived.Lib.LaidTab
import Derived.Deep.RegionLaw
import Derived.Deep.CutRange
import Derived.StillTailTactics
import Derived.Deep.RegionWith
import Derived.Deep.RegionHeld
import Derived.Laws.Externs
import Derived.Lib.FrozenHead2
import Derived.Lib.UnsafeStr
namespace Go.Proofs.YtmmdigeciphglaaGreatDoor
open Ex
namespace Ex
theorem right_iff (l : List Nd) : bg l.length l ((l.length : Int) - 1) = 0 ↔ dep l ≠ 0 := by
  constructor
  · intro h
    obtain ⟨x, s, h1, h2, h3, h4⟩ := bg_tells (l := l) l.length ((l.length : Int) - 1) (by rw [h]; exact Int.le_refl _)
    rw [h] at h1
    obtain rfl : s = 0 := by omega
    have h5 := sz_pos x
    have hl : l = flat x 0 := by
      have := h3.1
      rw [List.drop_zero, List.take_of_length_le (by omega)] at this
      exact this
    rw [hl, dep_flat h4]
    have := dp_pos x
    omega
  · intro h
    obtain ⟨x, h1, h2, _⟩ := dep_row h
    have hl : l.length = sz x := by rw [h2, flat_len]
    have ha : At l 0 x := ⟨by rw [List.drop_zero, ← hl, List.take_length, h2], by omega⟩
    have := bg_at x 0 l.length ha h1 (by omega)
    rw [Nat.zero_add, ← hl] at this
    exact this
def pl3 (n : Nd) : Nat → Int
  | 0 => n.a
  | 1 => n.b
  | _ => n.c
def fin3 (bgf : Int → Int) (n : Nd) : Nat → Int → Int
  | 0, last => last + 1
  | j + 1, last => match part bgf (parts n.op) j (pl3 n j) last with
    | none => -1
    | some l' => fin3 bgf n j l'
theorem bg_fin {f : Nat} {l : List Nd} {i : Nat} (hi : i < l.length) (hr : right l[i] = true) : bg (f + 1) l i = fin3 (bg f l) l[i] 3 ((i : Int) - 1) := by
  have e : l[(i : Int).toNat]? = some l[i] := List.getElem?_eq_getElem hi
  show (if (i : Int) < 0 then (-1 : Int) else _) = _
  rw [if_neg (by omega), e]
  show (if right l[i] = false then (-1 : Int) else _) = _
  rw [if_neg (by rw [hr]; decide)]
  unfold fin3 fin3 fin3 fin3
  simp only [pl3]
  cases part (bg f l) (parts l[i].op) 2 l[i].c ((i : Int) - 1) with
  | none => rfl
  | some l2 =>
    simp only
    cases part (bg f l) (parts l[i].op) 1 l[i].b l2 with
    | none => rfl
    | some l1 =>
      simp only
      cases part (bg f l) (parts l[i].op) 0 l[i].a l1 with
      | none => rfl
      | some l0 => rfl
theorem bg_neg {f : Nat} {l : List Nd} {i : Int} (hi : i < 0) : bg f l i = -1 := by
  cases f with
  | zero => rfl
  | succ f => exact if_pos hi
theorem bg_past {f : Nat} {l : List Nd} {i : Nat} (hi : l.length ≤ i) : bg f l i = -1 := by
  cases f with
  | zero => rfl
  | succ f =>
    show (if (i : Int) < 0 then (-1 : Int) else match l[(i : Int).toNat]? with | none => -1 | some n => _) = _
    rw [if_neg (by omega), List.getElem?_eq_none (by simpa using hi)]
theorem bg_wrong {f : Nat} {l : List Nd} {i : Nat} (hi : i < l.length) (hr : right l[i] = false) : bg f l i = -1 := by
  cases f with
  | zero => rfl
  | succ f =>
    have e : l[(i : Int).toNat]? = some l[i] := List.getElem?_eq_getElem hi
    show (if (i : Int) < 0 then (-1 : Int) else _) = _
    rw [if_neg (by omega), e]
    exact if_pos hr
theorem fin_off {bgf : Int → Int} {n : Nd} {j : Nat} {last : Int} (h1 : parts n.op ≤ j) (h2 : pl3 n j = -1) : fin3 bgf n (j + 1) last = fin3 bgf n j last := by
  have e : part bgf (parts n.op) j (pl3 n j) last = some last := (if_pos h1).trans (if_pos h2)
  show (match part bgf (parts n.op) j (pl3 n j) last with | none => (-1 : Int) | some l' => fin3 bgf n j l') = _
  rw [e]
theorem fin_off_no {bgf : Int → Int} {n : Nd} {j : Nat} {last : Int} (h1 : parts n.op ≤ j) (h2 : pl3 n j ≠ -1) : fin3 bgf n (j + 1) last = -1 := by
  have e : part bgf (parts n.op) j (pl3 n j) last = none := (if_pos h1).trans (if_neg h2)
  show (match part bgf (parts n.op) j (pl3 n j) last with | none => (-1 : Int) | some l' => fin3 bgf n j l') = _
  rw [e]
theorem fin_no {bgf : Int → Int} {n : Nd} {j : Nat} {last : Int} (h1 : ¬ parts n.op ≤ j) (h2 : pl3 n j ≠ last) : fin3 bgf n (j + 1) last = -1 := by
  have e : part bgf (parts n.op) j (pl3 n j) last = none := (if_neg h1).trans (if_neg h2)
  show (match part bgf (parts n.op) j (pl3 n j) last with | none => (-1 : Int) | some l' => fin3 bgf n j l') = _
  rw [e]
theorem fin_neg {bgf : Int → Int} {n : Nd} {j : Nat} {last : Int} (h1 : ¬ parts n.op ≤ j) (h2 : pl3 n j = last) (h3 : bgf last < 0) : fin3 bgf n (j + 1) last = -1 := by
  have e : part bgf (parts n.op) j (pl3 n j) last = none := (if_neg h1).trans ((if_pos h2).trans (if_pos h3))
  show (match part bgf (parts n.op) j (pl3 n j) last with | none => (-1 : Int) | some l' => fin3 bgf n j l') = _
  rw [e]
theorem fin_on {bgf : Int → Int} {n : Nd} {j : Nat} {last : Int} (h1 : ¬ parts n.op ≤ j) (h2 : pl3 n j = last) (h3 : ¬ bgf last < 0) : fin3 bgf n (j + 1) last = fin3 bgf n j (bgf last - 1) := by
  have e : part bgf (parts n.op) j (pl3 n j) last = some (bgf last - 1) := (if_neg h1).trans ((if_pos h2).trans (if_neg h3))
  show (match part bgf (parts n.op) j (pl3 n j) last with | none => (-1 : Int) | some l' => fin3 bgf n j l') = _
  rw [e]
theorem bg_le {l : List Nd} (f : Nat) (i : Int) (h : 0 ≤ bg f l i) : bg f l i ≤ i := by
  obtain ⟨x, s, h1, h2, _, _⟩ := bg_tells f i h
  have := sz_pos x
  omega
end Ex
end Go.Proofs.YtmmdigeciphglaaGreatDoor
namespace Go.Proofs.YtmmdigeciphglaaGreatDoor
open Go.RowKit Ex
theorem rparts_any (o : Int) (w : World) :
    Calls Tryz.prog 109 #[.int .u8 o] w fun e w' => e = .returned (.int .i64 (Ex.parts o : Nat)) ∧ w = w' := by
  unfold Ex.parts
  by_cases h1 : o ≤ 4
  · rw [if_pos h1]
    go_enter Tryz.func109, Tryz.ntmps109
    go_wp2
    go_ret
    exact ⟨rfl, rfl⟩
  · rw [if_neg h1]
    by_cases h2 : o ≤ 6
    · rw [if_pos h2]
      go_enter Tryz.func109, Tryz.ntmps109
      go_wp2
      go_ret
      exact ⟨rfl, rfl⟩
    · rw [if_neg h2]
      by_cases h3 : o ≤ 21
      · rw [if_pos h3]
        go_enter Tryz.func109, Tryz.ntmps109
        go_wp2
        go_ret
        exact ⟨rfl, rfl⟩
      · rw [if_neg h3]
        go_enter Tryz.func109, Tryz.ntmps109
        go_wp2
        go_ret
        exact ⟨rfl, rfl⟩
def lvT : List Int := [0, 10, 10, 10, 10, 9, 9, 8, 8, 8, 7, 7, 6, 6, 6, 6, 5, 5, 4, 3, 2, 1, 10]
def rlv (o : Nat) : Int := lvT.getD o 0
theorem rlv_eq : ∀ o, 1 ≤ o → o ≤ 22 → rlv o = (Ex.lvl o : Nat) := by
  intro o h1 h2
  have : ∀ o : Fin 23, 1 ≤ o.val → rlv o.val = (Ex.lvl o.val : Nat) := by decide
  exact this ⟨o, by omega⟩ h1
theorem rlevel_any (o : Nat) (h : o ≤ 22) (w : World) :
    Calls Tryz.prog 108 #[.int .u8 (o : Int)] w fun e w' => e = .returned (.int .i64 (rlv o)) ∧ Below w.heap.size w w' := by
  have hb := (Below.refl w.heap.size w).alloc (Nat.le_refl _) (.cells (lvT.map (Value.int .i64)).toArray 3)
  have hc : (w.alloc (.cells (lvT.map (Value.int .i64)).toArray 3)).cell? ⟨w.heap.size, o, none⟩ = some (.int .i64 (rlv o)) := by
    rw [World.cell?_alloc_mark w _ _ (0, 0) o, List.getElem?_toArray, List.getElem?_map]
    unfold rlv
    rw [List.getD_eq_getElem?_getD, List.getElem?_eq_getElem (show o < lvT.length by simp [lvT]; omega)]; rfl
  have HB := Lib.hid hb
  have ho : (o : Int) < 23 := by omega
  simp only [lvT, List.map_cons, List.map_nil] at hc
  clear hb
  go_enter Tryz.func108, Tryz.ntmps108
  go_wp2
  go_ret
  exact ⟨rfl, HB.out⟩
def sgT : List ByteArray := [⟨#[]⟩, ⟨#[]⟩, ⟨#[]⟩, ⟨#[]⟩, ⟨#[]⟩, ⟨#[45]⟩, ⟨#[110, 111, 116]⟩, ⟨#[42]⟩, ⟨#[100, 105, 118]⟩, ⟨#[109, 111, 100]⟩, ⟨#[43]⟩, ⟨#[45]⟩, ⟨#[60]⟩, ⟨#[60, 61]⟩, ⟨#[62]⟩, ⟨#[62, 61]⟩, ⟨#[61]⟩, ⟨#[60, 62]⟩, ⟨#[97, 110, 100]⟩, ⟨#[111, 114]⟩, ⟨#[120, 111, 114]⟩, ⟨#[105, 109, 112, 108, 105, 101, 115]⟩]
theorem sgT_eq : ∀ o : Nat, o ≤ 21 → sgT[o]? = some ⟨(Ex.opS o).toArray⟩ := by
  intro o h
  match o, h with
  | 0, _ => rfl | 1, _ => rfl | 2, _ => rfl | 3, _ => rfl | 4, _ => rfl | 5, _ => rfl | 6, _ => rfl | 7, _ => rfl | 8, _ => rfl | 9, _ => rfl | 10, _ => rfl
  | 11, _ => rfl | 12, _ => rfl | 13, _ => rfl | 14, _ => rfl | 15, _ => rfl | 16, _ => rfl | 17, _ => rfl | 18, _ => rfl | 19, _ => rfl | 20, _ => rfl | 21, _ => rfl
  | n + 22, h => omega
theorem rsigns_any (w : World) :
    Calls Tryz.prog 111 #[] w fun e w' => ∃ g, e = .returned (.slice (some ⟨g, 0, none⟩) 22 22) ∧ g < w'.heap.size ∧ (∀ o : Nat, o ≤ 21 → w'.cell? ⟨g, o, none⟩ = some (.string ⟨(Ex.opS o).toArray⟩)) ∧ Below w.heap.size w w' := by
  have hb := (Below.refl w.heap.size w).alloc (Nat.le_refl _) (.cells (sgT.map Value.string).toArray 9)
  have hc : ∀ o : Nat, o ≤ 21 → (w.alloc (.cells (sgT.map Value.string).toArray 9)).cell? ⟨w.heap.size, o, none⟩ = some (.string ⟨(Ex.opS o).toArray⟩) := by
    intro o h
    rw [World.cell?_alloc_mark w _ _ (0, 0) o, List.getElem?_toArray, List.getElem?_map, sgT_eq o h]; rfl
  have H := Lib.hid (And.intro (show w.heap.size < (w.alloc (.cells (sgT.map Value.string).toArray 9)).heap.size by simp) (And.intro hc hb))
  clear hc hb
  go_enter Tryz.func111, Tryz.ntmps111
  go_wp2
  go_ret
  exact ⟨_, rfl, H.out⟩
set_option maxHeartbeats 4000000 in
set_option maxRecDepth 100000 in
theorem rright_any (n : Nd) (w : World) (hn : n.nm.length ≤ 1000000) (ho : 0 ≤ n.op) :
    Calls Tryz.prog 144 #[.agg #[.int .u8 n.op, .int .i64 n.num, .string ⟨n.nm.toArray⟩, .int .i64 n.a, .int .i64 n.b, .int .i64 n.c]] w fun e w' => e = .returned (.bool (Ex.right n)) ∧ Below w.heap.size w w' := by
  obtain ⟨op, num, nm, na, nb, nc⟩ := n
  simp only at hn ho ⊢
  obtain ⟨N, hN⟩ : ∃ N : ByteArray, N = ⟨nm.toArray⟩ := ⟨_, rfl⟩
  rw [← hN]
  obtain ⟨W1, hW1⟩ : ∃ W1, W1 = w.alloc (.cells #[.int .u8 op, .int .i64 num, .string N, .int .i64 na, .int .i64 nb, .int .i64 nc] 104) := ⟨_, rfl⟩
  have hb1 : Below w.heap.size w W1 := by rw [hW1]; exact (Below.refl _ _).alloc (Nat.le_refl _) _
  have HW1 := Lib.hid hW1
  have HB1 := Lib.hid hb1
  obtain ⟨R, hR⟩ : ∃ R, R = Ex.right ⟨op, num, nm, na, nb, nc⟩ := ⟨_, rfl⟩
  rw [← hR]
  unfold Ex.right at hR
  simp only at hR
  have hnm : N.toList = nm := by rw [Lib.toList_data, hN]
  have hNs : N.size ≤ 1000000000 := by rw [Lib.size_eq, ← Lib.toList_data, hnm]; omega
  have HIS := Lib.hid (ris_any N W1 hNs)
  rw [← Lib.toList_data, hnm] at HIS
  have hemp : N.toList.isEmpty = decide (nm = []) := by rw [hnm]; cases nm <;> rfl
  have HR := Lib.hid hR
  clear hW1 hb1 hR hn hNs hN
  by_cases a1 : op < 1
  · have HE := Lib.hid (show R = false from by rw [HR.out, decide_eq_false (show ¬ 1 ≤ op by omega)]; rfl)
    clear hnm hemp
    go_enter Tryz.func144, Tryz.ntmps144
    go_wp2_with fail
    go_wp2
    rw [← HW1.out]
    go_ret
    exact ⟨by rw [HE.out]; rfl, HB1.out⟩
  · by_cases a2 : op > 22
    · have HE := Lib.hid (show R = false from by rw [HR.out, decide_eq_false (show ¬ op ≤ 22 by omega)]; simp)
      clear hnm hemp
      go_enter Tryz.func144, Tryz.ntmps144
      go_wp2_with fail
      go_wp2
      rw [← HW1.out]
      go_ret
      exact ⟨by rw [HE.out]; rfl, HB1.out⟩
    · by_cases k1 : op = 1
      · subst k1
        by_cases k3 : num < 0
        · have HE := Lib.hid (show R = false from by rw [HR.out, decide_eq_false (show ¬ 0 ≤ num by omega)]; simp)
          clear hnm hemp
          go_enter Tryz.func144, Tryz.ntmps144
          go_wp2_with fail
          go_wp2
          rw [← HW1.out]
          go_ret
          exact ⟨by rw [HE.out]; rfl, HB1.out⟩
        · have HE := Lib.hid (show R = decide (nm = []) from by rw [HR.out, decide_eq_true (show 0 ≤ num by omega)]; simp)
          cases hd : decide (nm = []) with
          | true =>
            rw [hd] at hemp HE
            clear hnm hd
            go_enter Tryz.func144, Tryz.ntmps144
            go_wp2_with fail
            go_wp2
            rw [← HW1.out]
            go_ret
            exact ⟨by rw [HE.out]; rfl, HB1.out⟩
          | false =>
            rw [hd] at hemp HE
            clear hnm hd
            go_enter Tryz.func144, Tryz.ntmps144
            go_wp2_with fail
            go_wp2
            rw [← HW1.out]
            go_ret
            exact ⟨by rw [HE.out]; rfl, HB1.out⟩
      · have k1' : (op == 1) = false := by simpa using k1
        have k1'' : (op != 1) = true := by simp [bne, k1']
        by_cases k3 : num = 0
        · subst k3
          have e1 : decide (1 ≤ op) = true := decide_eq_true (by omega)
          have e2 : decide (op ≤ 22) = true := decide_eq_true (by omega)
          have e3 : decide (op = 1) = false := decide_eq_false k1
          rw [e1, e2, e3] at HR
          clear e1 e2 e3
          by_cases k2 : op = 2
          · subst k2
            obtain ⟨z, hz⟩ : ∃ z, z = Lx.is nm := ⟨_, rfl⟩
            rw [← hz] at HIS
            have HE := Lib.hid (show R = decide (z = 2) from by rw [HR.out, hz]; simp)
            clear hnm hemp hz
            go_enter Tryz.func144, Tryz.ntmps144
            go_wp2_with fail
            rw [← HW1.out]
            refine HIS.out.mono ?_
            rintro e w2 ⟨rfl, hb2⟩
            have HB2 := Lib.hid (HB1.out.trans (hb2.mono HB1.out.size))
            clear hb2
            by_cases hz2 : z = 2
            · subst hz2
              go_wp2
              go_ret
              exact ⟨by rw [HE.out]; rfl, HB2.out⟩
            · have hz2' : (z == 2) = false := by simpa using hz2
              go_wp2
              go_ret
              exact ⟨by rw [HE.out, decide_eq_false hz2]; rfl, HB2.out⟩
          · have k2' : (op == 2) = false := by simpa using k2
            have HE := Lib.hid (show R = decide (nm = []) from by rw [HR.out]; simp [k2])
            cases hd : decide (nm = []) with
            | true =>
              rw [hd] at hemp HE
              clear hnm hd
              go_enter Tryz.func144, Tryz.ntmps144
              go_wp2_with fail
              go_wp2
              rw [← HW1.out]
              go_ret
              exact ⟨by rw [HE.out]; rfl, HB1.out⟩
            | false =>
              rw [hd] at hemp HE
              clear hnm hd
              go_enter Tryz.func144, Tryz.ntmps144
              go_wp2_with fail
              go_wp2
              rw [← HW1.out]
              go_ret
              exact ⟨by rw [HE.out]; rfl, HB1.out⟩
        · have k3' : (num != 0) = true := by simpa using k3
          have HE := Lib.hid (show R = false from by rw [HR.out, decide_eq_false k1, decide_eq_false k3]; simp)
          clear hnm hemp
          go_enter Tryz.func144, Tryz.ntmps144
          go_wp2_with fail
          go_wp2
          rw [← HW1.out]
          go_ret
          exact ⟨by rw [HE.out]; rfl, HB1.out⟩
end Go.Proofs.YtmmdigeciphglaaGreatDoor
namespace Go.Proofs.YtmmdigeciphglaaGreatDoor
open Go.RowKit Ex
def FitR (l : List Nd) : Prop := l.length ≤ 1000000 ∧ ∀ n ∈ l, n.nm.length ≤ 1000000 ∧ 0 ≤ n.op
theorem NdR.on_ {w w' : World} {A : Option Addr} {l : List Nd} (h : NdR w w.heap.size A l) (hb : Below w.heap.size w w') : NdR w' w'.heap.size A l := (h.below hb).more hb.size
set_option maxHeartbeats 8000000 in
set_option maxRecDepth 100000 in
theorem rbegin_any (A : Option Addr) (c : Nat) (l : List Nd) (hc : l.length ≤ c) (hf : FitR l) : ∀ (f : Nat) (a : Int) (w : World), NdR w w.heap.size A l → a < f → -1 ≤ a →
    Calls Tryz.prog 116 #[.slice A l.length c, .int .i64 a] w fun e w' => e = .returned (.int .i64 (bg f l a)) ∧ Below w.heap.size w w' := by
  have hcI : (l.length : Int) ≤ (c : Int) := by omega
  intro f
  induction f with
  | zero =>
    intro a w hl ha ha1
    have ha' : a < 0 := by omega
    rw [bg_neg ha']
    clear hl ha hf
    go_enter Tryz.func116, Tryz.ntmps116
    go_wp2
    go_ret
    exact ⟨rfl, Below.refl _ _⟩
  | succ f ih =>
    intro a w hl ha ha1
    by_cases ha0 : a < 0
    · rw [bg_neg ha0]
      clear hl ha ih hf
      go_enter Tryz.func116, Tryz.ntmps116
      go_wp2
      go_ret
      exact ⟨rfl, Below.refl _ _⟩
    · obtain ⟨i, rfl⟩ : ∃ i : Nat, a = i := ⟨a.toNat, by omega⟩
      by_cases hil : i < l.length
      · have hil' : ¬ (i : Int) ≥ (l.length : Int) := by omega
        have hil2 : (i : Int) < (l.length : Int) := by omega
        obtain ⟨g, o, rfl, hg, q0, q1, q2, q3, q4, q5⟩ := hl i hil
        have HR1 := Lib.hid (fun w0 => rright_any l[i] w0 (hf.2 _ (List.getElem_mem hil)).1 (hf.2 _ (List.getElem_mem hil)).2)
        obtain ⟨R, hR⟩ : ∃ R, R = bg (f + 1) l i := ⟨_, rfl⟩
        rw [← hR]
        have hop := (hf.2 _ (List.getElem_mem hil)).2
        cases hr : Ex.right l[i] with
        | false =>
          rw [hr] at HR1
          have HE := Lib.hid (show R = -1 from by rw [hR, bg_wrong hil hr])
          generalize l[i] = X at *
          obtain ⟨op, num, nm, na, nb, nc⟩ := X
          simp only at q0 q1 q2 q3 q4 q5 HR1
          generalize (⟨nm.toArray⟩ : ByteArray) = N at *
          clear hR hr hil ih hl hf
          go_enter Tryz.func116, Tryz.ntmps116
          go_wp2_with fail
          refine (HR1.out w).mono ?_
          rintro e w1 ⟨rfl, hb1⟩
          have HB1 := Lib.hid hb1
          clear hb1
          go_wp2
          go_ret
          exact ⟨by rw [HE.out]; rfl, HB1.out⟩
        | true =>
          rw [hr] at HR1
          have HF := Lib.hid (show R = fin3 (bg f l) l[i] 3 ((i : Int) - 1) from by rw [hR, bg_fin hil hr])
          have HL := Lib.hid hl
          have HIH := Lib.hid (fun (a : Int) (wr : World) (hb : Below w.heap.size w wr) (h1 : a < f) (h2 : -1 ≤ a) => ih a wr (HL.out.on_ hb) h1 h2)
          have hif : (i : Int) - 1 < f := by omega
          have hi6 : (i : Int) < 1000000 := by have := hf.1; omega
          have HI6 := Lib.hid hi6
          have HQ := Lib.hid (fun (wr : World) (hb : Below w.heap.size w wr) => (⟨(hb.cell (p := ⟨g, _, none⟩) hg).trans q0, (hb.cell (p := ⟨g, _, none⟩) hg).trans q1, (hb.cell (p := ⟨g, _, none⟩) hg).trans q2, (hb.cell (p := ⟨g, _, none⟩) hg).trans q3, (hb.cell (p := ⟨g, _, none⟩) hg).trans q4, (hb.cell (p := ⟨g, _, none⟩) hg).trans q5⟩ : _ ∧ _ ∧ _ ∧ _ ∧ _ ∧ _))
          generalize l[i] = X at *
          obtain ⟨op, num, nm, na, nb, nc⟩ := X
          simp only at q0 q1 q2 q3 q4 q5 HR1 hop HQ
          generalize (⟨nm.toArray⟩ : ByteArray) = N at *
          have HPT := Lib.hid (fun w0 => rparts_any op w0)
          clear hR hr hil ih hl hf hop
          go_enter Tryz.func116, Tryz.ntmps116
          go_wp2_with fail
          refine (HR1.out w).mono ?_
          rintro e w1 ⟨rfl, hb1⟩
          obtain ⟨p0, p1, p2, p3, p4, p5⟩ := HQ.out w1 hb1
          have hg1 : g < w1.heap.size := Nat.lt_of_lt_of_le hg hb1.size
          obtain ⟨W2, hW2⟩ : ∃ W2, W2 = (w1.alloc (.cells #[.int .u8 op, .int .i64 num, .string N, .int .i64 na, .int .i64 nb, .int .i64 nc] 104)).alloc (.cells #[.int .i64 na, .int .i64 nb, .int .i64 nc] 3) := ⟨_, rfl⟩
          have hz : (w1.alloc (.cells #[.int .u8 op, .int .i64 num, .string N, .int .i64 na, .int .i64 nb, .int .i64 nc] 104)).heap.size = w1.heap.size + 1 := by simp
          have hb2 : Below w.heap.size w W2 := by rw [hW2]; exact (hb1.alloc hb1.size _).alloc (by rw [hz]; have := hb1.size; omega) _
          have k1 : IsBlk W2 w1.heap.size 104 #[.int .u8 op, .int .i64 num, .string N, .int .i64 na, .int .i64 nb, .int .i64 nc] := by
            rw [hW2]; exact (IsBlk.new _ _ _).below ((Below.refl _ _).alloc (Nat.le_refl _) _) (by simp)
          have k2 : IsBlk W2 (w1.heap.size + 1) 3 #[.int .i64 na, .int .i64 nb, .int .i64 nc] := by rw [hW2, ← hz]; exact IsBlk.new _ _ _
          have HK := Lib.hid (And.intro k1 (And.intro k2 hb2))
          have HW2 := Lib.hid hW2
          clear hW2 hz k1 k2 hb2 hb1
          go_wp2
          rw [← HW2.out]
          go_loopw [7, 8] (fun lv kv wr => ∃ (last : Int) (j : Nat), lv = .int .i64 last ∧ kv = .int .i64 ((j : Int) - 1) ∧ j ≤ 3 ∧ -1 ≤ last ∧ last < (i : Int) ∧ Hid (R = fin3 (bg f l) ⟨op, num, nm, na, nb, nc⟩ j last ∧ Below W2.heap.size W2 wr)) (fun _ kv _ => (intOf kv + 1).toNat)
          case atStart => exact ⟨(i : Int) - 1, 3, by go_num, by go_num, by omega, by omega, by omega, Lib.hid ⟨HF.out, Below.refl _ _⟩⟩
          case round =>
            clear HF q0 q1 q2 q3 q4 q5 p0 p1 p2 p3 p4 p5
            obtain ⟨last, j, rfl, rfl, hj, hl1, hl2, HI⟩ := hrel
            have HBW := Lib.hid (HK.out.2.2.trans (HI.out.2.mono HK.out.2.2.size))
            cases j with
            | zero =>
              have hneg : ¬ ((0 : Nat) : Int) - 1 ≥ 0 := by omega
              have HE := Lib.hid (show R = last + 1 from HI.out.1)
              clear HI
              go_wp2
              go_ret
              exact ⟨by rw [HE.out]; rfl, HBW.out⟩
            | succ j =>
              have hkv : ((j + 1 : Nat) : Int) - 1 = (j : Int) := by omega
              have hnn : (j : Int) ≥ 0 := by omega
              have hj3 : (j : Int) < 3 := by omega
              have hc0 : wr.cell? ⟨w1.heap.size, 0, none⟩ = some (.int .u8 op) := (HK.out.1.below HI.out.2 HK.out.1.lt).at_ 0
              have hcj : wr.cell? ⟨w1.heap.size + 1, j, none⟩ = some (.int .i64 (pl3 ⟨op, num, nm, na, nb, nc⟩ j)) := by
                rw [(HK.out.2.1.below HI.out.2 HK.out.2.1.lt).at_ j]
                match j, (show j < 3 by omega) with
                | 0, _ => rfl
                | 1, _ => rfl
                | 2, _ => rfl
              rw [hkv]
              have HOFF := Lib.hid (fun h1 h2 => HI.out.1.trans (fin_off (bgf := bg f l) (n := ⟨op, num, nm, na, nb, nc⟩) (j := j) (last := last) h1 h2))
              have HOFN := Lib.hid (fun h1 h2 => HI.out.1.trans (fin_off_no (bgf := bg f l) (n := ⟨op, num, nm, na, nb, nc⟩) (j := j) (last := last) h1 h2))
              have HNO := Lib.hid (fun h1 h2 => HI.out.1.trans (fin_no (bgf := bg f l) (n := ⟨op, num, nm, na, nb, nc⟩) (j := j) (last := last) h1 h2))
              have HNEG := Lib.hid (fun h1 h2 h3 => HI.out.1.trans (fin_neg (bgf := bg f l) (n := ⟨op, num, nm, na, nb, nc⟩) (j := j) (last := last) h1 h2 h3))
              have HON := Lib.hid (fun h1 h2 h3 => HI.out.1.trans (fin_on (bgf := bg f l) (n := ⟨op, num, nm, na, nb, nc⟩) (j := j) (last := last) h1 h2 h3))
              simp only at HOFF HOFN HNO HNEG HON
              obtain ⟨p, hp⟩ : ∃ p, p = pl3 ⟨op, num, nm, na, nb, nc⟩ j := ⟨_, rfl⟩
              obtain ⟨pn, hpn⟩ : ∃ pn, pn = Ex.parts op := ⟨_, rfl⟩
              rw [← hp] at hcj HOFF HOFN HNO HNEG HON
              rw [← hpn] at HPT HOFF HOFN HNO HNEG HON
              have HIB := Lib.hid HI.out.2
              have HJ := Lib.hid hj
              clear HI hp hpn hkv hj
              go_wp2_with fail
              refine (HPT.out wr).mono ?_
              rintro e w3 ⟨rfl, rfl⟩
              by_cases hpj : pn ≤ j
              · have hpj' : (j : Int) ≥ (pn : Int) := by omega
                by_cases hp1 : p = -1
                · subst hp1
                  have HE := Lib.hid (HOFF.out hpj rfl)
                  clear HOFF HOFN HNO HNEG HON hpj
                  go_wp2
                  go_roundw
                  case rel => exact ⟨last, j, rfl, by go_num, by have := HJ.out; omega, hl1, hl2, Lib.hid ⟨HE.out, HIB.out⟩⟩
                  case measure => simp [intOf]
                · have hp1' : (p != -1) = true := by simpa using hp1
                  have HE := Lib.hid (HOFN.out hpj hp1)
                  clear HOFF HOFN HNO HNEG HON hpj hp1
                  go_wp2
                  go_ret
                  exact ⟨by rw [HE.out]; rfl, HBW.out⟩
              · have hpj' : (j : Int) < (pn : Int) := by omega
                by_cases hp1 : p = last
                · subst hp1
                  have HCB := Lib.hid (HIH.out p wr HBW.out (by omega) hl1)
                  have HNEG2 := Lib.hid (HNEG.out hpj rfl)
                  have HON2 := Lib.hid (HON.out hpj rfl)
                  clear HOFF HOFN HNO HNEG HON
                  have HBL := Lib.hid (show 0 ≤ bg f l p → bg f l p ≤ p from bg_le f p)
                  obtain ⟨fr, hfr⟩ : ∃ fr, fr = bg f l p := ⟨_, rfl⟩
                  rw [← hfr] at HCB HBL HNEG2 HON2
                  clear hfr
                  go_wp2_with fail
                  refine HCB.out.mono ?_
                  rintro e w4 ⟨rfl, hb4⟩
                  have HB4 := Lib.hid (And.intro (HBW.out.trans (hb4.mono HBW.out.size)) (HIB.out.trans (hb4.mono HIB.out.size)))
                  clear hb4
                  by_cases hf0 : fr < 0
                  · have HE := Lib.hid (HNEG2.out hf0)
                    clear HNEG2 HON2
                    go_wp2
                    go_ret
                    exact ⟨by rw [HE.out]; rfl, HB4.out.1⟩
                  · have HE := Lib.hid (HON2.out (by first | exact hf0 | omega))
                    have hfl : fr ≤ p := HBL.out (by omega)
                    have hf1 : decide (fr < 0) = false := decide_eq_false hf0
                    clear HNEG2 HON2
                    go_wp2
                    go_roundw
                    case rel => exact ⟨fr - 1, j, by go_num, by go_num, by have := HJ.out; omega, by omega, by omega, Lib.hid ⟨HE.out, HB4.out.2⟩⟩
                    case measure => simp [intOf]
                · have hp1' : (p != last) = true := by simpa using hp1
                  have HE := Lib.hid (HNO.out hpj hp1)
                  clear HOFF HOFN HNO HNEG HON hp1
                  go_wp2
                  go_ret
                  exact ⟨by rw [HE.out]; rfl, HBW.out⟩
      · have hil' : (i : Int) ≥ (l.length : Int) := by omega
        rw [bg_past (by omega)]
        clear hl ha ih hf hil
        go_enter Tryz.func116, Tryz.ntmps116
        go_wp2
        go_ret
        exact ⟨rfl, Below.refl _ _⟩
end Go.Proofs.YtmmdigeciphglaaGreatDoor
namespace Go.Proofs.YtmmdigeciphglaaGreatDoor
open Go.RowKit Ex
def DpC (A : Option Addr) (l : List Nd) (c : Nat) (w : World) (p : Int) (d : Nat) : Prop := ∀ w', Below w.heap.size w w' →
    Calls Tryz.prog 117 #[.slice A l.length c, .int .i64 p] w' fun e w'' => e = .returned (.int .i64 (d : Nat)) ∧ Below w'.heap.size w' w''
theorem rdepth_none (A : Option Addr) (l : List Nd) (c : Nat) (w : World) : DpC A l c w (-1) 0 := fun w' _ => by
  go_enter Tryz.func117, Tryz.ntmps117
  go_wp2
  go_ret
  exact ⟨rfl, Below.refl _ _⟩
set_option maxHeartbeats 4000000 in
set_option maxRecDepth 100000 in
theorem rdepth_step (A : Option Addr) (l : List Nd) (c : Nat) (hc : l.length ≤ c) (w : World) (hl : NdR w w.heap.size A l) (i : Nat) (hi : i < l.length) (da db dc : Nat) (hd : da ≤ 1000000000 ∧ db ≤ 1000000000 ∧ dc ≤ 1000000000)
    (ha : DpC A l c w l[i].a da) (hb : DpC A l c w l[i].b db) (hcc : DpC A l c w l[i].c dc) : DpC A l c w i (1 + max da (max db dc)) := fun w0 hb0 => by
  obtain ⟨g, o, rfl, hg, -, -, -, q3, q4, q5⟩ := hl i hi
  have HA := Lib.hid (fun w1 (h1 : Below w0.heap.size w0 w1) => ha w1 (hb0.trans (h1.mono hb0.size)))
  have HB := Lib.hid (fun w1 (h1 : Below w0.heap.size w0 w1) => hb w1 (hb0.trans (h1.mono hb0.size)))
  have HC := Lib.hid (fun w1 (h1 : Below w0.heap.size w0 w1) => hcc w1 (hb0.trans (h1.mono hb0.size)))
  generalize l[i].a = na at *
  generalize l[i].b = nb at *
  generalize l[i].c = nc at *
  have HS := Lib.hid (fun w1 (h1 : Below w0.heap.size w0 w1) => (show w1.cell? ⟨g, o + i * 6 + 3, none⟩ = some (.int .i64 na) ∧ w1.cell? ⟨g, o + i * 6 + 4, none⟩ = some (.int .i64 nb) ∧ w1.cell? ⟨g, o + i * 6 + 5, none⟩ = some (.int .i64 nc) from by
    have h2 := hb0.trans (h1.mono hb0.size)
    exact ⟨(h2.cell (p := ⟨g, _, none⟩) hg).trans q3, (h2.cell (p := ⟨g, _, none⟩) hg).trans q4, (h2.cell (p := ⟨g, _, none⟩) hg).trans q5⟩))
  have hi' : (i : Int) < (l.length : Int) := by omega
  have hc' : (l.length : Int) ≤ (c : Int) := by omega
  obtain ⟨hd1, hd2, hd3⟩ := hd
  have r1 : decide ((i : Int) < (l.length : Int)) = true := decide_eq_true hi'
  have HV := Lib.hid (show IntKind.i64.wrap (1 + (if (if da < db then (db : Int) else da) < (dc : Int) then (dc : Int) else if da < db then (db : Int) else da)) = ((1 + max da (max db dc) : Nat) : Int) from by
    rw [IntWalk.i64_in _ (by split <;> split <;> omega)]
    split <;> split <;> omega)
  obtain ⟨y3, y4, y5⟩ := HS.out w0.drew (Below.refl _ _).drew
  have HY := Lib.hid (HS.out w0.drew (Below.refl _ _).drew)
  clear hl q3 q4 q5 ha hb hcc hi
  go_enter Tryz.func117, Tryz.ntmps117
  go_wp2_with fail
  go_region_held3 (fun w' => w'.cell? ⟨g, o + i * 6 + 3, none⟩ = some (.int .i64 na) ∧ w'.cell? ⟨g, o + i * 6 + 4, none⟩ = some (.int .i64 nb) ∧ w'.cell? ⟨g, o + i * 6 + 5, none⟩ = some (.int .i64 nc)) (first | with_reducible exact HY.out | exact HS.out _ HQ3.out | exact HS.out _ HQ2.out | exact HS.out _ HQ1.out) (first | (go_at_call 117; refine (HA.out _ (Below.refl _ _).drew).mono ?_; rintro e w1 ⟨rfl, hb⟩; have HQ1 := Lib.hid ((Below.refl w0.heap.size w0).drew.trans hb); clear hb HA) | (go_at_call 117; refine (HB.out _ HQ1.out).mono ?_; rintro e w2 ⟨rfl, hb⟩; have HQ2 := Lib.hid (HQ1.out.trans (hb.mono HQ1.out.size)); clear hb HB) | (go_at_call 117; refine (HC.out _ HQ2.out).mono ?_; rintro e w3 ⟨rfl, hb⟩; have HQ3 := Lib.hid (HQ2.out.trans (hb.mono HQ2.out.size)); clear hb HC))
  generalize (if (if da < db then (db : Int) else da) < (dc : Int) then (dc : Int) else if da < db then (db : Int) else da) = M at *
  go_wp2
  go_ret
  exact ⟨congrArg (fun z => Ending.returned (.int .i64 z)) HV.out, HQ3.out⟩
theorem rdepth_at (A : Option Addr) (l : List Nd) (c : Nat) (hc : l.length ≤ c) (hn : l.length ≤ 1000000) (w : World) (hl : NdR w w.heap.size A l) : ∀ (x : E) (s : Nat), At l s x → DpC A l c w ((s + Ex.sz x : Nat) - 1) (dp x) := by
  have hdp : ∀ x : E, dp x ≤ Ex.sz x := by
    intro x
    induction x with
    | num _ => exact Nat.le_refl _
    | name _ => exact Nat.le_refl _
    | tt => exact Nat.le_refl _
    | ff => exact Nat.le_refl _
    | un _ a ih => simp only [dp, Ex.sz]; omega
    | bin _ a b iha ihb => simp only [dp, Ex.sz]; omega
    | ite a b c iha ihb ihc => simp only [dp, Ex.sz]; omega
  have bd : ∀ (x : E) (s : Nat), At l s x → dp x ≤ 1000000000 := fun x s h => by have := hdp x; have := h.2; omega
  have stp : ∀ (i : Nat) (n : Nd) (da db dc d : Nat), l[i]? = some n → da ≤ 1000000000 ∧ db ≤ 1000000000 ∧ dc ≤ 1000000000 → DpC A l c w n.a da → DpC A l c w n.b db → DpC A l c w n.c dc → d = 1 + max da (max db dc) → DpC A l c w i d := by
    intro i n da db dc d hn hd ha hb hcc e
    obtain ⟨hi, rfl⟩ := List.getElem?_eq_some_iff.1 hn
    subst e
    exact rdepth_step A l c hc w hl i hi da db dc hd ha hb hcc
  have leaf : ∀ (x : E) (s : Nat) (n : Nd), At l s x → Ex.sz x = 1 → dp x = 1 → flat x s = [n] → n.a = -1 → n.b = -1 → n.c = -1 → DpC A l c w ((s + Ex.sz x : Nat) - 1) (dp x) := by
    intro x s n h hs hd hf h1 h2 h3
    have q := h.1
    rw [hs, hf] at q
    have q2 := at_one.1 q
    rw [hs, hd, show ((s + 1 : Nat) : Int) - 1 = (s : Int) by omega]
    exact stp s n 0 0 0 1 q2 (by omega) (by rw [h1]; exact rdepth_none A l c w) (by rw [h2]; exact rdepth_none A l c w) (by rw [h3]; exact rdepth_none A l c w) (by decide)
  intro x
  induction x with
  | num v => intro s h; exact leaf _ _ _ h rfl rfl rfl rfl rfl rfl
  | name v => intro s h; exact leaf _ _ _ h rfl rfl rfl rfl rfl rfl
  | tt => intro s h; exact leaf _ _ _ h rfl rfl rfl rfl rfl rfl
  | ff => intro s h; exact leaf _ _ _ h rfl rfl rfl rfl rfl rfl
  | un op a iha =>
    intro s h
    obtain ⟨ha, q⟩ := at_un h
    have b1 := bd _ _ ha
    rw [show ((s + Ex.sz (.un op a) : Nat) : Int) - 1 = ((s + Ex.sz a : Nat) : Int) by simp only [Ex.sz]; omega]
    exact stp _ _ (dp a) 0 0 _ q (by omega) (iha s ha) (rdepth_none A l c w) (rdepth_none A l c w) (by simp only [dp]; omega)
  | bin op a b iha ihb =>
    intro s h
    obtain ⟨ha, hb, q⟩ := at_bin h
    have b1 := bd _ _ ha
    have b2 := bd _ _ hb
    rw [show ((s + Ex.sz (.bin op a b) : Nat) : Int) - 1 = ((s + Ex.sz a + Ex.sz b : Nat) : Int) by simp only [Ex.sz]; omega]
    exact stp _ _ (dp a) (dp b) 0 _ q (by omega) (iha s ha) (ihb _ hb) (rdepth_none A l c w) (by simp only [dp]; omega)
  | ite a b c' iha ihb ihc =>
    intro s h
    obtain ⟨ha, hb, hcx, q⟩ := at_ite h
    have b1 := bd _ _ ha
    have b2 := bd _ _ hb
    have b3 := bd _ _ hcx
    rw [show ((s + Ex.sz (.ite a b c') : Nat) : Int) - 1 = ((s + Ex.sz a + Ex.sz b + Ex.sz c' : Nat) : Int) by simp only [Ex.sz]; omega]
    exact stp _ _ (dp a) (dp b) (dp c') _ q (by omega) (iha s ha) (ihb _ hb) (ihc _ hcx) (by simp only [dp]; omega)
set_option maxHeartbeats 2000000 in
theorem rRight_any (A : Option Addr) (c : Nat) (l : List Nd) (hc : l.length ≤ c) (hf : FitR l) (w : World) (hl : NdR w w.heap.size A l) :
    Calls Tryz.prog 85 #[.slice A l.length c] w fun e w' => e = .returned (.bool (decide (dep l ≠ 0))) ∧ Below w.heap.size w w' := by
  have HB := Lib.hid (rbegin_any A c l hc hf l.length ((l.length : Int) - 1) w hl (by omega) (by omega))
  have HD := Lib.hid (show decide (dep l ≠ 0) = decide (bg l.length l ((l.length : Int) - 1) = 0) from decide_eq_decide.2 (right_iff l).symm)
  rw [HD.out]
  clear HD
  generalize bg l.length l ((l.length : Int) - 1) = z at *
  obtain ⟨R, hR⟩ : ∃ R, R = decide (z = 0) := ⟨_, rfl⟩
  rw [← hR]
  have HR := Lib.hid hR
  clear hR
  have hn := hf.1
  have hn2 : (l.length : Int) ≤ 1000000 := by omega
  clear hl hf hc hn
  go_enter Tryz.func85, Tryz.ntmps85
  go_wp2_with fail
  refine HB.out.mono ?_
  rintro e w1 ⟨rfl, hb⟩
  by_cases hz : z = 0
  · have HE := Lib.hid (show R = true from by rw [HR.out]; exact decide_eq_true hz)
    subst hz
    go_wp2
    go_ret
    exact ⟨by rw [HE.out]; rfl, hb⟩
  · have hz' : (z == 0) = false := by simpa using hz
    have HE := Lib.hid (show R = false from by rw [HR.out]; exact decide_eq_false hz)
    clear hz
    go_wp2
    go_ret
    exact ⟨by rw [HE.out]; rfl, hb⟩
set_option maxHeartbeats 2000000 in
theorem rDepth_any (A : Option Addr) (c : Nat) (l : List Nd) (hc : l.length ≤ c) (hf : FitR l) (w : World) (hl : NdR w w.heap.size A l) :
    Calls Tryz.prog 86 #[.slice A l.length c] w fun e w' => e = .returned (.int .i64 (dep l : Nat)) ∧ Below w.heap.size w w' := by
  have HR := Lib.hid (rRight_any A c l hc hf w hl)
  have hn := hf.1
  have hn2 : (l.length : Int) ≤ 1000000 := by omega
  by_cases hd : dep l = 0
  · rw [decide_eq_false (fun h => h hd)] at HR
    rw [hd]
    clear hl hf hc hn hd
    go_enter Tryz.func86, Tryz.ntmps86
    go_wp2_with fail
    refine HR.out.mono ?_
    rintro e w1 ⟨rfl, hb⟩
    go_wp2
    go_ret
    exact ⟨rfl, hb⟩
  · rw [decide_eq_true hd] at HR
    obtain ⟨x, h1, h2, h3⟩ := dep_row hd
    have hx : At l 0 x := ⟨by rw [List.drop_zero, h2, ← flat_len x 0, List.take_length], by rw [h2, flat_len]; omega⟩
    have HD := Lib.hid (rdepth_at A l c hc hn w hl x 0 hx)
    have hls : l.length = Ex.sz x := by rw [h2, flat_len]
    rw [Nat.zero_add, ← hls, ← h3] at HD
    generalize dep l = D at *
    clear hl hf hc hn hd h1 h2 h3 hx hls
    go_enter Tryz.func86, Tryz.ntmps86
    go_wp2_with fail
    refine HR.out.mono ?_
    rintro e w1 ⟨rfl, hb⟩
    go_wp2_with fail
    refine (HD.out w1 hb).mono ?_
    rintro e w2 ⟨rfl, hb2⟩
    have hb3 := hb.trans (hb2.mono hb.size)
    go_wp2
    go_ret
    exact ⟨rfl, hb3⟩
set_option maxHeartbeats 2000000 in
theorem rCheck_any (A : Option Addr) (c : Nat) (l : List Nd) (hc : l.length ≤ c) (hf : FitR l) (w : World) (hl : NdR w w.heap.size A l) :
    Calls Tryz.prog 52 #[.slice A l.length c] w fun e w' => e = .returned (.int .i64 (chk l)) ∧ Below w.heap.size w w' := by
  have HR := Lib.hid (rRight_any A c l hc hf w hl)
  have HD := Lib.hid (fun w1 (hb : Below w.heap.size w w1) => rDepth_any A c l hc hf w1 (hl.on_ hb))
  unfold chk
  generalize dep l = D at *
  by_cases hd : D = 0
  · rw [decide_eq_false (fun h => h hd)] at HR
    rw [if_pos hd]
    clear hl hf hc hd
    go_enter Tryz.func52, Tryz.ntmps52
    go_wp2_with fail
    refine HR.out.mono ?_
    rintro e w1 ⟨rfl, hb⟩
    go_wp2
    go_ret
    exact ⟨rfl, hb⟩
  · rw [decide_eq_true hd] at HR
    rw [if_neg hd]
    clear hl hf hc hd
    by_cases h64 : 64 < D
    · have h64' : (D : Int) > 64 := by omega
      rw [if_pos h64]
      go_enter Tryz.func52, Tryz.ntmps52
      go_wp2_with fail
      refine HR.out.mono ?_
      rintro e w1 ⟨rfl, hb⟩
      go_wp2_with fail
      refine (HD.out w1 hb).mono ?_
      rintro e w2 ⟨rfl, hb2⟩
      have hb3 := hb.trans (hb2.mono hb.size)
      go_wp2
      go_ret
      exact ⟨rfl, hb3⟩
    · have h64' : ¬ (D : Int) > 64 := by omega
      rw [if_neg h64]
      go_enter Tryz.func52, Tryz.ntmps52
      go_wp2_with fail
      refine HR.out.mono ?_
      rintro e w1 ⟨rfl, hb⟩
      go_wp2_with fail
      refine (HD.out w1 hb).mono ?_
      rintro e w2 ⟨rfl, hb2⟩
      have hb3 := hb.trans (hb2.mono hb.size)
      go_wp2
      go_ret
      exact ⟨rfl, hb3⟩
end Go.Proofs.YtmmdigeciphglaaGreatDoor
namespace Go.Proofs.YtmmdigeciphglaaGreatDoor
open Go
theorem wpAnyH_more {P : Program} {md : Region.Mode} {ops : Array Oper} {Q : Exit → Act → World → Prop} {S S' : World → Prop} (hs : ∀ w, S' w → S w) :
    ∀ (fuel : Nat) (listed : Array Bool) (a : Act) (w : World), wpAnyH P md ops Q S' fuel listed a w → wpAnyH P md ops Q S fuel listed a w
  | 0, _, _, _, h => h
  | fuel + 1, _, _, _, h => ⟨h.1, fun i hi => wpOp_mono (fun a' w' h' => ⟨hs _ h'.1, wpAnyH_more hs fuel _ a' w' h'.2⟩) (h.2 i hi)⟩
end Go.Proofs.YtmmdigeciphglaaGreatDoor
namespace Go.Proofs.YtmmdigeciphglaaGreatDoor
open Go.RowKit Ex
def PrC (A : Option Addr) (l : List Nd) (c : Nat) (w : World) (p : Int) (L : Int) (t : ByteArray) : Prop := ∀ w', Below w.heap.size w w' →
    Calls Tryz.prog 78 #[.slice A l.length c, .int .i64 p, .int .i64 L] w' fun e w'' => e = .returned (.string t) ∧ Below w'.heap.size w' w''
set_option maxHeartbeats 4000000 in
set_option maxRecDepth 100000 in
theorem rprint_un (A : Option Addr) (l : List Nd) (c : Nat) (hc : l.length ≤ c) (w : World) (hl : NdR w w.heap.size A l) (i : Nat) (op : Nat) (na : Int) (hop : op = 5 ∨ op = 6) (hn : l[i]? = some ⟨op, 0, [], na, -1, -1⟩)
    (s : ByteArray) (hs : s.size ≤ 1000000000000000) (ha : PrC A l c w na 9 s) (L : Int) (SG : ByteArray) (hsg : SG = ⟨(Ex.opS op).toArray⟩) (t : ByteArray) (ht : t = (if 9 < L then (⟨#[40, 32]⟩ : ByteArray) ++ (SG ++ ⟨#[32]⟩ ++ s) ++ ⟨#[32, 41]⟩ else SG ++ ⟨#[32]⟩ ++ s)) : PrC A l c w i L t := fun w0 hb0 => by
  obtain ⟨hi, hli⟩ := List.getElem?_eq_some_iff.1 hn
  obtain ⟨g, o, rfl, hg, q0, q1, q2, q3, q4, q5⟩ := (hl.below hb0) i hi
  rw [hli] at q0 q1 q2 q3 q4 q5
  simp only at q0 q1 q2 q3 q4 q5
  have q2 : w0.cell? ⟨g, o + i * 6 + 2, none⟩ = some (.string ⟨#[]⟩) := q2
  have hSs : SG.size ≤ 1000 := by subst hsg; rcases hop with rfl | rfl <;> decide
  have hlv : rlv op = 9 := by rcases hop with rfl | rfl <;> rfl
  have hpt : Ex.parts op = 1 := by rcases hop with rfl | rfl <;> rfl
  have ho : (op : Int) < 22 := by rcases hop with rfl | rfl <;> decide
  have HLV := Lib.hid (fun w1 => rlevel_any op (by omega) w1)
  have HPT := Lib.hid (fun w1 => rparts_any op w1)
  rw [hlv] at HLV
  rw [hpt] at HPT
  obtain ⟨W1, hW1⟩ : ∃ W1, W1 = w0.alloc (.cells #[.int .u8 op, .int .i64 0, .string ⟨#[]⟩, .int .i64 na, .int .i64 (-1), .int .i64 (-1)] 104) := ⟨_, rfl⟩
  have hb1 : Below w0.heap.size w0 W1 := by rw [hW1]; exact (Below.refl _ _).alloc (Nat.le_refl _) _
  have hk1 : IsBlk W1 w0.heap.size 104 #[.int .u8 op, .int .i64 0, .string ⟨#[]⟩, .int .i64 na, .int .i64 (-1), .int .i64 (-1)] := by rw [hW1]; exact IsBlk.new _ _ _
  have y0 : W1.cell? ⟨w0.heap.size, 0, none⟩ = some (.int .u8 op) := hk1.at_ 0
  have HW1 := Lib.hid hW1
  have HB1 := Lib.hid hb1
  have HK1 := Lib.hid hk1
  have HT := Lib.hid ht
  have HA := Lib.hid (fun w1 (h1 : Below w0.heap.size w0 w1) => ha w1 (hb0.trans (h1.mono hb0.size)))
  have HSI := Lib.hid (fun w1 => (rsigns_any w1).mono (fun e w' (h : ∃ g, e = .returned (.slice (some ⟨g, 0, none⟩) 22 22) ∧ g < w'.heap.size ∧ (∀ o : Nat, o ≤ 21 → w'.cell? ⟨g, o, none⟩ = some (.string ⟨(Ex.opS o).toArray⟩)) ∧ Below w1.heap.size w1 w') => (show ∃ g, e = .returned (.slice (some ⟨g, 0, none⟩) 22 22) ∧ g < w'.heap.size ∧ w'.cell? ⟨g, op, none⟩ = some (.string SG) ∧ Below w1.heap.size w1 w' from by
    obtain ⟨g, h1, h2, h3, h4⟩ := h
    exact ⟨g, h1, h2, by rw [hsg]; exact h3 op (by omega), h4⟩)))
  have hi' : (i : Int) < (l.length : Int) := by omega
  have hc' : (l.length : Int) ≤ (c : Int) := by omega
  clear hl hc hi hli ha hb0 hW1 hb1 hk1 hn hop hlv hpt hsg ht
  go_enter Tryz.func78, Tryz.ntmps78
  go_wp2_with fail
  rw [← HW1.out]
  refine (HLV.out W1).mono ?_
  rintro e w2 ⟨rfl, hb2⟩
  have HB2 := Lib.hid (HB1.out.trans (hb2.mono HB1.out.size))
  have HK2 := Lib.hid (HK1.out.below hb2 HK1.out.lt)
  have y0 : w2.cell? ⟨w0.heap.size, 0, none⟩ = some (.int .u8 op) := HK2.out.at_ 0
  have y3 : w2.cell? ⟨w0.heap.size, 3, none⟩ = some (.int .i64 na) := HK2.out.at_ 3
  clear hb2
  go_wp2_with fail
  refine (HPT.out w2).mono ?_
  rintro e w3 ⟨rfl, rfl⟩
  have HS0 := Lib.hid (fun w1 (h1 : Below w2.heap.size w2 w1) => (HK2.out.below h1 HK2.out.lt).at_ 0)
  have v1 : SG.size + 1 ≤ 9223372036854775807 := by omega
  have v2 : (SG.size : Int) + 1 ≤ 9223372036854775807 := by omega
  have v3 : ¬ (9223372036854775807 : Int) < (SG.size : Int) + 1 := by omega
  have v4 : (SG ++ ⟨#[32]⟩).size + s.size ≤ 9223372036854775807 := by rw [ByteArray.size_append]; simp only [show (⟨#[32]⟩ : ByteArray).size = 1 from rfl]; omega
  have v5 : ((SG ++ ⟨#[32]⟩).size : Int) + (s.size : Int) ≤ 9223372036854775807 := by omega
  have v6 : ¬ (9223372036854775807 : Int) < ((SG ++ ⟨#[32]⟩).size : Int) + (s.size : Int) := by omega
  have v7 : SG.size + 1 + s.size ≤ 9223372036854775807 := by omega
  have v8 : (SG.size : Int) + 1 + (s.size : Int) ≤ 9223372036854775807 := by omega
  have v9 : ¬ (9223372036854775807 : Int) < (SG.size : Int) + 1 + (s.size : Int) := by omega
  have HXX := Lib.hid (show (SG ++ ⟨#[32]⟩ ++ s).size ≤ 2000000000000000 from by rw [ByteArray.size_append, ByteArray.size_append]; simp only [show (⟨#[32]⟩ : ByteArray).size = 1 from rfl]; omega)
  clear q0 q1 q2 q3 q4 q5 hi' hc'
  go_upto_region 16 with fail
  refine wp_region_held_drew (S := fun w' => w'.cell? ⟨w0.heap.size, 0, none⟩ = some (.int .u8 op) ∧ w'.cell? ⟨w0.heap.size, 3, none⟩ = some (.int .i64 na)) (by kernel_rfl) ⟨y0, y3⟩ (fun hHeld => ?_)
  refine wpAnyH_take (i := 1) (v := .pointer (some ⟨w0.heap.size, 0, none⟩)) rfl (by kernel_rfl) (by kernel_rfl) (by kernel_rfl) (fun _ _ _ h => h) (Or.inl ⟨by rfl, by (intro w hS; go_simp)⟩) hHeld ?_
  try simp only [Act.put, List.getElem_toArray, List.getElem_cons_succ, List.getElem_cons_zero, List.setIfInBounds_toArray, List.set_cons_zero, List.set_cons_succ]
  refine wpAnyH_take (i := 2) (v := .int .u8 op) rfl (by kernel_rfl) (by kernel_rfl) (by kernel_rfl) (fun _ _ _ h => h) (Or.inl ⟨by rfl, by (intro w hS; go_simp)⟩) hHeld ?_
  try simp only [Act.put, List.getElem_toArray, List.getElem_cons_succ, List.getElem_cons_zero, List.setIfInBounds_toArray, List.set_cons_zero, List.set_cons_succ]
  refine wpAnyH_take (i := 6) (v := .slice (some ⟨g, o, none⟩) l.length c) rfl (by kernel_rfl) (by kernel_rfl) (by kernel_rfl) (fun _ _ _ h => h) (Or.inl ⟨by rfl, by (intro w hS; go_simp)⟩) hHeld ?_
  try simp only [Act.put, List.getElem_toArray, List.getElem_cons_succ, List.getElem_cons_zero, List.setIfInBounds_toArray, List.set_cons_zero, List.set_cons_succ]
  refine wpAnyH_take (i := 7) (v := .pointer (some ⟨w0.heap.size, 3, none⟩)) rfl (by kernel_rfl) (by kernel_rfl) (by kernel_rfl) (fun _ _ _ h => h) (Or.inl ⟨by rfl, by (intro w hS; go_simp)⟩) hHeld ?_
  try simp only [Act.put, List.getElem_toArray, List.getElem_cons_succ, List.getElem_cons_zero, List.setIfInBounds_toArray, List.set_cons_zero, List.set_cons_succ]
  refine wpAnyH_take (i := 8) (v := .int .i64 na) rfl (by kernel_rfl) (by kernel_rfl) (by kernel_rfl) (fun _ _ _ h => h) (Or.inl ⟨by rfl, by (intro w hS; go_simp)⟩) hHeld ?_
  try simp only [Act.put, List.getElem_toArray, List.getElem_cons_succ, List.getElem_cons_zero, List.setIfInBounds_toArray, List.set_cons_zero, List.set_cons_succ]
  refine wpAnyH_take (i := 9) (v := .int .i64 9) rfl (by kernel_rfl) (by kernel_rfl) (by kernel_rfl) (fun _ _ _ h => h) (Or.inl ⟨by rfl, by (intro w hS; go_simp)⟩) hHeld ?_
  try simp only [Act.put, List.getElem_toArray, List.getElem_cons_succ, List.getElem_cons_zero, List.setIfInBounds_toArray, List.set_cons_zero, List.set_cons_succ]
  refine wpAnyH_ready (rs := [0]) (by kernel_rfl) (by simp) ?_
  refine AllReadyH.cons rfl (fun K hK => ?_) AllReadyH.nil
  go_simp
  refine (HSI.out _).mono ?_
  rintro e w4 ⟨gs, rfl, hgs, hcs, hb4⟩
  have HB4 := Lib.hid ((Below.refl w2.heap.size w2).drew.trans hb4)
  have hk4 := HK2.out.below HB4.out HK2.out.lt
  refine hK.out _ _ ⟨hk4.at_ 0, hk4.at_ 3⟩ (fun hHeld => ?_)
  clear hK K hb4
  try simp only [Act.put, List.getElem_toArray, List.getElem_cons_succ, List.getElem_cons_zero, List.setIfInBounds_toArray, List.set_cons_zero, List.set_cons_succ]
  refine wpAnyH_more (S' := fun w' => (w'.cell? ⟨w0.heap.size, 0, none⟩ = some (.int .u8 op) ∧ w'.cell? ⟨w0.heap.size, 3, none⟩ = some (.int .i64 na)) ∧ w'.cell? ⟨gs, op, none⟩ = some (.string SG)) (fun _ h => h.1) _ _ _ _ ?_
  replace hHeld := And.intro hHeld hcs
  refine wpAnyH_take (i := 3) (v := .pointer (some ⟨gs, op, none⟩)) rfl (by kernel_rfl) (by kernel_rfl) (by kernel_rfl) (fun _ _ _ h => h) (Or.inl ⟨by rfl, by (intro w hS; go_simp)⟩) hHeld ?_
  try simp only [Act.put, List.getElem_toArray, List.getElem_cons_succ, List.getElem_cons_zero, List.setIfInBounds_toArray, List.set_cons_zero, List.set_cons_succ]
  refine wpAnyH_take (i := 4) (v := .string SG) rfl (by kernel_rfl) (by kernel_rfl) (by kernel_rfl) (fun _ _ _ h => h) (Or.inl ⟨by rfl, by (intro w hS; go_simp)⟩) hHeld ?_
  try simp only [Act.put, List.getElem_toArray, List.getElem_cons_succ, List.getElem_cons_zero, List.setIfInBounds_toArray, List.set_cons_zero, List.set_cons_succ]
  refine wpAnyH_take (i := 5) (v := .string (SG ++ ⟨#[32]⟩)) rfl (by kernel_rfl) (by kernel_rfl) (by kernel_rfl) (fun _ _ _ h => h) (Or.inl ⟨by rfl, by (intro w hS; go_simp)⟩) hHeld ?_
  try simp only [Act.put, List.getElem_toArray, List.getElem_cons_succ, List.getElem_cons_zero, List.setIfInBounds_toArray, List.set_cons_zero, List.set_cons_succ]
  refine wpAnyH_ready (rs := [10]) (by kernel_rfl) (by simp) ?_
  refine AllReadyH.cons rfl (fun K hK => ?_) AllReadyH.nil
  go_simp
  refine (HA.out _ (HB2.out.trans (HB4.out.mono HB2.out.size))).mono ?_
  rintro e w5 ⟨rfl, hb5⟩
  have HB5 := Lib.hid (HB4.out.trans (hb5.mono HB4.out.size))
  refine hK.out _ _ ⟨⟨(HK2.out.below HB5.out HK2.out.lt).at_ 0, (HK2.out.below HB5.out HK2.out.lt).at_ 3⟩, (hb5.cell (p := ⟨gs, op, none⟩) hgs).trans hcs⟩ (fun hHeld => ?_)
  clear hK K hb5
  try simp only [Act.put, List.getElem_toArray, List.getElem_cons_succ, List.getElem_cons_zero, List.setIfInBounds_toArray, List.set_cons_zero, List.set_cons_succ]
  refine wpAnyH_take (i := 11) (v := .string (SG ++ ⟨#[32]⟩ ++ s)) rfl (by kernel_rfl) (by kernel_rfl) (by kernel_rfl) (fun _ _ _ h => h) (Or.inl ⟨by rfl, by (intro w hS; go_simp)⟩) hHeld ?_
  try simp only [Act.put, List.getElem_toArray, List.getElem_cons_succ, List.getElem_cons_zero, List.setIfInBounds_toArray, List.set_cons_zero, List.set_cons_succ]
  refine wpAnyH_take (i := 12) (v := .string (SG ++ ⟨#[32]⟩ ++ s)) rfl (by kernel_rfl) (by kernel_rfl) (by kernel_rfl) (fun _ _ _ h => h) (Or.inl ⟨by rfl, by (intro w hS; go_simp)⟩) hHeld ?_
  try simp only [Act.put, List.getElem_toArray, List.getElem_cons_succ, List.getElem_cons_zero, List.setIfInBounds_toArray, List.set_cons_zero, List.set_cons_succ]
  refine wpAnyH_done (by kernel_rfl) ?_ _
  have HXS := Lib.hid (HXX.out)
  generalize HG : SG ++ ⟨#[32]⟩ ++ s = X at *
  clear HG
  have x0 := HXS.out
  have x1 : 2 + X.size ≤ 9223372036854775807 := by omega
  have x2 : (2 : Int) + (X.size : Int) ≤ 9223372036854775807 := by omega
  have x3 : ¬ (9223372036854775807 : Int) < (2 : Int) + (X.size : Int) := by omega
  have x4 : 2 + X.size + 2 ≤ 9223372036854775807 := by omega
  have x5 : (2 : Int) + (X.size : Int) + 2 ≤ 9223372036854775807 := by omega
  have x6 : ¬ (9223372036854775807 : Int) < (2 : Int) + (X.size : Int) + 2 := by omega
  have x7 : ((⟨#[40, 32]⟩ : ByteArray) ++ X).size + 2 ≤ 9223372036854775807 := by rw [ByteArray.size_append]; simp only [show (⟨#[40, 32]⟩ : ByteArray).size = 2 from rfl]; omega
  have x8 : (((⟨#[40, 32]⟩ : ByteArray) ++ X).size : Int) + 2 ≤ 9223372036854775807 := by omega
  by_cases hL : 9 < L
  · have HE := Lib.hid (show t = _ from by rw [HT.out, if_pos hL])
    go_wp2_with fail
    go_ret
    exact ⟨by rw [HE.out]; rfl, HB2.out.trans (HB5.out.mono HB2.out.size)⟩
  · have HE := Lib.hid (show t = _ from by rw [HT.out, if_neg hL])
    go_wp2_with fail
    go_ret
    exact ⟨by rw [HE.out]; rfl, HB2.out.trans (HB5.out.mono HB2.out.size)⟩
set_option maxHeartbeats 4000000 in
set_option maxRecDepth 100000 in
theorem rprint_bin (A : Option Addr) (l : List Nd) (c : Nat) (hc : l.length ≤ c) (w : World) (hl : NdR w w.heap.size A l) (i : Nat) (op : Nat) (na nb : Int) (hop : 7 ≤ op ∧ op ≤ 21) (hn : l[i]? = some ⟨op, 0, [], na, nb, -1⟩)
    (sa sb : ByteArray) (hs : sa.size ≤ 1000000000000000) (hs2 : sb.size ≤ 1000000000000000) (lv : Int) (hlv : rlv op = lv) (ha : PrC A l c w na lv sa) (hb : PrC A l c w nb (lv + 1) sb) (L : Int) (SG : ByteArray) (hsg : SG = ⟨(Ex.opS op).toArray⟩) (t : ByteArray) (ht : t = (if lv < L then (⟨#[40, 32]⟩ : ByteArray) ++ (sa ++ ⟨#[32]⟩ ++ SG ++ ⟨#[32]⟩ ++ sb) ++ ⟨#[32, 41]⟩ else sa ++ ⟨#[32]⟩ ++ SG ++ ⟨#[32]⟩ ++ sb)) : PrC A l c w i L t := fun w0 hb0 => by
  obtain ⟨hi, hli⟩ := List.getElem?_eq_some_iff.1 hn
  obtain ⟨g, o, rfl, hg, q0, q1, q2, q3, q4, q5⟩ := (hl.below hb0) i hi
  rw [hli] at q0 q1 q2 q3 q4 q5
  simp only at q0 q1 q2 q3 q4 q5
  have q2 : w0.cell? ⟨g, o + i * 6 + 2, none⟩ = some (.string ⟨#[]⟩) := q2
  obtain ⟨hop1, hop2⟩ := hop
  have hSs : SG.size ≤ 1000 := by
    have : ∀ o : Fin 22, (⟨(Ex.opS o.val).toArray⟩ : ByteArray).size ≤ 1000 := by decide
    rw [hsg]; exact this ⟨op, by omega⟩
  have hlb : 0 ≤ lv ∧ lv ≤ 10 := by
    have : ∀ o : Fin 22, 0 ≤ rlv o.val ∧ rlv o.val ≤ 10 := by decide
    rw [← hlv]; exact this ⟨op, by omega⟩
  obtain ⟨hlb1, hlb2⟩ := hlb
  have hpt : Ex.parts op = 2 := by unfold Ex.parts; rw [if_neg (by omega), if_neg (by omega), if_pos (by omega)]
  have ho : (op : Int) < 22 := by omega
  have hw1 : IntKind.i64.wrap (lv + 1) = lv + 1 := IntWalk.i64_in _ (by omega)
  have HLV := Lib.hid (fun w1 => rlevel_any op (by omega) w1)
  have HPT := Lib.hid (fun w1 => rparts_any op w1)
  rw [hlv] at HLV
  rw [hpt] at HPT
  obtain ⟨W1, hW1⟩ : ∃ W1, W1 = w0.alloc (.cells #[.int .u8 op, .int .i64 0, .string ⟨#[]⟩, .int .i64 na, .int .i64 nb, .int .i64 (-1)] 104) := ⟨_, rfl⟩
  have hb1 : Below w0.heap.size w0 W1 := by rw [hW1]; exact (Below.refl _ _).alloc (Nat.le_refl _) _
  have hk1 : IsBlk W1 w0.heap.size 104 #[.int .u8 op, .int .i64 0, .string ⟨#[]⟩, .int .i64 na, .int .i64 nb, .int .i64 (-1)] := by rw [hW1]; exact IsBlk.new _ _ _
  have y0 : W1.cell? ⟨w0.heap.size, 0, none⟩ = some (.int .u8 op) := hk1.at_ 0
  have HW1 := Lib.hid hW1
  have HB1 := Lib.hid hb1
  have HK1 := Lib.hid hk1
  have HT := Lib.hid ht
  obtain ⟨P1, hP1⟩ : ∃ P1, sa ++ (⟨#[32]⟩ : ByteArray) = P1 := ⟨_, rfl⟩
  have mP1 : P1.size ≤ 2000000000000000 := by rw [← hP1, ByteArray.size_append]; simp only [show ((⟨#[32]⟩ : ByteArray) : ByteArray).size = 1 from rfl]; omega
  have v0a : sa.size + 1 ≤ 9223372036854775807 := by omega
  have v0b : (sa.size : Int) + 1 ≤ 9223372036854775807 := by omega
  have v0c : ¬ (9223372036854775807 : Int) < (sa.size : Int) + 1 := by omega
  obtain ⟨P2, hP2⟩ : ∃ P2, P1 ++ SG = P2 := ⟨_, rfl⟩
  have mP2 : P2.size ≤ 3000000000000000 := by rw [← hP2, ByteArray.size_append]; omega
  have v1a : P1.size + SG.size ≤ 9223372036854775807 := by omega
  have v1b : (P1.size : Int) + (SG.size : Int) ≤ 9223372036854775807 := by omega
  have v1c : ¬ (9223372036854775807 : Int) < (P1.size : Int) + (SG.size : Int) := by omega
  obtain ⟨P3, hP3⟩ : ∃ P3, P2 ++ (⟨#[32]⟩ : ByteArray) = P3 := ⟨_, rfl⟩
  have mP3 : P3.size ≤ 4000000000000000 := by rw [← hP3, ByteArray.size_append]; simp only [show ((⟨#[32]⟩ : ByteArray) : ByteArray).size = 1 from rfl]; omega
  have v2a : P2.size + 1 ≤ 9223372036854775807 := by omega
  have v2b : (P2.size : Int) + 1 ≤ 9223372036854775807 := by omega
  have v2c : ¬ (9223372036854775807 : Int) < (P2.size : Int) + 1 := by omega
  obtain ⟨X, hX⟩ : ∃ X, P3 ++ sb = X := ⟨_, rfl⟩
  have mX : X.size ≤ 5000000000000000 := by rw [← hX, ByteArray.size_append]; omega
  have v3a : P3.size + sb.size ≤ 9223372036854775807 := by omega
  have v3b : (P3.size : Int) + (sb.size : Int) ≤ 9223372036854775807 := by omega
  have v3c : ¬ (9223372036854775807 : Int) < (P3.size : Int) + (sb.size : Int) := by omega
  rw [hP1, hP2, hP3, hX] at HT
  have HA := Lib.hid (fun w1 (h1 : Below w0.heap.size w0 w1) => ha w1 (hb0.trans (h1.mono hb0.size)))
  have HC := Lib.hid (fun w1 (h1 : Below w0.heap.size w0 w1) => hb w1 (hb0.trans (h1.mono hb0.size)))
  have HSI := Lib.hid (fun w1 => (rsigns_any w1).mono (fun e w' (h : ∃ g, e = .returned (.slice (some ⟨g, 0, none⟩) 22 22) ∧ g < w'.heap.size ∧ (∀ o : Nat, o ≤ 21 → w'.cell? ⟨g, o, none⟩ = some (.string ⟨(Ex.opS o).toArray⟩)) ∧ Below w1.heap.size w1 w') => (show ∃ g, e = .returned (.slice (some ⟨g, 0, none⟩) 22 22) ∧ g < w'.heap.size ∧ w'.cell? ⟨g, op, none⟩ = some (.string SG) ∧ Below w1.heap.size w1 w' from by
    obtain ⟨g, h1, h2, h3, h4⟩ := h
    exact ⟨g, h1, h2, by rw [hsg]; exact h3 op (by omega), h4⟩)))
  have hi' : (i : Int) < (l.length : Int) := by omega
  have hc' : (l.length : Int) ≤ (c : Int) := by omega
  clear hl hc hi hli hb0 hW1 hb1 hk1 hn ha hb hlv hpt hsg ht hop1
  go_enter Tryz.func78, Tryz.ntmps78
  go_wp2_with fail
  rw [← HW1.out]
  refine (HLV.out W1).mono ?_
  rintro e w2 ⟨rfl, hb2⟩
  have HB2 := Lib.hid (HB1.out.trans (hb2.mono HB1.out.size))
  have HK2 := Lib.hid (HK1.out.below hb2 HK1.out.lt)
  have y0 : w2.cell? ⟨w0.heap.size, 0, none⟩ = some (.int .u8 op) := HK2.out.at_ 0
  have y3 : w2.cell? ⟨w0.heap.size, 3, none⟩ = some (.int .i64 na) := HK2.out.at_ 3
  have y4 : w2.cell? ⟨w0.heap.size, 4, none⟩ = some (.int .i64 nb) := HK2.out.at_ 4
  clear hb2
  go_wp2_with fail
  refine (HPT.out w2).mono ?_
  rintro e w3 ⟨rfl, rfl⟩
  clear q0 q1 q2 q3 q4 q5 hi' hc'
  go_upto_region 18 with fail
  refine wp_region_held_drew (S := fun w' => w'.cell? ⟨w0.heap.size, 0, none⟩ = some (.int .u8 op) ∧ w'.cell? ⟨w0.heap.size, 3, none⟩ = some (.int .i64 na) ∧ w'.cell? ⟨w0.heap.size, 4, none⟩ = some (.int .i64 nb)) (by kernel_rfl) ⟨y0, y3, y4⟩ (fun hHeld => ?_)
  refine wpAnyH_take (i := 0) (v := .slice (some ⟨g, o, none⟩) l.length c) rfl (by kernel_rfl) (by kernel_rfl) (by kernel_rfl) (fun _ _ _ h => h) (Or.inl ⟨by rfl, by (intro w hS; go_simp)⟩) hHeld ?_
  try simp only [Act.put, List.getElem_toArray, List.getElem_cons_zero, List.setIfInBounds_toArray, List.set_cons_zero, List.set_cons_succ]
  refine wpAnyH_take (i := 1) (v := .pointer (some ⟨w0.heap.size, 3, none⟩)) rfl (by kernel_rfl) (by kernel_rfl) (by kernel_rfl) (fun _ _ _ h => h) (Or.inl ⟨by rfl, by (intro w hS; go_simp)⟩) hHeld ?_
  try simp only [Act.put, List.getElem_toArray, List.getElem_cons_succ, List.getElem_cons_zero, List.setIfInBounds_toArray, List.set_cons_zero, List.set_cons_succ]
  refine wpAnyH_take (i := 2) (v := .int .i64 na) rfl (by kernel_rfl) (by kernel_rfl) (by kernel_rfl) (fun _ _ _ h => h) (Or.inl ⟨by rfl, by (intro w hS; go_simp)⟩) hHeld ?_
  try simp only [Act.put, List.getElem_toArray, List.getElem_cons_succ, List.getElem_cons_zero, List.setIfInBounds_toArray, List.set_cons_zero, List.set_cons_succ]
  refine wpAnyH_take (i := 3) (v := .int .i64 lv) rfl (by kernel_rfl) (by kernel_rfl) (by kernel_rfl) (fun _ _ _ h => h) (Or.inl ⟨by rfl, by (intro w hS; go_simp)⟩) hHeld ?_
  try simp only [Act.put, List.getElem_toArray, List.getElem_cons_succ, List.getElem_cons_zero, List.setIfInBounds_toArray, List.set_cons_zero, List.set_cons_succ]
  refine wpAnyH_take (i := 7) (v := .pointer (some ⟨w0.heap.size, 0, none⟩)) rfl (by kernel_rfl) (by kernel_rfl) (by kernel_rfl) (fun _ _ _ h => h) (Or.inl ⟨by rfl, by (intro w hS; go_simp)⟩) hHeld ?_
  try simp only [Act.put, List.getElem_toArray, List.getElem_cons_succ, List.getElem_cons_zero, List.setIfInBounds_toArray, List.set_cons_zero, List.set_cons_succ]
  refine wpAnyH_take (i := 8) (v := .int .u8 op) rfl (by kernel_rfl) (by kernel_rfl) (by kernel_rfl) (fun _ _ _ h => h) (Or.inl ⟨by rfl, by (intro w hS; go_simp)⟩) hHeld ?_
  try simp only [Act.put, List.getElem_toArray, List.getElem_cons_succ, List.getElem_cons_zero, List.setIfInBounds_toArray, List.set_cons_zero, List.set_cons_succ]
  refine wpAnyH_take (i := 13) (v := .slice (some ⟨g, o, none⟩) l.length c) rfl (by kernel_rfl) (by kernel_rfl) (by kernel_rfl) (fun _ _ _ h => h) (Or.inl ⟨by rfl, by (intro w hS; go_simp)⟩) hHeld ?_
  try simp only [Act.put, List.getElem_toArray, List.getElem_cons_succ, List.getElem_cons_zero, List.setIfInBounds_toArray, List.set_cons_zero, List.set_cons_succ]
  refine wpAnyH_take (i := 14) (v := .pointer (some ⟨w0.heap.size, 4, none⟩)) rfl (by kernel_rfl) (by kernel_rfl) (by kernel_rfl) (fun _ _ _ h => h) (Or.inl ⟨by rfl, by (intro w hS; go_simp)⟩) hHeld ?_
  try simp only [Act.put, List.getElem_toArray, List.getElem_cons_succ, List.getElem_cons_zero, List.setIfInBounds_toArray, List.set_cons_zero, List.set_cons_succ]
  refine wpAnyH_take (i := 15) (v := .int .i64 nb) rfl (by kernel_rfl) (by kernel_rfl) (by kernel_rfl) (fun _ _ _ h => h) (Or.inl ⟨by rfl, by (intro w hS; go_simp)⟩) hHeld ?_
  try simp only [Act.put, List.getElem_toArray, List.getElem_cons_succ, List.getElem_cons_zero, List.setIfInBounds_toArray, List.set_cons_zero, List.set_cons_succ]
  refine wpAnyH_take (i := 16) (v := .int .i64 lv) rfl (by kernel_rfl) (by kernel_rfl) (by kernel_rfl) (fun _ _ _ h => h) (Or.inl ⟨by rfl, by (intro w hS; go_simp)⟩) hHeld ?_
  try simp only [Act.put, List.getElem_toArray, List.getElem_cons_succ, List.getElem_cons_zero, List.setIfInBounds_toArray, List.set_cons_zero, List.set_cons_succ]
  refine wpAnyH_take (i := 17) (v := .int .i64 (lv + 1)) rfl (by kernel_rfl) (by kernel_rfl) (by kernel_rfl) (fun _ _ _ h => h) (Or.inl ⟨by rfl, by (intro w hS; go_simp)⟩) hHeld ?_
  try simp only [Act.put, List.getElem_toArray, List.getElem_cons_succ, List.getElem_cons_zero, List.setIfInBounds_toArray, List.set_cons_zero, List.set_cons_succ]
  refine wpAnyH_ready (rs := [4]) (by kernel_rfl) (by simp) ?_
  refine AllReadyH.cons rfl (fun K hK => ?_) AllReadyH.nil
  go_simp
  refine (HA.out _ (HB2.out.trans ((Below.refl w2.heap.size w2).drew.mono HB2.out.size))).mono ?_
  rintro e w4 ⟨rfl, hb4⟩
  have HB4 := Lib.hid ((Below.refl w2.heap.size w2).drew.trans hb4)
  refine hK.out _ _ ⟨(HK2.out.below HB4.out HK2.out.lt).at_ 0, (HK2.out.below HB4.out HK2.out.lt).at_ 3, (HK2.out.below HB4.out HK2.out.lt).at_ 4⟩ (fun hHeld => ?_)
  clear hK K hb4
  try simp only [Act.put, List.getElem_toArray, List.getElem_cons_succ, List.getElem_cons_zero, List.setIfInBounds_toArray, List.set_cons_zero, List.set_cons_succ]
  refine wpAnyH_take (i := 5) (v := .string P1) rfl (by kernel_rfl) (by kernel_rfl) (by kernel_rfl) (fun _ _ _ h => h) (Or.inl ⟨by rfl, by (intro w hS; go_simp)⟩) hHeld ?_
  try simp only [Act.put, List.getElem_toArray, List.getElem_cons_succ, List.getElem_cons_zero, List.setIfInBounds_toArray, List.set_cons_zero, List.set_cons_succ]
  refine wpAnyH_ready (rs := [6]) (by kernel_rfl) (by simp) ?_
  refine AllReadyH.cons rfl (fun K hK => ?_) AllReadyH.nil
  go_simp
  refine (HSI.out _).mono ?_
  rintro e w5 ⟨gs, rfl, hgs, hcs, hb5⟩
  have HB5 := Lib.hid (HB4.out.trans (hb5.mono HB4.out.size))
  refine hK.out _ _ ⟨(HK2.out.below HB5.out HK2.out.lt).at_ 0, (HK2.out.below HB5.out HK2.out.lt).at_ 3, (HK2.out.below HB5.out HK2.out.lt).at_ 4⟩ (fun hHeld => ?_)
  clear hK K hb5
  try simp only [Act.put, List.getElem_toArray, List.getElem_cons_succ, List.getElem_cons_zero, List.setIfInBounds_toArray, List.set_cons_zero, List.set_cons_succ]
  refine wpAnyH_more (S' := fun w' => (w'.cell? ⟨w0.heap.size, 0, none⟩ = some (.int .u8 op) ∧ w'.cell? ⟨w0.heap.size, 3, none⟩ = some (.int .i64 na) ∧ w'.cell? ⟨w0.heap.size, 4, none⟩ = some (.int .i64 nb)) ∧ w'.cell? ⟨gs, op, none⟩ = some (.string SG)) (fun _ h => h.1) _ _ _ _ ?_
  replace hHeld := And.intro hHeld hcs
  refine wpAnyH_take (i := 9) (v := .pointer (some ⟨gs, op, none⟩)) rfl (by kernel_rfl) (by kernel_rfl) (by kernel_rfl) (fun _ _ _ h => h) (Or.inl ⟨by rfl, by (intro w hS; go_simp)⟩) hHeld ?_
  try simp only [Act.put, List.getElem_toArray, List.getElem_cons_succ, List.getElem_cons_zero, List.setIfInBounds_toArray, List.set_cons_zero, List.set_cons_succ]
  refine wpAnyH_take (i := 10) (v := .string SG) rfl (by kernel_rfl) (by kernel_rfl) (by kernel_rfl) (fun _ _ _ h => h) (Or.inl ⟨by rfl, by (intro w hS; go_simp)⟩) hHeld ?_
  try simp only [Act.put, List.getElem_toArray, List.getElem_cons_succ, List.getElem_cons_zero, List.setIfInBounds_toArray, List.set_cons_zero, List.set_cons_succ]
  refine wpAnyH_take (i := 11) (v := .string P2) rfl (by kernel_rfl) (by kernel_rfl) (by kernel_rfl) (fun _ _ _ h => h) (Or.inl ⟨by rfl, by (intro w hS; go_simp)⟩) hHeld ?_
  try simp only [Act.put, List.getElem_toArray, List.getElem_cons_succ, List.getElem_cons_zero, List.setIfInBounds_toArray, List.set_cons_zero, List.set_cons_succ]
  refine wpAnyH_take (i := 12) (v := .string P3) rfl (by kernel_rfl) (by kernel_rfl) (by kernel_rfl) (fun _ _ _ h => h) (Or.inl ⟨by rfl, by (intro w hS; go_simp)⟩) hHeld ?_
  try simp only [Act.put, List.getElem_toArray, List.getElem_cons_succ, List.getElem_cons_zero, List.setIfInBounds_toArray, List.set_cons_zero, List.set_cons_succ]
  refine wpAnyH_ready (rs := [18]) (by kernel_rfl) (by simp) ?_
  refine AllReadyH.cons rfl (fun K hK => ?_) AllReadyH.nil
  go_simp
  refine (HC.out _ (HB2.out.trans (HB5.out.mono HB2.out.size))).mono ?_
  rintro e w6 ⟨rfl, hb6⟩
  have HB6 := Lib.hid (HB5.out.trans (hb6.mono HB5.out.size))
  replace hcs := (hb6.cell (p := ⟨gs, op, none⟩) hgs).trans hcs
  replace hgs := Nat.lt_of_lt_of_le hgs hb6.size
  refine hK.out _ _ ⟨⟨(HK2.out.below HB6.out HK2.out.lt).at_ 0, (HK2.out.below HB6.out HK2.out.lt).at_ 3, (HK2.out.below HB6.out HK2.out.lt).at_ 4⟩, hcs⟩ (fun hHeld => ?_)
  clear hK K hb6
  try simp only [Act.put, List.getElem_toArray, List.getElem_cons_succ, List.getElem_cons_zero, List.setIfInBounds_toArray, List.set_cons_zero, List.set_cons_succ]
  refine wpAnyH_take (i := 19) (v := .string X) rfl (by kernel_rfl) (by kernel_rfl) (by kernel_rfl) (fun _ _ _ h => h) (Or.inl ⟨by rfl, by (intro w hS; go_simp)⟩) hHeld ?_
  try simp only [Act.put, List.getElem_toArray, List.getElem_cons_succ, List.getElem_cons_zero, List.setIfInBounds_toArray, List.set_cons_zero, List.set_cons_succ]
  refine wpAnyH_take (i := 20) (v := .string X) rfl (by kernel_rfl) (by kernel_rfl) (by kernel_rfl) (fun _ _ _ h => h) (Or.inl ⟨by rfl, by (intro w hS; go_simp)⟩) hHeld ?_
  try simp only [Act.put, List.getElem_toArray, List.getElem_cons_succ, List.getElem_cons_zero, List.setIfInBounds_toArray, List.set_cons_zero, List.set_cons_succ]
  refine wpAnyH_done (by kernel_rfl) ?_ _
  clear HA HC HSI hP1 hP2 hP3 hX
  have x1 : 2 + X.size ≤ 9223372036854775807 := by omega
  have x2 : (2 : Int) + (X.size : Int) ≤ 9223372036854775807 := by omega
  have x3 : ¬ (9223372036854775807 : Int) < (2 : Int) + (X.size : Int) := by omega
  have x4 : 2 + X.size + 2 ≤ 9223372036854775807 := by omega
  have x5 : (2 : Int) + (X.size : Int) + 2 ≤ 9223372036854775807 := by omega
  have x6 : ¬ (9223372036854775807 : Int) < (2 : Int) + (X.size : Int) + 2 := by omega
  by_cases hL : lv < L
  · have HE := Lib.hid (show t = _ from by rw [HT.out, if_pos hL])
    go_wp2_with fail
    go_ret
    exact ⟨by rw [HE.out]; rfl, HB2.out.trans (HB6.out.mono HB2.out.size)⟩
  · have HE := Lib.hid (show t = _ from by rw [HT.out, if_neg hL])
    go_wp2_with fail
    go_ret
    exact ⟨by rw [HE.out]; rfl, HB2.out.trans (HB6.out.mono HB2.out.size)⟩
set_option maxHeartbeats 4000000 in
set_option maxRecDepth 100000 in
theorem rprint_ite (A : Option Addr) (l : List Nd) (c : Nat) (hc : l.length ≤ c) (w : World) (hl : NdR w w.heap.size A l) (i : Nat) (na nb nc : Int) (hn : l[i]? = some ⟨22, 0, [], na, nb, nc⟩)
    (sa sb sc : ByteArray) (hs : sa.size ≤ 1000000000000000) (hs2 : sb.size ≤ 1000000000000000) (hs3 : sc.size ≤ 1000000000000000) (ha : PrC A l c w na 0 sa) (hb : PrC A l c w nb 0 sb) (hd : PrC A l c w nc 0 sc) (L : Int) (hL : L ≤ 10) (t : ByteArray) (ht : t = (⟨#[105, 102, 32]⟩ : ByteArray) ++ sa ++ (⟨#[32, 116, 104, 101, 110, 32]⟩ : ByteArray) ++ sb ++ (⟨#[32, 101, 108, 115, 101, 32]⟩ : ByteArray) ++ sc ++ (⟨#[32, 101, 110, 100, 105, 102]⟩ : ByteArray)) : PrC A l c w i L t := fun w0 hb0 => by
  obtain ⟨hi, hli⟩ := List.getElem?_eq_some_iff.1 hn
  obtain ⟨g, o, rfl, hg, q0, q1, q2, q3, q4, q5⟩ := (hl.below hb0) i hi
  rw [hli] at q0 q1 q2 q3 q4 q5
  simp only at q0 q1 q2 q3 q4 q5
  have q2 : w0.cell? ⟨g, o + i * 6 + 2, none⟩ = some (.string ⟨#[]⟩) := q2
  obtain ⟨op, hop⟩ : ∃ op : Nat, op = 22 := ⟨_, rfl⟩
  replace q0 : w0.cell? ⟨g, o + i * 6, none⟩ = some (.int .u8 op) := by rw [hop]; exact q0
  have hlv : rlv op = 10 := by rw [hop]; rfl
  have hpt : Ex.parts op = 3 := by rw [hop]; rfl
  have HLV := Lib.hid (fun w1 => rlevel_any op (by omega) w1)
  have HPT := Lib.hid (fun w1 => rparts_any op w1)
  rw [hlv] at HLV
  rw [hpt] at HPT
  obtain ⟨W1, hW1⟩ : ∃ W1, W1 = w0.alloc (.cells #[.int .u8 op, .int .i64 0, .string ⟨#[]⟩, .int .i64 na, .int .i64 nb, .int .i64 nc] 104) := ⟨_, rfl⟩
  have hb1 : Below w0.heap.size w0 W1 := by rw [hW1]; exact (Below.refl _ _).alloc (Nat.le_refl _) _
  have hk1 : IsBlk W1 w0.heap.size 104 #[.int .u8 op, .int .i64 0, .string ⟨#[]⟩, .int .i64 na, .int .i64 nb, .int .i64 nc] := by rw [hW1]; exact IsBlk.new _ _ _
  have y0 : W1.cell? ⟨w0.heap.size, 0, none⟩ = some (.int .u8 op) := hk1.at_ 0
  have HW1 := Lib.hid hW1
  have HB1 := Lib.hid hb1
  have HK1 := Lib.hid hk1
  have HT := Lib.hid ht
  obtain ⟨P1, hP1⟩ : ∃ P1, (⟨#[105, 102, 32]⟩ : ByteArray) ++ sa = P1 := ⟨_, rfl⟩
  have mP1 : P1.size ≤ 2000000000000000 := by rw [← hP1, ByteArray.size_append]; simp only [show ((⟨#[105, 102, 32]⟩ : ByteArray) : ByteArray).size = 3 from rfl]; omega
  have v0a : 3 + sa.size ≤ 9223372036854775807 := by omega
  have v0b : (3 : Int) + (sa.size : Int) ≤ 9223372036854775807 := by omega
  have v0c : ¬ (9223372036854775807 : Int) < (3 : Int) + (sa.size : Int) := by omega
  obtain ⟨P2, hP2⟩ : ∃ P2, P1 ++ (⟨#[32, 116, 104, 101, 110, 32]⟩ : ByteArray) = P2 := ⟨_, rfl⟩
  have mP2 : P2.size ≤ 3000000000000000 := by rw [← hP2, ByteArray.size_append]; simp only [show ((⟨#[32, 116, 104, 101, 110, 32]⟩ : ByteArray) : ByteArray).size = 6 from rfl]; omega
  have v1a : P1.size + 6 ≤ 9223372036854775807 := by omega
  have v1b : (P1.size : Int) + 6 ≤ 9223372036854775807 := by omega
  have v1c : ¬ (9223372036854775807 : Int) < (P1.size : Int) + 6 := by omega
  obtain ⟨P3, hP3⟩ : ∃ P3, P2 ++ sb = P3 := ⟨_, rfl⟩
  have mP3 : P3.size ≤ 4000000000000000 := by rw [← hP3, ByteArray.size_append]; omega
  have v2a : P2.size + sb.size ≤ 9223372036854775807 := by omega
  have v2b : (P2.size : Int) + (sb.size : Int) ≤ 9223372036854775807 := by omega
  have v2c : ¬ (9223372036854775807 : Int) < (P2.size : Int) + (sb.size : Int) := by omega
  obtain ⟨P4, hP4⟩ : ∃ P4, P3 ++ (⟨#[32, 101, 108, 115, 101, 32]⟩ : ByteArray) = P4 := ⟨_, rfl⟩
  have mP4 : P4.size ≤ 5000000000000000 := by rw [← hP4, ByteArray.size_append]; simp only [show ((⟨#[32, 101, 108, 115, 101, 32]⟩ : ByteArray) : ByteArray).size = 6 from rfl]; omega
  have v3a : P3.size + 6 ≤ 9223372036854775807 := by omega
  have v3b : (P3.size : Int) + 6 ≤ 9223372036854775807 := by omega
  have v3c : ¬ (9223372036854775807 : Int) < (P3.size : Int) + 6 := by omega
  obtain ⟨P5, hP5⟩ : ∃ P5, P4 ++ sc = P5 := ⟨_, rfl⟩
  have mP5 : P5.size ≤ 6000000000000000 := by rw [← hP5, ByteArray.size_append]; omega
  have v4a : P4.size + sc.size ≤ 9223372036854775807 := by omega
  have v4b : (P4.size : Int) + (sc.size : Int) ≤ 9223372036854775807 := by omega
  have v4c : ¬ (9223372036854775807 : Int) < (P4.size : Int) + (sc.size : Int) := by omega
  obtain ⟨X, hX⟩ : ∃ X, P5 ++ (⟨#[32, 101, 110, 100, 105, 102]⟩ : ByteArray) = X := ⟨_, rfl⟩
  have mX : X.size ≤ 7000000000000000 := by rw [← hX, ByteArray.size_append]; simp only [show ((⟨#[32, 101, 110, 100, 105, 102]⟩ : ByteArray) : ByteArray).size = 6 from rfl]; omega
  have v5a : P5.size + 6 ≤ 9223372036854775807 := by omega
  have v5b : (P5.size : Int) + 6 ≤ 9223372036854775807 := by omega
  have v5c : ¬ (9223372036854775807 : Int) < (P5.size : Int) + 6 := by omega
  rw [hP1, hP2, hP3, hP4, hP5, hX] at HT
  have HA := Lib.hid (fun w1 (h1 : Below w0.heap.size w0 w1) => ha w1 (hb0.trans (h1.mono hb0.size)))
  have HC := Lib.hid (fun w1 (h1 : Below w0.heap.size w0 w1) => hb w1 (hb0.trans (h1.mono hb0.size)))
  have HD := Lib.hid (fun w1 (h1 : Below w0.heap.size w0 w1) => hd w1 (hb0.trans (h1.mono hb0.size)))
  have hi' : (i : Int) < (l.length : Int) := by omega
  have hc' : (l.length : Int) ≤ (c : Int) := by omega
  clear hl hc hi hli hb0 hW1 hb1 hk1 hn ha hb hd hlv hpt ht hop
  go_enter Tryz.func78, Tryz.ntmps78
  go_wp2_with fail
  rw [← HW1.out]
  refine (HLV.out W1).mono ?_
  rintro e w2 ⟨rfl, hb2⟩
  have HB2 := Lib.hid (HB1.out.trans (hb2.mono HB1.out.size))
  have HK2 := Lib.hid (HK1.out.below hb2 HK1.out.lt)
  have y0 : w2.cell? ⟨w0.heap.size, 0, none⟩ = some (.int .u8 op) := HK2.out.at_ 0
  have y3 : w2.cell? ⟨w0.heap.size, 3, none⟩ = some (.int .i64 na) := HK2.out.at_ 3
  have y4 : w2.cell? ⟨w0.heap.size, 4, none⟩ = some (.int .i64 nb) := HK2.out.at_ 4
  have y5 : w2.cell? ⟨w0.heap.size, 5, none⟩ = some (.int .i64 nc) := HK2.out.at_ 5
  clear hb2
  go_wp2_with fail
  refine (HPT.out w2).mono ?_
  rintro e w3 ⟨rfl, rfl⟩
  clear q0 q1 q2 q3 q4 q5 hi' hc'
  go_upto_region 5 with fail
  refine wp_region_held_drew (S := fun w' => w'.cell? ⟨w0.heap.size, 3, none⟩ = some (.int .i64 na) ∧ w'.cell? ⟨w0.heap.size, 4, none⟩ = some (.int .i64 nb) ∧ w'.cell? ⟨w0.heap.size, 5, none⟩ = some (.int .i64 nc)) (by kernel_rfl) ⟨y3, y4, y5⟩ (fun hHeld => ?_)
  refine wpAnyH_take (i := 0) (v := .slice (some ⟨g, o, none⟩) l.length c) rfl (by kernel_rfl) (by kernel_rfl) (by kernel_rfl) (fun _ _ _ h => h) (Or.inl ⟨by rfl, by (intro w hS; go_simp)⟩) hHeld ?_
  try simp only [Act.put, List.getElem_toArray, List.getElem_cons_zero, List.setIfInBounds_toArray, List.set_cons_zero, List.set_cons_succ]
  refine wpAnyH_take (i := 1) (v := .pointer (some ⟨w0.heap.size, 3, none⟩)) rfl (by kernel_rfl) (by kernel_rfl) (by kernel_rfl) (fun _ _ _ h => h) (Or.inl ⟨by rfl, by (intro w hS; go_simp)⟩) hHeld ?_
  try simp only [Act.put, List.getElem_toArray, List.getElem_cons_succ, List.getElem_cons_zero, List.setIfInBounds_toArray, List.set_cons_zero, List.set_cons_succ]
  refine wpAnyH_take (i := 2) (v := .int .i64 na) rfl (by kernel_rfl) (by kernel_rfl) (by kernel_rfl) (fun _ _ _ h => h) (Or.inl ⟨by rfl, by (intro w hS; go_simp)⟩) hHeld ?_
  try simp only [Act.put, List.getElem_toArray, List.getElem_cons_succ, List.getElem_cons_zero, List.setIfInBounds_toArray, List.set_cons_zero, List.set_cons_succ]
  refine wpAnyH_take (i := 6) (v := .slice (some ⟨g, o, none⟩) l.length c) rfl (by kernel_rfl) (by kernel_rfl) (by kernel_rfl) (fun _ _ _ h => h) (Or.inl ⟨by rfl, by (intro w hS; go_simp)⟩) hHeld ?_
  try simp only [Act.put, List.getElem_toArray, List.getElem_cons_succ, List.getElem_cons_zero, List.setIfInBounds_toArray, List.set_cons_zero, List.set_cons_succ]
  refine wpAnyH_take (i := 7) (v := .pointer (some ⟨w0.heap.size, 4, none⟩)) rfl (by kernel_rfl) (by kernel_rfl) (by kernel_rfl) (fun _ _ _ h => h) (Or.inl ⟨by rfl, by (intro w hS; go_simp)⟩) hHeld ?_
  try simp only [Act.put, List.getElem_toArray, List.getElem_cons_succ, List.getElem_cons_zero, List.setIfInBounds_toArray, List.set_cons_zero, List.set_cons_succ]
  refine wpAnyH_take (i := 8) (v := .int .i64 nb) rfl (by kernel_rfl) (by kernel_rfl) (by kernel_rfl) (fun _ _ _ h => h) (Or.inl ⟨by rfl, by (intro w hS; go_simp)⟩) hHeld ?_
  try simp only [Act.put, List.getElem_toArray, List.getElem_cons_succ, List.getElem_cons_zero, List.setIfInBounds_toArray, List.set_cons_zero, List.set_cons_succ]
  refine wpAnyH_take (i := 12) (v := .slice (some ⟨g, o, none⟩) l.length c) rfl (by kernel_rfl) (by kernel_rfl) (by kernel_rfl) (fun _ _ _ h => h) (Or.inl ⟨by rfl, by (intro w hS; go_simp)⟩) hHeld ?_
  try simp only [Act.put, List.getElem_toArray, List.getElem_cons_succ, List.getElem_cons_zero, List.setIfInBounds_toArray, List.set_cons_zero, List.set_cons_succ]
  refine wpAnyH_take (i := 13) (v := .pointer (some ⟨w0.heap.size, 5, none⟩)) rfl (by kernel_rfl) (by kernel_rfl) (by kernel_rfl) (fun _ _ _ h => h) (Or.inl ⟨by rfl, by (intro w hS; go_simp)⟩) hHeld ?_
  try simp only [Act.put, List.getElem_toArray, List.getElem_cons_succ, List.getElem_cons_zero, List.setIfInBounds_toArray, List.set_cons_zero, List.set_cons_succ]
  refine wpAnyH_take (i := 14) (v := .int .i64 nc) rfl (by kernel_rfl) (by kernel_rfl) (by kernel_rfl) (fun _ _ _ h => h) (Or.inl ⟨by rfl, by (intro w hS; go_simp)⟩) hHeld ?_
  try simp only [Act.put, List.getElem_toArray, List.getElem_cons_succ, List.getElem_cons_zero, List.setIfInBounds_toArray, List.set_cons_zero, List.set_cons_succ]
  refine wpAnyH_ready (rs := [3]) (by kernel_rfl) (by simp) ?_
  refine AllReadyH.cons rfl (fun K hK => ?_) AllReadyH.nil
  go_simp
  refine (HA.out _ (HB2.out.trans ((Below.refl w2.heap.size w2).drew.mono HB2.out.size))).mono ?_
  rintro e w4 ⟨rfl, hb4⟩
  have HB4 := Lib.hid ((Below.refl w2.heap.size w2).drew.trans hb4)
  refine hK.out _ _ ⟨(HK2.out.below HB4.out HK2.out.lt).at_ 3, (HK2.out.below HB4.out HK2.out.lt).at_ 4, (HK2.out.below HB4.out HK2.out.lt).at_ 5⟩ (fun hHeld => ?_)
  clear hK K hb4
  try simp only [Act.put, List.getElem_toArray, List.getElem_cons_succ, List.getElem_cons_zero, List.setIfInBounds_toArray, List.set_cons_zero, List.set_cons_succ]
  refine wpAnyH_take (i := 4) (v := .string P1) rfl (by kernel_rfl) (by kernel_rfl) (by kernel_rfl) (fun _ _ _ h => h) (Or.inl ⟨by rfl, by (intro w hS; go_simp)⟩) hHeld ?_
  try simp only [Act.put, List.getElem_toArray, List.getElem_cons_succ, List.getElem_cons_zero, List.setIfInBounds_toArray, List.set_cons_zero, List.set_cons_succ]
  refine wpAnyH_take (i := 5) (v := .string P2) rfl (by kernel_rfl) (by kernel_rfl) (by kernel_rfl) (fun _ _ _ h => h) (Or.inl ⟨by rfl, by (intro w hS; go_simp)⟩) hHeld ?_
  try simp only [Act.put, List.getElem_toArray, List.getElem_cons_succ, List.getElem_cons_zero, List.setIfInBounds_toArray, List.set_cons_zero, List.set_cons_succ]
  refine wpAnyH_ready (rs := [9]) (by kernel_rfl) (by simp) ?_
  refine AllReadyH.cons rfl (fun K hK => ?_) AllReadyH.nil
  go_simp
  refine (HC.out _ (HB2.out.trans (HB4.out.mono HB2.out.size))).mono ?_
  rintro e w5 ⟨rfl, hb5⟩
  have HB5 := Lib.hid (HB4.out.trans (hb5.mono HB4.out.size))
  refine hK.out _ _ ⟨(HK2.out.below HB5.out HK2.out.lt).at_ 3, (HK2.out.below HB5.out HK2.out.lt).at_ 4, (HK2.out.below HB5.out HK2.out.lt).at_ 5⟩ (fun hHeld => ?_)
  clear hK K hb5
  try simp only [Act.put, List.getElem_toArray, List.getElem_cons_succ, List.getElem_cons_zero, List.setIfInBounds_toArray, List.set_cons_zero, List.set_cons_succ]
  refine wpAnyH_take (i := 10) (v := .string P3) rfl (by kernel_rfl) (by kernel_rfl) (by kernel_rfl) (fun _ _ _ h => h) (Or.inl ⟨by rfl, by (intro w hS; go_simp)⟩) hHeld ?_
  try simp only [Act.put, List.getElem_toArray, List.getElem_cons_succ, List.getElem_cons_zero, List.setIfInBounds_toArray, List.set_cons_zero, List.set_cons_succ]
  refine wpAnyH_take (i := 11) (v := .string P4) rfl (by kernel_rfl) (by kernel_rfl) (by kernel_rfl) (fun _ _ _ h => h) (Or.inl ⟨by rfl, by (intro w hS; go_simp)⟩) hHeld ?_
  try simp only [Act.put, List.getElem_toArray, List.getElem_cons_succ, List.getElem_cons_zero, List.setIfInBounds_toArray, List.set_cons_zero, List.set_cons_succ]
  refine wpAnyH_ready (rs := [15]) (by kernel_rfl) (by simp) ?_
  refine AllReadyH.cons rfl (fun K hK => ?_) AllReadyH.nil
  go_simp
  refine (HD.out _ (HB2.out.trans (HB5.out.mono HB2.out.size))).mono ?_
  rintro e w6 ⟨rfl, hb6⟩
  have HB6 := Lib.hid (HB5.out.trans (hb6.mono HB5.out.size))
  refine hK.out _ _ ⟨(HK2.out.below HB6.out HK2.out.lt).at_ 3, (HK2.out.below HB6.out HK2.out.lt).at_ 4, (HK2.out.below HB6.out HK2.out.lt).at_ 5⟩ (fun hHeld => ?_)
  clear hK K hb6
  try simp only [Act.put, List.getElem_toArray, List.getElem_cons_succ, List.getElem_cons_zero, List.setIfInBounds_toArray, List.set_cons_zero, List.set_cons_succ]
  refine wpAnyH_take (i := 16) (v := .string P5) rfl (by kernel_rfl) (by kernel_rfl) (by kernel_rfl) (fun _ _ _ h => h) (Or.inl ⟨by rfl, by (intro w hS; go_simp)⟩) hHeld ?_
  try simp only [Act.put, List.getElem_toArray, List.getElem_cons_succ, List.getElem_cons_zero, List.setIfInBounds_toArray, List.set_cons_zero, List.set_cons_succ]
  refine wpAnyH_take (i := 17) (v := .string X) rfl (by kernel_rfl) (by kernel_rfl) (by kernel_rfl) (fun _ _ _ h => h) (Or.inl ⟨by rfl, by (intro w hS; go_simp)⟩) hHeld ?_
  try simp only [Act.put, List.getElem_toArray, List.getElem_cons_succ, List.getElem_cons_zero, List.setIfInBounds_toArray, List.set_cons_zero, List.set_cons_succ]
  refine wpAnyH_take (i := 18) (v := .string X) rfl (by kernel_rfl) (by kernel_rfl) (by kernel_rfl) (fun _ _ _ h => h) (Or.inl ⟨by rfl, by (intro w hS; go_simp)⟩) hHeld ?_
  try simp only [Act.put, List.getElem_toArray, List.getElem_cons_succ, List.getElem_cons_zero, List.setIfInBounds_toArray, List.set_cons_zero, List.set_cons_succ]
  refine wpAnyH_done (by kernel_rfl) ?_ _
  clear HA HC HD hP1 hP2 hP3 hP4 hP5 hX v0a v0b v0c v1a v1b v1c v2a v2b v2c v3a v3b v3c v4a v4b v4c v5a v5b v5c mP1 mP2 mP3 mP4 mP5 mX hs hs2 hs3
  have hL' : ¬ (10 : Int) < L := by omega
  clear hL hHeld
  go_wp2_with fail
  go_ret
  exact ⟨by rw [HT.out]; rfl, HB2.out.trans (HB6.out.mono HB2.out.size)⟩
end Go.Proofs.YtmmdigeciphglaaGreatDoor
namespace Go.Proofs.YtmmdigeciphglaaGreatDoor
open Go.RowKit Ex
set_option maxHeartbeats 2000000 in
set_option maxRecDepth 100000 in
theorem rprint_num (A : Option Addr) (l : List Nd) (c : Nat) (hc : l.length ≤ c) (w : World) (hl : NdR w w.heap.size A l) (i : Nat) (num : Int) (hn : l[i]? = some ⟨1, num, [], -1, -1, -1⟩) (t : ByteArray) (hput : ∀ w1, Calls Tryz.prog 110 #[.int .i64 num] w1 fun e w' => e = .returned (.string t) ∧ Below w1.heap.size w1 w') (L : Int) (hL : L ≤ 10) : PrC A l c w i L t := fun w0 hb0 => by
  obtain ⟨hi, hli⟩ := List.getElem?_eq_some_iff.1 hn
  obtain ⟨g, o, rfl, hg, q0, q1, q2, q3, q4, q5⟩ := (hl.below hb0) i hi
  rw [hli] at q0 q1 q2 q3 q4 q5
  simp only at q0 q1 q2 q3 q4 q5
  have HLV := Lib.hid (show ∀ w1, Calls Tryz.prog 108 #[.int .u8 1] w1 fun e w' => e = .returned (.int .i64 10) ∧ Below w1.heap.size w1 w' from fun w1 => rlevel_any 1 (by omega) w1)
  have HPT := Lib.hid (show ∀ w1, Calls Tryz.prog 109 #[.int .u8 1] w1 fun e w' => e = .returned (.int .i64 0) ∧ w1 = w' from fun w1 => rparts_any 1 w1)
  have HPU := Lib.hid hput
  clear hput
  replace q2 : w0.cell? ⟨g, o + i * 6 + 2, none⟩ = some (.string ⟨#[]⟩) := q2
  obtain ⟨W1, hW1⟩ : ∃ W1, W1 = w0.alloc (.cells #[.int .u8 1, .int .i64 num, .string ⟨#[]⟩, .int .i64 (-1), .int .i64 (-1), .int .i64 (-1)] 104) := ⟨_, rfl⟩
  have hb1 : Below w0.heap.size w0 W1 := by rw [hW1]; exact (Below.refl _ _).alloc (Nat.le_refl _) _
  have hk1 : IsBlk W1 w0.heap.size 104 #[.int .u8 1, .int .i64 num, .string ⟨#[]⟩, .int .i64 (-1), .int .i64 (-1), .int .i64 (-1)] := by rw [hW1]; exact IsBlk.new _ _ _
  have y0 : W1.cell? ⟨w0.heap.size, 0, none⟩ = some (.int .u8 1) := hk1.at_ 0
  have HW1 := Lib.hid hW1
  have HB1 := Lib.hid hb1
  have HK1 := Lib.hid hk1
  have hi' : (i : Int) < (l.length : Int) := by omega
  have hc' : (l.length : Int) ≤ (c : Int) := by omega
  have hL' : ¬ (10 : Int) < L := by omega
  clear hl hc hi hli hb0 hW1 hb1 hk1 hn hL
  go_enter Tryz.func78, Tryz.ntmps78
  go_wp2_with fail
  rw [← HW1.out]
  refine (HLV.out W1).mono ?_
  rintro e w2 ⟨rfl, hb2⟩
  have HB2 := Lib.hid (HB1.out.trans (hb2.mono HB1.out.size))
  have HK2 := Lib.hid (HK1.out.below hb2 HK1.out.lt)
  have y0 : w2.cell? ⟨w0.heap.size, 0, none⟩ = some (.int .u8 1) := HK2.out.at_ 0
  have y1 : w2.cell? ⟨w0.heap.size, 1, none⟩ = some (.int .i64 num) := HK2.out.at_ 1
  have y2 : w2.cell? ⟨w0.heap.size, 2, none⟩ = some (.string ⟨#[]⟩) := HK2.out.at_ 2
  clear hb2
  go_wp2_with fail
  refine (HPT.out w2).mono ?_
  rintro e w3 ⟨rfl, rfl⟩
  clear q0 q1 q2 q3 q4 q5 hi' hc'
  go_wp2_with fail
  refine (HPU.out w2).mono ?_
  rintro e w4 ⟨rfl, hb4⟩
  have HB4 := Lib.hid (HB2.out.trans (hb4.mono HB2.out.size))
  clear hb4
  go_wp2_with fail
  go_ret
  exact ⟨rfl, HB4.out⟩
set_option maxHeartbeats 2000000 in
set_option maxRecDepth 100000 in
theorem rprint_name (A : Option Addr) (l : List Nd) (c : Nat) (hc : l.length ≤ c) (w : World) (hl : NdR w w.heap.size A l) (i : Nat) (s : List UInt8) (hn : l[i]? = some ⟨2, 0, s, -1, -1, -1⟩) (t : ByteArray) (ht : (⟨s.toArray⟩ : ByteArray) = t) (L : Int) (hL : L ≤ 10) : PrC A l c w i L t := fun w0 hb0 => by
  obtain ⟨hi, hli⟩ := List.getElem?_eq_some_iff.1 hn
  obtain ⟨g, o, rfl, hg, q0, q1, q2, q3, q4, q5⟩ := (hl.below hb0) i hi
  rw [hli] at q0 q1 q2 q3 q4 q5
  simp only at q0 q1 q2 q3 q4 q5
  have HLV := Lib.hid (show ∀ w1, Calls Tryz.prog 108 #[.int .u8 2] w1 fun e w' => e = .returned (.int .i64 10) ∧ Below w1.heap.size w1 w' from fun w1 => rlevel_any 2 (by omega) w1)
  have HPT := Lib.hid (show ∀ w1, Calls Tryz.prog 109 #[.int .u8 2] w1 fun e w' => e = .returned (.int .i64 0) ∧ w1 = w' from fun w1 => rparts_any 2 w1)
  rw [ht] at q2
  clear ht
  replace q2 : w0.cell? ⟨g, o + i * 6 + 2, none⟩ = some (.string t) := q2
  obtain ⟨W1, hW1⟩ : ∃ W1, W1 = w0.alloc (.cells #[.int .u8 2, .int .i64 0, .string t, .int .i64 (-1), .int .i64 (-1), .int .i64 (-1)] 104) := ⟨_, rfl⟩
  have hb1 : Below w0.heap.size w0 W1 := by rw [hW1]; exact (Below.refl _ _).alloc (Nat.le_refl _) _
  have hk1 : IsBlk W1 w0.heap.size 104 #[.int .u8 2, .int .i64 0, .string t, .int .i64 (-1), .int .i64 (-1), .int .i64 (-1)] := by rw [hW1]; exact IsBlk.new _ _ _
  have y0 : W1.cell? ⟨w0.heap.size, 0, none⟩ = some (.int .u8 2) := hk1.at_ 0
  have HW1 := Lib.hid hW1
  have HB1 := Lib.hid hb1
  have HK1 := Lib.hid hk1
  have hi' : (i : Int) < (l.length : Int) := by omega
  have hc' : (l.length : Int) ≤ (c : Int) := by omega
  have hL' : ¬ (10 : Int) < L := by omega
  clear hl hc hi hli hb0 hW1 hb1 hk1 hn hL
  go_enter Tryz.func78, Tryz.ntmps78
  go_wp2_with fail
  rw [← HW1.out]
  refine (HLV.out W1).mono ?_
  rintro e w2 ⟨rfl, hb2⟩
  have HB2 := Lib.hid (HB1.out.trans (hb2.mono HB1.out.size))
  have HK2 := Lib.hid (HK1.out.below hb2 HK1.out.lt)
  have y0 : w2.cell? ⟨w0.heap.size, 0, none⟩ = some (.int .u8 2) := HK2.out.at_ 0
  have y1 : w2.cell? ⟨w0.heap.size, 1, none⟩ = some (.int .i64 0) := HK2.out.at_ 1
  have y2 : w2.cell? ⟨w0.heap.size, 2, none⟩ = some (.string t) := HK2.out.at_ 2
  clear hb2
  go_wp2_with fail
  refine (HPT.out w2).mono ?_
  rintro e w3 ⟨rfl, rfl⟩
  clear q0 q1 q2 q3 q4 q5 hi' hc'
  go_wp2_with fail
  go_ret
  exact ⟨rfl, HB2.out⟩
set_option maxHeartbeats 2000000 in
set_option maxRecDepth 100000 in
theorem rprint_tt (A : Option Addr) (l : List Nd) (c : Nat) (hc : l.length ≤ c) (w : World) (hl : NdR w w.heap.size A l) (i : Nat) (hn : l[i]? = some ⟨3, 0, [], -1, -1, -1⟩) (L : Int) (hL : L ≤ 10) : PrC A l c w i L ⟨#[116, 114, 117, 101]⟩ := fun w0 hb0 => by
  obtain ⟨hi, hli⟩ := List.getElem?_eq_some_iff.1 hn
  obtain ⟨g, o, rfl, hg, q0, q1, q2, q3, q4, q5⟩ := (hl.below hb0) i hi
  rw [hli] at q0 q1 q2 q3 q4 q5
  simp only at q0 q1 q2 q3 q4 q5
  have HLV := Lib.hid (show ∀ w1, Calls Tryz.prog 108 #[.int .u8 3] w1 fun e w' => e = .returned (.int .i64 10) ∧ Below w1.heap.size w1 w' from fun w1 => rlevel_any 3 (by omega) w1)
  have HPT := Lib.hid (show ∀ w1, Calls Tryz.prog 109 #[.int .u8 3] w1 fun e w' => e = .returned (.int .i64 0) ∧ w1 = w' from fun w1 => rparts_any 3 w1)
  replace q2 : w0.cell? ⟨g, o + i * 6 + 2, none⟩ = some (.string ⟨#[]⟩) := q2
  obtain ⟨W1, hW1⟩ : ∃ W1, W1 = w0.alloc (.cells #[.int .u8 3, .int .i64 0, .string ⟨#[]⟩, .int .i64 (-1), .int .i64 (-1), .int .i64 (-1)] 104) := ⟨_, rfl⟩
  have hb1 : Below w0.heap.size w0 W1 := by rw [hW1]; exact (Below.refl _ _).alloc (Nat.le_refl _) _
  have hk1 : IsBlk W1 w0.heap.size 104 #[.int .u8 3, .int .i64 0, .string ⟨#[]⟩, .int .i64 (-1), .int .i64 (-1), .int .i64 (-1)] := by rw [hW1]; exact IsBlk.new _ _ _
  have y0 : W1.cell? ⟨w0.heap.size, 0, none⟩ = some (.int .u8 3) := hk1.at_ 0
  have HW1 := Lib.hid hW1
  have HB1 := Lib.hid hb1
  have HK1 := Lib.hid hk1
  have hi' : (i : Int) < (l.length : Int) := by omega
  have hc' : (l.length : Int) ≤ (c : Int) := by omega
  have hL' : ¬ (10 : Int) < L := by omega
  clear hl hc hi hli hb0 hW1 hb1 hk1 hn hL
  go_enter Tryz.func78, Tryz.ntmps78
  go_wp2_with fail
  rw [← HW1.out]
  refine (HLV.out W1).mono ?_
  rintro e w2 ⟨rfl, hb2⟩
  have HB2 := Lib.hid (HB1.out.trans (hb2.mono HB1.out.size))
  have HK2 := Lib.hid (HK1.out.below hb2 HK1.out.lt)
  have y0 : w2.cell? ⟨w0.heap.size, 0, none⟩ = some (.int .u8 3) := HK2.out.at_ 0
  have y1 : w2.cell? ⟨w0.heap.size, 1, none⟩ = some (.int .i64 0) := HK2.out.at_ 1
  have y2 : w2.cell? ⟨w0.heap.size, 2, none⟩ = some (.string ⟨#[]⟩) := HK2.out.at_ 2
  clear hb2
  go_wp2_with fail
  refine (HPT.out w2).mono ?_
  rintro e w3 ⟨rfl, rfl⟩
  clear q0 q1 q2 q3 q4 q5 hi' hc'
  go_wp2_with fail
  go_ret
  exact ⟨rfl, HB2.out⟩
set_option maxHeartbeats 2000000 in
set_option maxRecDepth 100000 in
theorem rprint_ff (A : Option Addr) (l : List Nd) (c : Nat) (hc : l.length ≤ c) (w : World) (hl : NdR w w.heap.size A l) (i : Nat) (hn : l[i]? = some ⟨4, 0, [], -1, -1, -1⟩) (L : Int) (hL : L ≤ 10) : PrC A l c w i L ⟨#[102, 97, 108, 115, 101]⟩ := fun w0 hb0 => by
  obtain ⟨hi, hli⟩ := List.getElem?_eq_some_iff.1 hn
  obtain ⟨g, o, rfl, hg, q0, q1, q2, q3, q4, q5⟩ := (hl.below hb0) i hi
  rw [hli] at q0 q1 q2 q3 q4 q5
  simp only at q0 q1 q2 q3 q4 q5
  have HLV := Lib.hid (show ∀ w1, Calls Tryz.prog 108 #[.int .u8 4] w1 fun e w' => e = .returned (.int .i64 10) ∧ Below w1.heap.size w1 w' from fun w1 => rlevel_any 4 (by omega) w1)
  have HPT := Lib.hid (show ∀ w1, Calls Tryz.prog 109 #[.int .u8 4] w1 fun e w' => e = .returned (.int .i64 0) ∧ w1 = w' from fun w1 => rparts_any 4 w1)
  replace q2 : w0.cell? ⟨g, o + i * 6 + 2, none⟩ = some (.string ⟨#[]⟩) := q2
  obtain ⟨W1, hW1⟩ : ∃ W1, W1 = w0.alloc (.cells #[.int .u8 4, .int .i64 0, .string ⟨#[]⟩, .int .i64 (-1), .int .i64 (-1), .int .i64 (-1)] 104) := ⟨_, rfl⟩
  have hb1 : Below w0.heap.size w0 W1 := by rw [hW1]; exact (Below.refl _ _).alloc (Nat.le_refl _) _
  have hk1 : IsBlk W1 w0.heap.size 104 #[.int .u8 4, .int .i64 0, .string ⟨#[]⟩, .int .i64 (-1), .int .i64 (-1), .int .i64 (-1)] := by rw [hW1]; exact IsBlk.new _ _ _
  have y0 : W1.cell? ⟨w0.heap.size, 0, none⟩ = some (.int .u8 4) := hk1.at_ 0
  have HW1 := Lib.hid hW1
  have HB1 := Lib.hid hb1
  have HK1 := Lib.hid hk1
  have hi' : (i : Int) < (l.length : Int) := by omega
  have hc' : (l.length : Int) ≤ (c : Int) := by omega
  have hL' : ¬ (10 : Int) < L := by omega
  clear hl hc hi hli hb0 hW1 hb1 hk1 hn hL
  go_enter Tryz.func78, Tryz.ntmps78
  go_wp2_with fail
  rw [← HW1.out]
  refine (HLV.out W1).mono ?_
  rintro e w2 ⟨rfl, hb2⟩
  have HB2 := Lib.hid (HB1.out.trans (hb2.mono HB1.out.size))
  have HK2 := Lib.hid (HK1.out.below hb2 HK1.out.lt)
  have y0 : w2.cell? ⟨w0.heap.size, 0, none⟩ = some (.int .u8 4) := HK2.out.at_ 0
  have y1 : w2.cell? ⟨w0.heap.size, 1, none⟩ = some (.int .i64 0) := HK2.out.at_ 1
  have y2 : w2.cell? ⟨w0.heap.size, 2, none⟩ = some (.string ⟨#[]⟩) := HK2.out.at_ 2
  clear hb2
  go_wp2_with fail
  refine (HPT.out w2).mono ?_
  rintro e w3 ⟨rfl, rfl⟩
  clear q0 q1 q2 q3 q4 q5 hi' hc'
  go_wp2_with fail
  go_ret
  exact ⟨rfl, HB2.out⟩
end Go.Proofs.YtmmdigeciphglaaGreatDoor
namespace Go.Proofs.YtmmdigeciphglaaGreatDoor
open Go.RowKit Ex
theorem bmk (a b : List UInt8) : (⟨(a ++ b).toArray⟩ : ByteArray) = ⟨a.toArray⟩ ++ ⟨b.toArray⟩ := by
  apply ByteArray.ext
  simp
theorem lvl_two : ∀ o, 7 ≤ o → o ≤ 21 → Ex.lvl o ≤ 8 := by
  intro o h1 h2
  have : ∀ o : Fin 22, 7 ≤ o.val → Ex.lvl o.val ≤ 8 := by decide
  exact this ⟨o, by omega⟩ h1
theorem rprint_at (A : Option Addr) (l : List Nd) (c : Nat) (hc : l.length ≤ c) (hn : l.length ≤ 800000) (hf : ∀ n ∈ l, n.nm.length ≤ 1000000 ∧ n.num ≤ 9223372036854775807)
    (hput : ∀ n : Nat, n ≤ 9223372036854775807 → ∀ w1, Calls Tryz.prog 110 #[.int .i64 (n : Nat)] w1 fun e w' => e = .returned (.string ⟨(Ex.dg n).toArray⟩) ∧ Below w1.heap.size w1 w')
    (w : World) (hl : NdR w w.heap.size A l) : ∀ (x : E) (s L : Nat), L ≤ 10 → wr x → At l s x → PrC A l c w ((s + sz x : Nat) - 1) L ⟨(Ex.prs x L).toArray⟩ := by
  have small : ∀ (x : E) (s L : Nat), wr x → At l s x → (⟨(Ex.prs x L).toArray⟩ : ByteArray).size ≤ 1000000000000000 := by
    intro x s L hw h
    have h1 := (row_small 1000000 x s L hw (fun n hn => by
      rw [← h.1] at hn
      exact hf n (List.mem_of_mem_drop (List.mem_of_mem_take hn)))).2
    have h2 := h.2
    have h3 : (⟨(Ex.prs x L).toArray⟩ : ByteArray).size = (Ex.prs x L).length := by simp [ByteArray.size]
    omega
  have one : ∀ (x : E) (s : Nat) (n : Nd), At l s x → sz x = 1 → flat x s = [n] → l[s]? = some n ∧ ((s + sz x : Nat) : Int) - 1 = (s : Int) := by
    intro x s n h hs hfl
    have q := h.1
    rw [hs, hfl] at q
    exact ⟨at_one.1 q, by rw [hs]; omega⟩
  intro x
  induction x with
  | num v =>
    intro s L hL _ h
    obtain ⟨q, e⟩ := one _ s _ h rfl rfl
    rw [e]
    have hv := (hf _ (List.mem_of_getElem? q)).2
    exact rprint_num A l c hc w hl s _ q _ (hput v (by simp only at hv; omega)) L (by omega)
  | name v =>
    intro s L hL _ h
    obtain ⟨q, e⟩ := one _ s _ h rfl rfl
    rw [e]
    exact rprint_name A l c hc w hl s v q _ rfl L (by omega)
  | tt =>
    intro s L hL _ h
    obtain ⟨q, e⟩ := one _ s _ h rfl rfl
    rw [e]
    exact rprint_tt A l c hc w hl s q L (by omega)
  | ff =>
    intro s L hL _ h
    obtain ⟨q, e⟩ := one _ s _ h rfl rfl
    rw [e]
    exact rprint_ff A l c hc w hl s q L (by omega)
  | un op a iha =>
    intro s L hL hw h
    obtain ⟨hop, hwa⟩ := hw
    obtain ⟨ha, q⟩ := at_un h
    rw [show ((s + sz (.un op a) : Nat) : Int) - 1 = ((s + sz a : Nat) : Int) by simp only [sz]; omega]
    refine rprint_un A l c hc w hl _ op _ hop q _ (small a s 9 hwa ha) (iha s 9 (by omega) hwa ha) L _ rfl _ ?_
    have hlv : Ex.lvl op = 9 := by rcases hop with rfl | rfl <;> rfl
    rw [Ex.prs]
    rw [hlv]
    by_cases h9 : 9 < L
    · rw [if_pos h9, if_pos (show (9 : Int) < (L : Int) by omega)]; simp only [bmk]
    · rw [if_neg h9, if_neg (show ¬ (9 : Int) < (L : Int) by omega)]; simp only [bmk]
  | bin op a b iha ihb =>
    intro s L hL hw h
    obtain ⟨hop1, hop2, hwa, hwb⟩ := hw
    obtain ⟨ha, hb, q⟩ := at_bin h
    have h8 := lvl_two op hop1 hop2
    have kb := ihb _ (Ex.lvl op + 1) (by omega) hwb hb
    rw [show ((Ex.lvl op + 1 : Nat) : Int) = (Ex.lvl op : Nat) + 1 by omega] at kb
    rw [show ((s + sz (.bin op a b) : Nat) : Int) - 1 = ((s + sz a + sz b : Nat) : Int) by simp only [sz]; omega]
    refine rprint_bin A l c hc w hl _ op _ _ ⟨hop1, hop2⟩ q _ _ (small a s _ hwa ha) (small b _ _ hwb hb) (Ex.lvl op : Nat) (rlv_eq op (by omega) (by omega)) (iha s (Ex.lvl op) (by omega) hwa ha) kb L _ rfl _ ?_
    rw [Ex.prs]
    by_cases h9 : Ex.lvl op < L
    · rw [if_pos h9, if_pos (show ((Ex.lvl op : Nat) : Int) < (L : Int) by omega)]; simp only [bmk]
    · rw [if_neg h9, if_neg (show ¬ ((Ex.lvl op : Nat) : Int) < (L : Int) by omega)]; simp only [bmk]
  | ite a b d iha ihb ihd =>
    intro s L hL hw h
    obtain ⟨hwa, hwb, hwd⟩ := hw
    obtain ⟨ha, hb, hd, q⟩ := at_ite h
    rw [show ((s + sz (.ite a b d) : Nat) : Int) - 1 = ((s + sz a + sz b + sz d : Nat) : Int) by simp only [sz]; omega]
    refine rprint_ite A l c hc w hl _ _ _ _ q _ _ _ (small a s 0 hwa ha) (small b _ 0 hwb hb) (small d _ 0 hwd hd) (iha s 0 (by omega) hwa ha) (ihb _ 0 (by omega) hwb hb) (ihd _ 0 (by omega) hwd hd) L (by omega) _ ?_
    rw [Ex.prs]
    simp only [bmk]
end Go.Proofs.YtmmdigeciphglaaGreatDoor
namespace Go.Proofs.YtmmdigeciphglaaGreatDoor
open Go.RowKit Ex
set_option maxHeartbeats 2000000 in
theorem rPrint_any (A : Option Addr) (l : List Nd) (c : Nat) (hc : l.length ≤ c) (hf : FitR l) (hn : l.length ≤ 800000) (hm : ∀ n ∈ l, n.num ≤ 9223372036854775807)
    (hput : ∀ n : Nat, n ≤ 9223372036854775807 → ∀ w1, Calls Tryz.prog 110 #[.int .i64 (n : Nat)] w1 fun e w' => e = .returned (.string ⟨(Ex.dg n).toArray⟩) ∧ Below w1.heap.size w1 w')
    (w : World) (hl : NdR w w.heap.size A l) :
    Calls Tryz.prog 44 #[.slice A l.length c] w fun e w' => ∃ t er, ((chk l ≠ 0 ∧ t = [] ∧ er = chk l) ∨ (er = 0 ∧ ∃ x, wr x ∧ dp x ≤ 64 ∧ l = flat x 0 ∧ t = Ex.prs x 0)) ∧ e = .returned (.tuple #[.string ⟨t.toArray⟩, .int .i64 er]) ∧ Below w.heap.size w w' := by
  have HC := Lib.hid (rCheck_any A c l hc hf w hl)
  by_cases hk : chk l = 0
  · obtain ⟨x, h1, h2, h3⟩ := chk_row hk
    have hlx : l.length = sz x := by rw [h3, flat_len]
    have hat : At l 0 x := ⟨by rw [List.drop_zero, ← hlx, List.take_length, h3], by omega⟩
    have HP := Lib.hid (fun w1 (hb : Below w.heap.size w w1) => rprint_at A l c hc hn (fun n hq => ⟨(hf.2 n hq).1, hm n hq⟩) hput w hl x 0 0 (by omega) h1 hat w1 hb)
    rw [show ((0 + sz x : Nat) : Int) - 1 = (l.length : Int) - 1 by omega] at HP
    obtain ⟨t, ht⟩ : ∃ t, t = Ex.prs x 0 := ⟨_, rfl⟩
    obtain ⟨tb, htb⟩ : ∃ tb : ByteArray, tb = ⟨t.toArray⟩ := ⟨_, rfl⟩
    rw [← ht, ← htb] at HP
    have HX := Lib.hid (show ((chk l ≠ 0 ∧ t = [] ∧ (0 : Int) = chk l) ∨ ((0 : Int) = 0 ∧ ∃ x, wr x ∧ dp x ≤ 64 ∧ l = flat x 0 ∧ t = Ex.prs x 0)) ∧ tb = ⟨t.toArray⟩ from ⟨Or.inr ⟨rfl, x, h1, h2, h3, ht⟩, htb⟩)
    have h800 : (l.length : Int) ≤ 800000 := by omega
    rw [hk] at HC
    clear hl hf hm hput hk h1 h2 h3 hlx hat hc hn ht htb
    go_enter Tryz.func44, Tryz.ntmps44
    go_wp2_with fail
    refine HC.out.mono ?_
    rintro e w1 ⟨rfl, hb1⟩
    have HB1 := Lib.hid hb1
    clear hb1
    go_wp2_with fail
    refine (HP.out _ HB1.out).mono ?_
    rintro e w2 ⟨rfl, hb2⟩
    have HB2 := Lib.hid (HB1.out.trans (hb2.mono HB1.out.size))
    clear hb2
    go_wp2_with fail
    go_ret2
    exact ⟨t, 0, by simpa using HX.out.1, by rw [← HX.out.2]; rfl, HB2.out⟩
  · have hk' : (chk l != 0) = true := bne_iff_ne.2 hk
    obtain ⟨z, hz⟩ : ∃ z, z = chk l := ⟨_, rfl⟩
    have HX := Lib.hid (show (chk l ≠ 0 ∧ ([] : List UInt8) = [] ∧ z = chk l) from ⟨hk, rfl, hz⟩)
    rw [← hz] at HC hk'
    clear hl hf hm hput hk hc hn hz
    go_enter Tryz.func44, Tryz.ntmps44
    go_wp2_with fail
    refine HC.out.mono ?_
    rintro e w1 ⟨rfl, hb1⟩
    have HB1 := Lib.hid hb1
    clear hb1
    go_wp2_with fail
    go_ret2
    exact ⟨[], z, Or.inl (by simpa using HX.out), rfl, HB1.out⟩
end Go.Proofs.YtmmdigeciphglaaGreatDoor
