/- Facts and walks for the statement. -/
import Derived.Test.YtmmdigeciphglaaGreatDoorPzB26
import Derived.Test.YtmmdigeciphglaaGreatDoorPzP00
import Derived.Lib.Bytealg
import Derived.Lib.ItoaNum
import Derived.Lib.ParseIntBCases
import Derived.Shelf.Strings.Builder1
import Derived.Shelf.Strings.Builder2
import Derived.Shelf.Strings.OnBuilder
import Derived.Shelf.Strings.Trim
import Derived.Shelf.Small.Utf8
import Derived.Shelf.Small.Strs
import Derived.Shelf.Small.Wraps
import Derived.Shelf.Strings.BuilderF
import Derived.Shelf.Strings.BuilderK
import Derived.Shelf.Strconv.Itoa0
import Derived.Shelf.Strconv.Itoa1
import Derived.Shelf.LaysM
import Derived.Shelf.Strconv.Itoa2
import Derived.Shelf.Strconv.Itoa3
import Derived.Shelf.Strconv.Itoa4
import Derived.Shelf.Strconv.ParseIntEmpty
import Derived.Shelf.Strconv.Clone
import Derived.Shelf.Strconv.SyntaxError
import Derived.Shelf.LaysC
import Derived.Shelf.Strconv.ToError
import Derived.Shelf.Strconv.Lower
import Derived.Shelf.Strconv.ParseUint10
import Derived.Shelf.Strconv.ParseUint10Empty
import Derived.Shelf.Strconv.ParseUint10Any
import Derived.Shelf.Strconv.ParseInt10
import Derived.Shelf.Strconv.RangeError
import Derived.Shelf.Strconv.ToErrorRange
import Derived.Shelf.Strconv.ParseUintEmpty
import Derived.Shelf.Strconv.ParseUint10b64
import Derived.Shelf.Strconv.ParseUint10b32
import Derived.Shelf.Strconv.ParseUint10b16
import Derived.Shelf.Strconv.ParseUint10b8
import Derived.Shelf.Strconv.ParseUint10At
import Derived.Shelf.Strconv.ParseInt10At64
import Derived.Shelf.Strconv.ParseInt10At32
import Derived.Shelf.Strconv.ParseInt10At16
import Derived.Shelf.Strconv.ParseInt10At8
import Derived.Shelf.Strconv.ParseInt10All
import Derived.Shelf.Strconv.ParseIntPublic10
import Derived.Shelf.Strconv.ErrVarParseInt
import Derived.Shelf.Strings.Search1
import Derived.Shelf.Strings.Prefix
import Derived.Shelf.Strings.Runes
import Derived.Shelf.Strings.AsciiSet
import Derived.Shelf.Unicode.DecodeSlow
import Derived.Shelf.Unicode.DecodeAny
import Derived.Test.YtmmdigeciphglaaGreatDoorProg
import Derived.Laws.EntriesVeiled
import Derived.Lib.IndexLaws
import Derived.Test.YtmmdigeciphglaaGreatDoorPzP01
import Derived.WalkKit
import Derived.WalkLawsBesides
import Derived.Outline
import Derived.Handy
import Derived.Lib.OthersKept
import Derived.Lib.Hide
import Derived.WalkSmall
import Derived.Deep.DeepFit
import Derived.Deep.QuietTactic
import Derived.BigQuiet
import Derived.WalkSpells
import Derived.IntWalk
import Derived.Lib.CutLaws
import Derived.Test.YtmmdigeciphglaaGreatDoorChecked
import Derived.LaidEql
import Derived.Stop.Asserts
import Derived.RowKitTokens
import Derived.Lib.SmallJoins
import Derived.Lib.LaidTab
import Derived.Deep.RegionLaw
import Derived.Deep.CutRange
import Derived.StillTailTactics
import Derived.Laws.Externs
import Derived.Lib.FrozenHead2
import Derived.Lib.UnsafeStr
import Derived.Deep.RegionWith
import Derived.Deep.DeepMust
import Derived.Deep.RegionHeld
namespace Go.Proofs.YtmmdigeciphglaaGreatDoor
open Go.RowKit Ex
set_option maxHeartbeats 2000000 in
set_option maxRecDepth 100000 in
theorem rtext_any (B : Nat) (w : World) (A : Option Addr) (c : Nat) (ls : List Lx.T) (h : ToR w B A (ls.map mtk)) (hc : ls.length ≤ c) (i : Nat) :
    Calls Tryz.prog 64 #[.slice A ls.length c, .int .i64 (i : Int)] w fun e w' => e = .returned (.string ⟨(tkAt ls i).2.1.toArray⟩) ∧ w' = w := by
  obtain ⟨n, hn⟩ : ∃ n, n = ls.length := ⟨_, rfl⟩
  by_cases hi : i < ls.length
  · rw [tkAt_lt hi]
    obtain ⟨g, o, e, hg, c0, c1, c2⟩ := h i (by rw [List.length_map]; exact hi)
    subst e
    rw [List.getElem_map] at c0 c1 c2
    generalize ls[i] = t at *
    obtain ⟨tk, tx, tp⟩ := t
    simp only
    change w.cell? ⟨g, o + i * 3 + 1, none⟩ = some (.string ⟨tx.toArray⟩) at c1
    generalize (⟨tx.toArray⟩ : ByteArray) = N at *
    have hi' : (i : Int) < (n : Int) := by omega
    have hcI : (n : Int) ≤ (c : Int) := by omega
    rw [← hn]
    clear h hc hi hn c0 c2 hg
    go_enter Tryz.func64, Tryz.ntmps64
    go_wp2
    go_ret
    exact ⟨rfl, rfl⟩
  · rw [tkAt_end (by omega)]
    have hi' : ¬ (i : Int) < (n : Int) := by omega
    rw [← hn]
    clear h hc hi hn
    go_enter Tryz.func64, Tryz.ntmps64
    go_wp2
    go_ret
    exact ⟨rfl, rfl⟩
set_option maxHeartbeats 2000000 in
set_option maxRecDepth 100000 in
theorem rname_any (B : Nat) (w : World) (A : Option Addr) (c : Nat) (ls : List Lx.T) (h : ToR w B A (ls.map mtk)) (hc : ls.length ≤ c) (i : Nat) :
    Calls Tryz.prog 65 #[.slice A ls.length c, .int .i64 (i : Int)] w fun e w' => e = .returned (.bool (decide ((tkAt ls i).1 = 2))) ∧ w' = w := by
  obtain ⟨n, hn⟩ : ∃ n, n = ls.length := ⟨_, rfl⟩
  by_cases hi : i < ls.length
  · rw [tkAt_lt hi]
    obtain ⟨g, o, e, hg, c0, c1, c2⟩ := h i (by rw [List.length_map]; exact hi)
    subst e
    rw [List.getElem_map] at c0 c1 c2
    generalize ls[i] = t at *
    obtain ⟨tk, tx, tp⟩ := t
    simp only
    change w.cell? ⟨g, o + i * 3, none⟩ = some (.int .u8 tk) at c0
    have hi' : (i : Int) < (n : Int) := by omega
    have hcI : (n : Int) ≤ (c : Int) := by omega
    have hd : (tk == 2) = decide (tk = 2) := by
      by_cases e : tk = 2
      · rw [e]; rfl
      · rw [decide_eq_false e, beq_eq_false_iff_ne.2 e]
    rw [← hn, ← hd]
    clear h hc hi hn c1 c2 hg hd
    go_enter Tryz.func65, Tryz.ntmps65
    go_wp2
    go_ret
    exact ⟨rfl, rfl⟩
  · rw [tkAt_end (by omega)]
    have hi' : ¬ (i : Int) < (n : Int) := by omega
    rw [← hn]
    clear h hc hi hn
    go_enter Tryz.func65, Tryz.ntmps65
    go_wp2
    go_ret
    exact ⟨rfl, rfl⟩
end Go.Proofs.YtmmdigeciphglaaGreatDoor
namespace Go.Proofs.YtmmdigeciphglaaGreatDoor
open Ex
namespace Ex
theorem right_iff (l : List Nd) : bg l.length l ((l.length : Int) - 1) = 0 ↔ dep l ≠ 0 := by
  constructor
  · intro h
    obtain ⟨x, s, h1, h2, h3, h4⟩ := bg_tells (l := l) l.length ((l.length : Int) - 1) (by rw [h]; exact Int.le_refl _)
    rw [h] at h1
    obtain rfl : s = 0 := by omega
    have h5 := sz_pos x
    have hl : l = flat x 0 := by
      have := h3.1
      rw [List.drop_zero, List.take_of_length_le (by omega)] at this
      exact this
    rw [hl, dep_flat h4]
    have := dp_pos x
    omega
  · intro h
    obtain ⟨x, h1, h2, _⟩ := dep_row h
    have hl : l.length = sz x := by rw [h2, flat_len]
    have ha : At l 0 x := ⟨by rw [List.drop_zero, ← hl, List.take_length, h2], by omega⟩
    have := bg_at x 0 l.length ha h1 (by omega)
    rw [Nat.zero_add, ← hl] at this
    exact this
def pl3 (n : Nd) : Nat → Int
  | 0 => n.a
  | 1 => n.b
  | _ => n.c
def fin3 (bgf : Int → Int) (n : Nd) : Nat → Int → Int
  | 0, last => last + 1
  | j + 1, last => match part bgf (parts n.op) j (pl3 n j) last with
    | none => -1
    | some l' => fin3 bgf n j l'
theorem bg_fin {f : Nat} {l : List Nd} {i : Nat} (hi : i < l.length) (hr : right l[i] = true) : bg (f + 1) l i = fin3 (bg f l) l[i] 3 ((i : Int) - 1) := by
  have e : l[(i : Int).toNat]? = some l[i] := List.getElem?_eq_getElem hi
  show (if (i : Int) < 0 then (-1 : Int) else _) = _
  rw [if_neg (by omega), e]
  show (if right l[i] = false then (-1 : Int) else _) = _
  rw [if_neg (by rw [hr]; decide)]
  unfold fin3 fin3 fin3 fin3
  simp only [pl3]
  cases part (bg f l) (parts l[i].op) 2 l[i].c ((i : Int) - 1) with
  | none => rfl
  | some l2 =>
    simp only
    cases part (bg f l) (parts l[i].op) 1 l[i].b l2 with
    | none => rfl
    | some l1 =>
      simp only
      cases part (bg f l) (parts l[i].op) 0 l[i].a l1 with
      | none => rfl
      | some l0 => rfl
theorem bg_neg {f : Nat} {l : List Nd} {i : Int} (hi : i < 0) : bg f l i = -1 := by
  cases f with
  | zero => rfl
  | succ f => exact if_pos hi
theorem bg_past {f : Nat} {l : List Nd} {i : Nat} (hi : l.length ≤ i) : bg f l i = -1 := by
  cases f with
  | zero => rfl
  | succ f =>
    show (if (i : Int) < 0 then (-1 : Int) else match l[(i : Int).toNat]? with | none => -1 | some n => _) = _
    rw [if_neg (by omega), List.getElem?_eq_none (by simpa using hi)]
theorem bg_wrong {f : Nat} {l : List Nd} {i : Nat} (hi : i < l.length) (hr : right l[i] = false) : bg f l i = -1 := by
  cases f with
  | zero => rfl
  | succ f =>
    have e : l[(i : Int).toNat]? = some l[i] := List.getElem?_eq_getElem hi
    show (if (i : Int) < 0 then (-1 : Int) else _) = _
    rw [if_neg (by omega), e]
    exact if_pos hr
theorem fin_off {bgf : Int → Int} {n : Nd} {j : Nat} {last : Int} (h1 : parts n.op ≤ j) (h2 : pl3 n j = -1) : fin3 bgf n (j + 1) last = fin3 bgf n j last := by
  have e : part bgf (parts n.op) j (pl3 n j) last = some last := (if_pos h1).trans (if_pos h2)
  show (match part bgf (parts n.op) j (pl3 n j) last with | none => (-1 : Int) | some l' => fin3 bgf n j l') = _
  rw [e]
theorem fin_off_no {bgf : Int → Int} {n : Nd} {j : Nat} {last : Int} (h1 : parts n.op ≤ j) (h2 : pl3 n j ≠ -1) : fin3 bgf n (j + 1) last = -1 := by
  have e : part bgf (parts n.op) j (pl3 n j) last = none := (if_pos h1).trans (if_neg h2)
  show (match part bgf (parts n.op) j (pl3 n j) last with | none => (-1 : Int) | some l' => fin3 bgf n j l') = _
  rw [e]
theorem fin_no {bgf : Int → Int} {n : Nd} {j : Nat} {last : Int} (h1 : ¬ parts n.op ≤ j) (h2 : pl3 n j ≠ last) : fin3 bgf n (j + 1) last = -1 := by
  have e : part bgf (parts n.op) j (pl3 n j) last = none := (if_neg h1).trans (if_neg h2)
  show (match part bgf (parts n.op) j (pl3 n j) last with | none => (-1 : Int) | some l' => fin3 bgf n j l') = _
  rw [e]
theorem fin_neg {bgf : Int → Int} {n : Nd} {j : Nat} {last : Int} (h1 : ¬ parts n.op ≤ j) (h2 : pl3 n j = last) (h3 : bgf last < 0) : fin3 bgf n (j + 1) last = -1 := by
  have e : part bgf (parts n.op) j (pl3 n j) last = none := (if_neg h1).trans ((if_pos h2).trans (if_pos h3))
  show (match part bgf (parts n.op) j (pl3 n j) last with | none => (-1 : Int) | some l' => fin3 bgf n j l') = _
  rw [e]
theorem fin_on {bgf : Int → Int} {n : Nd} {j : Nat} {last : Int} (h1 : ¬ parts n.op ≤ j) (h2 : pl3 n j = last) (h3 : ¬ bgf last < 0) : fin3 bgf n (j + 1) last = fin3 bgf n j (bgf last - 1) := by
  have e : part bgf (parts n.op) j (pl3 n j) last = some (bgf last - 1) := (if_neg h1).trans ((if_pos h2).trans (if_neg h3))
  show (match part bgf (parts n.op) j (pl3 n j) last with | none => (-1 : Int) | some l' => fin3 bgf n j l') = _
  rw [e]
theorem bg_le {l : List Nd} (f : Nat) (i : Int) (h : 0 ≤ bg f l i) : bg f l i ≤ i := by
  obtain ⟨x, s, h1, h2, _, _⟩ := bg_tells f i h
  have := sz_pos x
  omega
end Ex
end Go.Proofs.YtmmdigeciphglaaGreatDoor
namespace Go.Proofs.YtmmdigeciphglaaGreatDoor
open Go.RowKit Ex
theorem rparts_any (o : Int) (w : World) :
    Calls Tryz.prog 109 #[.int .u8 o] w fun e w' => e = .returned (.int .i64 (Ex.parts o : Nat)) ∧ w = w' := by
  unfold Ex.parts
  by_cases h1 : o ≤ 4
  · rw [if_pos h1]
    go_enter Tryz.func109, Tryz.ntmps109
    go_wp2
    go_ret
    exact ⟨rfl, rfl⟩
  · rw [if_neg h1]
    by_cases h2 : o ≤ 6
    · rw [if_pos h2]
      go_enter Tryz.func109, Tryz.ntmps109
      go_wp2
      go_ret
      exact ⟨rfl, rfl⟩
    · rw [if_neg h2]
      by_cases h3 : o ≤ 21
      · rw [if_pos h3]
        go_enter Tryz.func109, Tryz.ntmps109
        go_wp2
        go_ret
        exact ⟨rfl, rfl⟩
      · rw [if_neg h3]
        go_enter Tryz.func109, Tryz.ntmps109
        go_wp2
        go_ret
        exact ⟨rfl, rfl⟩
def lvT : List Int := [0, 10, 10, 10, 10, 9, 9, 8, 8, 8, 7, 7, 6, 6, 6, 6, 5, 5, 4, 3, 2, 1, 10]
def rlv (o : Nat) : Int := lvT.getD o 0
theorem rlv_eq : ∀ o, 1 ≤ o → o ≤ 22 → rlv o = (Ex.lvl o : Nat) := by
  intro o h1 h2
  have : ∀ o : Fin 23, 1 ≤ o.val → rlv o.val = (Ex.lvl o.val : Nat) := by decide
  exact this ⟨o, by omega⟩ h1
theorem rlevel_any (o : Nat) (h : o ≤ 22) (w : World) :
    Calls Tryz.prog 108 #[.int .u8 (o : Int)] w fun e w' => e = .returned (.int .i64 (rlv o)) ∧ Below w.heap.size w w' := by
  have hb := (Below.refl w.heap.size w).alloc (Nat.le_refl _) (.cells (lvT.map (Value.int .i64)).toArray 3)
  have hc : (w.alloc (.cells (lvT.map (Value.int .i64)).toArray 3)).cell? ⟨w.heap.size, o, none⟩ = some (.int .i64 (rlv o)) := by
    rw [World.cell?_alloc_mark w _ _ (0, 0) o, List.getElem?_toArray, List.getElem?_map]
    unfold rlv
    rw [List.getD_eq_getElem?_getD, List.getElem?_eq_getElem (show o < lvT.length by simp [lvT]; omega)]; rfl
  have HB := Lib.hid hb
  have ho : (o : Int) < 23 := by omega
  simp only [lvT, List.map_cons, List.map_nil] at hc
  clear hb
  go_enter Tryz.func108, Tryz.ntmps108
  go_wp2
  go_ret
  exact ⟨rfl, HB.out⟩
def sgT : List ByteArray := [⟨#[]⟩, ⟨#[]⟩, ⟨#[]⟩, ⟨#[]⟩, ⟨#[]⟩, ⟨#[45]⟩, ⟨#[110, 111, 116]⟩, ⟨#[42]⟩, ⟨#[100, 105, 118]⟩, ⟨#[109, 111, 100]⟩, ⟨#[43]⟩, ⟨#[45]⟩, ⟨#[60]⟩, ⟨#[60, 61]⟩, ⟨#[62]⟩, ⟨#[62, 61]⟩, ⟨#[61]⟩, ⟨#[60, 62]⟩, ⟨#[97, 110, 100]⟩, ⟨#[111, 114]⟩, ⟨#[120, 111, 114]⟩, ⟨#[105, 109, 112, 108, 105, 101, 115]⟩]
theorem sgT_eq : ∀ o : Nat, o ≤ 21 → sgT[o]? = some ⟨(Ex.opS o).toArray⟩ := by
  intro o h
  match o, h with
  | 0, _ => rfl | 1, _ => rfl | 2, _ => rfl | 3, _ => rfl | 4, _ => rfl | 5, _ => rfl | 6, _ => rfl | 7, _ => rfl | 8, _ => rfl | 9, _ => rfl | 10, _ => rfl
  | 11, _ => rfl | 12, _ => rfl | 13, _ => rfl | 14, _ => rfl | 15, _ => rfl | 16, _ => rfl | 17, _ => rfl | 18, _ => rfl | 19, _ => rfl | 20, _ => rfl | 21, _ => rfl
  | n + 22, h => omega
theorem rsigns_any (w : World) :
    Calls Tryz.prog 111 #[] w fun e w' => ∃ g, e = .returned (.slice (some ⟨g, 0, none⟩) 22 22) ∧ g < w'.heap.size ∧ (∀ o : Nat, o ≤ 21 → w'.cell? ⟨g, o, none⟩ = some (.string ⟨(Ex.opS o).toArray⟩)) ∧ Below w.heap.size w w' := by
  have hb := (Below.refl w.heap.size w).alloc (Nat.le_refl _) (.cells (sgT.map Value.string).toArray 9)
  have hc : ∀ o : Nat, o ≤ 21 → (w.alloc (.cells (sgT.map Value.string).toArray 9)).cell? ⟨w.heap.size, o, none⟩ = some (.string ⟨(Ex.opS o).toArray⟩) := by
    intro o h
    rw [World.cell?_alloc_mark w _ _ (0, 0) o, List.getElem?_toArray, List.getElem?_map, sgT_eq o h]; rfl
  have H := Lib.hid (And.intro (show w.heap.size < (w.alloc (.cells (sgT.map Value.string).toArray 9)).heap.size by simp) (And.intro hc hb))
  clear hc hb
  go_enter Tryz.func111, Tryz.ntmps111
  go_wp2
  go_ret
  exact ⟨_, rfl, H.out⟩
set_option maxHeartbeats 4000000 in
set_option maxRecDepth 100000 in
theorem rright_any (n : Nd) (w : World) (hn : n.nm.length ≤ 1000000) (ho : 0 ≤ n.op) :
    Calls Tryz.prog 144 #[.agg #[.int .u8 n.op, .int .i64 n.num, .string ⟨n.nm.toArray⟩, .int .i64 n.a, .int .i64 n.b, .int .i64 n.c]] w fun e w' => e = .returned (.bool (Ex.right n)) ∧ Below w.heap.size w w' := by
  obtain ⟨op, num, nm, na, nb, nc⟩ := n
  simp only at hn ho ⊢
  obtain ⟨N, hN⟩ : ∃ N : ByteArray, N = ⟨nm.toArray⟩ := ⟨_, rfl⟩
  rw [← hN]
  obtain ⟨W1, hW1⟩ : ∃ W1, W1 = w.alloc (.cells #[.int .u8 op, .int .i64 num, .string N, .int .i64 na, .int .i64 nb, .int .i64 nc] 104) := ⟨_, rfl⟩
  have hb1 : Below w.heap.size w W1 := by rw [hW1]; exact (Below.refl _ _).alloc (Nat.le_refl _) _
  have HW1 := Lib.hid hW1
  have HB1 := Lib.hid hb1
  obtain ⟨R, hR⟩ : ∃ R, R = Ex.right ⟨op, num, nm, na, nb, nc⟩ := ⟨_, rfl⟩
  rw [← hR]
  unfold Ex.right at hR
  simp only at hR
  have hnm : N.toList = nm := by rw [Lib.toList_data, hN]
  have hNs : N.size ≤ 1000000000 := by rw [Lib.size_eq, ← Lib.toList_data, hnm]; omega
  have HIS := Lib.hid (ris_any N W1 hNs)
  rw [← Lib.toList_data, hnm] at HIS
  have hemp : N.toList.isEmpty = decide (nm = []) := by rw [hnm]; cases nm <;> rfl
  have HR := Lib.hid hR
  clear hW1 hb1 hR hn hNs hN
  by_cases a1 : op < 1
  · have HE := Lib.hid (show R = false from by rw [HR.out, decide_eq_false (show ¬ 1 ≤ op by omega)]; rfl)
    clear hnm hemp
    go_enter Tryz.func144, Tryz.ntmps144
    go_wp2_with fail
    go_wp2
    rw [← HW1.out]
    go_ret
    exact ⟨by rw [HE.out]; rfl, HB1.out⟩
  · by_cases a2 : op > 22
    · have HE := Lib.hid (show R = false from by rw [HR.out, decide_eq_false (show ¬ op ≤ 22 by omega)]; simp)
      clear hnm hemp
      go_enter Tryz.func144, Tryz.ntmps144
      go_wp2_with fail
      go_wp2
      rw [← HW1.out]
      go_ret
      exact ⟨by rw [HE.out]; rfl, HB1.out⟩
    · by_cases k1 : op = 1
      · subst k1
        by_cases k3 : num < 0
        · have HE := Lib.hid (show R = false from by rw [HR.out, decide_eq_false (show ¬ 0 ≤ num by omega)]; simp)
          clear hnm hemp
          go_enter Tryz.func144, Tryz.ntmps144
          go_wp2_with fail
          go_wp2
          rw [← HW1.out]
          go_ret
          exact ⟨by rw [HE.out]; rfl, HB1.out⟩
        · have HE := Lib.hid (show R = decide (nm = []) from by rw [HR.out, decide_eq_true (show 0 ≤ num by omega)]; simp)
          cases hd : decide (nm = []) with
          | true =>
            rw [hd] at hemp HE
            clear hnm hd
            go_enter Tryz.func144, Tryz.ntmps144
            go_wp2_with fail
            go_wp2
            rw [← HW1.out]
            go_ret
            exact ⟨by rw [HE.out]; rfl, HB1.out⟩
          | false =>
            rw [hd] at hemp HE
            clear hnm hd
            go_enter Tryz.func144, Tryz.ntmps144
            go_wp2_with fail
            go_wp2
            rw [← HW1.out]
            go_ret
            exact ⟨by rw [HE.out]; rfl, HB1.out⟩
      · have k1' : (op == 1) = false := by simpa using k1
        have k1'' : (op != 1) = true := by simp [bne, k1']
        by_cases k3 : num = 0
        · subst k3
          have e1 : decide (1 ≤ op) = true := decide_eq_true (by omega)
          have e2 : decide (op ≤ 22) = true := decide_eq_true (by omega)
          have e3 : decide (op = 1) = false := decide_eq_false k1
          rw [e1, e2, e3] at HR
          clear e1 e2 e3
          by_cases k2 : op = 2
          · subst k2
            obtain ⟨z, hz⟩ : ∃ z, z = Lx.is nm := ⟨_, rfl⟩
            rw [← hz] at HIS
            have HE := Lib.hid (show R = decide (z = 2) from by rw [HR.out, hz]; simp)
            clear hnm hemp hz
            go_enter Tryz.func144, Tryz.ntmps144
            go_wp2_with fail
            rw [← HW1.out]
            refine HIS.out.mono ?_
            rintro e w2 ⟨rfl, hb2⟩
            have HB2 := Lib.hid (HB1.out.trans (hb2.mono HB1.out.size))
            clear hb2
            by_cases hz2 : z = 2
            · subst hz2
              go_wp2
              go_ret
              exact ⟨by rw [HE.out]; rfl, HB2.out⟩
            · have hz2' : (z == 2) = false := by simpa using hz2
              go_wp2
              go_ret
              exact ⟨by rw [HE.out, decide_eq_false hz2]; rfl, HB2.out⟩
          · have k2' : (op == 2) = false := by simpa using k2
            have HE := Lib.hid (show R = decide (nm = []) from by rw [HR.out]; simp [k2])
            cases hd : decide (nm = []) with
            | true =>
              rw [hd] at hemp HE
              clear hnm hd
              go_enter Tryz.func144, Tryz.ntmps144
              go_wp2_with fail
              go_wp2
              rw [← HW1.out]
              go_ret
              exact ⟨by rw [HE.out]; rfl, HB1.out⟩
            | false =>
              rw [hd] at hemp HE
              clear hnm hd
              go_enter Tryz.func144, Tryz.ntmps144
              go_wp2_with fail
              go_wp2
              rw [← HW1.out]
              go_ret
              exact ⟨by rw [HE.out]; rfl, HB1.out⟩
        · have k3' : (num != 0) = true := by simpa using k3
          have HE := Lib.hid (show R = false from by rw [HR.out, decide_eq_false k1, decide_eq_false k3]; simp)
          clear hnm hemp
          go_enter Tryz.func144, Tryz.ntmps144
          go_wp2_with fail
          go_wp2
          rw [← HW1.out]
          go_ret
          exact ⟨by rw [HE.out]; rfl, HB1.out⟩
end Go.Proofs.YtmmdigeciphglaaGreatDoor
namespace Go.Proofs.YtmmdigeciphglaaGreatDoor
open Go.RowKit Ex
def FitR (l : List Nd) : Prop := l.length ≤ 1000000 ∧ ∀ n ∈ l, n.nm.length ≤ 1000000 ∧ 0 ≤ n.op
theorem NdR.on_ {w w' : World} {A : Option Addr} {l : List Nd} (h : NdR w w.heap.size A l) (hb : Below w.heap.size w w') : NdR w' w'.heap.size A l := (h.below hb).more hb.size
set_option maxHeartbeats 8000000 in
set_option maxRecDepth 100000 in
theorem rbegin_any (A : Option Addr) (c : Nat) (l : List Nd) (hc : l.length ≤ c) (hf : FitR l) : ∀ (f : Nat) (a : Int) (w : World), NdR w w.heap.size A l → a < f → -1 ≤ a →
    Calls Tryz.prog 116 #[.slice A l.length c, .int .i64 a] w fun e w' => e = .returned (.int .i64 (bg f l a)) ∧ Below w.heap.size w w' := by
  have hcI : (l.length : Int) ≤ (c : Int) := by omega
  intro f
  induction f with
  | zero =>
    intro a w hl ha ha1
    have ha' : a < 0 := by omega
    rw [bg_neg ha']
    clear hl ha hf
    go_enter Tryz.func116, Tryz.ntmps116
    go_wp2
    go_ret
    exact ⟨rfl, Below.refl _ _⟩
  | succ f ih =>
    intro a w hl ha ha1
    by_cases ha0 : a < 0
    · rw [bg_neg ha0]
      clear hl ha ih hf
      go_enter Tryz.func116, Tryz.ntmps116
      go_wp2
      go_ret
      exact ⟨rfl, Below.refl _ _⟩
    · obtain ⟨i, rfl⟩ : ∃ i : Nat, a = i := ⟨a.toNat, by omega⟩
      by_cases hil : i < l.length
      · have hil' : ¬ (i : Int) ≥ (l.length : Int) := by omega
        have hil2 : (i : Int) < (l.length : Int) := by omega
        obtain ⟨g, o, rfl, hg, q0, q1, q2, q3, q4, q5⟩ := hl i hil
        have HR1 := Lib.hid (fun w0 => rright_any l[i] w0 (hf.2 _ (List.getElem_mem hil)).1 (hf.2 _ (List.getElem_mem hil)).2)
        obtain ⟨R, hR⟩ : ∃ R, R = bg (f + 1) l i := ⟨_, rfl⟩
        rw [← hR]
        have hop := (hf.2 _ (List.getElem_mem hil)).2
        cases hr : Ex.right l[i] with
        | false =>
          rw [hr] at HR1
          have HE := Lib.hid (show R = -1 from by rw [hR, bg_wrong hil hr])
          generalize l[i] = X at *
          obtain ⟨op, num, nm, na, nb, nc⟩ := X
          simp only at q0 q1 q2 q3 q4 q5 HR1
          generalize (⟨nm.toArray⟩ : ByteArray) = N at *
          clear hR hr hil ih hl hf
          go_enter Tryz.func116, Tryz.ntmps116
          go_wp2_with fail
          refine (HR1.out w).mono ?_
          rintro e w1 ⟨rfl, hb1⟩
          have HB1 := Lib.hid hb1
          clear hb1
          go_wp2
          go_ret
          exact ⟨by rw [HE.out]; rfl, HB1.out⟩
        | true =>
          rw [hr] at HR1
          have HF := Lib.hid (show R = fin3 (bg f l) l[i] 3 ((i : Int) - 1) from by rw [hR, bg_fin hil hr])
          have HL := Lib.hid hl
          have HIH := Lib.hid (fun (a : Int) (wr : World) (hb : Below w.heap.size w wr) (h1 : a < f) (h2 : -1 ≤ a) => ih a wr (HL.out.on_ hb) h1 h2)
          have hif : (i : Int) - 1 < f := by omega
          have hi6 : (i : Int) < 1000000 := by have := hf.1; omega
          have HI6 := Lib.hid hi6
          have HQ := Lib.hid (fun (wr : World) (hb : Below w.heap.size w wr) => (⟨(hb.cell (p := ⟨g, _, none⟩) hg).trans q0, (hb.cell (p := ⟨g, _, none⟩) hg).trans q1, (hb.cell (p := ⟨g, _, none⟩) hg).trans q2, (hb.cell (p := ⟨g, _, none⟩) hg).trans q3, (hb.cell (p := ⟨g, _, none⟩) hg).trans q4, (hb.cell (p := ⟨g, _, none⟩) hg).trans q5⟩ : _ ∧ _ ∧ _ ∧ _ ∧ _ ∧ _))
          generalize l[i] = X at *
          obtain ⟨op, num, nm, na, nb, nc⟩ := X
          simp only at q0 q1 q2 q3 q4 q5 HR1 hop HQ
          generalize (⟨nm.toArray⟩ : ByteArray) = N at *
          have HPT := Lib.hid (fun w0 => rparts_any op w0)
          clear hR hr hil ih hl hf hop
          go_enter Tryz.func116, Tryz.ntmps116
          go_wp2_with fail
          refine (HR1.out w).mono ?_
          rintro e w1 ⟨rfl, hb1⟩
          obtain ⟨p0, p1, p2, p3, p4, p5⟩ := HQ.out w1 hb1
          have hg1 : g < w1.heap.size := Nat.lt_of_lt_of_le hg hb1.size
          obtain ⟨W2, hW2⟩ : ∃ W2, W2 = (w1.alloc (.cells #[.int .u8 op, .int .i64 num, .string N, .int .i64 na, .int .i64 nb, .int .i64 nc] 104)).alloc (.cells #[.int .i64 na, .int .i64 nb, .int .i64 nc] 3) := ⟨_, rfl⟩
          have hz : (w1.alloc (.cells #[.int .u8 op, .int .i64 num, .string N, .int .i64 na, .int .i64 nb, .int .i64 nc] 104)).heap.size = w1.heap.size + 1 := by simp
          have hb2 : Below w.heap.size w W2 := by rw [hW2]; exact (hb1.alloc hb1.size _).alloc (by rw [hz]; have := hb1.size; omega) _
          have k1 : IsBlk W2 w1.heap.size 104 #[.int .u8 op, .int .i64 num, .string N, .int .i64 na, .int .i64 nb, .int .i64 nc] := by
            rw [hW2]; exact (IsBlk.new _ _ _).below ((Below.refl _ _).alloc (Nat.le_refl _) _) (by simp)
          have k2 : IsBlk W2 (w1.heap.size + 1) 3 #[.int .i64 na, .int .i64 nb, .int .i64 nc] := by rw [hW2, ← hz]; exact IsBlk.new _ _ _
          have HK := Lib.hid (And.intro k1 (And.intro k2 hb2))
          have HW2 := Lib.hid hW2
          clear hW2 hz k1 k2 hb2 hb1
          go_wp2
          rw [← HW2.out]
          go_loopw [7, 8] (fun lv kv wr => ∃ (last : Int) (j : Nat), lv = .int .i64 last ∧ kv = .int .i64 ((j : Int) - 1) ∧ j ≤ 3 ∧ -1 ≤ last ∧ last < (i : Int) ∧ Hid (R = fin3 (bg f l) ⟨op, num, nm, na, nb, nc⟩ j last ∧ Below W2.heap.size W2 wr)) (fun _ kv _ => (intOf kv + 1).toNat)
          case atStart => exact ⟨(i : Int) - 1, 3, by go_num, by go_num, by omega, by omega, by omega, Lib.hid ⟨HF.out, Below.refl _ _⟩⟩
          case round =>
            clear HF q0 q1 q2 q3 q4 q5 p0 p1 p2 p3 p4 p5
            obtain ⟨last, j, rfl, rfl, hj, hl1, hl2, HI⟩ := hrel
            have HBW := Lib.hid (HK.out.2.2.trans (HI.out.2.mono HK.out.2.2.size))
            cases j with
            | zero =>
              have hneg : ¬ ((0 : Nat) : Int) - 1 ≥ 0 := by omega
              have HE := Lib.hid (show R = last + 1 from HI.out.1)
              clear HI
              go_wp2
              go_ret
              exact ⟨by rw [HE.out]; rfl, HBW.out⟩
            | succ j =>
              have hkv : ((j + 1 : Nat) : Int) - 1 = (j : Int) := by omega
              have hnn : (j : Int) ≥ 0 := by omega
              have hj3 : (j : Int) < 3 := by omega
              have hc0 : wr.cell? ⟨w1.heap.size, 0, none⟩ = some (.int .u8 op) := (HK.out.1.below HI.out.2 HK.out.1.lt).at_ 0
              have hcj : wr.cell? ⟨w1.heap.size + 1, j, none⟩ = some (.int .i64 (pl3 ⟨op, num, nm, na, nb, nc⟩ j)) := by
                rw [(HK.out.2.1.below HI.out.2 HK.out.2.1.lt).at_ j]
                match j, (show j < 3 by omega) with
                | 0, _ => rfl
                | 1, _ => rfl
                | 2, _ => rfl
              rw [hkv]
              have HOFF := Lib.hid (fun h1 h2 => HI.out.1.trans (fin_off (bgf := bg f l) (n := ⟨op, num, nm, na, nb, nc⟩) (j := j) (last := last) h1 h2))
              have HOFN := Lib.hid (fun h1 h2 => HI.out.1.trans (fin_off_no (bgf := bg f l) (n := ⟨op, num, nm, na, nb, nc⟩) (j := j) (last := last) h1 h2))
              have HNO := Lib.hid (fun h1 h2 => HI.out.1.trans (fin_no (bgf := bg f l) (n := ⟨op, num, nm, na, nb, nc⟩) (j := j) (last := last) h1 h2))
              have HNEG := Lib.hid (fun h1 h2 h3 => HI.out.1.trans (fin_neg (bgf := bg f l) (n := ⟨op, num, nm, na, nb, nc⟩) (j := j) (last := last) h1 h2 h3))
              have HON := Lib.hid (fun h1 h2 h3 => HI.out.1.trans (fin_on (bgf := bg f l) (n := ⟨op, num, nm, na, nb, nc⟩) (j := j) (last := last) h1 h2 h3))
              simp only at HOFF HOFN HNO HNEG HON
              obtain ⟨p, hp⟩ : ∃ p, p = pl3 ⟨op, num, nm, na, nb, nc⟩ j := ⟨_, rfl⟩
              obtain ⟨pn, hpn⟩ : ∃ pn, pn = Ex.parts op := ⟨_, rfl⟩
              rw [← hp] at hcj HOFF HOFN HNO HNEG HON
              rw [← hpn] at HPT HOFF HOFN HNO HNEG HON
              have HIB := Lib.hid HI.out.2
              have HJ := Lib.hid hj
              clear HI hp hpn hkv hj
              go_wp2_with fail
              refine (HPT.out wr).mono ?_
              rintro e w3 ⟨rfl, rfl⟩
              by_cases hpj : pn ≤ j
              · have hpj' : (j : Int) ≥ (pn : Int) := by omega
                by_cases hp1 : p = -1
                · subst hp1
                  have HE := Lib.hid (HOFF.out hpj rfl)
                  clear HOFF HOFN HNO HNEG HON hpj
                  go_wp2
                  go_roundw
                  case rel => exact ⟨last, j, rfl, by go_num, by have := HJ.out; omega, hl1, hl2, Lib.hid ⟨HE.out, HIB.out⟩⟩
                  case measure => simp [intOf]
                · have hp1' : (p != -1) = true := by simpa using hp1
                  have HE := Lib.hid (HOFN.out hpj hp1)
                  clear HOFF HOFN HNO HNEG HON hpj hp1
                  go_wp2
                  go_ret
                  exact ⟨by rw [HE.out]; rfl, HBW.out⟩
              · have hpj' : (j : Int) < (pn : Int) := by omega
                by_cases hp1 : p = last
                · subst hp1
                  have HCB := Lib.hid (HIH.out p wr HBW.out (by omega) hl1)
                  have HNEG2 := Lib.hid (HNEG.out hpj rfl)
                  have HON2 := Lib.hid (HON.out hpj rfl)
                  clear HOFF HOFN HNO HNEG HON
                  have HBL := Lib.hid (show 0 ≤ bg f l p → bg f l p ≤ p from bg_le f p)
                  obtain ⟨fr, hfr⟩ : ∃ fr, fr = bg f l p := ⟨_, rfl⟩
                  rw [← hfr] at HCB HBL HNEG2 HON2
                  clear hfr
                  go_wp2_with fail
                  refine HCB.out.mono ?_
                  rintro e w4 ⟨rfl, hb4⟩
                  have HB4 := Lib.hid (And.intro (HBW.out.trans (hb4.mono HBW.out.size)) (HIB.out.trans (hb4.mono HIB.out.size)))
                  clear hb4
                  by_cases hf0 : fr < 0
                  · have HE := Lib.hid (HNEG2.out hf0)
                    clear HNEG2 HON2
                    go_wp2
                    go_ret
                    exact ⟨by rw [HE.out]; rfl, HB4.out.1⟩
                  · have HE := Lib.hid (HON2.out (by first | exact hf0 | omega))
                    have hfl : fr ≤ p := HBL.out (by omega)
                    have hf1 : decide (fr < 0) = false := decide_eq_false hf0
                    clear HNEG2 HON2
                    go_wp2
                    go_roundw
                    case rel => exact ⟨fr - 1, j, by go_num, by go_num, by have := HJ.out; omega, by omega, by omega, Lib.hid ⟨HE.out, HB4.out.2⟩⟩
                    case measure => simp [intOf]
                · have hp1' : (p != last) = true := by simpa using hp1
                  have HE := Lib.hid (HNO.out hpj hp1)
                  clear HOFF HOFN HNO HNEG HON hp1
                  go_wp2
                  go_ret
                  exact ⟨by rw [HE.out]; rfl, HBW.out⟩
      · have hil' : (i : Int) ≥ (l.length : Int) := by omega
        rw [bg_past (by omega)]
        clear hl ha ih hf hil
        go_enter Tryz.func116, Tryz.ntmps116
        go_wp2
        go_ret
        exact ⟨rfl, Below.refl _ _⟩
end Go.Proofs.YtmmdigeciphglaaGreatDoor
namespace Go.Proofs.YtmmdigeciphglaaGreatDoor
open Go.RowKit Ex
def DpC (A : Option Addr) (l : List Nd) (c : Nat) (w : World) (p : Int) (d : Nat) : Prop := ∀ w', Below w.heap.size w w' →
    Calls Tryz.prog 117 #[.slice A l.length c, .int .i64 p] w' fun e w'' => e = .returned (.int .i64 (d : Nat)) ∧ Below w'.heap.size w' w''
theorem rdepth_none (A : Option Addr) (l : List Nd) (c : Nat) (w : World) : DpC A l c w (-1) 0 := fun w' _ => by
  go_enter Tryz.func117, Tryz.ntmps117
  go_wp2
  go_ret
  exact ⟨rfl, Below.refl _ _⟩
set_option maxHeartbeats 4000000 in
set_option maxRecDepth 100000 in
theorem rdepth_step (A : Option Addr) (l : List Nd) (c : Nat) (hc : l.length ≤ c) (w : World) (hl : NdR w w.heap.size A l) (i : Nat) (hi : i < l.length) (da db dc : Nat) (hd : da ≤ 1000000000 ∧ db ≤ 1000000000 ∧ dc ≤ 1000000000)
    (ha : DpC A l c w l[i].a da) (hb : DpC A l c w l[i].b db) (hcc : DpC A l c w l[i].c dc) : DpC A l c w i (1 + max da (max db dc)) := fun w0 hb0 => by
  obtain ⟨g, o, rfl, hg, -, -, -, q3, q4, q5⟩ := hl i hi
  have HA := Lib.hid (fun w1 (h1 : Below w0.heap.size w0 w1) => ha w1 (hb0.trans (h1.mono hb0.size)))
  have HB := Lib.hid (fun w1 (h1 : Below w0.heap.size w0 w1) => hb w1 (hb0.trans (h1.mono hb0.size)))
  have HC := Lib.hid (fun w1 (h1 : Below w0.heap.size w0 w1) => hcc w1 (hb0.trans (h1.mono hb0.size)))
  generalize l[i].a = na at *
  generalize l[i].b = nb at *
  generalize l[i].c = nc at *
  have HS := Lib.hid (fun w1 (h1 : Below w0.heap.size w0 w1) => (show w1.cell? ⟨g, o + i * 6 + 3, none⟩ = some (.int .i64 na) ∧ w1.cell? ⟨g, o + i * 6 + 4, none⟩ = some (.int .i64 nb) ∧ w1.cell? ⟨g, o + i * 6 + 5, none⟩ = some (.int .i64 nc) from by
    have h2 := hb0.trans (h1.mono hb0.size)
    exact ⟨(h2.cell (p := ⟨g, _, none⟩) hg).trans q3, (h2.cell (p := ⟨g, _, none⟩) hg).trans q4, (h2.cell (p := ⟨g, _, none⟩) hg).trans q5⟩))
  have hi' : (i : Int) < (l.length : Int) := by omega
  have hc' : (l.length : Int) ≤ (c : Int) := by omega
  obtain ⟨hd1, hd2, hd3⟩ := hd
  have r1 : decide ((i : Int) < (l.length : Int)) = true := decide_eq_true hi'
  have HV := Lib.hid (show IntKind.i64.wrap (1 + (if (if da < db then (db : Int) else da) < (dc : Int) then (dc : Int) else if da < db then (db : Int) else da)) = ((1 + max da (max db dc) : Nat) : Int) from by
    rw [IntWalk.i64_in _ (by split <;> split <;> omega)]
    split <;> split <;> omega)
  obtain ⟨y3, y4, y5⟩ := HS.out w0.drew (Below.refl _ _).drew
  have HY := Lib.hid (HS.out w0.drew (Below.refl _ _).drew)
  clear hl q3 q4 q5 ha hb hcc hi
  go_enter Tryz.func117, Tryz.ntmps117
  go_wp2_with fail
  go_region_held3 (fun w' => w'.cell? ⟨g, o + i * 6 + 3, none⟩ = some (.int .i64 na) ∧ w'.cell? ⟨g, o + i * 6 + 4, none⟩ = some (.int .i64 nb) ∧ w'.cell? ⟨g, o + i * 6 + 5, none⟩ = some (.int .i64 nc)) (first | with_reducible exact HY.out | exact HS.out _ HQ3.out | exact HS.out _ HQ2.out | exact HS.out _ HQ1.out) (first | (go_at_call 117; refine (HA.out _ (Below.refl _ _).drew).mono ?_; rintro e w1 ⟨rfl, hb⟩; have HQ1 := Lib.hid ((Below.refl w0.heap.size w0).drew.trans hb); clear hb HA) | (go_at_call 117; refine (HB.out _ HQ1.out).mono ?_; rintro e w2 ⟨rfl, hb⟩; have HQ2 := Lib.hid (HQ1.out.trans (hb.mono HQ1.out.size)); clear hb HB) | (go_at_call 117; refine (HC.out _ HQ2.out).mono ?_; rintro e w3 ⟨rfl, hb⟩; have HQ3 := Lib.hid (HQ2.out.trans (hb.mono HQ2.out.size)); clear hb HC))
  generalize (if (if da < db then (db : Int) else da) < (dc : Int) then (dc : Int) else if da < db then (db : Int) else da) = M at *
  go_wp2
  go_ret
  exact ⟨congrArg (fun z => Ending.returned (.int .i64 z)) HV.out, HQ3.out⟩
theorem rdepth_at (A : Option Addr) (l : List Nd) (c : Nat) (hc : l.length ≤ c) (hn : l.length ≤ 1000000) (w : World) (hl : NdR w w.heap.size A l) : ∀ (x : E) (s : Nat), At l s x → DpC A l c w ((s + Ex.sz x : Nat) - 1) (dp x) := by
  have hdp : ∀ x : E, dp x ≤ Ex.sz x := by
    intro x
    induction x with
    | num _ => exact Nat.le_refl _
    | name _ => exact Nat.le_refl _
    | tt => exact Nat.le_refl _
    | ff => exact Nat.le_refl _
    | un _ a ih => simp only [dp, Ex.sz]; omega
    | bin _ a b iha ihb => simp only [dp, Ex.sz]; omega
    | ite a b c iha ihb ihc => simp only [dp, Ex.sz]; omega
  have bd : ∀ (x : E) (s : Nat), At l s x → dp x ≤ 1000000000 := fun x s h => by have := hdp x; have := h.2; omega
  have stp : ∀ (i : Nat) (n : Nd) (da db dc d : Nat), l[i]? = some n → da ≤ 1000000000 ∧ db ≤ 1000000000 ∧ dc ≤ 1000000000 → DpC A l c w n.a da → DpC A l c w n.b db → DpC A l c w n.c dc → d = 1 + max da (max db dc) → DpC A l c w i d := by
    intro i n da db dc d hn hd ha hb hcc e
    obtain ⟨hi, rfl⟩ := List.getElem?_eq_some_iff.1 hn
    subst e
    exact rdepth_step A l c hc w hl i hi da db dc hd ha hb hcc
  have leaf : ∀ (x : E) (s : Nat) (n : Nd), At l s x → Ex.sz x = 1 → dp x = 1 → flat x s = [n] → n.a = -1 → n.b = -1 → n.c = -1 → DpC A l c w ((s + Ex.sz x : Nat) - 1) (dp x) := by
    intro x s n h hs hd hf h1 h2 h3
    have q := h.1
    rw [hs, hf] at q
    have q2 := at_one.1 q
    rw [hs, hd, show ((s + 1 : Nat) : Int) - 1 = (s : Int) by omega]
    exact stp s n 0 0 0 1 q2 (by omega) (by rw [h1]; exact rdepth_none A l c w) (by rw [h2]; exact rdepth_none A l c w) (by rw [h3]; exact rdepth_none A l c w) (by decide)
  intro x
  induction x with
  | num v => intro s h; exact leaf _ _ _ h rfl rfl rfl rfl rfl rfl
  | name v => intro s h; exact leaf _ _ _ h rfl rfl rfl rfl rfl rfl
  | tt => intro s h; exact leaf _ _ _ h rfl rfl rfl rfl rfl rfl
  | ff => intro s h; exact leaf _ _ _ h rfl rfl rfl rfl rfl rfl
  | un op a iha =>
    intro s h
    obtain ⟨ha, q⟩ := at_un h
    have b1 := bd _ _ ha
    rw [show ((s + Ex.sz (.un op a) : Nat) : Int) - 1 = ((s + Ex.sz a : Nat) : Int) by simp only [Ex.sz]; omega]
    exact stp _ _ (dp a) 0 0 _ q (by omega) (iha s ha) (rdepth_none A l c w) (rdepth_none A l c w) (by simp only [dp]; omega)
  | bin op a b iha ihb =>
    intro s h
    obtain ⟨ha, hb, q⟩ := at_bin h
    have b1 := bd _ _ ha
    have b2 := bd _ _ hb
    rw [show ((s + Ex.sz (.bin op a b) : Nat) : Int) - 1 = ((s + Ex.sz a + Ex.sz b : Nat) : Int) by simp only [Ex.sz]; omega]
    exact stp _ _ (dp a) (dp b) 0 _ q (by omega) (iha s ha) (ihb _ hb) (rdepth_none A l c w) (by simp only [dp]; omega)
  | ite a b c' iha ihb ihc =>
    intro s h
    obtain ⟨ha, hb, hcx, q⟩ := at_ite h
    have b1 := bd _ _ ha
    have b2 := bd _ _ hb
    have b3 := bd _ _ hcx
    rw [show ((s + Ex.sz (.ite a b c') : Nat) : Int) - 1 = ((s + Ex.sz a + Ex.sz b + Ex.sz c' : Nat) : Int) by simp only [Ex.sz]; omega]
    exact stp _ _ (dp a) (dp b) (dp c') _ q (by omega) (iha s ha) (ihb _ hb) (ihc _ hcx) (by simp only [dp]; omega)
set_option maxHeartbeats 2000000 in
theorem rRight_any (A : Option Addr) (c : Nat) (l : List Nd) (hc : l.length ≤ c) (hf : FitR l) (w : World) (hl : NdR w w.heap.size A l) :
    Calls Tryz.prog 85 #[.slice A l.length c] w fun e w' => e = .returned (.bool (decide (dep l ≠ 0))) ∧ Below w.heap.size w w' := by
  have HB := Lib.hid (rbegin_any A c l hc hf l.length ((l.length : Int) - 1) w hl (by omega) (by omega))
  have HD := Lib.hid (show decide (dep l ≠ 0) = decide (bg l.length l ((l.length : Int) - 1) = 0) from decide_eq_decide.2 (right_iff l).symm)
  rw [HD.out]
  clear HD
  generalize bg l.length l ((l.length : Int) - 1) = z at *
  obtain ⟨R, hR⟩ : ∃ R, R = decide (z = 0) := ⟨_, rfl⟩
  rw [← hR]
  have HR := Lib.hid hR
  clear hR
  have hn := hf.1
  have hn2 : (l.length : Int) ≤ 1000000 := by omega
  clear hl hf hc hn
  go_enter Tryz.func85, Tryz.ntmps85
  go_wp2_with fail
  refine HB.out.mono ?_
  rintro e w1 ⟨rfl, hb⟩
  by_cases hz : z = 0
  · have HE := Lib.hid (show R = true from by rw [HR.out]; exact decide_eq_true hz)
    subst hz
    go_wp2
    go_ret
    exact ⟨by rw [HE.out]; rfl, hb⟩
  · have hz' : (z == 0) = false := by simpa using hz
    have HE := Lib.hid (show R = false from by rw [HR.out]; exact decide_eq_false hz)
    clear hz
    go_wp2
    go_ret
    exact ⟨by rw [HE.out]; rfl, hb⟩
set_option maxHeartbeats 2000000 in
theorem rDepth_any (A : Option Addr) (c : Nat) (l : List Nd) (hc : l.length ≤ c) (hf : FitR l) (w : World) (hl : NdR w w.heap.size A l) :
    Calls Tryz.prog 86 #[.slice A l.length c] w fun e w' => e = .returned (.int .i64 (dep l : Nat)) ∧ Below w.heap.size w w' := by
  have HR := Lib.hid (rRight_any A c l hc hf w hl)
  have hn := hf.1
  have hn2 : (l.length : Int) ≤ 1000000 := by omega
  by_cases hd : dep l = 0
  · rw [decide_eq_false (fun h => h hd)] at HR
    rw [hd]
    clear hl hf hc hn hd
    go_enter Tryz.func86, Tryz.ntmps86
    go_wp2_with fail
    refine HR.out.mono ?_
    rintro e w1 ⟨rfl, hb⟩
    go_wp2
    go_ret
    exact ⟨rfl, hb⟩
  · rw [decide_eq_true hd] at HR
    obtain ⟨x, h1, h2, h3⟩ := dep_row hd
    have hx : At l 0 x := ⟨by rw [List.drop_zero, h2, ← flat_len x 0, List.take_length], by rw [h2, flat_len]; omega⟩
    have HD := Lib.hid (rdepth_at A l c hc hn w hl x 0 hx)
    have hls : l.length = Ex.sz x := by rw [h2, flat_len]
    rw [Nat.zero_add, ← hls, ← h3] at HD
    generalize dep l = D at *
    clear hl hf hc hn hd h1 h2 h3 hx hls
    go_enter Tryz.func86, Tryz.ntmps86
    go_wp2_with fail
    refine HR.out.mono ?_
    rintro e w1 ⟨rfl, hb⟩
    go_wp2_with fail
    refine (HD.out w1 hb).mono ?_
    rintro e w2 ⟨rfl, hb2⟩
    have hb3 := hb.trans (hb2.mono hb.size)
    go_wp2
    go_ret
    exact ⟨rfl, hb3⟩
end Go.Proofs.YtmmdigeciphglaaGreatDoor
namespace Go.Proofs.YtmmdigeciphglaaGreatDoor
open Go
end Go.Proofs.YtmmdigeciphglaaGreatDoor
namespace Go.Proofs.YtmmdigeciphglaaGreatDoor
open Go.RowKit Ex
end Go.Proofs.YtmmdigeciphglaaGreatDoor
namespace Go.Proofs.YtmmdigeciphglaaGreatDoor
open Go.RowKit Ex
end Go.Proofs.YtmmdigeciphglaaGreatDoor
namespace Go.Proofs.YtmmdigeciphglaaGreatDoor
open Go.RowKit Ex
end Go.Proofs.YtmmdigeciphglaaGreatDoor
namespace Go.Proofs.YtmmdigeciphglaaGreatDoor
open Go.RowKit Ex
end Go.Proofs.YtmmdigeciphglaaGreatDoor
