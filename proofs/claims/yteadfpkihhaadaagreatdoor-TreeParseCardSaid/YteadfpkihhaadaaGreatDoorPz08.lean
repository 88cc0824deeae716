/- Facts and walks for the statement. -/
import Derived.Test.YteadfpkihhaadaaGreatDoorPz07
import Derived.Maps.Own
import Derived.WideMake
import Derived.Test.YteadfpkihhaadaaGreatDoorPz03
import Derived.Test.YteadfpkihhaadaaGreatDoorPz01
namespace Go.Proofs.YteadfpkihhaadaaGreatDoor
open Go.RowKit
theorem sz_ne {s : ByteArray} (h : s.data.toList ≠ []) : s.size ≠ 0 := by
 intro e; apply h; apply List.eq_nil_of_length_eq_zero; rw [← Lib.size_eq]; exact e
def ErrPost (w : World) (e : Ending) (w' : World) : Prop := ∃ N, e = .returned (.tuple #[.int .u64 0, .iface 244 (.pointer (some ⟨N, 0, none⟩))]) ∧ Below w.heap.size w w'
set_option maxHeartbeats 1000000 in
theorem puint_err (s : ByteArray) (base : Int) (hlim : s.size ≤ 1000) (w : World) (T : Tb w)
  (H : Calls Tryz.prog 194 #[.string s, .int .i64 base, .int .i64 32] w fun e w' => e = .returned (.tuple #[.int .u64 0, .iface 242 (.int .i64 2)]) ∧ Below w.heap.size w w') :
  Calls Tryz.prog 192 #[.string s, .int .i64 base, .int .i64 32] w (ErrPost w) := by
 obtain ⟨tp, p, hp⟩ := T.e
 have HI := Lib.hid H
 have HP := Lib.hid hp
 clear H hp
 go_enter Tryz.func192, Tryz.ntmps192
 go_wp2_with fail
 refine HI.out.mono ?_
 rintro e w1 ⟨rfl, h1⟩
 have HC := Lib.hid (cell_below h1 (Nat.le_refl _) HP.out)
 have HE := Lib.hid (Tryz.strconv_toError_syntax ⟨#[80, 97, 114, 115, 101, 85, 105, 110, 116]⟩ s base 32 (.iface tp p) w1 (by omega) HC.out (Or.inr ⟨_, _, rfl⟩))
 go_wp2_with fail
 refine HE.out.mono ?_
 rintro e w2 ⟨N, rfl, _, _, h2⟩
 go_wp2
 go_ret2
 exact ⟨N, rfl, h1.trans (h2.mono h1.size)⟩
set_option maxHeartbeats 1000000 in
theorem puint10_ok (s : ByteArray) (hne : s.size ≠ 0) (hsz : s.size ≤ 7) (h : s.data.toList.all (En.isD 10) = true) (w : World) :
  Calls Tryz.prog 192 #[.string s, .int .i64 10, .int .i64 32] w fun e w' => e = .returned (.tuple #[.int .u64 (En.val 10 s.data.toList), .nilIface]) ∧ Below w.heap.size w w' := by
 have HI := Lib.hid (parse_in10 s hne hsz w)
 unfold parsed at HI
 rw [if_pos h] at HI
 clear h
 go_enter Tryz.func192, Tryz.ntmps192
 go_wp2_with fail
 refine HI.out.mono ?_
 rintro e w1 ⟨rfl, rfl⟩
 go_wp2
 go_ret2
 exact ⟨rfl, Lib.bytesWorld_below _ _ _⟩
theorem puint10_no (s : ByteArray) (hsz : s.size ≤ 7) (h : En.okD 10 7 s.data.toList = false) (w : World) (T : Tb w) :
  Calls Tryz.prog 192 #[.string s, .int .i64 10, .int .i64 32] w (ErrPost w) := by
 refine puint_err s 10 (by omega) w T ?_
 by_cases hne : s.data.toList = []
 ·obtain rfl : s = ⟨#[]⟩ := by cases s with | mk a => simpa using hne
  exact (Tryz.internal_strconv_ParseUint_empty 10 32 w).mono fun e w' h => ⟨h.1, by rw [h.2]; exact Below.refl _ _⟩
 ·have ha : ¬ s.data.toList.all (En.isD 10) = true := fun ha => by
   have hl : 1 ≤ s.data.toList.length := by cases e : s.data.toList with | nil => exact absurd e hne | cons _ _ => simp
   have : En.okD 10 7 s.data.toList = true := En.okD_iff.2 ⟨hl, by rw [← Lib.size_eq]; exact hsz, ha⟩
   rw [h] at this; cases this
  refine (parse_in10 s (sz_ne hne) hsz w).mono fun e w' h => ⟨?_, by rw [h.2]; exact Lib.bytesWorld_below _ _ _⟩
  rw [h.1]; unfold parsed; rw [if_neg ha]
set_option maxHeartbeats 1000000 in
theorem number10 (s : ByteArray) (hs : s.size ≤ maxLen) (w : World) (T : Tb w) :
  Calls Tryz.prog 186 #[.string s, .int .i64 10, .int .i64 7] w fun e w' => e = .returned (.int .i32 (En.pnum 10 7 s.data.toList)) ∧ Below w.heap.size w w' := by
 unfold maxLen at hs
 have hlen := Lib.size_eq s
 by_cases hm : s.size ≤ 7
 ·have hm' : ¬ (7 : Int) < (s.size : Int) := by omega
  cases hk : En.okD 10 7 s.data.toList with
  | true =>
   obtain ⟨h1, _, h3⟩ := En.okD_iff.1 hk
   have HP := Lib.hid (puint10_ok s (by omega) hm h3 w)
   have hv := En.pnum_bd (base := 10) (most := 7) (by omega) s.data.toList
   unfold En.pnum at hv ⊢
   rw [if_pos hk] at hv ⊢
   generalize En.val 10 s.data.toList = v at *
   obtain ⟨v0, v1⟩ := hv
   clear hk h3 hlen
   go_enter Tryz.func186, Tryz.ntmps186
   go_wp2_with fail
   refine HP.out.mono ?_
   rintro e w1 ⟨rfl, h1⟩
   go_wp2
   go_ret
   exact ⟨by first | rfl | (congr 2; omega), h1⟩
  | false =>
   have HP := Lib.hid (puint10_no s hm hk w T)
   unfold En.pnum
   rw [hk, if_neg (by simp)]
   clear hk hlen
   go_enter Tryz.func186, Tryz.ntmps186
   go_wp2_with fail
   refine HP.out.mono ?_
   rintro e w1 ⟨N, rfl, h1⟩
   go_wp2
   go_ret
   exact ⟨rfl, h1⟩
 ·have hm' : (7 : Int) < (s.size : Int) := by omega
  have hk : En.okD 10 7 s.data.toList = false := by
   rw [← Bool.not_eq_true, En.okD_iff]; omega
  unfold En.pnum
  rw [hk, if_neg (by simp)]
  clear hk hlen
  go_enter Tryz.func186, Tryz.ntmps186
  go_wp2
  go_ret
  exact ⟨rfl, Below.refl _ _⟩
set_option maxHeartbeats 1000000 in
theorem puint16_ok (s : ByteArray) (hne : s.size ≠ 0) (hsz : s.size ≤ 6) (h : s.data.toList.all (En.isD 16) = true) (w : World) :
  Calls Tryz.prog 192 #[.string s, .int .i64 16, .int .i64 32] w fun e w' => e = .returned (.tuple #[.int .u64 (En.val 16 s.data.toList), .nilIface]) ∧ Below w.heap.size w w' := by
 have HI := Lib.hid (parse_in16 s hne hsz w)
 unfold parsed at HI
 rw [if_pos h] at HI
 clear h
 go_enter Tryz.func192, Tryz.ntmps192
 go_wp2_with fail
 refine HI.out.mono ?_
 rintro e w1 ⟨rfl, rfl⟩
 go_wp2
 go_ret2
 exact ⟨rfl, Lib.bytesWorld_below _ _ _⟩
theorem puint16_no (s : ByteArray) (hsz : s.size ≤ 6) (h : En.okD 16 6 s.data.toList = false) (w : World) (T : Tb w) :
  Calls Tryz.prog 192 #[.string s, .int .i64 16, .int .i64 32] w (ErrPost w) := by
 refine puint_err s 16 (by omega) w T ?_
 by_cases hne : s.data.toList = []
 ·obtain rfl : s = ⟨#[]⟩ := by cases s with | mk a => simpa using hne
  exact (Tryz.internal_strconv_ParseUint_empty 16 32 w).mono fun e w' h => ⟨h.1, by rw [h.2]; exact Below.refl _ _⟩
 ·have ha : ¬ s.data.toList.all (En.isD 16) = true := fun ha => by
   have hl : 1 ≤ s.data.toList.length := by cases e : s.data.toList with | nil => exact absurd e hne | cons _ _ => simp
   have : En.okD 16 6 s.data.toList = true := En.okD_iff.2 ⟨hl, by rw [← Lib.size_eq]; exact hsz, ha⟩
   rw [h] at this; cases this
  refine (parse_in16 s (sz_ne hne) hsz w).mono fun e w' h => ⟨?_, by rw [h.2]; exact Lib.bytesWorld_below _ _ _⟩
  rw [h.1]; unfold parsed; rw [if_neg ha]
set_option maxHeartbeats 1000000 in
theorem number16 (s : ByteArray) (hs : s.size ≤ maxLen) (w : World) (T : Tb w) :
  Calls Tryz.prog 186 #[.string s, .int .i64 16, .int .i64 6] w fun e w' => e = .returned (.int .i32 (En.pnum 16 6 s.data.toList)) ∧ Below w.heap.size w w' := by
 unfold maxLen at hs
 have hlen := Lib.size_eq s
 by_cases hm : s.size ≤ 6
 ·have hm' : ¬ (6 : Int) < (s.size : Int) := by omega
  cases hk : En.okD 16 6 s.data.toList with
  | true =>
   obtain ⟨h1, _, h3⟩ := En.okD_iff.1 hk
   have HP := Lib.hid (puint16_ok s (by omega) hm h3 w)
   have hv := En.pnum_bd (base := 16) (most := 6) (by omega) s.data.toList
   unfold En.pnum at hv ⊢
   rw [if_pos hk] at hv ⊢
   generalize En.val 16 s.data.toList = v at *
   obtain ⟨v0, v1⟩ := hv
   clear hk h3 hlen
   go_enter Tryz.func186, Tryz.ntmps186
   go_wp2_with fail
   refine HP.out.mono ?_
   rintro e w1 ⟨rfl, h1⟩
   go_wp2
   go_ret
   exact ⟨by first | rfl | (congr 2; omega), h1⟩
  | false =>
   have HP := Lib.hid (puint16_no s hm hk w T)
   unfold En.pnum
   rw [hk, if_neg (by simp)]
   clear hk hlen
   go_enter Tryz.func186, Tryz.ntmps186
   go_wp2_with fail
   refine HP.out.mono ?_
   rintro e w1 ⟨N, rfl, h1⟩
   go_wp2
   go_ret
   exact ⟨rfl, h1⟩
 ·have hm' : (6 : Int) < (s.size : Int) := by omega
  have hk : En.okD 16 6 s.data.toList = false := by
   rw [← Bool.not_eq_true, En.okD_iff]; omega
  unfold En.pnum
  rw [hk, if_neg (by simp)]
  clear hk hlen
  go_enter Tryz.func186, Tryz.ntmps186
  go_wp2
  go_ret
  exact ⟨rfl, Below.refl _ _⟩
/-! ### the map of names -/
def nameEntries : Array MapEntry := #[⟨.string ⟨#[97, 109, 112]⟩, .int .i32 38, 0⟩, ⟨.string ⟨#[108, 116]⟩, .int .i32 60, 1⟩, ⟨.string ⟨#[103, 116]⟩, .int .i32 62, 2⟩, ⟨.string ⟨#[113, 117, 111, 116]⟩, .int .i32 34, 3⟩, ⟨.string ⟨#[97, 112, 111, 115]⟩, .int .i32 39, 4⟩]
def IsNames (r : Nat) (w : World) : Prop := w.heap[r]? = some (.map nameEntries 5)
theorem IsNames.lt {r : Nat} {w : World} (h : IsNames r w) : r < w.heap.size := by
 rcases Nat.lt_or_ge r w.heap.size with h' | h'
 ·exact h'
 ·unfold IsNames at h; simp [Array.getElem?_eq_none h'] at h
theorem IsNames.below {r B : Nat} {w w' : World} (h : IsNames r w) (hb : Below B w w') (hB : w.heap.size ≤ B) : IsNames r w' :=
 (hb.block r (Nat.lt_of_lt_of_le h.lt hB)).trans h
theorem set_push {α : Type} (a : Array α) (o o' : α) : (a.push o).setIfInBounds a.size o' = a.push o' := by
 apply Array.ext'
 rw [Array.toList_setIfInBounds, Array.toList_push, Array.toList_push, ← Array.length_toList, List.set_append_right _ _ (Nat.le_refl _)]
 simp
theorem set_alloc (w : World) (o o' : Obj) : ({ heap := (w.alloc o).heap.setIfInBounds w.heap.size o', tape := w.tape, drawn := w.drawn, os := (w.alloc o).os, output := (w.alloc o).output } : World) = w.alloc o' := by
 have h : (w.alloc o).heap.setIfInBounds w.heap.size o' = w.heap.push o' := set_push w.heap o o'
 rw [h]; rfl
theorem update_new (es : Array MapEntry) (c : Nat) (s : ByteArray) (val : Value) (w : World) (hf : Instr.findNow .string (.string s) es.toList 0 = some none) :
  (Instr.mapUpdate 210 (.map (some w.heap.size)) (.string s) val).run Tryz.prog (w.alloc (.map es c)) = .ok () (w.alloc (.map (es.push ⟨.string s, val, c⟩) (c + 1))) := by
 have hk : Tryz.prog.underlying 9 = some .string := Tryz.underlying9
 have hb : (w.alloc (.map es c)).heap[w.heap.size]? = some (.map es c) := heap_alloc_new w _
 have hc : (Instr.checkKey false 10000 9 (.string s)).run Tryz.prog (w.alloc (.map es c)) = .ok () (w.alloc (.map es c)) := MapKept.run_checkKey (k := .string s) hk (by simp [MapKept.IsKey]) false 9999
 have e := set_alloc w (.map es c) (.map (es.push ⟨.string s, val, c⟩) (c + 1))
 simp [Instr.mapUpdate, run_underlying Tryz.underlying210, MapKept.run_getObj_map hb, hc, MapKept.run_findKey hk hf, MapKept.run_setObj_map _ hb, Result.andThen, e]
theorem lookup_names (r : Nat) (s : ByteArray) (w : World) (h : IsNames r w) :
  (Instr.lookup 210 (.map (some r)) (.string s) false).run Tryz.prog w = .ok (.int .i32 (En.named s.data.toList)) w := by
 have hk : Tryz.prog.underlying 9 = some .string := Tryz.underlying9
 have hb : w.heap[r]? = some (.map nameEntries 5) := h
 have hc : (Instr.checkKey false 10000 9 (.string s)).run Tryz.prog w = .ok () w := MapKept.run_checkKey (k := .string s) hk (by simp [MapKept.IsKey]) false 9999
 have hz : (zeroValue 21).run Tryz.prog w = .ok (.int .i32 0) w := Tryz.zeroValue21 w
 have hne : nameEntries.isEmpty = false := rfl
 have eqb : ∀ a : Array UInt8, (s == ⟨a⟩) = decide (s.data.toList = a.toList) := fun a => by
  cases s with | mk x =>
  show (x == a) = decide (x.toList = a.toList)
  rw [Bool.eq_iff_iff, beq_iff_eq, decide_eq_true_iff, Array.toList_inj]
 have key : ∀ x, Instr.findNow .string (.string s) nameEntries.toList 0 = some x → (match x with | some (_, v) => v | none => Value.int .i32 0) = .int .i32 (En.named s.data.toList) := by
  intro x hx
  unfold nameEntries at hx
  simp only [Instr.findNow, Instr.sameNow, eqb] at hx
  unfold En.named
  by_cases h1 : s.data.toList = [97, 109, 112]
  ·simp [h1] at hx; subst hx; simp [h1]
  by_cases h2 : s.data.toList = [108, 116]
  ·simp [h2] at hx; subst hx; simp [h2]
  by_cases h3 : s.data.toList = [103, 116]
  ·simp [h3] at hx; subst hx; simp [h3]
  by_cases h4 : s.data.toList = [113, 117, 111, 116]
  ·simp [h4] at hx; subst hx; simp [h4]
  by_cases h5 : s.data.toList = [97, 112, 111, 115]
  ·simp [h5] at hx; subst hx; simp [h5]
  simp [h1, h2, h3, h4, h5] at hx
  subst hx; simp [h1, h2, h3, h4, h5]
 have ht : ∃ x, Instr.findNow .string (.string s) nameEntries.toList 0 = some x := by
  unfold nameEntries
  simp only [Instr.findNow, Instr.sameNow, eqb]
  by_cases h1 : s.data.toList = [97, 109, 112]
  ·simp [h1]
  by_cases h2 : s.data.toList = [108, 116]
  ·simp [h2]
  by_cases h3 : s.data.toList = [103, 116]
  ·simp [h3]
  by_cases h4 : s.data.toList = [113, 117, 111, 116]
  ·simp [h4]
  by_cases h5 : s.data.toList = [97, 112, 111, 115]
  ·simp [h5]
  simp [h1, h2, h3, h4, h5]
 obtain ⟨x, hx⟩ := ht
 have kx := key x hx
 cases x with
 | none =>
  simp only at kx
  simp [Instr.lookup, run_underlying Tryz.underlying210, MapKept.run_getObj_map hb, hne, hc, MapKept.run_findKey hk hx, hz, Result.andThen, kx]
 | some p =>
  obtain ⟨i, v⟩ := p
  simp only at kx
  simp [Instr.lookup, run_underlying Tryz.underlying210, MapKept.run_getObj_map hb, hne, hc, MapKept.run_findKey hk hx, Result.andThen, kx]
set_option maxHeartbeats 1000000 in
theorem names_any (w : World) :
  Calls Tryz.prog 157 #[] w fun e w' => e = .returned (.map (some w.heap.size)) ∧ w' = w.alloc (.map nameEntries 5) := by
 have hmm := @run_makeMap Tryz.prog
 have u1 := update_new #[] 0 ⟨#[97, 109, 112]⟩ (.int .i32 38) w rfl
 have u2 := update_new #[⟨.string ⟨#[97, 109, 112]⟩, .int .i32 38, 0⟩] 1 ⟨#[108, 116]⟩ (.int .i32 60) w rfl
 have u3 := update_new #[⟨.string ⟨#[97, 109, 112]⟩, .int .i32 38, 0⟩, ⟨.string ⟨#[108, 116]⟩, .int .i32 60, 1⟩] 2 ⟨#[103, 116]⟩ (.int .i32 62) w rfl
 have u4 := update_new #[⟨.string ⟨#[97, 109, 112]⟩, .int .i32 38, 0⟩, ⟨.string ⟨#[108, 116]⟩, .int .i32 60, 1⟩, ⟨.string ⟨#[103, 116]⟩, .int .i32 62, 2⟩] 3 ⟨#[113, 117, 111, 116]⟩ (.int .i32 34) w rfl
 have u5 := update_new #[⟨.string ⟨#[97, 109, 112]⟩, .int .i32 38, 0⟩, ⟨.string ⟨#[108, 116]⟩, .int .i32 60, 1⟩, ⟨.string ⟨#[103, 116]⟩, .int .i32 62, 2⟩, ⟨.string ⟨#[113, 117, 111, 116]⟩, .int .i32 34, 3⟩] 4 ⟨#[97, 112, 111, 115]⟩ (.int .i32 39) w rfl
 simp only [Array.push, List.concat_eq_append, List.nil_append, List.cons_append, Nat.reduceAdd, Nat.zero_add] at u1 u2 u3 u4 u5
 go_enter Tryz.func157, Tryz.ntmps157
 go_wp2
 go_ret
 exact ⟨rfl, rfl⟩
end Go.Proofs.YteadfpkihhaadaaGreatDoor
namespace Go.Proofs.YteadfpkihhaadaaGreatDoor
open Go.RowKit
set_option maxHeartbeats 1000000 in
theorem said_any (t : ByteArray) (ht : t.size ≤ maxLen) (r : Nat) (w : World) (T : Tb w) (hr : IsNames r w) :
  Calls Tryz.prog 175 #[.string t, .map (some r)] w fun e w' => e = .returned (.int .i32 (En.said t.data.toList)) ∧ Below w.heap.size w w' := by
 have hdrop : ∀ k, (ByteArray.mk (t.data.toList.drop k).toArray).size ≤ maxLen := fun k => by
  rw [size_mk, List.length_drop, ← Lib.size_eq]; unfold maxLen at *; omega
 cases h1 : Lib.hasPrefix t.data.toList [35, 120] with
 | true =>
  have H1 := Lib.hid (cutp_yes t ⟨#[35, 120]⟩ h1 w)
  obtain ⟨D, hD⟩ : ∃ D : ByteArray, D = ⟨(t.data.toList.drop 2).toArray⟩ := ⟨_, rfl⟩
  have hDl : D.data.toList = t.data.toList.drop 2 := by rw [hD, data_mk]
  have HN := Lib.hid (number16 D (by rw [hD]; exact hdrop 2) w T)
  rw [hDl] at HN
  rw [show (ByteArray.mk #[35, 120]).data.toList.length = 2 from rfl, ← hD] at H1
  have hsaid : En.said t.data.toList = En.pnum 16 6 (t.data.toList.drop 2) := by unfold En.said; rw [h1, if_pos rfl]
  rw [hsaid]
  clear hsaid h1 hdrop hD hDl
  generalize En.pnum 16 6 (t.data.toList.drop 2) = v at *
  go_enter Tryz.func175, Tryz.ntmps175
  go_wp2_with fail
  refine H1.out.mono ?_
  rintro e w1 ⟨rfl, rfl⟩
  go_wp2_with fail
  refine HN.out.mono ?_
  rintro e w1 ⟨rfl, b1⟩
  go_wp2
  go_ret
  exact ⟨rfl, b1⟩
 | false =>
  have H1 := Lib.hid (cutp_no t ⟨#[35, 120]⟩ h1 w)
  cases h2 : Lib.hasPrefix t.data.toList [35] with
  | true =>
   have H2 := Lib.hid (cutp_yes t ⟨#[35]⟩ h2 w)
   obtain ⟨D, hD⟩ : ∃ D : ByteArray, D = ⟨(t.data.toList.drop 1).toArray⟩ := ⟨_, rfl⟩
   have hDl : D.data.toList = t.data.toList.drop 1 := by rw [hD, data_mk]
   have HN := Lib.hid (number10 D (by rw [hD]; exact hdrop 1) w T)
   rw [hDl] at HN
   rw [show (ByteArray.mk #[35]).data.toList.length = 1 from rfl, ← hD] at H2
   have hsaid : En.said t.data.toList = En.pnum 10 7 (t.data.toList.drop 1) := by unfold En.said; rw [h1, if_neg (by simp), h2, if_pos rfl]
   rw [hsaid]
   clear hsaid h1 h2 hdrop hD hDl
   generalize En.pnum 10 7 (t.data.toList.drop 1) = v at *
   go_enter Tryz.func175, Tryz.ntmps175
   go_wp2_with fail
   refine H1.out.mono ?_
   rintro e w1 ⟨rfl, rfl⟩
   go_wp2_with fail
   refine H2.out.mono ?_
   rintro e w1 ⟨rfl, rfl⟩
   go_wp2_with fail
   refine HN.out.mono ?_
   rintro e w1 ⟨rfl, b1⟩
   go_wp2
   go_ret
   exact ⟨rfl, b1⟩
  | false =>
   have H2 := Lib.hid (cutp_no t ⟨#[35]⟩ h2 w)
   have hl := lookup_names r t w hr
   have hsaid : En.said t.data.toList = En.named t.data.toList := by unfold En.said; rw [h1, if_neg (by simp), h2, if_neg (by simp)]
   rw [hsaid]
   clear hsaid h1 h2 hdrop
   generalize En.named t.data.toList = v at *
   go_enter Tryz.func175, Tryz.ntmps175
   go_wp2_with fail
   refine H1.out.mono ?_
   rintro e w1 ⟨rfl, rfl⟩
   go_wp2_with fail
   refine H2.out.mono ?_
   rintro e w1 ⟨rfl, rfl⟩
   go_wp2
   go_ret
   exact ⟨rfl, Below.refl _ _⟩
set_option maxHeartbeats 1000000 in
theorem reference_any (s : ByteArray) (hs : s.size ≤ maxLen) (r : Nat) (w : World) (T : Tb w) (hr : IsNames r w) :
  Calls Tryz.prog 159 #[.string s, .map (some r)] w fun e w' => e = .returned (.tuple #[.string ⟨(En.rf s.data.toList).1.toArray⟩, .int .i64 (En.rf s.data.toList).2]) ∧ Below w.heap.size w w' := by
 have hsz := Lib.size_eq s
 cases hp : Lib.hasPrefix s.data.toList [38] with
 | false =>
  have H1 := Lib.hid (cutp_no s ⟨#[38]⟩ hp w)
  have hn : En.rf s.data.toList = ([], 0) := En.rf_no (by
   intro h
   cases e : s.data.toList with
   | nil => rw [e] at h; cases h
   | cons a b => rw [e] at h hp; simp at h; subst h; simp [En.hp_cons, En.hp_nil] at hp)
  rw [hn]
  clear hn hp hsz
  go_enter Tryz.func159, Tryz.ntmps159
  go_wp2_with fail
  refine H1.out.mono ?_
  rintro e w1 ⟨rfl, rfl⟩
  go_wp2
  go_ret2
  exact ⟨rfl, Below.refl _ _⟩
 | true =>
  have H1 := Lib.hid (cutp_yes s ⟨#[38]⟩ hp w)
  obtain ⟨b, hb⟩ : ∃ b, s.data.toList = 38 :: b := by
   cases e : s.data.toList with
   | nil => rw [e] at hp; simp [Lib.hasPrefix] at hp
   | cons a b => rw [e, En.hp_cons] at hp; simp [En.hp_nil] at hp; subst hp; exact ⟨b, rfl⟩
  rw [hb] at H1 hsz ⊢
  rw [En.rf_amp]
  have hd : (38 :: b).drop (ByteArray.mk #[38]).data.toList.length = b := rfl
  rw [hd] at H1
  obtain ⟨B, hB⟩ : ∃ B : ByteArray, B = ⟨b.toArray⟩ := ⟨_, rfl⟩
  have hBl : B.data.toList = b := by rw [hB, data_mk]
  have hBs : B.size + 1 = s.size := by rw [hB, size_mk, hsz]; rfl
  rw [← hB] at H1
  clear hp hd hB hsz
  rcases En.idx_cases b 59 with hj | ⟨j, hj⟩
  ·have H2 := Lib.hid (cut1_miss B 59 w (by rw [hBl]; exact hj))
   rw [En.rfb_miss hj]
   clear hj hBl hBs hb
   go_enter Tryz.func159, Tryz.ntmps159
   go_wp2_with fail
   refine H1.out.mono ?_
   rintro e w1 ⟨rfl, rfl⟩
   go_wp2_with fail
   refine H2.out.mono ?_
   rintro e w1 ⟨rfl, rfl⟩
   go_wp2
   go_ret2
   exact ⟨rfl, Below.refl _ _⟩
  ·have hjl := En.idx_lt hj
   have hBn : B.size = b.length := by rw [Lib.size_eq, hBl]
   unfold maxLen at hs
   have H2 := Lib.hid (cut1_hit B 59 w j (by rw [hBl]; exact hj) (by omega) (by unfold maxLen; omega))
   obtain ⟨M, hM⟩ : ∃ M : ByteArray, M = B.extract 0 j := ⟨_, rfl⟩
   obtain ⟨Z, hZ⟩ : ∃ Z : ByteArray, Z = B.extract (j + 1) B.size := ⟨_, rfl⟩
   have hMl : M.data.toList = b.take j := by rw [hM, take_data, hBl]
   have hMs : M.size = j := by rw [Lib.size_eq, hMl, List.length_take]; omega
   rw [← hM, ← hZ] at H2
   have HS := Lib.hid (fun w0 T0 h0 => said_any M (by unfold maxLen; omega) r w0 T0 h0)
   have hsb := En.said_bd (b.take j)
   rw [hMl] at HS
   rw [En.rfb_hit hj]
   generalize En.said (b.take j) = v at *
   have HP := Lib.hid (fun w0 T0 => put_any v w0 T0 (by omega) (by omega))
   have hsm : j + 2 ≤ 9223372036854775807 := by omega
   have HM := Lib.hid hMs
   clear hM hZ hBn hBl hBs hb hj hMl hMs hjl hsb
   by_cases hc : U8.put v = []
   ·rw [if_pos hc]
    rw [hc] at HP
    clear hc
    go_enter Tryz.func159, Tryz.ntmps159
    go_wp2_with fail
    refine H1.out.mono ?_
    rintro e w1 ⟨rfl, rfl⟩
    go_wp2_with fail
    refine (H2.out).mono ?_
    rintro e w1 ⟨rfl, h1⟩
    have T1 := T.below h1 (Nat.le_refl _)
    have b1 := h1
    clear h1
    have hr1 := hr.below b1 (Nat.le_refl _)
    go_wp2_with fail
    refine (HS.out _ T1 hr1).mono ?_
    rintro e w2 ⟨rfl, h2⟩
    have T2 := T1.below h2 (Nat.le_refl _)
    have b2 := b1.trans (h2.mono b1.size)
    clear T1 h2 b1
    go_wp2_with fail
    refine (HP.out _ T2.t).mono ?_
    rintro e w3 ⟨rfl, h3⟩
    have T3 := T2.below h3 (Nat.le_refl _)
    have b3 := b2.trans (h3.mono b2.size)
    clear T2 h3 b2
    go_wp2
    go_ret2
    exact ⟨rfl, b3⟩
   ·rw [if_neg hc]
    obtain ⟨P, hP⟩ : ∃ P : ByteArray, P = ⟨(U8.put v).toArray⟩ := ⟨_, rfl⟩
    have hPl : P.data.toList = U8.put v := by rw [hP, data_mk]
    rw [← hP] at HP ⊢
    have hne : P.toList.isEmpty = false := by
     rw [Lib.toList_data, hPl]
     cases e : U8.put v with
     | nil => exact absurd e hc
     | cons _ _ => rfl
    clear hc hP hPl
    have hMs := HM.out
    have hw1 : IntKind.i64.wrap (1 + (M.size : Int)) = 1 + (M.size : Int) := IntWalk.i64_in _ (by omega)
    clear hMs
    go_enter Tryz.func159, Tryz.ntmps159
    go_wp2_with fail
    refine H1.out.mono ?_
    rintro e w1 ⟨rfl, rfl⟩
    go_wp2_with fail
    refine (H2.out).mono ?_
    rintro e w1 ⟨rfl, h1⟩
    have T1 := T.below h1 (Nat.le_refl _)
    have b1 := h1
    clear h1
    have hr1 := hr.below b1 (Nat.le_refl _)
    go_wp2_with fail
    refine (HS.out _ T1 hr1).mono ?_
    rintro e w2 ⟨rfl, h2⟩
    have T2 := T1.below h2 (Nat.le_refl _)
    have b2 := b1.trans (h2.mono b1.size)
    clear T1 h2 b1
    go_wp2_with fail
    refine (HP.out _ T2.t).mono ?_
    rintro e w3 ⟨rfl, h3⟩
    have T3 := T2.below h3 (Nat.le_refl _)
    have b3 := b2.trans (h3.mono b2.size)
    clear T2 h3 b2
    have hMs : M.size + 2 ≤ 9223372036854775807 := by rw [HM.out]; exact hsm
    go_wp2
    go_ret2
    have e : (1 + (M.size : Int) + 1) = ((j + 2 : Nat) : Int) := by have := HM.out; omega
    exact ⟨by rw [← e]; rfl, b3⟩
end Go.Proofs.YteadfpkihhaadaaGreatDoor
namespace Go.Proofs.YteadfpkihhaadaaGreatDoor
open Go.RowKit
theorem nx_bd (l : List UInt8) : 0 ≤ (U8.nx l).1 ∧ (U8.nx l).1 ≤ 1114111 := by
 by_cases hne : l = []
 ·subst hne; decide
 ·rcases U8.nx_cases l hne with ⟨c, hch, _, _, hn⟩ | ⟨hn, _, _⟩
  ·have := U8.isCh_lo hch; rw [hn]; simp only; omega
  ·rw [hn]; decide
set_option maxHeartbeats 1000000 in
theorem written_any (c : Int) (attr : Bool) (w : World) (T : Tb w) (h0 : 0 ≤ c) (h1 : c ≤ 1114111) :
  Calls Tryz.prog 114 #[.int .i32 c, .bool attr] w fun e w' => e = .returned (.string ⟨(En.wr attr c).toArray⟩) ∧ Below w.heap.size w w' := by
 have HP := Lib.hid (put_any c w T.t (by omega) (by omega))
 obtain ⟨P, hP⟩ : ∃ P, P = En.wr attr c := ⟨_, rfl⟩
 rw [← hP]
 have HW := Lib.hid hP
 clear hP
 by_cases c1 : c = 38
 ·subst c1
  go_enter Tryz.func114, Tryz.ntmps114
  go_wp2
  go_ret
  exact ⟨by rw [HW.out]; rfl, Below.refl _ _⟩
 by_cases c2 : c = 60
 ·subst c2
  go_enter Tryz.func114, Tryz.ntmps114
  go_wp2
  go_ret
  exact ⟨by rw [HW.out]; rfl, Below.refl _ _⟩
 by_cases c3 : c = 62
 ·subst c3
  go_enter Tryz.func114, Tryz.ntmps114
  go_wp2
  go_ret
  exact ⟨by rw [HW.out]; rfl, Below.refl _ _⟩
 by_cases c4 : c = 13
 ·subst c4
  go_enter Tryz.func114, Tryz.ntmps114
  go_wp2
  go_ret
  exact ⟨by rw [HW.out]; rfl, Below.refl _ _⟩
 have d1 : (c == 38) = false := by simpa using c1
 have d2 : (c == 60) = false := by simpa using c2
 have d3 : (c == 62) = false := by simpa using c3
 have d4 : (c == 13) = false := by simpa using c4
 cases attr with
 | false =>
  have HE := Lib.hid (HW.out.trans (show En.wr false c = U8.put c by unfold En.wr; simp [c1, c2, c3, c4]))
  clear c1 c2 c3 c4 HW
  go_enter Tryz.func114, Tryz.ntmps114
  go_wp2_with fail
  refine HP.out.mono ?_
  rintro e w1 ⟨rfl, b1⟩
  go_wp2
  go_ret
  exact ⟨by rw [HE.out]; rfl, b1⟩
 | true =>
  by_cases c5 : c = 34
  ·subst c5
   go_enter Tryz.func114, Tryz.ntmps114
   go_wp2
   go_ret
   exact ⟨by rw [HW.out]; rfl, Below.refl _ _⟩
  by_cases c6 : c = 9
  ·subst c6
   go_enter Tryz.func114, Tryz.ntmps114
   go_wp2
   go_ret
   exact ⟨by rw [HW.out]; rfl, Below.refl _ _⟩
  by_cases c7 : c = 10
  ·subst c7
   go_enter Tryz.func114, Tryz.ntmps114
   go_wp2
   go_ret
   exact ⟨by rw [HW.out]; rfl, Below.refl _ _⟩
  have d5 : (c == 34) = false := by simpa using c5
  have d6 : (c == 9) = false := by simpa using c6
  have d7 : (c == 10) = false := by simpa using c7
  have HE := Lib.hid (HW.out.trans (show En.wr true c = U8.put c by unfold En.wr; simp [c1, c2, c3, c4, c5, c6, c7]))
  clear c1 c2 c3 c4 c5 c6 c7 HW
  go_enter Tryz.func114, Tryz.ntmps114
  go_wp2_with fail
  refine HP.out.mono ?_
  rintro e w1 ⟨rfl, b1⟩
  go_wp2
  go_ret
  exact ⟨by rw [HE.out]; rfl, b1⟩
/-! ### the closures -/
def tup3 (d : List UInt8 × Nat × Int) : Value := .tuple #[.string ⟨d.1.toArray⟩, .int .i64 d.2.1, .int .i64 d.2.2]
def InvD (cb r : Nat) (w : World) : Prop := Tb w ∧ IsNames r w ∧ w.cell? ⟨cb, 0, none⟩ = some (.map (some r))
theorem InvD.below {cb r B : Nat} {w w' : World} (h : InvD cb r w) (hb : Below B w w') (hB : w.heap.size ≤ B) : InvD cb r w' :=
 ⟨h.1.below hb hB, h.2.1.below hb hB, cell_below hb hB h.2.2⟩
def InvE (cb : Nat) (attr : Bool) (w : World) : Prop := Tb w ∧ w.cell? ⟨cb, 0, none⟩ = some (.bool attr)
theorem InvE.below {cb B : Nat} {attr : Bool} {w w' : World} (h : InvE cb attr w) (hb : Below B w w') (hB : w.heap.size ≤ B) : InvE cb attr w' :=
 ⟨h.1.below hb hB, cell_below hb hB h.2⟩
set_option maxHeartbeats 1000000 in
theorem dec1_any (cb r : Nat) (s : ByteArray) (hs : s.size ≤ maxLen) (hne : s.data.toList ≠ []) (w : World) (I : InvD cb r w) :
  Calls Tryz.prog 158 #[.string s, .pointer (some ⟨cb, 0, none⟩)] w fun e w' => e = .returned (tup3 (En.dF s.data.toList)) ∧ Below w.heap.size w w' := by
 obtain ⟨T, hr, hc⟩ := I
 have hsz : 0 < s.size := by
  rw [Lib.size_eq]; cases e : s.data.toList with | nil => exact absurd e hne | cons _ _ => simp
 have hsz' : (0 : Int) < (s.size : Int) := by omega
 have h0 : s.data.toList.head? = some s[0] := by
  rw [List.head?_eq_getElem?, Lib.data_getElem? s 0 hsz]
 by_cases ha : s[0] = 38
 ·have h38 : s.data.toList.head? = some 38 := by rw [h0, ha]
  have ht : ((s[0].toNat : Int) == 38) = true := by rw [ha]; rfl
  have ht2 : ((s[0].toNat : Int) != 38) = false := by rw [ha]; rfl
  have HR := Lib.hid (fun w0 T0 h0 => reference_any s hs r w0 T0 h0)
  rw [En.dF_amp h38]
  have hrb := (En.rf_bd s.data.toList).2
  generalize En.rf s.data.toList = d at *
  obtain ⟨c, n⟩ := d
  simp only at HR hrb ⊢
  have HB := Lib.hid hrb
  unfold tup3
  clear hrb h38 h0 ha hne
  by_cases hn : n = 0
  ·subst hn
   rw [if_pos rfl]
   go_enter Tryz.func158, Tryz.ntmps158
   go_wp2_with fail
   refine (HR.out _ T hr).mono ?_
   rintro e w1 ⟨rfl, b1⟩
   go_wp2
   go_ret3
   exact ⟨rfl, b1⟩
  ·rw [if_neg hn]
   have hn' : ((n : Int) == 0) = false := by
    have : ¬ (n : Int) = 0 := by omega
    simpa using this
   clear hn
   go_enter Tryz.func158, Tryz.ntmps158
   go_wp2_with fail
   refine (HR.out _ T hr).mono ?_
   rintro e w1 ⟨rfl, b1⟩
   go_wp2
   go_ret3
   exact ⟨rfl, b1⟩
 ·have h38 : s.data.toList.head? ≠ some 38 := by rw [h0]; simpa using ha
  have hn38 : ¬ (s[0].toNat : Int) = 38 := by
   intro e; apply ha; apply UInt8.toNat_inj.1
   show s[0].toNat = 38
   omega
  have ht : ((s[0].toNat : Int) == 38) = false := by simpa using hn38
  have ht2 : ((s[0].toNat : Int) != 38) = true := by simpa using hn38
  have HN := Lib.hid (next_any s w T.t)
  rw [En.dF_no h38]
  have hle : (U8.nx s.data.toList).2.1 ≤ s.size := by
   rw [Lib.size_eq]
   rcases U8.nx_cases s.data.toList hne with ⟨c, _, _, hw, hn⟩ | ⟨hn, _, _⟩
   ·rw [hn]; exact hw
   ·rw [hn]; exact Nat.zero_le _
  generalize U8.nx s.data.toList = d at *
  obtain ⟨c, n, z⟩ := d
  simp only at HN hle ⊢
  have hle' : (n : Int) ≤ (s.size : Int) := by omega
  have HX : Hid (s.extract 0 n = ⟨(s.data.toList.take n).toArray⟩) := Lib.hid (ba_eq (by rw [take_data, data_mk]))
  unfold tup3
  unfold maxLen at hs
  clear h38 hn38 h0 ha hne
  go_enter Tryz.func158, Tryz.ntmps158
  go_wp2_with fail
  refine HN.out.mono ?_
  rintro e w1 ⟨rfl, b1⟩
  go_wp2
  go_ret3
  exact ⟨by simp only; rw [← HX.out]; rfl, b1⟩
set_option maxHeartbeats 1000000 in
theorem enc1_any (cb : Nat) (attr : Bool) (s : ByteArray) (w : World) (I : InvE cb attr w) :
  Calls Tryz.prog 112 #[.string s, .pointer (some ⟨cb, 0, none⟩)] w fun e w' => e = .returned (tup3 (En.eF attr s.data.toList)) ∧ Below w.heap.size w w' := by
 obtain ⟨T, hc⟩ := I
 have HN := Lib.hid (next_any s w T.t)
 have hbd := nx_bd s.data.toList
 unfold tup3 En.eF
 generalize U8.nx s.data.toList = d at *
 obtain ⟨c, n, z⟩ := d
 simp only at HN hbd ⊢
 have HW := Lib.hid (fun w0 T0 => written_any c attr w0 T0 hbd.1 hbd.2)
 have HC := Lib.hid hc
 clear hbd hc
 go_enter Tryz.func112, Tryz.ntmps112
 go_wp2_with fail
 refine HN.out.mono ?_
 rintro e w1 ⟨rfl, b1⟩
 have hc1 := cell_below b1 (Nat.le_refl _) HC.out
 have T1 := T.below b1 (Nat.le_refl _)
 go_wp2_with fail
 refine (HW.out _ T1).mono ?_
 rintro e w2 ⟨rfl, h2⟩
 have b2 := b1.trans (h2.mono b1.size)
 clear b1 h2
 go_wp2
 go_ret3
 exact ⟨rfl, b2⟩
/-! ### replaced -/
set_option maxHeartbeats 2000000 in
set_option maxRecDepth 100000 in
theorem replacedD (cb r : Nat) (s : ByteArray) (hs : s.size ≤ 1000000000) (w : World) (I : InvD cb r w) :
  Calls Tryz.prog 111 #[.string s, .func (.func 158) #[] #[.pointer (some ⟨cb, 0, none⟩)]] w fun e w' => e = .returned (tup3 (En.rep En.dF s.data.toList)) ∧ Below w.heap.size w w' := by
 have HL := Lib.hid (Lib.size_eq s)
 obtain ⟨R, hR⟩ : ∃ R, R = En.rep En.dF s.data.toList := ⟨_, rfl⟩
 rw [← hR]
 have HR : Hid (R = En.goes En.dF s.size s.data.toList [] 0) := Lib.hid (by rw [hR, HL.out]; rfl)
 clear hR
 have HC := Lib.hid (fun (t : ByteArray) (ht : t.size ≤ maxLen) (hne : t.data.toList ≠ []) (w0 : World) (I0 : InvD cb r w0) => (dec1_any cb r t ht hne) w0 I0)
 have HWr := Lib.hid write_any
 have HSt := Lib.hid string_any
 have HI := Lib.hid I
 have J1 := IsSb.fresh w
 unfold tup3
 clear I
 go_enter Tryz.func111, Tryz.ntmps111
 go_wp2
 go_loopw [5] (fun v wr => ∃ (p : Nat) (out : List UInt8), v = .int .i64 p ∧ p ≤ s.size ∧ out.length ≤ 6 * p ∧ IsSb w.heap.size w.heap.size out wr ∧ Below w.heap.size w wr ∧ Hid (R = En.goes En.dF s.size (s.data.toList.drop p) out p)) (fun v _ => s.size - (intOf v).toNat)
 case atStart => exact ⟨0, [], rfl, Nat.zero_le _, Nat.zero_le _, J1, (Below.refl _ _).alloc (Nat.le_refl _) _, HR⟩
 case round =>
  obtain ⟨p, out, rfl, hp, hout, J, hbw, HH⟩ := hrel
  have IW := Lib.hid (HI.out.below hbw (Nat.le_refl _))
  clear J1
  by_cases hlt : p < s.size
  ·have hlt' : (p : Int) < (s.size : Int) := by omega
   have hpn : (p : Int) ≤ (s.size : Int) := by omega
   have hne : s.data.toList.drop p ≠ [] := by intro e; have := congrArg List.length e; have := HL.out; simp at *; omega
   have hts : (s.extract p s.size).size ≤ maxLen := by have := extract_size s p s.size; unfold maxLen; omega
   have HX := Lib.hid (fun w0 I0 => HC.out (s.extract p s.size) hts (by rw [Lib.extract_to_end]; exact hne) w0 I0)
   rw [Lib.extract_to_end] at HX
   have hfl : (s.data.toList.drop p).length ≤ s.size := by rw [List.length_drop, ← HL.out]; omega
   by_cases hz : (En.dF (s.data.toList.drop p)).2.2 = 0
   ·have hm := En.moves_dF _ hne hz
    have hlg := (En.long_dF) hne hz
    have hg := En.goes_good En.moves_dF (out := out) (at_ := p) hfl hne hz
    have hk : p + (En.dF (s.data.toList.drop p)).2.1 ≤ s.size := by have h2 := hm.2; rw [List.length_drop, ← HL.out] at h2; omega
    rw [List.drop_drop] at hg
    have hk1 := hm.1
    have HG := Lib.hid (HH.out.trans hg)
    clear hg hm HH hfl
    generalize En.dF (s.data.toList.drop p) = d at *
    obtain ⟨c, n, z⟩ := d
    simp only at HX HG hz hk hk1 hlg
    subst hz
    obtain ⟨P, hP⟩ : ∃ P : ByteArray, P = ⟨c.toArray⟩ := ⟨_, rfl⟩
    have hPl : P.data.toList = c := by rw [hP, data_mk]
    have hPs : P.size ≤ 6 * n := by rw [hP, size_mk]; exact hlg
    unfold tup3 at HX
    simp only at HX
    rw [← hP] at HX
    have HPl := Lib.hid hPl
    have hop : out.length + P.size ≤ 6 * (p + n) := by omega
    clear hts hne hP hPl hlg
    go_wp2_with fail
    refine (HX.out _ IW.out).mono ?_
    rintro e w1 ⟨rfl, h1⟩
    have J1 := J.below h1
    have b1 := hbw.trans (h1.mono hbw.size)
    clear J IW hbw h1
    go_wp2_with fail
    refine (HWr.out w.heap.size w.heap.size out P _ J1 (by omega) b1.size).mono ?_
    rintro e w2 ⟨rfl, J2, h2⟩
    rw [HPl.out] at J2
    have hc2 : (out ++ c).length ≤ 6 * (p + n) := by rw [List.length_append]; have := HPl.out; have h3 := Lib.size_eq P; rw [this] at h3; omega
    have b2 := b1.trans h2
    go_wp2
    go_roundw
    case rel => exact ⟨p + n, out ++ c, by go_num, hk, hc2, J2, b2, HG⟩
    case measure => simp [intOf]; omega
   ·have hg := En.goes_bad (F := En.dF) (out := out) (at_ := p) hfl hne hz
    have HG := Lib.hid (HH.out.trans hg)
    clear hg HH hfl
    generalize En.dF (s.data.toList.drop p) = d at *
    obtain ⟨c, n, z⟩ := d
    simp only at HX HG hz
    have hz' : (z == 0) = false := by simpa using hz
    have hz2 : (z != 0) = true := by simpa using hz
    unfold tup3 at HX
    simp only at HX
    clear hts hne hz
    go_wp2_with fail
    refine (HX.out _ IW.out).mono ?_
    rintro e w1 ⟨rfl, h1⟩
    have b1 := hbw.trans (h1.mono hbw.size)
    clear J IW hbw h1
    go_wp2
    go_ret3
    exact ⟨by rw [HG.out]; rfl, b1⟩
  ·have hlt' : ¬ (p : Int) < (s.size : Int) := by omega
   have hnil : s.data.toList.drop p = [] := List.drop_of_length_le (by have := HL.out; omega)
   have hg := HH.out
   rw [hnil, En.goes_nil] at hg
   have HG := Lib.hid hg
   clear hg hnil HH hlt
   go_wp2_with fail
   refine (HSt.out w.heap.size w.heap.size out _ J hbw.size).mono ?_
   rintro e w1 ⟨rfl, h1⟩
   have b1 := hbw.trans h1
   clear J IW hbw h1
   go_wp2
   go_ret3
   exact ⟨by rw [HG.out]; rfl, b1⟩
set_option maxHeartbeats 2000000 in
set_option maxRecDepth 100000 in
theorem replacedE (cb : Nat) (attr : Bool) (s : ByteArray) (hs : s.size ≤ 1000000000) (w : World) (I : InvE cb attr w) :
  Calls Tryz.prog 111 #[.string s, .func (.func 112) #[] #[.pointer (some ⟨cb, 0, none⟩)]] w fun e w' => e = .returned (tup3 (En.rep (En.eF attr) s.data.toList)) ∧ Below w.heap.size w w' := by
 have HL := Lib.hid (Lib.size_eq s)
 obtain ⟨R, hR⟩ : ∃ R, R = En.rep (En.eF attr) s.data.toList := ⟨_, rfl⟩
 rw [← hR]
 have HR : Hid (R = En.goes (En.eF attr) s.size s.data.toList [] 0) := Lib.hid (by rw [hR, HL.out]; rfl)
 clear hR
 have HC := Lib.hid (fun (t : ByteArray) (ht : t.size ≤ maxLen) (hne : t.data.toList ≠ []) (w0 : World) (I0 : InvE cb attr w0) => (enc1_any cb attr t) w0 I0)
 have HWr := Lib.hid write_any
 have HSt := Lib.hid string_any
 have HI := Lib.hid I
 have J1 := IsSb.fresh w
 unfold tup3
 clear I
 go_enter Tryz.func111, Tryz.ntmps111
 go_wp2
 go_loopw [5] (fun v wr => ∃ (p : Nat) (out : List UInt8), v = .int .i64 p ∧ p ≤ s.size ∧ out.length ≤ 6 * p ∧ IsSb w.heap.size w.heap.size out wr ∧ Below w.heap.size w wr ∧ Hid (R = En.goes (En.eF attr) s.size (s.data.toList.drop p) out p)) (fun v _ => s.size - (intOf v).toNat)
 case atStart => exact ⟨0, [], rfl, Nat.zero_le _, Nat.zero_le _, J1, (Below.refl _ _).alloc (Nat.le_refl _) _, HR⟩
 case round =>
  obtain ⟨p, out, rfl, hp, hout, J, hbw, HH⟩ := hrel
  have IW := Lib.hid (HI.out.below hbw (Nat.le_refl _))
  clear J1
  by_cases hlt : p < s.size
  ·have hlt' : (p : Int) < (s.size : Int) := by omega
   have hpn : (p : Int) ≤ (s.size : Int) := by omega
   have hne : s.data.toList.drop p ≠ [] := by intro e; have := congrArg List.length e; have := HL.out; simp at *; omega
   have hts : (s.extract p s.size).size ≤ maxLen := by have := extract_size s p s.size; unfold maxLen; omega
   have HX := Lib.hid (fun w0 I0 => HC.out (s.extract p s.size) hts (by rw [Lib.extract_to_end]; exact hne) w0 I0)
   rw [Lib.extract_to_end] at HX
   have hfl : (s.data.toList.drop p).length ≤ s.size := by rw [List.length_drop, ← HL.out]; omega
   by_cases hz : ((En.eF attr) (s.data.toList.drop p)).2.2 = 0
   ·have hm := (En.moves_eF attr) _ hne hz
    have hlg := (En.long_eF (attr := attr)) hne hz
    have hg := En.goes_good (En.moves_eF attr) (out := out) (at_ := p) hfl hne hz
    have hk : p + ((En.eF attr) (s.data.toList.drop p)).2.1 ≤ s.size := by have h2 := hm.2; rw [List.length_drop, ← HL.out] at h2; omega
    rw [List.drop_drop] at hg
    have hk1 := hm.1
    have HG := Lib.hid (HH.out.trans hg)
    clear hg hm HH hfl
    generalize (En.eF attr) (s.data.toList.drop p) = d at *
    obtain ⟨c, n, z⟩ := d
    simp only at HX HG hz hk hk1 hlg
    subst hz
    obtain ⟨P, hP⟩ : ∃ P : ByteArray, P = ⟨c.toArray⟩ := ⟨_, rfl⟩
    have hPl : P.data.toList = c := by rw [hP, data_mk]
    have hPs : P.size ≤ 6 * n := by rw [hP, size_mk]; exact hlg
    unfold tup3 at HX
    simp only at HX
    rw [← hP] at HX
    have HPl := Lib.hid hPl
    have hop : out.length + P.size ≤ 6 * (p + n) := by omega
    clear hts hne hP hPl hlg
    go_wp2_with fail
    refine (HX.out _ IW.out).mono ?_
    rintro e w1 ⟨rfl, h1⟩
    have J1 := J.below h1
    have b1 := hbw.trans (h1.mono hbw.size)
    clear J IW hbw h1
    go_wp2_with fail
    refine (HWr.out w.heap.size w.heap.size out P _ J1 (by omega) b1.size).mono ?_
    rintro e w2 ⟨rfl, J2, h2⟩
    rw [HPl.out] at J2
    have hc2 : (out ++ c).length ≤ 6 * (p + n) := by rw [List.length_append]; have := HPl.out; have h3 := Lib.size_eq P; rw [this] at h3; omega
    have b2 := b1.trans h2
    go_wp2
    go_roundw
    case rel => exact ⟨p + n, out ++ c, by go_num, hk, hc2, J2, b2, HG⟩
    case measure => simp [intOf]; omega
   ·have hg := En.goes_bad (F := (En.eF attr)) (out := out) (at_ := p) hfl hne hz
    have HG := Lib.hid (HH.out.trans hg)
    clear hg HH hfl
    generalize (En.eF attr) (s.data.toList.drop p) = d at *
    obtain ⟨c, n, z⟩ := d
    simp only at HX HG hz
    have hz' : (z == 0) = false := by simpa using hz
    have hz2 : (z != 0) = true := by simpa using hz
    unfold tup3 at HX
    simp only at HX
    clear hts hne hz
    go_wp2_with fail
    refine (HX.out _ IW.out).mono ?_
    rintro e w1 ⟨rfl, h1⟩
    have b1 := hbw.trans (h1.mono hbw.size)
    clear J IW hbw h1
    go_wp2
    go_ret3
    exact ⟨by rw [HG.out]; rfl, b1⟩
  ·have hlt' : ¬ (p : Int) < (s.size : Int) := by omega
   have hnil : s.data.toList.drop p = [] := List.drop_of_length_le (by have := HL.out; omega)
   have hg := HH.out
   rw [hnil, En.goes_nil] at hg
   have HG := Lib.hid hg
   clear hg hnil HH hlt
   go_wp2_with fail
   refine (HSt.out w.heap.size w.heap.size out _ J hbw.size).mono ?_
   rintro e w1 ⟨rfl, h1⟩
   have b1 := hbw.trans h1
   clear J IW hbw h1
   go_wp2
   go_ret3
   exact ⟨by rw [HG.out]; rfl, b1⟩
end Go.Proofs.YteadfpkihhaadaaGreatDoor
namespace Go.Proofs.YteadfpkihhaadaaGreatDoor
open Go.RowKit
theorem heap_two (w : World) (o o' : Obj) : ((w.alloc o).alloc o').heap[w.heap.size]? = some o := by
 have h : ((w.alloc o).alloc o').heap[w.heap.size]? = (w.alloc o).heap[w.heap.size]? := Lib.alloc_old _ _ _ (by simp)
 rw [h]; exact heap_alloc_new w o
theorem below_two (w : World) (o o' : Obj) : Below w.heap.size w ((w.alloc o).alloc o') := ((Below.refl _ _).alloc (Nat.le_refl _) _).alloc (by simp) _
set_option maxHeartbeats 1000000 in
theorem decode_ent (s : ByteArray) (hs : s.size ≤ 1000000000) (w : World) (T : Tb w) :
  Calls Tryz.prog 127 #[.string s] w fun e w' => e = .returned (tup3 (En.rep En.dF s.data.toList)) ∧ Below w.heap.size w w' := by
 have b0 := below_two w (.map nameEntries 5) (.cells #[.map (some w.heap.size)] 210)
 have hcell : ((w.alloc (.map nameEntries 5)).alloc (.cells #[.map (some w.heap.size)] 210)).cell? ⟨w.heap.size + 1, 0, none⟩ = some (.map (some w.heap.size)) := by
  have h := heap_alloc_new (w.alloc (.map nameEntries 5)) (.cells #[.map (some w.heap.size)] 210)
  have hz : (w.alloc (.map nameEntries 5)).heap.size = w.heap.size + 1 := by simp
  rw [hz] at h
  exact Lib.cell_of_heap h 0
 have I : InvD (w.heap.size + 1) w.heap.size ((w.alloc (.map nameEntries 5)).alloc (.cells #[.map (some w.heap.size)] 210)) := ⟨T.below b0 (Nat.le_refl _), heap_two _ _ _, hcell⟩
 have HR := Lib.hid (replacedD (w.heap.size + 1) w.heap.size s hs _ I)
 have HN := Lib.hid (names_any w)
 have HB := Lib.hid b0
 unfold tup3 at *
 clear I hcell b0 T
 go_enter Tryz.func127, Tryz.ntmps127
 go_wp2_with fail
 refine HN.out.mono ?_
 rintro e w1 ⟨rfl, rfl⟩
 go_wp2_with fail
 refine HR.out.mono ?_
 rintro e w1 ⟨rfl, h1⟩
 have b1 := HB.out.trans (h1.mono HB.out.size)
 clear h1
 go_wp2
 go_ret3
 exact ⟨rfl, b1⟩
set_option maxHeartbeats 1000000 in
theorem encode_ent (s : ByteArray) (attr : Bool) (hs : s.size ≤ 1000000000) (w : World) (T : Tb w) :
  Calls Tryz.prog 77 #[.string s, .bool attr] w fun e w' => e = .returned (.tuple #[.string ⟨(En.rep (En.eF attr) s.data.toList).1.toArray⟩, .int .i64 (En.rep (En.eF attr) s.data.toList).2.2]) ∧ Below w.heap.size w w' := by
 have b0 := (Below.refl w.heap.size w).alloc (Nat.le_refl _) (.cells #[.bool attr] 4)
 have I : InvE w.heap.size attr (w.alloc (.cells #[.bool attr] 4)) := ⟨T.below b0 (Nat.le_refl _), Lib.cell_of_heap (heap_alloc_new w _) 0⟩
 have HR := Lib.hid (replacedE w.heap.size attr s hs _ I)
 have HB := Lib.hid b0
 unfold tup3 at HR
 clear I b0 T
 go_enter Tryz.func77, Tryz.ntmps77
 go_wp2_with fail
 refine HR.out.mono ?_
 rintro e w1 ⟨rfl, h1⟩
 have b1 := HB.out.trans (h1.mono HB.out.size)
 clear h1
 go_wp2
 go_ret2
 exact ⟨rfl, b1⟩
end Go.Proofs.YteadfpkihhaadaaGreatDoor
