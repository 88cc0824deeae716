/- entity.number, entity.names and entity.said, walked: what stands between a reference's & and its ;. Conditions: the tables hold what their texts lay; strconv.ErrSyntax holds an error. -/
import Derived.Test.YthncfhakbobkkaaGreatDoorEnNum
import Derived.Maps.Own
import Derived.WideMake
namespace Go.Proofs.YthncfhakbobkkaaGreatDoor
open Go.RowKit

theorem sz_ne {s : ByteArray} (h : s.data.toList ≠ []) : s.size ≠ 0 := by
  intro e; apply h; apply List.eq_nil_of_length_eq_zero; rw [← Lib.size_eq]; exact e

/-- An error that is not nil, and 0. -/
def ErrPost (w : World) (e : Ending) (w' : World) : Prop := ∃ N, e = .returned (.tuple #[.int .u64 0, .iface 159 (.pointer (some ⟨N, 0, none⟩))]) ∧ Below w.heap.size w w'

set_option maxHeartbeats 1000000 in
/-- Behind an error of the inner call. -/
theorem puint_err (s : ByteArray) (base : Int) (hlim : s.size ≤ 1000) (w : World) (T : Tb w)
    (H : Calls Tryz.prog 109 #[.string s, .int .i64 base, .int .i64 32] w fun e w' => e = .returned (.tuple #[.int .u64 0, .iface 157 (.int .i64 2)]) ∧ Below w.heap.size w w') :
    Calls Tryz.prog 107 #[.string s, .int .i64 base, .int .i64 32] w (ErrPost w) := by
  obtain ⟨tp, p, hp⟩ := T.e
  have HI := Lib.hid H
  have HP := Lib.hid hp
  clear H hp
  go_enter Tryz.func107, Tryz.ntmps107
  go_wp2_with fail
  refine HI.out.mono ?_
  rintro e w1 ⟨rfl, h1⟩
  have HC := Lib.hid (cell_below h1 (Nat.le_refl _) HP.out)
  have HE := Lib.hid (Tryz.strconv_toError_syntax ⟨#[80, 97, 114, 115, 101, 85, 105, 110, 116]⟩ s base 32 (.iface tp p) w1 (by omega) HC.out (Or.inr ⟨_, _, rfl⟩))
  go_wp2_with fail
  refine HE.out.mono ?_
  rintro e w2 ⟨N, rfl, _, _, h2⟩
  go_wp2
  go_ret2
  exact ⟨N, rfl, h1.trans (h2.mono h1.size)⟩

set_option maxHeartbeats 1000000 in
theorem puint10_ok (s : ByteArray) (hne : s.size ≠ 0) (hsz : s.size ≤ 7) (h : s.data.toList.all (En.isD 10) = true) (w : World) :
    Calls Tryz.prog 107 #[.string s, .int .i64 10, .int .i64 32] w fun e w' => e = .returned (.tuple #[.int .u64 (En.val 10 s.data.toList), .nilIface]) ∧ Below w.heap.size w w' := by
  have HI := Lib.hid (parse_in10 s hne hsz w)
  unfold parsed at HI
  rw [if_pos h] at HI
  clear h
  go_enter Tryz.func107, Tryz.ntmps107
  go_wp2_with fail
  refine HI.out.mono ?_
  rintro e w1 ⟨rfl, rfl⟩
  go_wp2
  go_ret2
  exact ⟨rfl, Lib.bytesWorld_below _ _ _⟩

theorem puint10_no (s : ByteArray) (hsz : s.size ≤ 7) (h : En.okD 10 7 s.data.toList = false) (w : World) (T : Tb w) :
    Calls Tryz.prog 107 #[.string s, .int .i64 10, .int .i64 32] w (ErrPost w) := by
  refine puint_err s 10 (by omega) w T ?_
  by_cases hne : s.data.toList = []
  · obtain rfl : s = ⟨#[]⟩ := by cases s with | mk a => simpa using hne
    exact (Tryz.internal_strconv_ParseUint_empty 10 32 w).mono fun e w' h => ⟨h.1, by rw [h.2]; exact Below.refl _ _⟩
  · have ha : ¬ s.data.toList.all (En.isD 10) = true := fun ha => by
      have hl : 1 ≤ s.data.toList.length := by cases e : s.data.toList with | nil => exact absurd e hne | cons _ _ => simp
      have : En.okD 10 7 s.data.toList = true := En.okD_iff.2 ⟨hl, by rw [← Lib.size_eq]; exact hsz, ha⟩
      rw [h] at this; cases this
    refine (parse_in10 s (sz_ne hne) hsz w).mono fun e w' h => ⟨?_, by rw [h.2]; exact Lib.bytesWorld_below _ _ _⟩
    rw [h.1]; unfold parsed; rw [if_neg ha]

set_option maxHeartbeats 1000000 in
theorem number10 (s : ByteArray) (hs : s.size ≤ maxLen) (w : World) (T : Tb w) :
    Calls Tryz.prog 101 #[.string s, .int .i64 10, .int .i64 7] w fun e w' => e = .returned (.int .i32 (En.pnum 10 7 s.data.toList)) ∧ Below w.heap.size w w' := by
  unfold maxLen at hs
  have hlen := Lib.size_eq s
  by_cases hm : s.size ≤ 7
  · have hm' : ¬ (7 : Int) < (s.size : Int) := by omega
    cases hk : En.okD 10 7 s.data.toList with
    | true =>
      obtain ⟨h1, _, h3⟩ := En.okD_iff.1 hk
      have HP := Lib.hid (puint10_ok s (by omega) hm h3 w)
      have hv := En.pnum_bd (base := 10) (most := 7) (by omega) s.data.toList
      unfold En.pnum at hv ⊢
      rw [if_pos hk] at hv ⊢
      generalize En.val 10 s.data.toList = v at *
      obtain ⟨v0, v1⟩ := hv
      clear hk h3 hlen
      go_enter Tryz.func101, Tryz.ntmps101
      go_wp2_with fail
      refine HP.out.mono ?_
      rintro e w1 ⟨rfl, h1⟩
      go_wp2
      go_ret
      exact ⟨by first | rfl | (congr 2; omega), h1⟩
    | false =>
      have HP := Lib.hid (puint10_no s hm hk w T)
      unfold En.pnum
      rw [hk, if_neg (by simp)]
      clear hk hlen
      go_enter Tryz.func101, Tryz.ntmps101
      go_wp2_with fail
      refine HP.out.mono ?_
      rintro e w1 ⟨N, rfl, h1⟩
      go_wp2
      go_ret
      exact ⟨rfl, h1⟩
  · have hm' : (7 : Int) < (s.size : Int) := by omega
    have hk : En.okD 10 7 s.data.toList = false := by
      rw [← Bool.not_eq_true, En.okD_iff]; omega
    unfold En.pnum
    rw [hk, if_neg (by simp)]
    clear hk hlen
    go_enter Tryz.func101, Tryz.ntmps101
    go_wp2
    go_ret
    exact ⟨rfl, Below.refl _ _⟩
set_option maxHeartbeats 1000000 in
theorem puint16_ok (s : ByteArray) (hne : s.size ≠ 0) (hsz : s.size ≤ 6) (h : s.data.toList.all (En.isD 16) = true) (w : World) :
    Calls Tryz.prog 107 #[.string s, .int .i64 16, .int .i64 32] w fun e w' => e = .returned (.tuple #[.int .u64 (En.val 16 s.data.toList), .nilIface]) ∧ Below w.heap.size w w' := by
  have HI := Lib.hid (parse_in16 s hne hsz w)
  unfold parsed at HI
  rw [if_pos h] at HI
  clear h
  go_enter Tryz.func107, Tryz.ntmps107
  go_wp2_with fail
  refine HI.out.mono ?_
  rintro e w1 ⟨rfl, rfl⟩
  go_wp2
  go_ret2
  exact ⟨rfl, Lib.bytesWorld_below _ _ _⟩

theorem puint16_no (s : ByteArray) (hsz : s.size ≤ 6) (h : En.okD 16 6 s.data.toList = false) (w : World) (T : Tb w) :
    Calls Tryz.prog 107 #[.string s, .int .i64 16, .int .i64 32] w (ErrPost w) := by
  refine puint_err s 16 (by omega) w T ?_
  by_cases hne : s.data.toList = []
  · obtain rfl : s = ⟨#[]⟩ := by cases s with | mk a => simpa using hne
    exact (Tryz.internal_strconv_ParseUint_empty 16 32 w).mono fun e w' h => ⟨h.1, by rw [h.2]; exact Below.refl _ _⟩
  · have ha : ¬ s.data.toList.all (En.isD 16) = true := fun ha => by
      have hl : 1 ≤ s.data.toList.length := by cases e : s.data.toList with | nil => exact absurd e hne | cons _ _ => simp
      have : En.okD 16 6 s.data.toList = true := En.okD_iff.2 ⟨hl, by rw [← Lib.size_eq]; exact hsz, ha⟩
      rw [h] at this; cases this
    refine (parse_in16 s (sz_ne hne) hsz w).mono fun e w' h => ⟨?_, by rw [h.2]; exact Lib.bytesWorld_below _ _ _⟩
    rw [h.1]; unfold parsed; rw [if_neg ha]

set_option maxHeartbeats 1000000 in
theorem number16 (s : ByteArray) (hs : s.size ≤ maxLen) (w : World) (T : Tb w) :
    Calls Tryz.prog 101 #[.string s, .int .i64 16, .int .i64 6] w fun e w' => e = .returned (.int .i32 (En.pnum 16 6 s.data.toList)) ∧ Below w.heap.size w w' := by
  unfold maxLen at hs
  have hlen := Lib.size_eq s
  by_cases hm : s.size ≤ 6
  · have hm' : ¬ (6 : Int) < (s.size : Int) := by omega
    cases hk : En.okD 16 6 s.data.toList with
    | true =>
      obtain ⟨h1, _, h3⟩ := En.okD_iff.1 hk
      have HP := Lib.hid (puint16_ok s (by omega) hm h3 w)
      have hv := En.pnum_bd (base := 16) (most := 6) (by omega) s.data.toList
      unfold En.pnum at hv ⊢
      rw [if_pos hk] at hv ⊢
      generalize En.val 16 s.data.toList = v at *
      obtain ⟨v0, v1⟩ := hv
      clear hk h3 hlen
      go_enter Tryz.func101, Tryz.ntmps101
      go_wp2_with fail
      refine HP.out.mono ?_
      rintro e w1 ⟨rfl, h1⟩
      go_wp2
      go_ret
      exact ⟨by first | rfl | (congr 2; omega), h1⟩
    | false =>
      have HP := Lib.hid (puint16_no s hm hk w T)
      unfold En.pnum
      rw [hk, if_neg (by simp)]
      clear hk hlen
      go_enter Tryz.func101, Tryz.ntmps101
      go_wp2_with fail
      refine HP.out.mono ?_
      rintro e w1 ⟨N, rfl, h1⟩
      go_wp2
      go_ret
      exact ⟨rfl, h1⟩
  · have hm' : (6 : Int) < (s.size : Int) := by omega
    have hk : En.okD 16 6 s.data.toList = false := by
      rw [← Bool.not_eq_true, En.okD_iff]; omega
    unfold En.pnum
    rw [hk, if_neg (by simp)]
    clear hk hlen
    go_enter Tryz.func101, Tryz.ntmps101
    go_wp2
    go_ret
    exact ⟨rfl, Below.refl _ _⟩

/-! ### the map of names -/
def nameEntries : Array MapEntry := #[⟨.string ⟨#[97, 109, 112]⟩, .int .i32 38, 0⟩, ⟨.string ⟨#[108, 116]⟩, .int .i32 60, 1⟩, ⟨.string ⟨#[103, 116]⟩, .int .i32 62, 2⟩, ⟨.string ⟨#[113, 117, 111, 116]⟩, .int .i32 34, 3⟩, ⟨.string ⟨#[97, 112, 111, 115]⟩, .int .i32 39, 4⟩]
/-- Block r is the map of names. -/
def IsNames (r : Nat) (w : World) : Prop := w.heap[r]? = some (.map nameEntries 5)
theorem IsNames.lt {r : Nat} {w : World} (h : IsNames r w) : r < w.heap.size := by
  rcases Nat.lt_or_ge r w.heap.size with h' | h'
  · exact h'
  · unfold IsNames at h; simp [Array.getElem?_eq_none h'] at h
theorem IsNames.below {r B : Nat} {w w' : World} (h : IsNames r w) (hb : Below B w w') (hB : w.heap.size ≤ B) : IsNames r w' :=
  (hb.block r (Nat.lt_of_lt_of_le h.lt hB)).trans h

theorem set_push {α : Type} (a : Array α) (o o' : α) : (a.push o).setIfInBounds a.size o' = a.push o' := by
  apply Array.ext'
  rw [Array.toList_setIfInBounds, Array.toList_push, Array.toList_push, ← Array.length_toList, List.set_append_right _ _ (Nat.le_refl _)]
  simp
theorem set_alloc (w : World) (o o' : Obj) : ({ heap := (w.alloc o).heap.setIfInBounds w.heap.size o', tape := w.tape, drawn := w.drawn, os := (w.alloc o).os, output := (w.alloc o).output } : World) = w.alloc o' := by
  have h : (w.alloc o).heap.setIfInBounds w.heap.size o' = w.heap.push o' := set_push w.heap o o'
  rw [h]; rfl
theorem update_new (es : Array MapEntry) (c : Nat) (s : ByteArray) (val : Value) (w : World) (hf : Instr.findNow .string (.string s) es.toList 0 = some none) :
    (Instr.mapUpdate 110 (.map (some w.heap.size)) (.string s) val).run Tryz.prog (w.alloc (.map es c)) = .ok () (w.alloc (.map (es.push ⟨.string s, val, c⟩) (c + 1))) := by
  have hk : Tryz.prog.underlying 9 = some .string := Tryz.underlying9
  have hb : (w.alloc (.map es c)).heap[w.heap.size]? = some (.map es c) := heap_alloc_new w _
  have hc : (Instr.checkKey false 10000 9 (.string s)).run Tryz.prog (w.alloc (.map es c)) = .ok () (w.alloc (.map es c)) := MapKept.run_checkKey (k := .string s) hk (by simp [MapKept.IsKey]) false 9999
  have e := set_alloc w (.map es c) (.map (es.push ⟨.string s, val, c⟩) (c + 1))
  simp [Instr.mapUpdate, run_underlying Tryz.underlying110, MapKept.run_getObj_map hb, hc, MapKept.run_findKey hk hf, MapKept.run_setObj_map _ hb, Result.andThen, e]
theorem lookup_names (r : Nat) (s : ByteArray) (w : World) (h : IsNames r w) :
    (Instr.lookup 110 (.map (some r)) (.string s) false).run Tryz.prog w = .ok (.int .i32 (En.named s.data.toList)) w := by
  have hk : Tryz.prog.underlying 9 = some .string := Tryz.underlying9
  have hb : w.heap[r]? = some (.map nameEntries 5) := h
  have hc : (Instr.checkKey false 10000 9 (.string s)).run Tryz.prog w = .ok () w := MapKept.run_checkKey (k := .string s) hk (by simp [MapKept.IsKey]) false 9999
  have hz : (zeroValue 21).run Tryz.prog w = .ok (.int .i32 0) w := Tryz.zeroValue21 w
  have hne : nameEntries.isEmpty = false := rfl
  have eqb : ∀ a : Array UInt8, (s == ⟨a⟩) = decide (s.data.toList = a.toList) := fun a => by
    cases s with | mk x =>
    show (x == a) = decide (x.toList = a.toList)
    rw [Bool.eq_iff_iff, beq_iff_eq, decide_eq_true_iff, Array.toList_inj]
  have key : ∀ x, Instr.findNow .string (.string s) nameEntries.toList 0 = some x → (match x with | some (_, v) => v | none => Value.int .i32 0) = .int .i32 (En.named s.data.toList) := by
    intro x hx
    unfold nameEntries at hx
    simp only [Instr.findNow, Instr.sameNow, eqb] at hx
    unfold En.named
    by_cases h1 : s.data.toList = [97, 109, 112]
    · simp [h1] at hx; subst hx; simp [h1]
    by_cases h2 : s.data.toList = [108, 116]
    · simp [h2] at hx; subst hx; simp [h2]
    by_cases h3 : s.data.toList = [103, 116]
    · simp [h3] at hx; subst hx; simp [h3]
    by_cases h4 : s.data.toList = [113, 117, 111, 116]
    · simp [h4] at hx; subst hx; simp [h4]
    by_cases h5 : s.data.toList = [97, 112, 111, 115]
    · simp [h5] at hx; subst hx; simp [h5]
    simp [h1, h2, h3, h4, h5] at hx
    subst hx; simp [h1, h2, h3, h4, h5]
  have ht : ∃ x, Instr.findNow .string (.string s) nameEntries.toList 0 = some x := by
    unfold nameEntries
    simp only [Instr.findNow, Instr.sameNow, eqb]
    by_cases h1 : s.data.toList = [97, 109, 112]
    · simp [h1]
    by_cases h2 : s.data.toList = [108, 116]
    · simp [h2]
    by_cases h3 : s.data.toList = [103, 116]
    · simp [h3]
    by_cases h4 : s.data.toList = [113, 117, 111, 116]
    · simp [h4]
    by_cases h5 : s.data.toList = [97, 112, 111, 115]
    · simp [h5]
    simp [h1, h2, h3, h4, h5]
  obtain ⟨x, hx⟩ := ht
  have kx := key x hx
  cases x with
  | none =>
    simp only at kx
    simp [Instr.lookup, run_underlying Tryz.underlying110, MapKept.run_getObj_map hb, hne, hc, MapKept.run_findKey hk hx, hz, Result.andThen, kx]
  | some p =>
    obtain ⟨i, v⟩ := p
    simp only at kx
    simp [Instr.lookup, run_underlying Tryz.underlying110, MapKept.run_getObj_map hb, hne, hc, MapKept.run_findKey hk hx, Result.andThen, kx]

set_option maxHeartbeats 1000000 in
theorem names_any (w : World) :
    Calls Tryz.prog 73 #[] w fun e w' => e = .returned (.map (some w.heap.size)) ∧ w' = w.alloc (.map nameEntries 5) := by
  have hmm := @run_makeMap Tryz.prog
  have u1 := update_new #[] 0 ⟨#[97, 109, 112]⟩ (.int .i32 38) w rfl
  have u2 := update_new #[⟨.string ⟨#[97, 109, 112]⟩, .int .i32 38, 0⟩] 1 ⟨#[108, 116]⟩ (.int .i32 60) w rfl
  have u3 := update_new #[⟨.string ⟨#[97, 109, 112]⟩, .int .i32 38, 0⟩, ⟨.string ⟨#[108, 116]⟩, .int .i32 60, 1⟩] 2 ⟨#[103, 116]⟩ (.int .i32 62) w rfl
  have u4 := update_new #[⟨.string ⟨#[97, 109, 112]⟩, .int .i32 38, 0⟩, ⟨.string ⟨#[108, 116]⟩, .int .i32 60, 1⟩, ⟨.string ⟨#[103, 116]⟩, .int .i32 62, 2⟩] 3 ⟨#[113, 117, 111, 116]⟩ (.int .i32 34) w rfl
  have u5 := update_new #[⟨.string ⟨#[97, 109, 112]⟩, .int .i32 38, 0⟩, ⟨.string ⟨#[108, 116]⟩, .int .i32 60, 1⟩, ⟨.string ⟨#[103, 116]⟩, .int .i32 62, 2⟩, ⟨.string ⟨#[113, 117, 111, 116]⟩, .int .i32 34, 3⟩] 4 ⟨#[97, 112, 111, 115]⟩ (.int .i32 39) w rfl
  simp only [Array.push, List.concat_eq_append, List.nil_append, List.cons_append, Nat.reduceAdd, Nat.zero_add] at u1 u2 u3 u4 u5
  go_enter Tryz.func73, Tryz.ntmps73
  go_wp2
  go_ret
  exact ⟨rfl, rfl⟩
end Go.Proofs.YthncfhakbobkkaaGreatDoor
