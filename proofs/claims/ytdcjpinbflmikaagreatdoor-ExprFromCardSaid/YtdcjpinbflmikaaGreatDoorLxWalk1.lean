/- Layer 7's program: the closures of package lex that tell of a byte whether it belongs (among, between, either), leading. Conditions: what was captured stands; a text's length fits. -/
import Derived.Test.YtdcjpinbflmikaaGreatDoorShelf
import Derived.Test.YtdcjpinbflmikaaGreatDoorLxRef1
import Derived.Test.YtdcjpinbflmikaaGreatDoorLxFast
import Derived.Laws.EntriesVeiled
import Derived.Lib.IndexLaws
namespace Go.Proofs.YtdcjpinbflmikaaGreatDoor
open Go.RowKit

theorem ret_int {k : IntKind} {a b : Int} (h : a = b) : Ending.returned (.int k a) = .returned (.int k b) := by rw [h]
theorem block_lt {w : World} {a : Addr} {v : Value} (hc : w.cell? a = some v) : a.block < w.heap.size := by
  rcases Nat.lt_or_ge a.block w.heap.size with h | h
  · exact h
  · simp [World.cell?, Array.getElem?_eq_none h] at hc
theorem cell_below {B : Nat} {w w' : World} (hb : Below B w w') (hB : w.heap.size ≤ B) {a : Addr} {v : Value} (hc : w.cell? a = some v) : w'.cell? a = some v := by
  rw [hb.cell (Nat.lt_of_lt_of_le (block_lt hc) hB)]; exact hc

/-- A function value that tells of a byte whether it belongs: which function, and what it captured. -/
def Fits (I : World → Prop) (k : Nat) (C : Array Value) (p : UInt8 → Bool) : Prop := ∀ (c : UInt8) (w : World), I w → Calls Tryz.prog k (#[.int .u8 (c.toNat : Int)] ++ C) w fun e w' => e = .returned (.bool (p c)) ∧ Below w.heap.size w w'
theorem Lx.run_at {p : UInt8 → Bool} {l : List UInt8} {k : Nat} (h : k < l.length) : Lx.run p (l.drop k) = if p l[k] then 1 + Lx.run p (l.drop (k + 1)) else 0 := by
  rw [List.drop_eq_getElem_cons h]; rfl
set_option maxHeartbeats 2000000 in
set_option maxRecDepth 100000 in
theorem lead_among {I : World → Prop} (hst : ∀ w w', I w → Below w.heap.size w w' → I w') (C : Array Value) (p : UInt8 → Bool) (HF : Fits I 211 C p) (s : ByteArray) (w : World) (hs : s.size ≤ maxLen) (hI : I w) :
    Calls Tryz.prog 169 #[.string s, .func (.func 211) #[] C] w fun e w' => e = .returned (.int .i64 (Lx.run p s.data.toList)) ∧ Below w.heap.size w w' := by
  unfold maxLen at hs
  have HL := Lib.hid (Lib.size_eq s)
  have HFF := Lib.hid HF
  have HIw := Lib.hid hI
  obtain ⟨R, hR⟩ : ∃ R, R = Lx.run p s.data.toList := ⟨_, rfl⟩
  rw [← hR]
  have HR := Lib.hid hR
  clear HF hI hR
  go_enter Tryz.func169, Tryz.ntmps169
  go_wp2
  go_loopw [8] (fun i wr => ∃ k : Nat, i = .int .i64 k ∧ k ≤ s.size ∧ Hid (R = k + Lx.run p (s.data.toList.drop k)) ∧ Hid (Below w.heap.size w wr)) (fun i _ => s.size - (intOf i).toNat)
  case atStart => exact ⟨0, rfl, Nat.zero_le _, Lib.hid (by rw [HR.out]; simp), Lib.hid (Below.refl _ _)⟩
  case round =>
    obtain ⟨k, rfl, hk, HI, HB⟩ := hrel
    by_cases hlt : k < s.size
    · have hlt' : (k : Int) < (s.size : Int) := by omega
      have hk' : k < s.data.toList.length := by rw [← HL.out]; exact hlt
      have HS := Lib.hid (show R = k + (if p s[k] then 1 + Lx.run p (s.data.toList.drop (k + 1)) else 0) by
        rw [HI.out, Lx.run_at hk']; rfl)
      have HC := Lib.hid (HFF.out s[k] wr (hst _ _ HIw.out HB.out))
      cases hp : p s[k] with
      | true =>
        rw [hp] at HC HS
        have HE := Lib.hid (show R = ((k + 1 : Nat) : Nat) + Lx.run p (s.data.toList.drop (k + 1)) by rw [HS.out, if_pos rfl]; omega)
        clear HS HI hp
        go_wp2_with fail
        refine HC.out.mono ?_
        rintro e w1 ⟨rfl, b1⟩
        have HB1 := Lib.hid (HB.out.trans (b1.mono HB.out.size))
        clear b1
        go_wp2
        go_roundw
        case rel => exact ⟨k + 1, by go_num, hlt, HE, HB1⟩
        case measure => simp [intOf]; omega
      | false =>
        rw [hp] at HC HS
        have HE := Lib.hid (show R = k by rw [HS.out, if_neg (by decide)]; rfl)
        clear HS HI hp
        go_wp2_with fail
        refine HC.out.mono ?_
        rintro e w1 ⟨rfl, b1⟩
        have HB1 := Lib.hid (HB.out.trans (b1.mono HB.out.size))
        clear b1
        go_wp2
        go_ret
        exact ⟨ret_int (by rw [HE.out]), HB1.out⟩
    · obtain rfl : k = s.size := by omega
      have hlt' : ¬ ((s.size : Nat) : Int) < (s.size : Int) := by omega
      have HE := Lib.hid (show R = s.size by rw [HI.out, List.drop_of_length_le (by rw [← HL.out]; exact Nat.le_refl _)]; rfl)
      clear hlt
      go_wp2
      go_ret
      exact ⟨ret_int (by rw [HE.out]), HB.out⟩
set_option maxHeartbeats 2000000 in
set_option maxRecDepth 100000 in
theorem lead_line {I : World → Prop} (hst : ∀ w w', I w → Below w.heap.size w w' → I w') (C : Array Value) (p : UInt8 → Bool) (HF : Fits I 168 C p) (s : ByteArray) (w : World) (hs : s.size ≤ maxLen) (hI : I w) :
    Calls Tryz.prog 169 #[.string s, .func (.func 168) #[] C] w fun e w' => e = .returned (.int .i64 (Lx.run p s.data.toList)) ∧ Below w.heap.size w w' := by
  unfold maxLen at hs
  have HL := Lib.hid (Lib.size_eq s)
  have HFF := Lib.hid HF
  have HIw := Lib.hid hI
  obtain ⟨R, hR⟩ : ∃ R, R = Lx.run p s.data.toList := ⟨_, rfl⟩
  rw [← hR]
  have HR := Lib.hid hR
  clear HF hI hR
  go_enter Tryz.func169, Tryz.ntmps169
  go_wp2
  go_loopw [8] (fun i wr => ∃ k : Nat, i = .int .i64 k ∧ k ≤ s.size ∧ Hid (R = k + Lx.run p (s.data.toList.drop k)) ∧ Hid (Below w.heap.size w wr)) (fun i _ => s.size - (intOf i).toNat)
  case atStart => exact ⟨0, rfl, Nat.zero_le _, Lib.hid (by rw [HR.out]; simp), Lib.hid (Below.refl _ _)⟩
  case round =>
    obtain ⟨k, rfl, hk, HI, HB⟩ := hrel
    by_cases hlt : k < s.size
    · have hlt' : (k : Int) < (s.size : Int) := by omega
      have hk' : k < s.data.toList.length := by rw [← HL.out]; exact hlt
      have HS := Lib.hid (show R = k + (if p s[k] then 1 + Lx.run p (s.data.toList.drop (k + 1)) else 0) by
        rw [HI.out, Lx.run_at hk']; rfl)
      have HC := Lib.hid (HFF.out s[k] wr (hst _ _ HIw.out HB.out))
      cases hp : p s[k] with
      | true =>
        rw [hp] at HC HS
        have HE := Lib.hid (show R = ((k + 1 : Nat) : Nat) + Lx.run p (s.data.toList.drop (k + 1)) by rw [HS.out, if_pos rfl]; omega)
        clear HS HI hp
        go_wp2_with fail
        refine HC.out.mono ?_
        rintro e w1 ⟨rfl, b1⟩
        have HB1 := Lib.hid (HB.out.trans (b1.mono HB.out.size))
        clear b1
        go_wp2
        go_roundw
        case rel => exact ⟨k + 1, by go_num, hlt, HE, HB1⟩
        case measure => simp [intOf]; omega
      | false =>
        rw [hp] at HC HS
        have HE := Lib.hid (show R = k by rw [HS.out, if_neg (by decide)]; rfl)
        clear HS HI hp
        go_wp2_with fail
        refine HC.out.mono ?_
        rintro e w1 ⟨rfl, b1⟩
        have HB1 := Lib.hid (HB.out.trans (b1.mono HB.out.size))
        clear b1
        go_wp2
        go_ret
        exact ⟨ret_int (by rw [HE.out]), HB1.out⟩
    · obtain rfl : k = s.size := by omega
      have hlt' : ¬ ((s.size : Nat) : Int) < (s.size : Int) := by omega
      have HE := Lib.hid (show R = s.size by rw [HI.out, List.drop_of_length_le (by rw [← HL.out]; exact Nat.le_refl _)]; rfl)
      clear hlt
      go_wp2
      go_ret
      exact ⟨ret_int (by rw [HE.out]), HB.out⟩
set_option maxHeartbeats 2000000 in
set_option maxRecDepth 100000 in
theorem lead_between {I : World → Prop} (hst : ∀ w w', I w → Below w.heap.size w w' → I w') (C : Array Value) (p : UInt8 → Bool) (HF : Fits I 214 C p) (s : ByteArray) (w : World) (hs : s.size ≤ maxLen) (hI : I w) :
    Calls Tryz.prog 169 #[.string s, .func (.func 214) #[] C] w fun e w' => e = .returned (.int .i64 (Lx.run p s.data.toList)) ∧ Below w.heap.size w w' := by
  unfold maxLen at hs
  have HL := Lib.hid (Lib.size_eq s)
  have HFF := Lib.hid HF
  have HIw := Lib.hid hI
  obtain ⟨R, hR⟩ : ∃ R, R = Lx.run p s.data.toList := ⟨_, rfl⟩
  rw [← hR]
  have HR := Lib.hid hR
  clear HF hI hR
  go_enter Tryz.func169, Tryz.ntmps169
  go_wp2
  go_loopw [8] (fun i wr => ∃ k : Nat, i = .int .i64 k ∧ k ≤ s.size ∧ Hid (R = k + Lx.run p (s.data.toList.drop k)) ∧ Hid (Below w.heap.size w wr)) (fun i _ => s.size - (intOf i).toNat)
  case atStart => exact ⟨0, rfl, Nat.zero_le _, Lib.hid (by rw [HR.out]; simp), Lib.hid (Below.refl _ _)⟩
  case round =>
    obtain ⟨k, rfl, hk, HI, HB⟩ := hrel
    by_cases hlt : k < s.size
    · have hlt' : (k : Int) < (s.size : Int) := by omega
      have hk' : k < s.data.toList.length := by rw [← HL.out]; exact hlt
      have HS := Lib.hid (show R = k + (if p s[k] then 1 + Lx.run p (s.data.toList.drop (k + 1)) else 0) by
        rw [HI.out, Lx.run_at hk']; rfl)
      have HC := Lib.hid (HFF.out s[k] wr (hst _ _ HIw.out HB.out))
      cases hp : p s[k] with
      | true =>
        rw [hp] at HC HS
        have HE := Lib.hid (show R = ((k + 1 : Nat) : Nat) + Lx.run p (s.data.toList.drop (k + 1)) by rw [HS.out, if_pos rfl]; omega)
        clear HS HI hp
        go_wp2_with fail
        refine HC.out.mono ?_
        rintro e w1 ⟨rfl, b1⟩
        have HB1 := Lib.hid (HB.out.trans (b1.mono HB.out.size))
        clear b1
        go_wp2
        go_roundw
        case rel => exact ⟨k + 1, by go_num, hlt, HE, HB1⟩
        case measure => simp [intOf]; omega
      | false =>
        rw [hp] at HC HS
        have HE := Lib.hid (show R = k by rw [HS.out, if_neg (by decide)]; rfl)
        clear HS HI hp
        go_wp2_with fail
        refine HC.out.mono ?_
        rintro e w1 ⟨rfl, b1⟩
        have HB1 := Lib.hid (HB.out.trans (b1.mono HB.out.size))
        clear b1
        go_wp2
        go_ret
        exact ⟨ret_int (by rw [HE.out]), HB1.out⟩
    · obtain rfl : k = s.size := by omega
      have hlt' : ¬ ((s.size : Nat) : Int) < (s.size : Int) := by omega
      have HE := Lib.hid (show R = s.size by rw [HI.out, List.drop_of_length_le (by rw [← HL.out]; exact Nat.le_refl _)]; rfl)
      clear hlt
      go_wp2
      go_ret
      exact ⟨ret_int (by rw [HE.out]), HB.out⟩
set_option maxHeartbeats 2000000 in
set_option maxRecDepth 100000 in
theorem lead_either {I : World → Prop} (hst : ∀ w w', I w → Below w.heap.size w w' → I w') (C : Array Value) (p : UInt8 → Bool) (HF : Fits I 215 C p) (s : ByteArray) (w : World) (hs : s.size ≤ maxLen) (hI : I w) :
    Calls Tryz.prog 169 #[.string s, .func (.func 215) #[] C] w fun e w' => e = .returned (.int .i64 (Lx.run p s.data.toList)) ∧ Below w.heap.size w w' := by
  unfold maxLen at hs
  have HL := Lib.hid (Lib.size_eq s)
  have HFF := Lib.hid HF
  have HIw := Lib.hid hI
  obtain ⟨R, hR⟩ : ∃ R, R = Lx.run p s.data.toList := ⟨_, rfl⟩
  rw [← hR]
  have HR := Lib.hid hR
  clear HF hI hR
  go_enter Tryz.func169, Tryz.ntmps169
  go_wp2
  go_loopw [8] (fun i wr => ∃ k : Nat, i = .int .i64 k ∧ k ≤ s.size ∧ Hid (R = k + Lx.run p (s.data.toList.drop k)) ∧ Hid (Below w.heap.size w wr)) (fun i _ => s.size - (intOf i).toNat)
  case atStart => exact ⟨0, rfl, Nat.zero_le _, Lib.hid (by rw [HR.out]; simp), Lib.hid (Below.refl _ _)⟩
  case round =>
    obtain ⟨k, rfl, hk, HI, HB⟩ := hrel
    by_cases hlt : k < s.size
    · have hlt' : (k : Int) < (s.size : Int) := by omega
      have hk' : k < s.data.toList.length := by rw [← HL.out]; exact hlt
      have HS := Lib.hid (show R = k + (if p s[k] then 1 + Lx.run p (s.data.toList.drop (k + 1)) else 0) by
        rw [HI.out, Lx.run_at hk']; rfl)
      have HC := Lib.hid (HFF.out s[k] wr (hst _ _ HIw.out HB.out))
      cases hp : p s[k] with
      | true =>
        rw [hp] at HC HS
        have HE := Lib.hid (show R = ((k + 1 : Nat) : Nat) + Lx.run p (s.data.toList.drop (k + 1)) by rw [HS.out, if_pos rfl]; omega)
        clear HS HI hp
        go_wp2_with fail
        refine HC.out.mono ?_
        rintro e w1 ⟨rfl, b1⟩
        have HB1 := Lib.hid (HB.out.trans (b1.mono HB.out.size))
        clear b1
        go_wp2
        go_roundw
        case rel => exact ⟨k + 1, by go_num, hlt, HE, HB1⟩
        case measure => simp [intOf]; omega
      | false =>
        rw [hp] at HC HS
        have HE := Lib.hid (show R = k by rw [HS.out, if_neg (by decide)]; rfl)
        clear HS HI hp
        go_wp2_with fail
        refine HC.out.mono ?_
        rintro e w1 ⟨rfl, b1⟩
        have HB1 := Lib.hid (HB.out.trans (b1.mono HB.out.size))
        clear b1
        go_wp2
        go_ret
        exact ⟨ret_int (by rw [HE.out]), HB1.out⟩
    · obtain rfl : k = s.size := by omega
      have hlt' : ¬ ((s.size : Nat) : Int) < (s.size : Int) := by omega
      have HE := Lib.hid (show R = s.size by rw [HI.out, List.drop_of_length_le (by rw [← HL.out]; exact Nat.le_refl _)]; rfl)
      clear hlt
      go_wp2
      go_ret
      exact ⟨ret_int (by rw [HE.out]), HB.out⟩

/-- What was captured. -/
theorem index_mem (l : List UInt8) (c : UInt8) : (0 ≤ Lib.indexByte l c) ↔ c ∈ l := by
  constructor
  · intro h
    obtain ⟨o, ho⟩ : ∃ o : Nat, Lib.indexByte l c = o := ⟨(Lib.indexByte l c).toNat, by omega⟩
    exact List.mem_of_getElem? (Lib.indexByte_some ho).1
  · intro h
    have h1 := Lib.indexByte_ge l c
    by_cases h2 : Lib.indexByte l c = -1
    · obtain ⟨k, hk⟩ := List.getElem?_of_mem h
      exact absurd hk (Lib.indexByte_none h2 k)
    · omega
set_option maxHeartbeats 1000000 in
theorem among_fits (b : Nat) (a : ByteArray) (p : UInt8 → Bool) (hp : ∀ c, p c = true ↔ c ∈ a.data.toList) : Fits (fun w => w.cell? ⟨b, 0, none⟩ = some (.string a)) 211 #[.pointer (some ⟨b, 0, none⟩)] p := by
  intro c w hc
  have HX := Lib.hid (Tryz.strings_IndexByte a (c.toNat : Int) w)
  have HQ := Lib.hid (show (0 ≤ Lib.indexByte a.data.toList ((c.toNat : Int).toNat.toUInt8)) ↔ p c = true by
    rw [hp, index_mem]; simp)
  generalize Lib.indexByte a.data.toList ((c.toNat : Int).toNat.toUInt8) = q at *
  generalize p c = R at *
  clear hp
  show Calls Tryz.prog 211 #[.int .u8 (c.toNat : Int), .pointer (some ⟨b, 0, none⟩)] w _
  cases R with
  | true =>
    have h0 : (0 : Int) ≤ q := HQ.out.2 rfl
    go_enter Tryz.func211, Tryz.ntmps211
    go_wp2_with fail
    refine HX.out.mono ?_
    rintro e w1 ⟨rfl, rfl⟩
    go_wp2
    go_ret
    exact ⟨rfl, Below.refl _ _⟩
  | false =>
    have h0 : ¬ (0 : Int) ≤ q := fun h => by have := HQ.out.1 h; cases this
    go_enter Tryz.func211, Tryz.ntmps211
    go_wp2_with fail
    refine HX.out.mono ?_
    rintro e w1 ⟨rfl, rfl⟩
    go_wp2
    go_ret
    exact ⟨by simp [h0], Below.refl _ _⟩
set_option maxHeartbeats 1000000 in
theorem between_fits (b1 b2 : Nat) (x y : Int) (p : UInt8 → Bool) (hp : ∀ c : UInt8, p c = true ↔ x ≤ (c.toNat : Int) ∧ (c.toNat : Int) ≤ y) :
    Fits (fun w => w.cell? ⟨b1, 0, none⟩ = some (.int .u8 x) ∧ w.cell? ⟨b2, 0, none⟩ = some (.int .u8 y)) 214 #[.pointer (some ⟨b1, 0, none⟩), .pointer (some ⟨b2, 0, none⟩)] p := by
  intro c w hc
  obtain ⟨c1, c2⟩ := hc
  have HQ := Lib.hid (hp c)
  have hb := u8_bd c
  generalize p c = R at *
  clear hp
  show Calls Tryz.prog 214 #[.int .u8 (c.toNat : Int), .pointer (some ⟨b1, 0, none⟩), .pointer (some ⟨b2, 0, none⟩)] w _
  generalize (c.toNat : Int) = z at *
  go_enter Tryz.func214, Tryz.ntmps214
  go_wp2
  all_goals go_ret
  all_goals exact ⟨ret_bool (by rw [Bool.eq_iff_iff, HQ.out]; simp; try omega), Below.refl _ _⟩
set_option maxHeartbeats 1000000 in
theorem line_fits (I : World → Prop) (p : UInt8 → Bool) (hp : ∀ c : UInt8, p c = true ↔ c.toNat ≠ 10) : Fits I 168 #[] p := by
  intro c w _
  have HQ := Lib.hid (hp c)
  have hb := u8_bd c
  have HZ := Lib.hid (show ((c.toNat : Int) != 10) = p c by rw [Bool.eq_iff_iff, HQ.out]; simp; omega)
  generalize p c = R at *
  show Calls Tryz.prog 168 #[.int .u8 (c.toNat : Int)] w _
  clear hp
  generalize (c.toNat : Int) = z at *
  go_enter Tryz.func168, Tryz.ntmps168
  go_wp2
  go_ret
  exact ⟨by rw [← HZ.out]; rfl, Below.refl _ _⟩
end Go.Proofs.YtdcjpinbflmikaaGreatDoor
