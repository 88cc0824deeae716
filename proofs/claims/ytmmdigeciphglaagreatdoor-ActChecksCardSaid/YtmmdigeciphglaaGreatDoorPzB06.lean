/- Facts and walks for the statement. -/
import Derived.Test.YtmmdigeciphglaaGreatDoorPzB05
import Derived.Test.YtmmdigeciphglaaGreatDoorPzB02
import Derived.Laws.EntriesVeiled
import Derived.Lib.IndexLaws
namespace Go.Proofs.YtmmdigeciphglaaGreatDoor
open Go.RowKit
theorem ret_int {k : IntKind} {a b : Int} (h : a = b) : Ending.returned (.int k a) = .returned (.int k b) := by rw [h]
theorem block_lt {w : World} {a : Addr} {v : Value} (hc : w.cell? a = some v) : a.block < w.heap.size := by
  rcases Nat.lt_or_ge a.block w.heap.size with h | h
  · exact h
  · simp [World.cell?, Array.getElem?_eq_none h] at hc
theorem cell_below {B : Nat} {w w' : World} (hb : Below B w w') (hB : w.heap.size ≤ B) {a : Addr} {v : Value} (hc : w.cell? a = some v) : w'.cell? a = some v := by
  rw [hb.cell (Nat.lt_of_lt_of_le (block_lt hc) hB)]; exact hc
def Fits (I : World → Prop) (k : Nat) (C : Array Value) (p : UInt8 → Bool) : Prop := ∀ (c : UInt8) (w : World), I w → Calls Tryz.prog k (#[.int .u8 (c.toNat : Int)] ++ C) w fun e w' => e = .returned (.bool (p c)) ∧ Below w.heap.size w w'
theorem Lx.run_at {p : UInt8 → Bool} {l : List UInt8} {k : Nat} (h : k < l.length) : Lx.run p (l.drop k) = if p l[k] then 1 + Lx.run p (l.drop (k + 1)) else 0 := by
  rw [List.drop_eq_getElem_cons h]; rfl
set_option maxHeartbeats 2000000 in
set_option maxRecDepth 100000 in
theorem lead_among {I : World → Prop} (hst : ∀ w w', I w → Below w.heap.size w w' → I w') (C : Array Value) (p : UInt8 → Bool) (HF : Fits I 125 C p) (s : ByteArray) (w : World) (hs : s.size ≤ maxLen) (hI : I w) :
    Calls Tryz.prog 96 #[.string s, .func (.func 125) #[] C] w fun e w' => e = .returned (.int .i64 (Lx.run p s.data.toList)) ∧ Below w.heap.size w w' := by
  unfold maxLen at hs
  have HL := Lib.hid (Lib.size_eq s)
  have HFF := Lib.hid HF
  have HIw := Lib.hid hI
  obtain ⟨R, hR⟩ : ∃ R, R = Lx.run p s.data.toList := ⟨_, rfl⟩
  rw [← hR]
  have HR := Lib.hid hR
  clear HF hI hR
  go_enter Tryz.func96, Tryz.ntmps96
  go_wp2
  go_loopw [8] (fun i wr => ∃ k : Nat, i = .int .i64 k ∧ k ≤ s.size ∧ Hid (R = k + Lx.run p (s.data.toList.drop k)) ∧ Hid (Below w.heap.size w wr)) (fun i _ => s.size - (intOf i).toNat)
  case atStart => exact ⟨0, rfl, Nat.zero_le _, Lib.hid (by rw [HR.out]; simp), Lib.hid (Below.refl _ _)⟩
  case round =>
    obtain ⟨k, rfl, hk, HI, HB⟩ := hrel
    by_cases hlt : k < s.size
    · have hlt' : (k : Int) < (s.size : Int) := by omega
      have hk' : k < s.data.toList.length := by rw [← HL.out]; exact hlt
      have HS := Lib.hid (show R = k + (if p s[k] then 1 + Lx.run p (s.data.toList.drop (k + 1)) else 0) by
        rw [HI.out, Lx.run_at hk']; rfl)
      have HC := Lib.hid (HFF.out s[k] wr (hst _ _ HIw.out HB.out))
      cases hp : p s[k] with
      | true =>
        rw [hp] at HC HS
        have HE := Lib.hid (show R = ((k + 1 : Nat) : Nat) + Lx.run p (s.data.toList.drop (k + 1)) by rw [HS.out, if_pos rfl]; omega)
        clear HS HI hp
        go_wp2_with fail
        refine HC.out.mono ?_
        rintro e w1 ⟨rfl, b1⟩
        have HB1 := Lib.hid (HB.out.trans (b1.mono HB.out.size))
        clear b1
        go_wp2
        go_roundw
        case rel => exact ⟨k + 1, by go_num, hlt, HE, HB1⟩
        case measure => simp [intOf]; omega
      | false =>
        rw [hp] at HC HS
        have HE := Lib.hid (show R = k by rw [HS.out, if_neg (by decide)]; rfl)
        clear HS HI hp
        go_wp2_with fail
        refine HC.out.mono ?_
        rintro e w1 ⟨rfl, b1⟩
        have HB1 := Lib.hid (HB.out.trans (b1.mono HB.out.size))
        clear b1
        go_wp2
        go_ret
        exact ⟨ret_int (by rw [HE.out]), HB1.out⟩
    · obtain rfl : k = s.size := by omega
      have hlt' : ¬ ((s.size : Nat) : Int) < (s.size : Int) := by omega
      have HE := Lib.hid (show R = s.size by rw [HI.out, List.drop_of_length_le (by rw [← HL.out]; exact Nat.le_refl _)]; rfl)
      clear hlt
      go_wp2
      go_ret
      exact ⟨ret_int (by rw [HE.out]), HB.out⟩
set_option maxHeartbeats 2000000 in
set_option maxRecDepth 100000 in
theorem lead_line {I : World → Prop} (hst : ∀ w w', I w → Below w.heap.size w w' → I w') (C : Array Value) (p : UInt8 → Bool) (HF : Fits I 95 C p) (s : ByteArray) (w : World) (hs : s.size ≤ maxLen) (hI : I w) :
    Calls Tryz.prog 96 #[.string s, .func (.func 95) #[] C] w fun e w' => e = .returned (.int .i64 (Lx.run p s.data.toList)) ∧ Below w.heap.size w w' := by
  unfold maxLen at hs
  have HL := Lib.hid (Lib.size_eq s)
  have HFF := Lib.hid HF
  have HIw := Lib.hid hI
  obtain ⟨R, hR⟩ : ∃ R, R = Lx.run p s.data.toList := ⟨_, rfl⟩
  rw [← hR]
  have HR := Lib.hid hR
  clear HF hI hR
  go_enter Tryz.func96, Tryz.ntmps96
  go_wp2
  go_loopw [8] (fun i wr => ∃ k : Nat, i = .int .i64 k ∧ k ≤ s.size ∧ Hid (R = k + Lx.run p (s.data.toList.drop k)) ∧ Hid (Below w.heap.size w wr)) (fun i _ => s.size - (intOf i).toNat)
  case atStart => exact ⟨0, rfl, Nat.zero_le _, Lib.hid (by rw [HR.out]; simp), Lib.hid (Below.refl _ _)⟩
  case round =>
    obtain ⟨k, rfl, hk, HI, HB⟩ := hrel
    by_cases hlt : k < s.size
    · have hlt' : (k : Int) < (s.size : Int) := by omega
      have hk' : k < s.data.toList.length := by rw [← HL.out]; exact hlt
      have HS := Lib.hid (show R = k + (if p s[k] then 1 + Lx.run p (s.data.toList.drop (k + 1)) else 0) by
        rw [HI.out, Lx.run_at hk']; rfl)
      have HC := Lib.hid (HFF.out s[k] wr (hst _ _ HIw.out HB.out))
      cases hp : p s[k] with
      | true =>
        rw [hp] at HC HS
        have HE := Lib.hid (show R = ((k + 1 : Nat) : Nat) + Lx.run p (s.data.toList.drop (k + 1)) by rw [HS.out, if_pos rfl]; omega)
        clear HS HI hp
        go_wp2_with fail
        refine HC.out.mono ?_
        rintro e w1 ⟨rfl, b1⟩
        have HB1 := Lib.hid (HB.out.trans (b1.mono HB.out.size))
        clear b1
        go_wp2
        go_roundw
        case rel => exact ⟨k + 1, by go_num, hlt, HE, HB1⟩
        case measure => simp [intOf]; omega
      | false =>
        rw [hp] at HC HS
        have HE := Lib.hid (show R = k by rw [HS.out, if_neg (by decide)]; rfl)
        clear HS HI hp
        go_wp2_with fail
        refine HC.out.mono ?_
        rintro e w1 ⟨rfl, b1⟩
        have HB1 := Lib.hid (HB.out.trans (b1.mono HB.out.size))
        clear b1
        go_wp2
        go_ret
        exact ⟨ret_int (by rw [HE.out]), HB1.out⟩
    · obtain rfl : k = s.size := by omega
      have hlt' : ¬ ((s.size : Nat) : Int) < (s.size : Int) := by omega
      have HE := Lib.hid (show R = s.size by rw [HI.out, List.drop_of_length_le (by rw [← HL.out]; exact Nat.le_refl _)]; rfl)
      clear hlt
      go_wp2
      go_ret
      exact ⟨ret_int (by rw [HE.out]), HB.out⟩
set_option maxHeartbeats 2000000 in
set_option maxRecDepth 100000 in
theorem lead_between {I : World → Prop} (hst : ∀ w w', I w → Below w.heap.size w w' → I w') (C : Array Value) (p : UInt8 → Bool) (HF : Fits I 128 C p) (s : ByteArray) (w : World) (hs : s.size ≤ maxLen) (hI : I w) :
    Calls Tryz.prog 96 #[.string s, .func (.func 128) #[] C] w fun e w' => e = .returned (.int .i64 (Lx.run p s.data.toList)) ∧ Below w.heap.size w w' := by
  unfold maxLen at hs
  have HL := Lib.hid (Lib.size_eq s)
  have HFF := Lib.hid HF
  have HIw := Lib.hid hI
  obtain ⟨R, hR⟩ : ∃ R, R = Lx.run p s.data.toList := ⟨_, rfl⟩
  rw [← hR]
  have HR := Lib.hid hR
  clear HF hI hR
  go_enter Tryz.func96, Tryz.ntmps96
  go_wp2
  go_loopw [8] (fun i wr => ∃ k : Nat, i = .int .i64 k ∧ k ≤ s.size ∧ Hid (R = k + Lx.run p (s.data.toList.drop k)) ∧ Hid (Below w.heap.size w wr)) (fun i _ => s.size - (intOf i).toNat)
  case atStart => exact ⟨0, rfl, Nat.zero_le _, Lib.hid (by rw [HR.out]; simp), Lib.hid (Below.refl _ _)⟩
  case round =>
    obtain ⟨k, rfl, hk, HI, HB⟩ := hrel
    by_cases hlt : k < s.size
    · have hlt' : (k : Int) < (s.size : Int) := by omega
      have hk' : k < s.data.toList.length := by rw [← HL.out]; exact hlt
      have HS := Lib.hid (show R = k + (if p s[k] then 1 + Lx.run p (s.data.toList.drop (k + 1)) else 0) by
        rw [HI.out, Lx.run_at hk']; rfl)
      have HC := Lib.hid (HFF.out s[k] wr (hst _ _ HIw.out HB.out))
      cases hp : p s[k] with
      | true =>
        rw [hp] at HC HS
        have HE := Lib.hid (show R = ((k + 1 : Nat) : Nat) + Lx.run p (s.data.toList.drop (k + 1)) by rw [HS.out, if_pos rfl]; omega)
        clear HS HI hp
        go_wp2_with fail
        refine HC.out.mono ?_
        rintro e w1 ⟨rfl, b1⟩
        have HB1 := Lib.hid (HB.out.trans (b1.mono HB.out.size))
        clear b1
        go_wp2
        go_roundw
        case rel => exact ⟨k + 1, by go_num, hlt, HE, HB1⟩
        case measure => simp [intOf]; omega
      | false =>
        rw [hp] at HC HS
        have HE := Lib.hid (show R = k by rw [HS.out, if_neg (by decide)]; rfl)
        clear HS HI hp
        go_wp2_with fail
        refine HC.out.mono ?_
        rintro e w1 ⟨rfl, b1⟩
        have HB1 := Lib.hid (HB.out.trans (b1.mono HB.out.size))
        clear b1
        go_wp2
        go_ret
        exact ⟨ret_int (by rw [HE.out]), HB1.out⟩
    · obtain rfl : k = s.size := by omega
      have hlt' : ¬ ((s.size : Nat) : Int) < (s.size : Int) := by omega
      have HE := Lib.hid (show R = s.size by rw [HI.out, List.drop_of_length_le (by rw [← HL.out]; exact Nat.le_refl _)]; rfl)
      clear hlt
      go_wp2
      go_ret
      exact ⟨ret_int (by rw [HE.out]), HB.out⟩
set_option maxHeartbeats 2000000 in
set_option maxRecDepth 100000 in
theorem lead_either {I : World → Prop} (hst : ∀ w w', I w → Below w.heap.size w w' → I w') (C : Array Value) (p : UInt8 → Bool) (HF : Fits I 129 C p) (s : ByteArray) (w : World) (hs : s.size ≤ maxLen) (hI : I w) :
    Calls Tryz.prog 96 #[.string s, .func (.func 129) #[] C] w fun e w' => e = .returned (.int .i64 (Lx.run p s.data.toList)) ∧ Below w.heap.size w w' := by
  unfold maxLen at hs
  have HL := Lib.hid (Lib.size_eq s)
  have HFF := Lib.hid HF
  have HIw := Lib.hid hI
  obtain ⟨R, hR⟩ : ∃ R, R = Lx.run p s.data.toList := ⟨_, rfl⟩
  rw [← hR]
  have HR := Lib.hid hR
  clear HF hI hR
  go_enter Tryz.func96, Tryz.ntmps96
  go_wp2
  go_loopw [8] (fun i wr => ∃ k : Nat, i = .int .i64 k ∧ k ≤ s.size ∧ Hid (R = k + Lx.run p (s.data.toList.drop k)) ∧ Hid (Below w.heap.size w wr)) (fun i _ => s.size - (intOf i).toNat)
  case atStart => exact ⟨0, rfl, Nat.zero_le _, Lib.hid (by rw [HR.out]; simp), Lib.hid (Below.refl _ _)⟩
  case round =>
    obtain ⟨k, rfl, hk, HI, HB⟩ := hrel
    by_cases hlt : k < s.size
    · have hlt' : (k : Int) < (s.size : Int) := by omega
      have hk' : k < s.data.toList.length := by rw [← HL.out]; exact hlt
      have HS := Lib.hid (show R = k + (if p s[k] then 1 + Lx.run p (s.data.toList.drop (k + 1)) else 0) by
        rw [HI.out, Lx.run_at hk']; rfl)
      have HC := Lib.hid (HFF.out s[k] wr (hst _ _ HIw.out HB.out))
      cases hp : p s[k] with
      | true =>
        rw [hp] at HC HS
        have HE := Lib.hid (show R = ((k + 1 : Nat) : Nat) + Lx.run p (s.data.toList.drop (k + 1)) by rw [HS.out, if_pos rfl]; omega)
        clear HS HI hp
        go_wp2_with fail
        refine HC.out.mono ?_
        rintro e w1 ⟨rfl, b1⟩
        have HB1 := Lib.hid (HB.out.trans (b1.mono HB.out.size))
        clear b1
        go_wp2
        go_roundw
        case rel => exact ⟨k + 1, by go_num, hlt, HE, HB1⟩
        case measure => simp [intOf]; omega
      | false =>
        rw [hp] at HC HS
        have HE := Lib.hid (show R = k by rw [HS.out, if_neg (by decide)]; rfl)
        clear HS HI hp
        go_wp2_with fail
        refine HC.out.mono ?_
        rintro e w1 ⟨rfl, b1⟩
        have HB1 := Lib.hid (HB.out.trans (b1.mono HB.out.size))
        clear b1
        go_wp2
        go_ret
        exact ⟨ret_int (by rw [HE.out]), HB1.out⟩
    · obtain rfl : k = s.size := by omega
      have hlt' : ¬ ((s.size : Nat) : Int) < (s.size : Int) := by omega
      have HE := Lib.hid (show R = s.size by rw [HI.out, List.drop_of_length_le (by rw [← HL.out]; exact Nat.le_refl _)]; rfl)
      clear hlt
      go_wp2
      go_ret
      exact ⟨ret_int (by rw [HE.out]), HB.out⟩
theorem index_mem (l : List UInt8) (c : UInt8) : (0 ≤ Lib.indexByte l c) ↔ c ∈ l := by
  constructor
  · intro h
    obtain ⟨o, ho⟩ : ∃ o : Nat, Lib.indexByte l c = o := ⟨(Lib.indexByte l c).toNat, by omega⟩
    exact List.mem_of_getElem? (Lib.indexByte_some ho).1
  · intro h
    have h1 := Lib.indexByte_ge l c
    by_cases h2 : Lib.indexByte l c = -1
    · obtain ⟨k, hk⟩ := List.getElem?_of_mem h
      exact absurd hk (Lib.indexByte_none h2 k)
    · omega
set_option maxHeartbeats 1000000 in
theorem among_fits (b : Nat) (a : ByteArray) (p : UInt8 → Bool) (hp : ∀ c, p c = true ↔ c ∈ a.data.toList) : Fits (fun w => w.cell? ⟨b, 0, none⟩ = some (.string a)) 125 #[.pointer (some ⟨b, 0, none⟩)] p := by
  intro c w hc
  have HX := Lib.hid (Tryz.strings_IndexByte a (c.toNat : Int) w)
  have HQ := Lib.hid (show (0 ≤ Lib.indexByte a.data.toList ((c.toNat : Int).toNat.toUInt8)) ↔ p c = true by
    rw [hp, index_mem]; simp)
  generalize Lib.indexByte a.data.toList ((c.toNat : Int).toNat.toUInt8) = q at *
  generalize p c = R at *
  clear hp
  show Calls Tryz.prog 125 #[.int .u8 (c.toNat : Int), .pointer (some ⟨b, 0, none⟩)] w _
  cases R with
  | true =>
    have h0 : (0 : Int) ≤ q := HQ.out.2 rfl
    go_enter Tryz.func125, Tryz.ntmps125
    go_wp2_with fail
    refine HX.out.mono ?_
    rintro e w1 ⟨rfl, rfl⟩
    go_wp2
    go_ret
    exact ⟨rfl, Below.refl _ _⟩
  | false =>
    have h0 : ¬ (0 : Int) ≤ q := fun h => by have := HQ.out.1 h; cases this
    go_enter Tryz.func125, Tryz.ntmps125
    go_wp2_with fail
    refine HX.out.mono ?_
    rintro e w1 ⟨rfl, rfl⟩
    go_wp2
    go_ret
    exact ⟨by simp [h0], Below.refl _ _⟩
set_option maxHeartbeats 1000000 in
theorem between_fits (b1 b2 : Nat) (x y : Int) (p : UInt8 → Bool) (hp : ∀ c : UInt8, p c = true ↔ x ≤ (c.toNat : Int) ∧ (c.toNat : Int) ≤ y) :
    Fits (fun w => w.cell? ⟨b1, 0, none⟩ = some (.int .u8 x) ∧ w.cell? ⟨b2, 0, none⟩ = some (.int .u8 y)) 128 #[.pointer (some ⟨b1, 0, none⟩), .pointer (some ⟨b2, 0, none⟩)] p := by
  intro c w hc
  obtain ⟨c1, c2⟩ := hc
  have HQ := Lib.hid (hp c)
  have hb := u8_bd c
  generalize p c = R at *
  clear hp
  show Calls Tryz.prog 128 #[.int .u8 (c.toNat : Int), .pointer (some ⟨b1, 0, none⟩), .pointer (some ⟨b2, 0, none⟩)] w _
  generalize (c.toNat : Int) = z at *
  go_enter Tryz.func128, Tryz.ntmps128
  go_wp2
  all_goals go_ret
  all_goals exact ⟨ret_bool (by rw [Bool.eq_iff_iff, HQ.out]; simp; try omega), Below.refl _ _⟩
set_option maxHeartbeats 1000000 in
theorem line_fits (I : World → Prop) (p : UInt8 → Bool) (hp : ∀ c : UInt8, p c = true ↔ c.toNat ≠ 10) : Fits I 95 #[] p := by
  intro c w _
  have HQ := Lib.hid (hp c)
  have hb := u8_bd c
  have HZ := Lib.hid (show ((c.toNat : Int) != 10) = p c by rw [Bool.eq_iff_iff, HQ.out]; simp; omega)
  generalize p c = R at *
  show Calls Tryz.prog 95 #[.int .u8 (c.toNat : Int)] w _
  clear hp
  generalize (c.toNat : Int) = z at *
  go_enter Tryz.func95, Tryz.ntmps95
  go_wp2
  go_ret
  exact ⟨by rw [← HZ.out]; rfl, Below.refl _ _⟩
end Go.Proofs.YtmmdigeciphglaaGreatDoor
namespace Go.Proofs.YtmmdigeciphglaaGreatDoor
open Go.RowKit
abbrev fBt (b1 b2 : Nat) : Value := .func (.func 128) #[] #[.pointer (some ⟨b1, 0, none⟩), .pointer (some ⟨b2, 0, none⟩)]
abbrev fAm (b : Nat) : Value := .func (.func 125) #[] #[.pointer (some ⟨b, 0, none⟩)]
abbrev fEi (b : Nat) : Value := .func (.func 129) #[] #[.pointer (some ⟨b, 0, none⟩)]
def IsBt (w : World) (b1 b2 : Nat) (x y : Int) : Prop := w.cell? ⟨b1, 0, none⟩ = some (.int .u8 x) ∧ w.cell? ⟨b2, 0, none⟩ = some (.int .u8 y)
theorem IsBt.below {w w' : World} {b1 b2 : Nat} {x y : Int} (h : IsBt w b1 b2 x y) (hb : Below w.heap.size w w') : IsBt w' b1 b2 x y := ⟨cell_below hb (Nat.le_refl _) h.1, cell_below hb (Nat.le_refl _) h.2⟩
structure IsLet (w : World) (b g p1 p2 q1 q2 a : Nat) : Prop where
  c : w.cell? ⟨b, 0, none⟩ = some (.slice (some ⟨g, 0, none⟩) 3 3)
  c0 : w.cell? ⟨g, 0, none⟩ = some (fBt p1 p2)
  c1 : w.cell? ⟨g, 1, none⟩ = some (fBt q1 q2)
  c2 : w.cell? ⟨g, 2, none⟩ = some (fAm a)
  p : IsBt w p1 p2 65 90
  q : IsBt w q1 q2 97 122
  a : w.cell? ⟨a, 0, none⟩ = some (.string ⟨#[95]⟩)
theorem IsLet.below {w w' : World} {b g p1 p2 q1 q2 a : Nat} (h : IsLet w b g p1 p2 q1 q2 a) (hb : Below w.heap.size w w') : IsLet w' b g p1 p2 q1 q2 a :=
  ⟨cell_below hb (Nat.le_refl _) h.c, cell_below hb (Nat.le_refl _) h.c0, cell_below hb (Nat.le_refl _) h.c1, cell_below hb (Nat.le_refl _) h.c2, h.p.below hb, h.q.below hb, cell_below hb (Nat.le_refl _) h.a⟩
structure IsLd (w : World) (b' g' d1 d2 b g p1 p2 q1 q2 a : Nat) : Prop where
  c : w.cell? ⟨b', 0, none⟩ = some (.slice (some ⟨g', 0, none⟩) 2 2)
  c0 : w.cell? ⟨g', 0, none⟩ = some (fEi b)
  c1 : w.cell? ⟨g', 1, none⟩ = some (fBt d1 d2)
  l : IsLet w b g p1 p2 q1 q2 a
  d : IsBt w d1 d2 48 57
theorem IsLd.below {w w' : World} {b' g' d1 d2 b g p1 p2 q1 q2 a : Nat} (h : IsLd w b' g' d1 d2 b g p1 p2 q1 q2 a) (hb : Below w.heap.size w w') : IsLd w' b' g' d1 d2 b g p1 p2 q1 q2 a :=
  ⟨cell_below hb (Nat.le_refl _) h.c, cell_below hb (Nat.le_refl _) h.c0, cell_below hb (Nat.le_refl _) h.c1, h.l.below hb, h.d.below hb⟩
def bt (x y : Int) (c : UInt8) : Bool := decide (x ≤ (c.toNat : Int) ∧ (c.toNat : Int) ≤ y)
theorem bt_any (b1 b2 : Nat) (x y : Int) (c : UInt8) (w : World) (h : IsBt w b1 b2 x y) : Calls Tryz.prog 128 #[.int .u8 (c.toNat : Int), .pointer (some ⟨b1, 0, none⟩), .pointer (some ⟨b2, 0, none⟩)] w fun e w' => e = .returned (.bool (bt x y c)) ∧ Below w.heap.size w w' :=
  between_fits b1 b2 x y (bt x y) (fun c => by unfold bt; rw [decide_eq_true_iff]) c w h
theorem am95_any (a : Nat) (c : UInt8) (w : World) (h : w.cell? ⟨a, 0, none⟩ = some (.string ⟨#[95]⟩)) : Calls Tryz.prog 125 #[.int .u8 (c.toNat : Int), .pointer (some ⟨a, 0, none⟩)] w fun e w' => e = .returned (.bool (decide (c = 95))) ∧ Below w.heap.size w w' :=
  among_fits a ⟨#[95]⟩ (fun c => decide (c = 95)) (fun c => by rw [decide_eq_true_iff]; simp) c w h
theorem isL_bt (c : UInt8) : Lx.isL c = (bt 65 90 c || (bt 97 122 c || decide (c = 95))) := by
  have h : c = 95 ↔ c.toNat = 95 := ⟨fun h => by rw [h]; rfl, fun h => UInt8.toNat_inj.1 h⟩
  rw [Bool.eq_iff_iff, Bool.or_eq_true, Bool.or_eq_true]
  unfold Lx.isL bt
  rw [decide_eq_true_iff, decide_eq_true_iff, decide_eq_true_iff, decide_eq_true_iff, h]
  omega
theorem isD_bt (c : UInt8) : Lx.isD c = bt 48 57 c := by
  rw [Bool.eq_iff_iff]
  unfold Lx.isD bt
  rw [decide_eq_true_iff, decide_eq_true_iff]
  omega
set_option maxHeartbeats 2000000 in
set_option maxRecDepth 100000 in
theorem let_fits (b g p1 p2 q1 q2 a : Nat) : Fits (fun w => IsLet w b g p1 p2 q1 q2 a) 129 #[.pointer (some ⟨b, 0, none⟩)] Lx.isL := by
  intro c w h
  have h : IsLet w b g p1 p2 q1 q2 a := h
  show Calls Tryz.prog 129 #[.int .u8 (c.toNat : Int), .pointer (some ⟨b, 0, none⟩)] w _
  have H1 := Lib.hid (fun w0 h0 => bt_any p1 p2 65 90 c w0 h0)
  have H2 := Lib.hid (fun w0 h0 => bt_any q1 q2 97 122 c w0 h0)
  have H3 := Lib.hid (fun w0 h0 => am95_any a c w0 h0)
  rw [isL_bt]
  generalize bt 65 90 c = r1 at *
  generalize bt 97 122 c = r2 at *
  generalize decide (c = 95) = r3 at *
  generalize (c.toNat : Int) = z at *
  have HC := Lib.hid h
  have e1 := h.c
  have e2 := h.c0
  clear h
  go_enter Tryz.func129, Tryz.ntmps129
  go_wp2
  refine wp_loop_rounds 5 ?_
  rw [rounds_succ]
  go_wp2_with fail
  refine (H1.out _ HC.out.p).mono ?_
  rintro e w1 ⟨rfl, b1⟩
  have HC1 := Lib.hid (And.intro b1 (HC.out.below b1))
  cases r1 with
  | true =>
    go_wp2
    go_ret
    exact ⟨rfl, HC1.out.1⟩
  | false =>
    replace e1 := HC1.out.2.c
    replace e2 := HC1.out.2.c1
    clear b1
    go_wp2
    rw [rounds_succ]
    go_wp2_with fail
    refine (H2.out _ HC1.out.2.q).mono ?_
    rintro e w2 ⟨rfl, b1⟩
    have HC2 := Lib.hid (And.intro (HC1.out.1.trans (b1.mono HC1.out.1.size)) (HC1.out.2.below b1))
    cases r2 with
    | true =>
      go_wp2
      go_ret
      exact ⟨rfl, HC2.out.1⟩
    | false =>
      replace e1 := HC2.out.2.c
      replace e2 := HC2.out.2.c2
      clear b1
      go_wp2
      rw [rounds_succ]
      go_wp2_with fail
      refine (H3.out _ HC2.out.2.a).mono ?_
      rintro e w3 ⟨rfl, b1⟩
      have HC3 := Lib.hid (HC2.out.1.trans (b1.mono HC2.out.1.size))
      cases r3 with
      | true =>
        go_wp2
        go_ret
        exact ⟨rfl, HC3.out⟩
      | false =>
        clear b1
        go_wp2
        rw [rounds_succ]
        go_wp2
        go_ret
        exact ⟨rfl, HC3.out⟩
set_option maxHeartbeats 2000000 in
set_option maxRecDepth 100000 in
theorem ld_fits (b' g' d1 d2 b g p1 p2 q1 q2 a : Nat) : Fits (fun w => IsLd w b' g' d1 d2 b g p1 p2 q1 q2 a) 129 #[.pointer (some ⟨b', 0, none⟩)] Lx.isN := by
  intro c w h
  have h : IsLd w b' g' d1 d2 b g p1 p2 q1 q2 a := h
  show Calls Tryz.prog 129 #[.int .u8 (c.toNat : Int), .pointer (some ⟨b', 0, none⟩)] w _
  have H1 := Lib.hid (fun w0 (h0 : IsLet w0 b g p1 p2 q1 q2 a) => (show Calls Tryz.prog 129 #[.int .u8 (c.toNat : Int), .pointer (some ⟨b, 0, none⟩)] w0 fun e w' => e = .returned (.bool (Lx.isL c)) ∧ Below w0.heap.size w0 w' from let_fits b g p1 p2 q1 q2 a c w0 h0))
  have H2 := Lib.hid (fun w0 h0 => bt_any d1 d2 48 57 c w0 h0)
  rw [show Lx.isN c = (Lx.isL c || Lx.isD c) from rfl, isD_bt]
  generalize bt 48 57 c = r2 at *
  generalize Lx.isL c = r1 at *
  generalize (c.toNat : Int) = z at *
  have HC := Lib.hid h
  have e1 := h.c
  have e2 := h.c0
  clear h
  go_enter Tryz.func129, Tryz.ntmps129
  go_wp2
  refine wp_loop_rounds 5 ?_
  rw [rounds_succ]
  go_wp2_with fail
  refine (H1.out _ HC.out.l).mono ?_
  rintro e w1 ⟨rfl, b1⟩
  have HC1 := Lib.hid (And.intro b1 (HC.out.below b1))
  cases r1 with
  | true =>
    go_wp2
    go_ret
    exact ⟨rfl, HC1.out.1⟩
  | false =>
    replace e1 := HC1.out.2.c
    replace e2 := HC1.out.2.c1
    clear b1
    go_wp2
    rw [rounds_succ]
    go_wp2_with fail
    refine (H2.out _ HC1.out.2.d).mono ?_
    rintro e w2 ⟨rfl, b1⟩
    have HC2 := Lib.hid (HC1.out.1.trans (b1.mono HC1.out.1.size))
    cases r2 with
    | true =>
      go_wp2
      go_ret
      exact ⟨rfl, HC2.out⟩
    | false =>
      clear b1
      go_wp2
      rw [rounds_succ]
      go_wp2
      go_ret
      exact ⟨rfl, HC2.out⟩
end Go.Proofs.YtmmdigeciphglaaGreatDoor
namespace Go.Proofs.YtmmdigeciphglaaGreatDoor
open Go.RowKit
def Lx.sgf (l : List UInt8) : List (List UInt8) → Nat
  | [] => 0
  | x :: r => if Lib.hasPrefix l x then x.length else Lx.sgf l r
theorem Lx.sgf_sgn (l : List UInt8) : Lx.sgf l Lx.signs = Lx.sgn l := by
  match l with
  | [] => rfl
  | [c] =>
    simp only [Lx.sgf, Lx.signs, Lx.sgn, Lib.hasPrefix, List.contains_cons, List.contains_nil]
    by_cases h1 : c = 60
    · subst h1; rfl
    by_cases h2 : c = 62
    · subst h2; rfl
    by_cases h3 : c = 61
    · subst h3; rfl
    by_cases h4 : c = 43
    · subst h4; rfl
    by_cases h5 : c = 45
    · subst h5; rfl
    by_cases h6 : c = 42
    · subst h6; rfl
    by_cases h7 : c = 40
    · subst h7; rfl
    by_cases h8 : c = 41
    · subst h8; rfl
    by_cases h9 : c = 44
    · subst h9; rfl
    by_cases h10 : c = 59
    · subst h10; rfl
    have g := fun x : UInt8 => @eq_comm _ x c
    simp [h1, h2, h3, h4, h5, h6, h7, h8, h9, h10, g]
  | c :: d :: r =>
    simp only [Lx.sgf, Lx.signs, Lx.sgn, Lib.hasPrefix, List.contains_cons, List.contains_nil]
    have g := fun x : UInt8 => @eq_comm _ x c
    have g' := fun x : UInt8 => @eq_comm _ x d
    by_cases h0 : c = 58
    · subst h0
      by_cases k0 : d = 61
      · subst k0; simp
      · simp [k0, g']
    by_cases h1 : c = 60
    · subst h1
      by_cases k0 : d = 61
      · subst k0; simp
      by_cases k1 : d = 62
      · subst k1; simp
      · simp [k0, k1, g']
    by_cases h2 : c = 62
    · subst h2
      by_cases k0 : d = 61
      · subst k0; simp
      · simp [k0, g']
    by_cases h3 : c = 61
    · subst h3; simp
    by_cases h4 : c = 43
    · subst h4; simp
    by_cases h5 : c = 45
    · subst h5; simp
    by_cases h6 : c = 42
    · subst h6; simp
    by_cases h7 : c = 40
    · subst h7; simp
    by_cases h8 : c = 41
    · subst h8; simp
    by_cases h9 : c = 44
    · subst h9; simp
    by_cases h10 : c = 59
    · subst h10; simp
    simp [h0, h1, h2, h3, h4, h5, h6, h7, h8, h9, h10, g]
def Sg (w : World) : Prop := SrR w 0 sgB
theorem Sg.below {B : Nat} {w w' : World} (h : Sg w) (hb : Below B w w') (hB : w.heap.size ≤ B) : Sg w' := fun j hj => cell_below hb hB (h j hj)
def sgV : Array Value := (sgB.map Value.string).toArray
theorem sg_index : ∀ (k : Nat), k < 14 → ∃ X : ByteArray, Lx.signs.drop k = X.data.toList :: Lx.signs.drop (k + 1) ∧ ∀ w, (Instr.index 217 (.agg sgV) (.int .i64 (k : Int))).run Tryz.prog w = .ok (.string X) w
  | 0, _ => ⟨⟨#[58, 61]⟩, rfl, fun w => by show _ = _; kernel_rfl⟩
  | 1, _ => ⟨⟨#[60, 62]⟩, rfl, fun w => by show _ = _; kernel_rfl⟩
  | 2, _ => ⟨⟨#[60, 61]⟩, rfl, fun w => by show _ = _; kernel_rfl⟩
  | 3, _ => ⟨⟨#[62, 61]⟩, rfl, fun w => by show _ = _; kernel_rfl⟩
  | 4, _ => ⟨⟨#[60]⟩, rfl, fun w => by show _ = _; kernel_rfl⟩
  | 5, _ => ⟨⟨#[62]⟩, rfl, fun w => by show _ = _; kernel_rfl⟩
  | 6, _ => ⟨⟨#[61]⟩, rfl, fun w => by show _ = _; kernel_rfl⟩
  | 7, _ => ⟨⟨#[43]⟩, rfl, fun w => by show _ = _; kernel_rfl⟩
  | 8, _ => ⟨⟨#[45]⟩, rfl, fun w => by show _ = _; kernel_rfl⟩
  | 9, _ => ⟨⟨#[42]⟩, rfl, fun w => by show _ = _; kernel_rfl⟩
  | 10, _ => ⟨⟨#[40]⟩, rfl, fun w => by show _ = _; kernel_rfl⟩
  | 11, _ => ⟨⟨#[41]⟩, rfl, fun w => by show _ = _; kernel_rfl⟩
  | 12, _ => ⟨⟨#[44]⟩, rfl, fun w => by show _ = _; kernel_rfl⟩
  | 13, _ => ⟨⟨#[59]⟩, rfl, fun w => by show _ = _; kernel_rfl⟩
  | k + 14, h => absurd h (by omega)
set_option maxHeartbeats 2000000 in
set_option maxRecDepth 100000 in
theorem sign_any (s : ByteArray) (w : World) (h : Sg w) :
    Calls Tryz.prog 100 #[.string s] w fun e w' => e = .returned (.int .i64 (Lx.sgn s.data.toList)) ∧ w = w' := by
  obtain ⟨R, hR⟩ : ∃ R, R = Lx.sgn s.data.toList := ⟨_, rfl⟩
  rw [← hR]
  have HR := Lib.hid (hR.trans (Lx.sgf_sgn s.data.toList).symm)
  have HX := Lib.hid sg_index
  have HP := Lib.hid (fun p => Tryz.strings_HasPrefix s p w)
  have h0 := h 0 (by decide)
  have h1 := h 1 (by decide)
  have h2 := h 2 (by decide)
  have h3 := h 3 (by decide)
  have h4 := h 4 (by decide)
  have h5 := h 5 (by decide)
  have h6 := h 6 (by decide)
  have h7 := h 7 (by decide)
  have h8 := h 8 (by decide)
  have h9 := h 9 (by decide)
  have h10 := h 10 (by decide)
  have h11 := h 11 (by decide)
  have h12 := h 12 (by decide)
  have h13 := h 13 (by decide)
  simp only [sgB, List.getElem_cons_zero, List.getElem_cons_succ] at h0 h1 h2 h3 h4 h5 h6 h7 h8 h9 h10 h11 h12 h13
  simp only [sgV, sgB, List.map_cons, List.map_nil] at HX
  clear h hR
  go_enter Tryz.func100, Tryz.ntmps100
  go_wp2
  go_loop [6] (fun i => ∃ k : Nat, i = .int .i64 k ∧ k ≤ 14 ∧ Hid (R = Lx.sgf s.data.toList (Lx.signs.drop k))) (fun i => 14 - (intOf i).toNat)
  case atStart => exact ⟨0, rfl, Nat.zero_le _, Lib.hid HR.out⟩
  case round =>
    obtain ⟨k, rfl, hk, HI⟩ := hrel
    by_cases hlt : k < 14
    · have hlt' : (k : Int) < 14 := by omega
      obtain ⟨X, hX, hix⟩ := HX.out k hlt
      replace hix := hix w
      have HPk := Lib.hid (HP.out X)
      have HS := Lib.hid (show R = (if Lib.hasPrefix s.data.toList X.data.toList then X.size else Lx.sgf s.data.toList (Lx.signs.drop (k + 1))) by
        rw [HI.out, hX, Lx.sgf, ← Lib.size_eq])
      clear hX
      cases hp : Lib.hasPrefix s.data.toList X.data.toList with
      | true =>
        rw [hp] at HPk HS
        have HE := Lib.hid (show R = X.size by rw [HS.out, if_pos rfl])
        clear HS HI hp
        go_wp2_with fail
        refine HPk.out.mono ?_
        rintro e w1 ⟨rfl, rfl⟩
        go_wp2
        go_ret
        exact ⟨ret_int (by rw [HE.out]), rfl⟩
      | false =>
        rw [hp] at HPk HS
        have HE := Lib.hid (show R = Lx.sgf s.data.toList (Lx.signs.drop (k + 1)) by rw [HS.out, if_neg (by decide)])
        clear HS HI hp
        go_wp2_with fail
        refine HPk.out.mono ?_
        rintro e w1 ⟨rfl, rfl⟩
        go_wp2
        go_round
        case rel => exact ⟨k + 1, by go_num, hlt, HE⟩
        case measure => simp [intOf]; omega
    · obtain rfl : k = 14 := by omega
      have HE := Lib.hid (show R = 0 by rw [HI.out]; rfl)
      clear hlt
      go_wp2
      go_ret
      exact ⟨ret_int (by rw [HE.out]; rfl), rfl⟩
set_option maxHeartbeats 4000000 in
set_option maxRecDepth 100000 in
theorem isWord_any (s : ByteArray) (w : World) :
    Calls Tryz.prog 101 #[.string s] w fun e w' => e = .returned (.bool (Lx.words.contains s.data.toList)) ∧ w = w' := by
  obtain ⟨R, hR⟩ : ∃ R, R = Lx.words.contains s.data.toList := ⟨_, rfl⟩
  rw [← hR]
  rw [← Lib.toList_data] at hR
  have HR := Lib.hid hR
  clear hR
  go_enter Tryz.func101, Tryz.ntmps101
  go_wp2
  all_goals go_ret
  all_goals refine ⟨ret_bool ?_, rfl⟩
  all_goals first
    | (exfalso; simp_all; done)
    | (rw [HR.out]; simp only [Lx.words, List.contains_cons, List.contains_nil]; simp_all)
end Go.Proofs.YtmmdigeciphglaaGreatDoor
