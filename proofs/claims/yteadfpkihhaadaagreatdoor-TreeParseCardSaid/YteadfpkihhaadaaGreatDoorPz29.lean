/- Facts and walks for the statement. -/
import Derived.Test.YteadfpkihhaadaaGreatDoorPz12
import Derived.Test.YteadfpkihhaadaaGreatDoorPz04
import Derived.Test.YteadfpkihhaadaaGreatDoorPz13
namespace Go.Proofs.YteadfpkihhaadaaGreatDoor
open Go.RowKit
theorem u8_eq (c d : UInt8) : ((c.toNat : Int) == (d.toNat : Int)) = (c == d) := by
  rw [Bool.eq_iff_iff, beq_iff_eq, beq_iff_eq]
  constructor
  · intro h; apply UInt8.toNat_inj.1; omega
  · intro h; rw [h]
theorem rblank_any (c : UInt8) (w : World) : Calls Tryz.prog 87 #[.int .u8 (c.toNat : Int)] w fun e w' => e = .returned (.bool (Tk.isB c)) ∧ w = w' := by
  have t0 : ((c.toNat : Int) == 32) = (c == 32) := u8_eq c 32
  have t1 : ((c.toNat : Int) == 9) = (c == 9) := u8_eq c 9
  have t2 : ((c.toNat : Int) == 10) = (c == 10) := u8_eq c 10
  have t3 : ((c.toNat : Int) == 13) = (c == 13) := u8_eq c 13
  unfold Tk.isB
  generalize (c == 32) = x0 at *
  generalize (c == 9) = x1 at *
  generalize (c == 10) = x2 at *
  generalize (c == 13) = x3 at *
  cases x0 <;> cases x1 <;> cases x2 <;> cases x3 <;>
    (go_enter Tryz.func87, Tryz.ntmps87
     go_wp2
     go_ret
     exact ⟨rfl, rfl⟩)
set_option maxHeartbeats 1000000 in
theorem rBlank_any (s : ByteArray) (w : World) (hs0 : s.size ≤ maxLen) : Calls Tryz.prog 51 #[.string s] w fun e w' => e = .returned (.bool (Tk.allB s.data.toList)) ∧ w = w' := by
  have hs : (s.size : Int) ≤ 9223372036854775807 := by unfold maxLen at hs0; omega
  clear hs0
  have hll : s.data.toList.length = s.size := (Lib.size_eq s).symm
  obtain ⟨R, hR⟩ : ∃ R, R = Tk.allB s.data.toList := ⟨_, rfl⟩
  rw [← hR]
  have HR := Lib.hid hR
  clear hR
  go_enter Tryz.func51, Tryz.ntmps51
  go_wp2
  go_loop [3] (fun i => ∃ k : Nat, k ≤ s.size ∧ i = .int .i64 k ∧ Hid (Tk.allB s.data.toList = Tk.allB (s.data.toList.drop k))) (fun i => s.size - (intOf i).toNat)
  case atStart => exact ⟨0, Nat.zero_le _, rfl, Lib.hid rfl⟩
  case round =>
    obtain ⟨k, hk, rfl, HK⟩ := hrel
    by_cases hlt : k < s.size
    · have hlt' : (k : Int) < (s.size : Int) := by omega
      have hd : s.data.toList.drop k = s[k] :: s.data.toList.drop (k + 1) := by
        rw [List.drop_eq_getElem_cons (by omega)]; rfl
      have hstep : Tk.allB (s.data.toList.drop k) = (Tk.isB s[k] && Tk.allB (s.data.toList.drop (k + 1))) := by rw [hd]; rfl
      have HS := Lib.hid hstep
      have HB := Lib.hid (fun w0 => rblank_any s[k] w0)
      cases hb : Tk.isB s[k] with
      | true =>
        rw [hb] at HB HS
        clear hb hd hstep
        go_wp2_with fail
        refine (HB.out _).mono ?_
        rintro e w1 ⟨rfl, rfl⟩
        go_wp2
        go_round
        case rel => exact ⟨k + 1, by omega, by go_num, Lib.hid (by rw [HK.out, HS.out, Bool.true_and])⟩
        case measure => simp [intOf]; omega
      | false =>
        rw [hb] at HB HS
        clear hb hd hstep
        go_wp2_with fail
        refine (HB.out _).mono ?_
        rintro e w1 ⟨rfl, rfl⟩
        go_wp2
        go_ret
        exact ⟨by rw [HR.out, HK.out, HS.out]; rfl, rfl⟩
    · go_wp2
      go_ret
      exact ⟨by rw [HR.out, HK.out, List.drop_of_length_le (by omega)]; rfl, rfl⟩
set_option maxHeartbeats 1000000 in
theorem rblanks_any (s : ByteArray) (p : Nat) (w : World) (hs : s.size ≤ 1000000) (hp : p ≤ s.size) : Calls Tryz.prog 85 #[.string s, .int .i64 p] w fun e w' => e = .returned (.int .i64 (Tk.bl (s.data.toList.drop p))) ∧ w = w' := by
  have hll : s.data.toList.length = s.size := (Lib.size_eq s).symm
  obtain ⟨R, hR⟩ : ∃ R, R = Tk.bl (s.data.toList.drop p) := ⟨_, rfl⟩
  rw [← hR]
  have HR := Lib.hid hR
  have hs' : (s.size : Int) ≤ 1000000 := by omega
  clear hR
  go_enter Tryz.func85, Tryz.ntmps85
  go_wp2
  go_loop [5] (fun i => ∃ k : Nat, p + k ≤ s.size ∧ i = .int .i64 k ∧ Hid (Tk.bl (s.data.toList.drop p) = k + Tk.bl (s.data.toList.drop (p + k)))) (fun i => s.size - p - (intOf i).toNat)
  case atStart => exact ⟨0, by omega, rfl, Lib.hid (by simp)⟩
  case round =>
    obtain ⟨k, hk, rfl, HK⟩ := hrel
    by_cases hlt : p + k < s.size
    · have hlt' : (p : Int) + (k : Int) < (s.size : Int) := by omega
      have h0 : (0 : Int) ≤ (p : Int) + (k : Int) := by omega
      have hn : ((p : Int) + (k : Int)).toNat = p + k := by omega
      have HB := Lib.hid (fun w0 => rblank_any s[p + k] w0)
      cases hb : Tk.isB s[p + k] with
      | true =>
        have HS := Lib.hid (Tk.bl_go (l := s.data.toList) (k := p + k) (by omega) hb)
        rw [hb] at HB
        clear hb
        go_wp2_with fail
        refine (HB.out _).mono ?_
        rintro e w1 ⟨rfl, rfl⟩
        go_wp2
        go_round
        case rel => exact ⟨k + 1, by omega, by go_num, Lib.hid (by rw [HK.out, HS.out, show p + (k + 1) = p + k + 1 from rfl]; omega)⟩
        case measure => simp [intOf]; omega
      | false =>
        have HS := Lib.hid (Tk.bl_stop (l := s.data.toList) (k := p + k) (by omega) hb)
        rw [hb] at HB
        clear hb
        go_wp2_with fail
        refine (HB.out _).mono ?_
        rintro e w1 ⟨rfl, rfl⟩
        go_wp2
        go_ret
        exact ⟨by rw [HR.out, HK.out, HS.out]; rfl, rfl⟩
    · have hge : ¬ (p : Int) + (k : Int) < (s.size : Int) := by omega
      go_wp2
      go_ret
      exact ⟨by rw [HR.out, HK.out, List.drop_of_length_le (by omega)]; rfl, rfl⟩
set_option maxHeartbeats 1000000 in
theorem hasp_any (s t : ByteArray) (p : Nat) (w : World) (hs : s.size ≤ 1000000) (ht : t.size ≤ 1000000) (hp : p ≤ s.size) : Calls Tryz.prog 82 #[.string s, .int .i64 p, .string t] w fun e w' => e = .returned (.bool (Lib.hasPrefix (s.data.toList.drop p) t.data.toList)) ∧ w = w' := by
  by_cases hr : p + t.size ≤ s.size
  · have hr' : (p : Int) + (t.size : Int) ≤ (s.size : Int) := by omega
    have h0 : (0 : Int) ≤ (p : Int) + (t.size : Int) := by omega
    have h1 : (p : Int) ≤ (p : Int) + (t.size : Int) := by omega
    have hn : ((p : Int) + (t.size : Int)).toNat = p + t.size := by omega
    have hd : (s.extract p (p + t.size)).data.toList = (s.data.toList.drop p).take t.size := ext_take s p t.size
    by_cases he : (s.data.toList.drop p).take t.size = t.data.toList
    · have hh : Lib.hasPrefix (s.data.toList.drop p) t.data.toList = true := by rw [Tk.hp_iff, ← Lib.size_eq]; exact he
      have hx : s.extract p (p + t.size) = t := ba_eq (by rw [hd, he])
      rw [hh]
      clear hh he hd
      go_enter Tryz.func82, Tryz.ntmps82
      go_wp2
      go_ret
      exact ⟨by first | rfl | (apply ret_bool; simp), rfl⟩
    · have hh : Lib.hasPrefix (s.data.toList.drop p) t.data.toList = false := by
        cases e : Lib.hasPrefix (s.data.toList.drop p) t.data.toList with
        | false => rfl
        | true => rw [Tk.hp_iff, ← Lib.size_eq] at e; exact absurd e he
      have hx2 : ¬ (s.extract p (p + t.size)).toList = t.toList := fun e => he (by rw [← hd, ← Lib.toList_data, e, Lib.toList_data])
      rw [hh]
      clear hh he hd
      go_enter Tryz.func82, Tryz.ntmps82
      go_wp2
      go_ret
      exact ⟨by first | rfl | (apply ret_bool; simp [hx2]), rfl⟩
  · have hr' : ¬ (p : Int) + (t.size : Int) ≤ (s.size : Int) := by omega
    have hh : Lib.hasPrefix (s.data.toList.drop p) t.data.toList = false := by
      cases e : Lib.hasPrefix (s.data.toList.drop p) t.data.toList with
      | false => rfl
      | true => have := Tk.hp_len e; rw [List.length_drop, ← Lib.size_eq, ← Lib.size_eq] at this; omega
    rw [hh]
    clear hh
    go_enter Tryz.func82, Tryz.ntmps82
    go_wp2
    go_ret
    exact ⟨by first | rfl | (apply ret_bool; simp), rfl⟩
def fnd (l : List UInt8) (p : Nat) (t : List UInt8) : Int := if 0 ≤ Lib.index (l.drop p) t then Lib.index (l.drop p) t + p else -1
theorem fnd_at {l t : List UInt8} {p k : Nat} (hk : p ≤ k) (hl : k ≤ l.length) (h : Lib.hasPrefix (l.drop k) t = true) (hn : ∀ j, p ≤ j → j < k → Lib.hasPrefix (l.drop j) t = false) : fnd l p t = k := by
  have hi : Lib.index (l.drop p) t = ((k - p : Nat) : Int) := by
    refine Lib.index_first (by rw [List.length_drop]; omega) ?_ fun j hj => ?_
    · unfold Lib.occAt; rw [List.drop_drop, show p + (k - p) = k by omega]; exact h
    · unfold Lib.occAt; rw [List.drop_drop]; exact hn _ (by omega) (by omega)
  unfold fnd
  rw [hi, if_pos (by omega)]; omega
theorem fnd_no {l t : List UInt8} {p : Nat} (ht : 1 ≤ t.length) (hn : ∀ j, p ≤ j → j < l.length → Lib.hasPrefix (l.drop j) t = false) : fnd l p t = -1 := by
  unfold fnd
  rcases Lib.index_spec (l.drop p) t with ⟨e, _⟩ | ⟨i, e, hi, ho, _⟩
  · rw [e]; rfl
  · exfalso
    have hr := Lib.occAt_room ho
    unfold Lib.occAt at ho
    rw [List.drop_drop] at ho
    rw [List.length_drop] at hi hr
    have h2 : i + t.length ≤ l.length - p := by
      rcases hr with hr | hr
      · exact hr
      · rw [hr] at ht; simp at ht
    have := hn (p + i) (by omega) (by omega)
    unfold Lib.hasPrefix at this
    rw [ho] at this; cases this
set_option maxHeartbeats 1000000 in
theorem find_any (s t : ByteArray) (p : Nat) (w : World) (hs : s.size ≤ 1000000) (ht : t.size ≤ 1000000) (ht1 : 1 ≤ t.size) (hp : p ≤ s.size) : Calls Tryz.prog 46 #[.string s, .int .i64 p, .string t] w fun e w' => e = .returned (.int .i64 (fnd s.data.toList p t.data.toList)) ∧ w = w' := by
  have hll : s.data.toList.length = s.size := (Lib.size_eq s).symm
  obtain ⟨R, hR⟩ : ∃ R, R = fnd s.data.toList p t.data.toList := ⟨_, rfl⟩
  rw [← hR]
  have HR := Lib.hid hR
  have hs' : (s.size : Int) ≤ 1000000 := by omega
  clear hR
  go_enter Tryz.func46, Tryz.ntmps46
  go_wp2
  go_loop [7] (fun i => ∃ k : Nat, p ≤ k ∧ k ≤ s.size ∧ i = .int .i64 k ∧ Hid (∀ j, p ≤ j → j < k → Lib.hasPrefix (s.data.toList.drop j) t.data.toList = false)) (fun i => s.size - (intOf i).toNat)
  case atStart => exact ⟨p, Nat.le_refl _, hp, rfl, Lib.hid (fun j h1 h2 => by omega)⟩
  case round =>
    obtain ⟨k, hk, hks, rfl, HK⟩ := hrel
    by_cases hlt : k < s.size
    · have hlt' : (k : Int) < (s.size : Int) := by omega
      have HH := Lib.hid (fun w0 => hasp_any s t k w0 hs ht hks)
      cases hb : Lib.hasPrefix (s.data.toList.drop k) t.data.toList with
      | true =>
        have HF := Lib.hid (fnd_at hk (by omega) hb HK.out)
        rw [hb] at HH
        clear hb
        go_wp2_with fail
        refine (HH.out _).mono ?_
        rintro e w1 ⟨rfl, rfl⟩
        go_wp2
        go_ret
        exact ⟨by rw [HR.out, HF.out]; rfl, rfl⟩
      | false =>
        have HB := Lib.hid hb
        rw [hb] at HH
        clear hb
        go_wp2_with fail
        refine (HH.out _).mono ?_
        rintro e w1 ⟨rfl, rfl⟩
        go_wp2
        go_round
        case rel => exact ⟨k + 1, by omega, by omega, by go_num, Lib.hid (fun j h1 h2 => by
          rcases Nat.lt_or_ge j k with h3 | h3
          · exact HK.out j h1 h3
          · rw [show j = k by omega]; exact HB.out)⟩
        case measure => simp [intOf]; omega
    · have HF := Lib.hid (fnd_no (l := s.data.toList) (t := t.data.toList) (p := p) (by rw [← Lib.size_eq]; exact ht1) (fun j h1 h2 => HK.out j h1 (by omega)))
      go_wp2
      go_ret
      exact ⟨by rw [HR.out, HF.out]; rfl, rfl⟩
end Go.Proofs.YteadfpkihhaadaaGreatDoor
namespace Go.Proofs.YteadfpkihhaadaaGreatDoor
open Go.RowKit
abbrev zR : Array Value := #[.string ⟨#[]⟩, .string ⟨#[]⟩, .int .i64 0]
def rAtV (p : Nat) (r : Tk.A × Nat) : Value := .agg #[.string ⟨r.1.nm.toArray⟩, .string ⟨r.1.vl.toArray⟩, .int .i64 (if r.2 = 0 then 0 else ((r.1.p + p : Nat) : Int))]
theorem below_three {B : Nat} {w w' : World} {r : Nat} (h : Below B w w') (hr : B ≤ r) (a b c : Value) : Below B w (((w'.setCell ⟨r, 0, none⟩ a).setCell ⟨r, 1, none⟩ b).setCell ⟨r, 2, none⟩ c) :=
 ((h.setCell (p := ⟨r, 0, none⟩) hr a).setCell (p := ⟨r, 1, none⟩) hr b).setCell (p := ⟨r, 2, none⟩) hr c
theorem one_byte {s : ByteArray} {i : Nat} {q : UInt8} (h : (s.data.toList.drop i).head? = some q) : s.extract i (i + 1) = ⟨#[q]⟩ := by
 apply ba_eq
 rw [ext_take]
 cases e : s.data.toList.drop i with
 | nil => rw [e] at h; cases h
 | cons a t =>
  rw [e] at h
  simp only [List.head?_cons, Option.some.injEq] at h
  rw [h]; rfl
theorem fnd_one {l : List UInt8} {p : Nat} {q : UInt8} : fnd l p [q] = if 0 ≤ Lib.indexByte (l.drop p) q then Lib.indexByte (l.drop p) q + p else -1 := by
 unfold fnd; rw [Lib.index_one]
set_option maxHeartbeats 8000000 in
set_option maxRecDepth 100000 in
theorem rattr_any (s : ByteArray) (p : Nat) (w : World) (hs : s.size ≤ 1000000) (hp : p ≤ s.size) :
  Calls Tryz.prog 86 #[.string s, .int .i64 p] w fun e w' => e = .returned (.tuple #[rAtV p (Tk.at1 (s.data.toList.drop p)), .int .i64 (Tk.at1 (s.data.toList.drop p)).2]) ∧ Below w.heap.size w w' := by
 have hll : s.data.toList.length = s.size := (Lib.size_eq s).symm
 obtain ⟨l, hl⟩ : ∃ l, l = s.data.toList.drop p := ⟨_, rfl⟩
 obtain ⟨n, hn⟩ : ∃ n, n = Nm.bg l := ⟨_, rfl⟩
 have hnl := (Nm.bg_le l).1
 rw [← hn, hl, List.length_drop, hll] at hnl
 obtain ⟨b1, hb1⟩ : ∃ b, b = Tk.bl (l.drop n) := ⟨_, rfl⟩
 have hb1l := Tk.bl_le (l.drop n)
 rw [← hb1, hl, List.drop_drop, List.length_drop, hll] at hb1l
 have e1 : s.data.toList.drop (p + n) = l.drop n := by rw [hl, List.drop_drop]
 have e2 : s.data.toList.drop (p + n + b1) = l.drop (n + b1) := by rw [hl, List.drop_drop, Nat.add_assoc]
 have HB0 := Lib.hid (And.intro (IsBlk.new w 143 zR) ((Below.refl w.heap.size w).alloc (Nat.le_refl _) (.cells zR 143)))
 have HBG := Lib.hid (fun w0 => NmW.rbegin_any (s.extract p s.size) w0 (by have := extract_size s p s.size; unfold maxLen; omega))
 rw [drop_ext, ← hl, ← hn] at HBG
 have HBL := Lib.hid (fun w0 => rblanks_any s (p + n) w0 hs (by omega))
 rw [e1, ← hb1, Int.natCast_add] at HBL
 rw [← hl]
 obtain ⟨R, hR⟩ : ∃ R, R = Tk.at1 l := ⟨_, rfl⟩
 rw [← hR]
 have hp1 : (p : Int) ≤ (s.size : Int) := by omega
 have hq1 : (p : Int) + (n : Int) + (b1 : Int) ≤ (s.size : Int) := by omega
 have hs' : (s.size : Int) ≤ 1000000 := by omega
 by_cases hn0 : n = 0
 ·have HAT := Lib.hid (show R = (⟨[], [], 0⟩, 0) by rw [hR, Tk.at1_none (by rw [← hn]; exact hn0)])
  subst hn0
  clear hl hn hb1 e1 e2 hR
  go_enter Tryz.func86, Tryz.ntmps86
  go_wp2_with fail
  refine (HBG.out _).mono ?_
  rintro e w1 ⟨rfl, h1⟩
  go_wp2_with fail
  refine (HBL.out _).mono ?_
  rintro e w2 ⟨rfl, rfl⟩
  have kb := HB0.out.1.below h1 HB0.out.1.lt
  have k0 : w1.cell? ⟨w.heap.size, 0, none⟩ = some (.string ⟨#[]⟩) := kb.at_ 0
  have k1 : w1.cell? ⟨w.heap.size, 1, none⟩ = some (.string ⟨#[]⟩) := kb.at_ 1
  have k2 : w1.cell? ⟨w.heap.size, 2, none⟩ = some (.int .i64 0) := kb.at_ 2
  have f0 := kb.fz 0
  have f1 := kb.fz 1
  have f2 := kb.fz 2
  clear kb
  go_wp2
  exact bodyPost_ret (v := .tuple #[.agg zR, .int .i64 0]) (by simp [results, Tryz.results86, go_sem, k0, k1, k2]) rfl ⟨by rw [HAT.out]; rfl, below_three (HB0.out.2.trans (h1.mono (by simp))) (Nat.le_refl _) _ _ _⟩
 have hn0' : ((n : Int) == 0) = false := by
  apply beq_eq_false_iff_ne.2
  omega
 by_cases hq : (l.drop (n + b1)).head? = some 61
 ·have hlt : p + n + b1 + 1 ≤ s.size := drop_lt_of_head (c := 61) (by rw [e2]; exact hq)
  obtain ⟨b2, hb2⟩ : ∃ b, b = Tk.bl (l.drop (n + b1 + 1)) := ⟨_, rfl⟩
  have hb2l := Tk.bl_le (l.drop (n + b1 + 1))
  rw [← hb2, hl, List.drop_drop, List.length_drop, hll] at hb2l
  have e3 : s.data.toList.drop (p + n + b1 + 1) = l.drop (n + b1 + 1) := by rw [hl, List.drop_drop]; congr 1; omega
  have e4 : s.data.toList.drop (p + n + b1 + 1 + b2) = l.drop (n + b1 + 1 + b2) := by rw [hl, List.drop_drop]; congr 1; omega
  have HH := Lib.hid (fun w0 => hasp_any s ⟨#[61]⟩ (p + n + b1) w0 hs (by decide) (by omega))
  rw [show (⟨#[61]⟩ : ByteArray).data.toList = [61] from rfl, e2, hp_one.2 hq, Int.natCast_add, Int.natCast_add] at HH
  have HB2 := Lib.hid (fun w0 => rblanks_any s (p + n + b1 + 1) w0 hs (by omega))
  rw [e3, ← hb2, Int.natCast_add, Int.natCast_add, Int.natCast_add] at HB2
  have hat := Tk.at1_val (l := l) (n := n) (i := n + b1) (j := n + b1 + 1 + b2) hn.symm hn0 (by rw [hb1]) hq (by rw [hb2])
  have hq2 : (p : Int) + (n : Int) + (b1 : Int) + 1 + (b2 : Int) ≤ (s.size : Int) := by omega
  have HS39 := Lib.hid (fun w0 => hasp_any s ⟨#[39]⟩ (p + n + b1 + 1 + b2) w0 hs (by decide) (by omega))
  have HS34 := Lib.hid (fun w0 => hasp_any s ⟨#[34]⟩ (p + n + b1 + 1 + b2) w0 hs (by decide) (by omega))
  rw [show (⟨#[39]⟩ : ByteArray).data.toList = [39] from rfl, e4, Int.natCast_add, Int.natCast_add, Int.natCast_add, Int.natCast_add] at HS39
  rw [show (⟨#[34]⟩ : ByteArray).data.toList = [34] from rfl, e4, Int.natCast_add, Int.natCast_add, Int.natCast_add, Int.natCast_add] at HS34
  simp only [Int.cast_ofNat_Int] at HB2 HS39 HS34
  by_cases hq39 : (l.drop (n + b1 + 1 + b2)).head? = some 39
  ·rw [hp_one.2 hq39] at HS39
   have hx : s.extract (p + n + b1 + 1 + b2) (p + n + b1 + 1 + b2 + 1) = ⟨#[39]⟩ := one_byte (by rw [e4]; exact hq39)
   have hlt2 : p + n + b1 + 1 + b2 + 1 ≤ s.size := drop_lt_of_head (c := 39) (by rw [e4]; exact hq39)
   have hdc : l.drop (n + b1 + 1 + b2) = 39 :: s.data.toList.drop (p + n + b1 + 1 + b2 + 1) := by rw [← e4]; exact drop_cons (by rw [e4]; exact hq39)
   have HFD := Lib.hid (fun w0 => find_any s ⟨#[39]⟩ (p + n + b1 + 1 + b2 + 1) w0 hs (by decide) (by decide) hlt2)
   rw [show (⟨#[39]⟩ : ByteArray).data.toList = [39] from rfl, fnd_one] at HFD
   have hq3 : (p : Int) + (n : Int) + (b1 : Int) + 1 + (b2 : Int) + 1 ≤ (s.size : Int) := by omega
   rcases En.idx_cases (s.data.toList.drop (p + n + b1 + 1 + b2 + 1)) 39 with hi | ⟨m, hi⟩
   ·rw [hi, if_neg (by decide)] at HFD
    simp only [Int.natCast_add, Int.cast_ofNat_Int] at HFD
    have HAT := Lib.hid (show R = (⟨[], [], 0⟩, 0) by rw [hR, hat, if_pos (by rw [hdc, Tk.qv_miss hi])])
    clear hl hn hb1 e1 e2 hR hq hn0 e3 e4 hb2 hat hq39 hdc hi hq2
    go_enter Tryz.func86, Tryz.ntmps86
    go_wp2_with fail
    refine (HBG.out _).mono ?_
    rintro e w1 ⟨rfl, h1⟩
    go_wp2_with fail
    refine (HBL.out _).mono ?_
    rintro e w2 ⟨rfl, rfl⟩
    go_wp2_with fail
    refine (HH.out _).mono ?_
    rintro e w3 ⟨rfl, rfl⟩
    go_wp2_with fail
    refine (HB2.out _).mono ?_
    rintro e w4 ⟨rfl, rfl⟩
    go_wp2_with fail
    refine (HS39.out _).mono ?_
    rintro e w5 ⟨rfl, rfl⟩
    go_wp2_with fail
    refine (HFD.out _).mono ?_
    rintro e w6 ⟨rfl, rfl⟩
    have kb := HB0.out.1.below h1 HB0.out.1.lt
    have k0 : w1.cell? ⟨w.heap.size, 0, none⟩ = some (.string ⟨#[]⟩) := kb.at_ 0
    have k1 : w1.cell? ⟨w.heap.size, 1, none⟩ = some (.string ⟨#[]⟩) := kb.at_ 1
    have k2 : w1.cell? ⟨w.heap.size, 2, none⟩ = some (.int .i64 0) := kb.at_ 2
    have f0 := kb.fz 0
    have f1 := kb.fz 1
    have f2 := kb.fz 2
    clear kb
    go_wp2
    exact bodyPost_ret (v := .tuple #[.agg zR, .int .i64 0]) (by simp [results, Tryz.results86, go_sem, k0, k1, k2]) rfl ⟨by rw [HAT.out]; rfl, below_three (HB0.out.2.trans (h1.mono (by simp))) (Nat.le_refl _) _ _ _⟩
   ·have hml := En.idx_lt hi
    rw [List.length_drop, hll] at hml
    rw [hi, if_pos (by omega)] at HFD
    have hen : (m : Int) + ((p + n + b1 + 1 + b2 + 1 : Nat) : Int) = (p : Int) + (n : Int) + (b1 : Int) + 1 + (b2 : Int) + 1 + (m : Int) := by simp only [Int.natCast_add, Int.cast_ofNat_Int]; omega
    rw [hen] at HFD
    simp only [Int.natCast_add, Int.cast_ofNat_Int] at HFD
    have hq4 : (p : Int) + (n : Int) + (b1 : Int) + 1 + (b2 : Int) + 1 + (m : Int) < (s.size : Int) := by omega
    have HHIT := Lib.hid (show Lib.indexByte ((s.data.toList.drop (p + n + b1 + 1 + b2 + 1)).take m) 60 = -1 → R = (⟨l.take n, (s.data.toList.drop (p + n + b1 + 1 + b2 + 1)).take m, n + b1 + 1 + b2 + 1⟩, n + b1 + 1 + b2 + (m + 2)) from fun h => by
     rw [hR, hat, hdc, Tk.qv_hit (by decide) hi h]
     simp only
     rw [if_neg (by omega)])
    have HLT := Lib.hid (show 0 ≤ Lib.indexByte ((s.data.toList.drop (p + n + b1 + 1 + b2 + 1)).take m) 60 → R = (⟨[], [], 0⟩, 0) from fun h => by rw [hR, hat, if_pos (by rw [hdc, Tk.qv_lt hi h])])
    have HL := Lib.hid hl
    have hw1 : IntKind.i64.wrap ((p : Int) + (n : Int)) = (p : Int) + (n : Int) := IntWalk.i64_in _ (by omega)
    have hw2 : IntKind.i64.wrap ((p : Int) + (n : Int) + (b1 : Int) + 1 + (b2 : Int) + 1) = (p : Int) + (n : Int) + (b1 : Int) + 1 + (b2 : Int) + 1 := IntWalk.i64_in _ (by omega)
    have hw3 : IntKind.i64.wrap ((p : Int) + (n : Int) + (b1 : Int) + 1 + (b2 : Int) + 1 + (m : Int) + 1) = (p : Int) + (n : Int) + (b1 : Int) + 1 + (b2 : Int) + 1 + (m : Int) + 1 := IntWalk.i64_in _ (by omega)
    have hw4 : IntKind.i64.wrap ((p : Int) + (n : Int) + (b1 : Int) + 1 + (b2 : Int) + 1 + (m : Int) + 1 - (p : Int)) = ((n + b1 + 1 + b2 + (m + 2) : Nat) : Int) := by rw [IntWalk.i64_in _ (by omega)]; omega
    have HWW := Lib.hid (And.intro hw1 (And.intro hw2 (And.intro hw3 hw4)))
    clear hn hb1 e1 e2 hR hq hn0 e3 e4 hb2 hat hq39 hdc hi hl hen hw1 hw2 hw3 hw4 hq2
    go_enter Tryz.func86, Tryz.ntmps86
    go_wp2_with fail
    refine (HBG.out _).mono ?_
    rintro e w1 ⟨rfl, h1⟩
    go_wp2_with fail
    refine (HBL.out _).mono ?_
    rintro e w2 ⟨rfl, rfl⟩
    go_wp2_with fail
    refine (HH.out _).mono ?_
    rintro e w3 ⟨rfl, rfl⟩
    go_wp2_with fail
    refine (HB2.out _).mono ?_
    rintro e w4 ⟨rfl, rfl⟩
    go_wp2_with fail
    refine (HS39.out _).mono ?_
    rintro e w5 ⟨rfl, rfl⟩
    go_wp2_with fail
    refine (HFD.out _).mono ?_
    rintro e w6 ⟨rfl, rfl⟩
    go_wp2
    go_loop [9] (fun i => ∃ k : Nat, p + n + b1 + 1 + b2 + 1 ≤ k ∧ k ≤ p + n + b1 + 1 + b2 + 1 + m ∧ i = .int .i64 k ∧ Hid (∀ j, p + n + b1 + 1 + b2 + 1 ≤ j → j < k → s.data.toList[j]? ≠ some 60)) (fun i => s.size - (intOf i).toNat)
    case atStart => exact ⟨p + n + b1 + 1 + b2 + 1, Nat.le_refl _, by omega, by simp [Int.natCast_add], Lib.hid (fun j h1 h2 => by omega)⟩
    case round =>
     obtain ⟨k, hk1, hk2, rfl, HK⟩ := hrel
     by_cases hke : k < p + n + b1 + 1 + b2 + 1 + m
     ·have hke' : (k : Int) < (p : Int) + (n : Int) + (b1 : Int) + 1 + (b2 : Int) + 1 + (m : Int) := by omega
      have hks : k < s.size := by omega
      have hks' : (k : Int) < (s.size : Int) := by omega
      have hgk : s.data.toList[k]? = some s[k] := Lib.data_getElem? s k hks
      by_cases h60 : s[k] = 60
      ·have t1 : ((s[k].toNat : Int) == 60) = true := by rw [h60]; rfl
       have HAT := Lib.hid (HLT.out (Tk.idx_nonneg_of_mem (k := k - (p + n + b1 + 1 + b2 + 1)) (by
        rw [List.getElem?_take, if_pos (by omega), List.getElem?_drop, show p + n + b1 + 1 + b2 + 1 + (k - (p + n + b1 + 1 + b2 + 1)) = k by omega, hgk, h60])))
       clear hgk h60
       have kb := HB0.out.1.below h1 HB0.out.1.lt
       have k0 : w1.cell? ⟨w.heap.size, 0, none⟩ = some (.string ⟨#[]⟩) := kb.at_ 0
       have k1 : w1.cell? ⟨w.heap.size, 1, none⟩ = some (.string ⟨#[]⟩) := kb.at_ 1
       have k2 : w1.cell? ⟨w.heap.size, 2, none⟩ = some (.int .i64 0) := kb.at_ 2
       have f0 := kb.fz 0
       have f1 := kb.fz 1
       have f2 := kb.fz 2
       clear kb
       go_wp2
       exact bodyPost_ret (v := .tuple #[.agg zR, .int .i64 0]) (by simp [results, Tryz.results86, go_sem, k0, k1, k2]) rfl ⟨by rw [HAT.out]; rfl, below_three (HB0.out.2.trans (h1.mono (by simp))) (Nat.le_refl _) _ _ _⟩
      ·have t1 : ((s[k].toNat : Int) == 60) = false := by
        apply beq_eq_false_iff_ne.2
        intro e; apply h60; apply UInt8.toNat_inj.1
        show s[k].toNat = 60
        omega
       have HN60 := Lib.hid (show s.data.toList[k]? ≠ some 60 by rw [hgk]; simpa using h60)
       clear hgk h60
       go_wp2
       go_round
       case rel => exact ⟨k + 1, by omega, by omega, by go_num, Lib.hid (fun j h1 h2 => by
        rcases Nat.lt_or_ge j k with h3 | h3
        ·exact HK.out j h1 h3
        ·rw [show j = k by omega]; exact HN60.out)⟩
       case measure => simp [intOf]; omega
     ·have hke' : ¬ (k : Int) < (p : Int) + (n : Int) + (b1 : Int) + 1 + (b2 : Int) + 1 + (m : Int) := by omega
      have HAT := Lib.hid (HHIT.out (by
       rcases En.idx_cases ((s.data.toList.drop (p + n + b1 + 1 + b2 + 1)).take m) 60 with h | ⟨x, h⟩
       ·exact h
       ·exfalso
        have hx1 := (Lib.indexByte_some h).1
        have hx2 := En.idx_lt h
        rw [List.length_take] at hx2
        rw [List.getElem?_take, if_pos (by omega), List.getElem?_drop] at hx1
        exact HK.out _ (by omega) (by omega) hx1))
      obtain ⟨hw1, hw2, hw3, hw4⟩ := HWW.out
      have kb := HB0.out.1.below h1 HB0.out.1.lt
      have k0 : w1.cell? ⟨w.heap.size, 0, none⟩ = some (.string ⟨#[]⟩) := kb.at_ 0
      have k1 : w1.cell? ⟨w.heap.size, 1, none⟩ = some (.string ⟨#[]⟩) := kb.at_ 1
      have k2 : w1.cell? ⟨w.heap.size, 2, none⟩ = some (.int .i64 0) := kb.at_ 2
      have f0 := kb.fz 0
      have f1 := kb.fz 1
      have f2 := kb.fz 2
      clear kb
      have z0 : (0 : Int) ≤ (p : Int) + (n : Int) := by omega
      have z1 : (p : Int) ≤ (p : Int) + (n : Int) := by omega
      have z2 : (p : Int) + (n : Int) ≤ (s.size : Int) := by omega
      have z3 : (0 : Int) ≤ (p : Int) + (n : Int) + (b1 : Int) + 1 + (b2 : Int) + 1 := by omega
      have z4 : (p : Int) + (n : Int) + (b1 : Int) + 1 + (b2 : Int) + 1 ≤ (p : Int) + (n : Int) + (b1 : Int) + 1 + (b2 : Int) + 1 + (m : Int) := by omega
      have z5 : (p : Int) + (n : Int) + (b1 : Int) + 1 + (b2 : Int) + 1 + (m : Int) ≤ (s.size : Int) := by omega
      go_wp2_with fail
      go_region
      all_goals
       clear hw1 hw2 hw3 hw4
       go_wp2
       exact bodyPost_ret (v := .tuple #[.agg #[.string (s.extract p (p + n)), .string (s.extract (p + n + b1 + 1 + b2 + 1) (p + n + b1 + 1 + b2 + 1 + m)), .int .i64 ((p : Int) + (n : Int) + (b1 : Int) + 1 + (b2 : Int) + 1)], .int .i64 ((n : Int) + (b1 : Int) + 1 + (b2 : Int) + ((m : Int) + 2))]) (by simp [results, Tryz.results86, go_sem, k0, k1, k2]) rfl ⟨by
        rw [HAT.out]
        unfold rAtV
        have x1 : (⟨(l.take n).toArray⟩ : ByteArray) = s.extract p (p + n) := ba_eq (by rw [ext_take, HL.out])
        have x2 : (⟨((s.data.toList.drop (p + n + b1 + 1 + b2 + 1)).take m).toArray⟩ : ByteArray) = s.extract (p + n + b1 + 1 + b2 + 1) (p + n + b1 + 1 + b2 + 1 + m) := ba_eq (by rw [ext_take])
        simp only
        rw [x1, x2, if_neg (by omega)]
        have y1 : ((n + b1 + 1 + b2 + 1 + p : Nat) : Int) = (p : Int) + (n : Int) + (b1 : Int) + 1 + (b2 : Int) + 1 := by omega
        have y2 : ((n + b1 + 1 + b2 + (m + 2) : Nat) : Int) = (n : Int) + (b1 : Int) + 1 + (b2 : Int) + ((m : Int) + 2) := by omega
        rw [y1, y2], (below_three (HB0.out.2.trans (h1.mono (by simp))) (Nat.le_refl _) _ _ _).drew⟩
  ·by_cases hq34 : (l.drop (n + b1 + 1 + b2)).head? = some 34
   ·rw [hp_one_no hq39] at HS39
    rw [hp_one.2 hq34] at HS34
    have hx : s.extract (p + n + b1 + 1 + b2) (p + n + b1 + 1 + b2 + 1) = ⟨#[34]⟩ := one_byte (by rw [e4]; exact hq34)
    have hlt2 : p + n + b1 + 1 + b2 + 1 ≤ s.size := drop_lt_of_head (c := 34) (by rw [e4]; exact hq34)
    have hdc : l.drop (n + b1 + 1 + b2) = 34 :: s.data.toList.drop (p + n + b1 + 1 + b2 + 1) := by rw [← e4]; exact drop_cons (by rw [e4]; exact hq34)
    have HFD := Lib.hid (fun w0 => find_any s ⟨#[34]⟩ (p + n + b1 + 1 + b2 + 1) w0 hs (by decide) (by decide) hlt2)
    rw [show (⟨#[34]⟩ : ByteArray).data.toList = [34] from rfl, fnd_one] at HFD
    have hq3 : (p : Int) + (n : Int) + (b1 : Int) + 1 + (b2 : Int) + 1 ≤ (s.size : Int) := by omega
    rcases En.idx_cases (s.data.toList.drop (p + n + b1 + 1 + b2 + 1)) 34 with hi | ⟨m, hi⟩
    ·rw [hi, if_neg (by decide)] at HFD
     simp only [Int.natCast_add, Int.cast_ofNat_Int] at HFD
     have HAT := Lib.hid (show R = (⟨[], [], 0⟩, 0) by rw [hR, hat, if_pos (by rw [hdc, Tk.qv_miss hi])])
     clear hl hn hb1 e1 e2 hR hq hn0 e3 e4 hb2 hat hq39 hdc hi hq2 hq34
     go_enter Tryz.func86, Tryz.ntmps86
     go_wp2_with fail
     refine (HBG.out _).mono ?_
     rintro e w1 ⟨rfl, h1⟩
     go_wp2_with fail
     refine (HBL.out _).mono ?_
     rintro e w2 ⟨rfl, rfl⟩
     go_wp2_with fail
     refine (HH.out _).mono ?_
     rintro e w3 ⟨rfl, rfl⟩
     go_wp2_with fail
     refine (HB2.out _).mono ?_
     rintro e w4 ⟨rfl, rfl⟩
     go_wp2_with fail
     refine (HS39.out _).mono ?_
     rintro e w5 ⟨rfl, rfl⟩
     go_wp2_with fail
     refine (HS34.out _).mono ?_
     rintro e w5 ⟨rfl, rfl⟩
     go_wp2_with fail
     refine (HFD.out _).mono ?_
     rintro e w6 ⟨rfl, rfl⟩
     have kb := HB0.out.1.below h1 HB0.out.1.lt
     have k0 : w1.cell? ⟨w.heap.size, 0, none⟩ = some (.string ⟨#[]⟩) := kb.at_ 0
     have k1 : w1.cell? ⟨w.heap.size, 1, none⟩ = some (.string ⟨#[]⟩) := kb.at_ 1
     have k2 : w1.cell? ⟨w.heap.size, 2, none⟩ = some (.int .i64 0) := kb.at_ 2
     have f0 := kb.fz 0
     have f1 := kb.fz 1
     have f2 := kb.fz 2
     clear kb
     go_wp2
     exact bodyPost_ret (v := .tuple #[.agg zR, .int .i64 0]) (by simp [results, Tryz.results86, go_sem, k0, k1, k2]) rfl ⟨by rw [HAT.out]; rfl, below_three (HB0.out.2.trans (h1.mono (by simp))) (Nat.le_refl _) _ _ _⟩
    ·have hml := En.idx_lt hi
     rw [List.length_drop, hll] at hml
     rw [hi, if_pos (by omega)] at HFD
     have hen : (m : Int) + ((p + n + b1 + 1 + b2 + 1 : Nat) : Int) = (p : Int) + (n : Int) + (b1 : Int) + 1 + (b2 : Int) + 1 + (m : Int) := by simp only [Int.natCast_add, Int.cast_ofNat_Int]; omega
     rw [hen] at HFD
     simp only [Int.natCast_add, Int.cast_ofNat_Int] at HFD
     have hq4 : (p : Int) + (n : Int) + (b1 : Int) + 1 + (b2 : Int) + 1 + (m : Int) < (s.size : Int) := by omega
     have HHIT := Lib.hid (show Lib.indexByte ((s.data.toList.drop (p + n + b1 + 1 + b2 + 1)).take m) 60 = -1 → R = (⟨l.take n, (s.data.toList.drop (p + n + b1 + 1 + b2 + 1)).take m, n + b1 + 1 + b2 + 1⟩, n + b1 + 1 + b2 + (m + 2)) from fun h => by
      rw [hR, hat, hdc, Tk.qv_hit (by decide) hi h]
      simp only
      rw [if_neg (by omega)])
     have HLT := Lib.hid (show 0 ≤ Lib.indexByte ((s.data.toList.drop (p + n + b1 + 1 + b2 + 1)).take m) 60 → R = (⟨[], [], 0⟩, 0) from fun h => by rw [hR, hat, if_pos (by rw [hdc, Tk.qv_lt hi h])])
     have HL := Lib.hid hl
     have hw1 : IntKind.i64.wrap ((p : Int) + (n : Int)) = (p : Int) + (n : Int) := IntWalk.i64_in _ (by omega)
     have hw2 : IntKind.i64.wrap ((p : Int) + (n : Int) + (b1 : Int) + 1 + (b2 : Int) + 1) = (p : Int) + (n : Int) + (b1 : Int) + 1 + (b2 : Int) + 1 := IntWalk.i64_in _ (by omega)
     have hw3 : IntKind.i64.wrap ((p : Int) + (n : Int) + (b1 : Int) + 1 + (b2 : Int) + 1 + (m : Int) + 1) = (p : Int) + (n : Int) + (b1 : Int) + 1 + (b2 : Int) + 1 + (m : Int) + 1 := IntWalk.i64_in _ (by omega)
     have hw4 : IntKind.i64.wrap ((p : Int) + (n : Int) + (b1 : Int) + 1 + (b2 : Int) + 1 + (m : Int) + 1 - (p : Int)) = ((n + b1 + 1 + b2 + (m + 2) : Nat) : Int) := by rw [IntWalk.i64_in _ (by omega)]; omega
     have HWW := Lib.hid (And.intro hw1 (And.intro hw2 (And.intro hw3 hw4)))
     clear hn hb1 e1 e2 hR hq hn0 e3 e4 hb2 hat hq39 hdc hi hl hen hw1 hw2 hw3 hw4 hq2 hq34
     go_enter Tryz.func86, Tryz.ntmps86
     go_wp2_with fail
     refine (HBG.out _).mono ?_
     rintro e w1 ⟨rfl, h1⟩
     go_wp2_with fail
     refine (HBL.out _).mono ?_
     rintro e w2 ⟨rfl, rfl⟩
     go_wp2_with fail
     refine (HH.out _).mono ?_
     rintro e w3 ⟨rfl, rfl⟩
     go_wp2_with fail
     refine (HB2.out _).mono ?_
     rintro e w4 ⟨rfl, rfl⟩
     go_wp2_with fail
     refine (HS39.out _).mono ?_
     rintro e w5 ⟨rfl, rfl⟩
     go_wp2_with fail
     refine (HS34.out _).mono ?_
     rintro e w5 ⟨rfl, rfl⟩
     go_wp2_with fail
     refine (HFD.out _).mono ?_
     rintro e w6 ⟨rfl, rfl⟩
     go_wp2
     go_loop [9] (fun i => ∃ k : Nat, p + n + b1 + 1 + b2 + 1 ≤ k ∧ k ≤ p + n + b1 + 1 + b2 + 1 + m ∧ i = .int .i64 k ∧ Hid (∀ j, p + n + b1 + 1 + b2 + 1 ≤ j → j < k → s.data.toList[j]? ≠ some 60)) (fun i => s.size - (intOf i).toNat)
     case atStart => exact ⟨p + n + b1 + 1 + b2 + 1, Nat.le_refl _, by omega, by simp [Int.natCast_add], Lib.hid (fun j h1 h2 => by omega)⟩
     case round =>
      obtain ⟨k, hk1, hk2, rfl, HK⟩ := hrel
      by_cases hke : k < p + n + b1 + 1 + b2 + 1 + m
      ·have hke' : (k : Int) < (p : Int) + (n : Int) + (b1 : Int) + 1 + (b2 : Int) + 1 + (m : Int) := by omega
       have hks : k < s.size := by omega
       have hks' : (k : Int) < (s.size : Int) := by omega
       have hgk : s.data.toList[k]? = some s[k] := Lib.data_getElem? s k hks
       by_cases h60 : s[k] = 60
       ·have t1 : ((s[k].toNat : Int) == 60) = true := by rw [h60]; rfl
        have HAT := Lib.hid (HLT.out (Tk.idx_nonneg_of_mem (k := k - (p + n + b1 + 1 + b2 + 1)) (by
         rw [List.getElem?_take, if_pos (by omega), List.getElem?_drop, show p + n + b1 + 1 + b2 + 1 + (k - (p + n + b1 + 1 + b2 + 1)) = k by omega, hgk, h60])))
        clear hgk h60
        have kb := HB0.out.1.below h1 HB0.out.1.lt
        have k0 : w1.cell? ⟨w.heap.size, 0, none⟩ = some (.string ⟨#[]⟩) := kb.at_ 0
        have k1 : w1.cell? ⟨w.heap.size, 1, none⟩ = some (.string ⟨#[]⟩) := kb.at_ 1
        have k2 : w1.cell? ⟨w.heap.size, 2, none⟩ = some (.int .i64 0) := kb.at_ 2
        have f0 := kb.fz 0
        have f1 := kb.fz 1
        have f2 := kb.fz 2
        clear kb
        go_wp2
        exact bodyPost_ret (v := .tuple #[.agg zR, .int .i64 0]) (by simp [results, Tryz.results86, go_sem, k0, k1, k2]) rfl ⟨by rw [HAT.out]; rfl, below_three (HB0.out.2.trans (h1.mono (by simp))) (Nat.le_refl _) _ _ _⟩
       ·have t1 : ((s[k].toNat : Int) == 60) = false := by
         apply beq_eq_false_iff_ne.2
         intro e; apply h60; apply UInt8.toNat_inj.1
         show s[k].toNat = 60
         omega
        have HN60 := Lib.hid (show s.data.toList[k]? ≠ some 60 by rw [hgk]; simpa using h60)
        clear hgk h60
        go_wp2
        go_round
        case rel => exact ⟨k + 1, by omega, by omega, by go_num, Lib.hid (fun j h1 h2 => by
         rcases Nat.lt_or_ge j k with h3 | h3
         ·exact HK.out j h1 h3
         ·rw [show j = k by omega]; exact HN60.out)⟩
        case measure => simp [intOf]; omega
      ·have hke' : ¬ (k : Int) < (p : Int) + (n : Int) + (b1 : Int) + 1 + (b2 : Int) + 1 + (m : Int) := by omega
       have HAT := Lib.hid (HHIT.out (by
        rcases En.idx_cases ((s.data.toList.drop (p + n + b1 + 1 + b2 + 1)).take m) 60 with h | ⟨x, h⟩
        ·exact h
        ·exfalso
         have hx1 := (Lib.indexByte_some h).1
         have hx2 := En.idx_lt h
         rw [List.length_take] at hx2
         rw [List.getElem?_take, if_pos (by omega), List.getElem?_drop] at hx1
         exact HK.out _ (by omega) (by omega) hx1))
       obtain ⟨hw1, hw2, hw3, hw4⟩ := HWW.out
       have kb := HB0.out.1.below h1 HB0.out.1.lt
       have k0 : w1.cell? ⟨w.heap.size, 0, none⟩ = some (.string ⟨#[]⟩) := kb.at_ 0
       have k1 : w1.cell? ⟨w.heap.size, 1, none⟩ = some (.string ⟨#[]⟩) := kb.at_ 1
       have k2 : w1.cell? ⟨w.heap.size, 2, none⟩ = some (.int .i64 0) := kb.at_ 2
       have f0 := kb.fz 0
       have f1 := kb.fz 1
       have f2 := kb.fz 2
       clear kb
       have z0 : (0 : Int) ≤ (p : Int) + (n : Int) := by omega
       have z1 : (p : Int) ≤ (p : Int) + (n : Int) := by omega
       have z2 : (p : Int) + (n : Int) ≤ (s.size : Int) := by omega
       have z3 : (0 : Int) ≤ (p : Int) + (n : Int) + (b1 : Int) + 1 + (b2 : Int) + 1 := by omega
       have z4 : (p : Int) + (n : Int) + (b1 : Int) + 1 + (b2 : Int) + 1 ≤ (p : Int) + (n : Int) + (b1 : Int) + 1 + (b2 : Int) + 1 + (m : Int) := by omega
       have z5 : (p : Int) + (n : Int) + (b1 : Int) + 1 + (b2 : Int) + 1 + (m : Int) ≤ (s.size : Int) := by omega
       go_wp2_with fail
       go_region
       all_goals
        clear hw1 hw2 hw3 hw4
        go_wp2
        exact bodyPost_ret (v := .tuple #[.agg #[.string (s.extract p (p + n)), .string (s.extract (p + n + b1 + 1 + b2 + 1) (p + n + b1 + 1 + b2 + 1 + m)), .int .i64 ((p : Int) + (n : Int) + (b1 : Int) + 1 + (b2 : Int) + 1)], .int .i64 ((n : Int) + (b1 : Int) + 1 + (b2 : Int) + ((m : Int) + 2))]) (by simp [results, Tryz.results86, go_sem, k0, k1, k2]) rfl ⟨by
         rw [HAT.out]
         unfold rAtV
         have x1 : (⟨(l.take n).toArray⟩ : ByteArray) = s.extract p (p + n) := ba_eq (by rw [ext_take, HL.out])
         have x2 : (⟨((s.data.toList.drop (p + n + b1 + 1 + b2 + 1)).take m).toArray⟩ : ByteArray) = s.extract (p + n + b1 + 1 + b2 + 1) (p + n + b1 + 1 + b2 + 1 + m) := ba_eq (by rw [ext_take])
         simp only
         rw [x1, x2, if_neg (by omega)]
         have y1 : ((n + b1 + 1 + b2 + 1 + p : Nat) : Int) = (p : Int) + (n : Int) + (b1 : Int) + 1 + (b2 : Int) + 1 := by omega
         have y2 : ((n + b1 + 1 + b2 + (m + 2) : Nat) : Int) = (n : Int) + (b1 : Int) + 1 + (b2 : Int) + ((m : Int) + 2) := by omega
         rw [y1, y2], (below_three (HB0.out.2.trans (h1.mono (by simp))) (Nat.le_refl _) _ _ _).drew⟩
   ·have HAT := Lib.hid (show R = (⟨[], [], 0⟩, 0) by
     rw [hR, hat, if_pos]
     rw [Tk.qv_none]
     intro q h
     exact ⟨fun e => hq34 (by rw [h, e]), fun e => hq39 (by rw [h, e])⟩)
    rw [hp_one_no hq39] at HS39
    rw [hp_one_no hq34] at HS34
    clear hl hn hb1 e1 e2 hR hq hn0 e3 e4 hb2 hat hq39 hq34
    go_enter Tryz.func86, Tryz.ntmps86
    go_wp2_with fail
    refine (HBG.out _).mono ?_
    rintro e w1 ⟨rfl, h1⟩
    go_wp2_with fail
    refine (HBL.out _).mono ?_
    rintro e w2 ⟨rfl, rfl⟩
    go_wp2_with fail
    refine (HH.out _).mono ?_
    rintro e w3 ⟨rfl, rfl⟩
    go_wp2_with fail
    refine (HB2.out _).mono ?_
    rintro e w4 ⟨rfl, rfl⟩
    go_wp2_with fail
    refine (HS39.out _).mono ?_
    rintro e w5 ⟨rfl, rfl⟩
    go_wp2_with fail
    refine (HS34.out _).mono ?_
    rintro e w6 ⟨rfl, rfl⟩
    have kb := HB0.out.1.below h1 HB0.out.1.lt
    have k0 : w1.cell? ⟨w.heap.size, 0, none⟩ = some (.string ⟨#[]⟩) := kb.at_ 0
    have k1 : w1.cell? ⟨w.heap.size, 1, none⟩ = some (.string ⟨#[]⟩) := kb.at_ 1
    have k2 : w1.cell? ⟨w.heap.size, 2, none⟩ = some (.int .i64 0) := kb.at_ 2
    have f0 := kb.fz 0
    have f1 := kb.fz 1
    have f2 := kb.fz 2
    clear kb
    go_wp2
    exact bodyPost_ret (v := .tuple #[.agg zR, .int .i64 0]) (by simp [results, Tryz.results86, go_sem, k0, k1, k2]) rfl ⟨by rw [HAT.out]; rfl, below_three (HB0.out.2.trans (h1.mono (by simp))) (Nat.le_refl _) _ _ _⟩
 ·have HAT := Lib.hid (show R = (⟨[], [], 0⟩, 0) by rw [hR, Tk.at1_sign hn.symm (by rw [← hb1]; exact hq)])
  have HH := Lib.hid (fun w0 => hasp_any s ⟨#[61]⟩ (p + n + b1) w0 hs (by decide) (by omega))
  rw [show (⟨#[61]⟩ : ByteArray).data.toList = [61] from rfl, e2, hp_one_no hq, Int.natCast_add, Int.natCast_add] at HH
  clear hl hn hb1 e1 e2 hR hq hn0
  go_enter Tryz.func86, Tryz.ntmps86
  go_wp2_with fail
  refine (HBG.out _).mono ?_
  rintro e w1 ⟨rfl, h1⟩
  go_wp2_with fail
  refine (HBL.out _).mono ?_
  rintro e w2 ⟨rfl, rfl⟩
  go_wp2_with fail
  refine (HH.out _).mono ?_
  rintro e w3 ⟨rfl, rfl⟩
  have kb := HB0.out.1.below h1 HB0.out.1.lt
  have k0 : w1.cell? ⟨w.heap.size, 0, none⟩ = some (.string ⟨#[]⟩) := kb.at_ 0
  have k1 : w1.cell? ⟨w.heap.size, 1, none⟩ = some (.string ⟨#[]⟩) := kb.at_ 1
  have k2 : w1.cell? ⟨w.heap.size, 2, none⟩ = some (.int .i64 0) := kb.at_ 2
  have f0 := kb.fz 0
  have f1 := kb.fz 1
  have f2 := kb.fz 2
  clear kb
  go_wp2
  exact bodyPost_ret (v := .tuple #[.agg zR, .int .i64 0]) (by simp [results, Tryz.results86, go_sem, k0, k1, k2]) rfl ⟨by rw [HAT.out]; rfl, below_three (HB0.out.2.trans (h1.mono (by simp))) (Nat.le_refl _) _ _ _⟩
end Go.Proofs.YteadfpkihhaadaaGreatDoor
