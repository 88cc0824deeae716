/- The reference's blank, Blank, blanks, has, find of layer 4, walked: each answers what the plain facts tell and leaves all as it was. Condition: texts' lengths fit. -/
import Derived.Test.YtpdoegafjfhiiaaGreatDoorTkIs
namespace Go.Proofs.YtpdoegafjfhiiaaGreatDoor
open Go.RowKit

theorem u8_eq (c d : UInt8) : ((c.toNat : Int) == (d.toNat : Int)) = (c == d) := by
  rw [Bool.eq_iff_iff, beq_iff_eq, beq_iff_eq]
  constructor
  · intro h; apply UInt8.toNat_inj.1; omega
  · intro h; rw [h]
theorem rblank_any (c : UInt8) (w : World) : Calls Tryz.prog 41 #[.int .u8 (c.toNat : Int)] w fun e w' => e = .returned (.bool (Tk.isB c)) ∧ w = w' := by
  have t0 : ((c.toNat : Int) == 32) = (c == 32) := u8_eq c 32
  have t1 : ((c.toNat : Int) == 9) = (c == 9) := u8_eq c 9
  have t2 : ((c.toNat : Int) == 10) = (c == 10) := u8_eq c 10
  have t3 : ((c.toNat : Int) == 13) = (c == 13) := u8_eq c 13
  unfold Tk.isB
  generalize (c == 32) = x0 at *
  generalize (c == 9) = x1 at *
  generalize (c == 10) = x2 at *
  generalize (c == 13) = x3 at *
  cases x0 <;> cases x1 <;> cases x2 <;> cases x3 <;>
    (go_enter Tryz.func41, Tryz.ntmps41
     go_wp2
     go_ret
     exact ⟨rfl, rfl⟩)

set_option maxHeartbeats 1000000 in
theorem rBlank_any (s : ByteArray) (w : World) (hs0 : s.size ≤ maxLen) : Calls Tryz.prog 17 #[.string s] w fun e w' => e = .returned (.bool (Tk.allB s.data.toList)) ∧ w = w' := by
  have hs : (s.size : Int) ≤ 9223372036854775807 := by unfold maxLen at hs0; omega
  clear hs0
  have hll : s.data.toList.length = s.size := (Lib.size_eq s).symm
  obtain ⟨R, hR⟩ : ∃ R, R = Tk.allB s.data.toList := ⟨_, rfl⟩
  rw [← hR]
  have HR := Lib.hid hR
  clear hR
  go_enter Tryz.func17, Tryz.ntmps17
  go_wp2
  go_loop [3] (fun i => ∃ k : Nat, k ≤ s.size ∧ i = .int .i64 k ∧ Hid (Tk.allB s.data.toList = Tk.allB (s.data.toList.drop k))) (fun i => s.size - (intOf i).toNat)
  case atStart => exact ⟨0, Nat.zero_le _, rfl, Lib.hid rfl⟩
  case round =>
    obtain ⟨k, hk, rfl, HK⟩ := hrel
    by_cases hlt : k < s.size
    · have hlt' : (k : Int) < (s.size : Int) := by omega
      have hd : s.data.toList.drop k = s[k] :: s.data.toList.drop (k + 1) := by
        rw [List.drop_eq_getElem_cons (by omega)]; rfl
      have hstep : Tk.allB (s.data.toList.drop k) = (Tk.isB s[k] && Tk.allB (s.data.toList.drop (k + 1))) := by rw [hd]; rfl
      have HS := Lib.hid hstep
      have HB := Lib.hid (fun w0 => rblank_any s[k] w0)
      cases hb : Tk.isB s[k] with
      | true =>
        rw [hb] at HB HS
        clear hb hd hstep
        go_wp2_with fail
        refine (HB.out _).mono ?_
        rintro e w1 ⟨rfl, rfl⟩
        go_wp2
        go_round
        case rel => exact ⟨k + 1, by omega, by go_num, Lib.hid (by rw [HK.out, HS.out, Bool.true_and])⟩
        case measure => simp [intOf]; omega
      | false =>
        rw [hb] at HB HS
        clear hb hd hstep
        go_wp2_with fail
        refine (HB.out _).mono ?_
        rintro e w1 ⟨rfl, rfl⟩
        go_wp2
        go_ret
        exact ⟨by rw [HR.out, HK.out, HS.out]; rfl, rfl⟩
    · go_wp2
      go_ret
      exact ⟨by rw [HR.out, HK.out, List.drop_of_length_le (by omega)]; rfl, rfl⟩

set_option maxHeartbeats 1000000 in
theorem rblanks_any (s : ByteArray) (p : Nat) (w : World) (hs : s.size ≤ 1000000) (hp : p ≤ s.size) : Calls Tryz.prog 70 #[.string s, .int .i64 p] w fun e w' => e = .returned (.int .i64 (Tk.bl (s.data.toList.drop p))) ∧ w = w' := by
  have hll : s.data.toList.length = s.size := (Lib.size_eq s).symm
  obtain ⟨R, hR⟩ : ∃ R, R = Tk.bl (s.data.toList.drop p) := ⟨_, rfl⟩
  rw [← hR]
  have HR := Lib.hid hR
  have hs' : (s.size : Int) ≤ 1000000 := by omega
  clear hR
  go_enter Tryz.func70, Tryz.ntmps70
  go_wp2
  go_loop [5] (fun i => ∃ k : Nat, p + k ≤ s.size ∧ i = .int .i64 k ∧ Hid (Tk.bl (s.data.toList.drop p) = k + Tk.bl (s.data.toList.drop (p + k)))) (fun i => s.size - p - (intOf i).toNat)
  case atStart => exact ⟨0, by omega, rfl, Lib.hid (by simp)⟩
  case round =>
    obtain ⟨k, hk, rfl, HK⟩ := hrel
    by_cases hlt : p + k < s.size
    · have hlt' : (p : Int) + (k : Int) < (s.size : Int) := by omega
      have h0 : (0 : Int) ≤ (p : Int) + (k : Int) := by omega
      have hn : ((p : Int) + (k : Int)).toNat = p + k := by omega
      have HB := Lib.hid (fun w0 => rblank_any s[p + k] w0)
      cases hb : Tk.isB s[p + k] with
      | true =>
        have HS := Lib.hid (Tk.bl_go (l := s.data.toList) (k := p + k) (by omega) hb)
        rw [hb] at HB
        clear hb
        go_wp2_with fail
        refine (HB.out _).mono ?_
        rintro e w1 ⟨rfl, rfl⟩
        go_wp2
        go_round
        case rel => exact ⟨k + 1, by omega, by go_num, Lib.hid (by rw [HK.out, HS.out, show p + (k + 1) = p + k + 1 from rfl]; omega)⟩
        case measure => simp [intOf]; omega
      | false =>
        have HS := Lib.hid (Tk.bl_stop (l := s.data.toList) (k := p + k) (by omega) hb)
        rw [hb] at HB
        clear hb
        go_wp2_with fail
        refine (HB.out _).mono ?_
        rintro e w1 ⟨rfl, rfl⟩
        go_wp2
        go_ret
        exact ⟨by rw [HR.out, HK.out, HS.out]; rfl, rfl⟩
    · have hge : ¬ (p : Int) + (k : Int) < (s.size : Int) := by omega
      go_wp2
      go_ret
      exact ⟨by rw [HR.out, HK.out, List.drop_of_length_le (by omega)]; rfl, rfl⟩

set_option maxHeartbeats 1000000 in
theorem has_any (s t : ByteArray) (p : Nat) (w : World) (hs : s.size ≤ 1000000) (ht : t.size ≤ 1000000) (hp : p ≤ s.size) : Calls Tryz.prog 67 #[.string s, .int .i64 p, .string t] w fun e w' => e = .returned (.bool (Lib.hasPrefix (s.data.toList.drop p) t.data.toList)) ∧ w = w' := by
  by_cases hr : p + t.size ≤ s.size
  · have hr' : (p : Int) + (t.size : Int) ≤ (s.size : Int) := by omega
    have h0 : (0 : Int) ≤ (p : Int) + (t.size : Int) := by omega
    have h1 : (p : Int) ≤ (p : Int) + (t.size : Int) := by omega
    have hn : ((p : Int) + (t.size : Int)).toNat = p + t.size := by omega
    have hd : (s.extract p (p + t.size)).data.toList = (s.data.toList.drop p).take t.size := ext_take s p t.size
    by_cases he : (s.data.toList.drop p).take t.size = t.data.toList
    · have hh : Lib.hasPrefix (s.data.toList.drop p) t.data.toList = true := by rw [Tk.hp_iff, ← Lib.size_eq]; exact he
      have hx : s.extract p (p + t.size) = t := ba_eq (by rw [hd, he])
      rw [hh]
      clear hh he hd
      go_enter Tryz.func67, Tryz.ntmps67
      go_wp2
      go_ret
      exact ⟨by first | rfl | (apply ret_bool; simp), rfl⟩
    · have hh : Lib.hasPrefix (s.data.toList.drop p) t.data.toList = false := by
        cases e : Lib.hasPrefix (s.data.toList.drop p) t.data.toList with
        | false => rfl
        | true => rw [Tk.hp_iff, ← Lib.size_eq] at e; exact absurd e he
      have hx2 : ¬ (s.extract p (p + t.size)).toList = t.toList := fun e => he (by rw [← hd, ← Lib.toList_data, e, Lib.toList_data])
      rw [hh]
      clear hh he hd
      go_enter Tryz.func67, Tryz.ntmps67
      go_wp2
      go_ret
      exact ⟨by first | rfl | (apply ret_bool; simp [hx2]), rfl⟩
  · have hr' : ¬ (p : Int) + (t.size : Int) ≤ (s.size : Int) := by omega
    have hh : Lib.hasPrefix (s.data.toList.drop p) t.data.toList = false := by
      cases e : Lib.hasPrefix (s.data.toList.drop p) t.data.toList with
      | false => rfl
      | true => have := Tk.hp_len e; rw [List.length_drop, ← Lib.size_eq, ← Lib.size_eq] at this; omega
    rw [hh]
    clear hh
    go_enter Tryz.func67, Tryz.ntmps67
    go_wp2
    go_ret
    exact ⟨by first | rfl | (apply ret_bool; simp), rfl⟩

def fnd (l : List UInt8) (p : Nat) (t : List UInt8) : Int := if 0 ≤ Lib.index (l.drop p) t then Lib.index (l.drop p) t + p else -1
theorem fnd_at {l t : List UInt8} {p k : Nat} (hk : p ≤ k) (hl : k ≤ l.length) (h : Lib.hasPrefix (l.drop k) t = true) (hn : ∀ j, p ≤ j → j < k → Lib.hasPrefix (l.drop j) t = false) : fnd l p t = k := by
  have hi : Lib.index (l.drop p) t = ((k - p : Nat) : Int) := by
    refine Lib.index_first (by rw [List.length_drop]; omega) ?_ fun j hj => ?_
    · unfold Lib.occAt; rw [List.drop_drop, show p + (k - p) = k by omega]; exact h
    · unfold Lib.occAt; rw [List.drop_drop]; exact hn _ (by omega) (by omega)
  unfold fnd
  rw [hi, if_pos (by omega)]; omega
theorem fnd_no {l t : List UInt8} {p : Nat} (ht : 1 ≤ t.length) (hn : ∀ j, p ≤ j → j < l.length → Lib.hasPrefix (l.drop j) t = false) : fnd l p t = -1 := by
  unfold fnd
  rcases Lib.index_spec (l.drop p) t with ⟨e, _⟩ | ⟨i, e, hi, ho, _⟩
  · rw [e]; rfl
  · exfalso
    have hr := Lib.occAt_room ho
    unfold Lib.occAt at ho
    rw [List.drop_drop] at ho
    rw [List.length_drop] at hi hr
    have h2 : i + t.length ≤ l.length - p := by
      rcases hr with hr | hr
      · exact hr
      · rw [hr] at ht; simp at ht
    have := hn (p + i) (by omega) (by omega)
    unfold Lib.hasPrefix at this
    rw [ho] at this; cases this

set_option maxHeartbeats 1000000 in
theorem find_any (s t : ByteArray) (p : Nat) (w : World) (hs : s.size ≤ 1000000) (ht : t.size ≤ 1000000) (ht1 : 1 ≤ t.size) (hp : p ≤ s.size) : Calls Tryz.prog 33 #[.string s, .int .i64 p, .string t] w fun e w' => e = .returned (.int .i64 (fnd s.data.toList p t.data.toList)) ∧ w = w' := by
  have hll : s.data.toList.length = s.size := (Lib.size_eq s).symm
  obtain ⟨R, hR⟩ : ∃ R, R = fnd s.data.toList p t.data.toList := ⟨_, rfl⟩
  rw [← hR]
  have HR := Lib.hid hR
  have hs' : (s.size : Int) ≤ 1000000 := by omega
  clear hR
  go_enter Tryz.func33, Tryz.ntmps33
  go_wp2
  go_loop [7] (fun i => ∃ k : Nat, p ≤ k ∧ k ≤ s.size ∧ i = .int .i64 k ∧ Hid (∀ j, p ≤ j → j < k → Lib.hasPrefix (s.data.toList.drop j) t.data.toList = false)) (fun i => s.size - (intOf i).toNat)
  case atStart => exact ⟨p, Nat.le_refl _, hp, rfl, Lib.hid (fun j h1 h2 => by omega)⟩
  case round =>
    obtain ⟨k, hk, hks, rfl, HK⟩ := hrel
    by_cases hlt : k < s.size
    · have hlt' : (k : Int) < (s.size : Int) := by omega
      have HH := Lib.hid (fun w0 => has_any s t k w0 hs ht hks)
      cases hb : Lib.hasPrefix (s.data.toList.drop k) t.data.toList with
      | true =>
        have HF := Lib.hid (fnd_at hk (by omega) hb HK.out)
        rw [hb] at HH
        clear hb
        go_wp2_with fail
        refine (HH.out _).mono ?_
        rintro e w1 ⟨rfl, rfl⟩
        go_wp2
        go_ret
        exact ⟨by rw [HR.out, HF.out]; rfl, rfl⟩
      | false =>
        have HB := Lib.hid hb
        rw [hb] at HH
        clear hb
        go_wp2_with fail
        refine (HH.out _).mono ?_
        rintro e w1 ⟨rfl, rfl⟩
        go_wp2
        go_round
        case rel => exact ⟨k + 1, by omega, by omega, by go_num, Lib.hid (fun j h1 h2 => by
          rcases Nat.lt_or_ge j k with h3 | h3
          · exact HK.out j h1 h3
          · rw [show j = k by omega]; exact HB.out)⟩
        case measure => simp [intOf]; omega
    · have HF := Lib.hid (fnd_no (l := s.data.toList) (t := t.data.toList) (p := p) (by rw [← Lib.size_eq]; exact ht1) (fun j h1 h2 => HK.out j h1 (by omega)))
      go_wp2
      go_ret
      exact ⟨by rw [HR.out, HF.out]; rfl, rfl⟩
end Go.Proofs.YtpdoegafjfhiiaaGreatDoor
