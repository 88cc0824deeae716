/- Layer 7's reference: remark, blank, longest, walked. Condition: a text's length fits. -/
import Derived.Test.YtdcjpinbflmikaaGreatDoorLxRef1
import Derived.Lib.CutLaws
namespace Go.Proofs.YtdcjpinbflmikaaGreatDoor
open Go.RowKit

def rmk (l : List UInt8) : Bool := match l with
  | c :: d :: _ => decide (c.toNat = 45) && decide (d.toNat = 45)
  | _ => false
theorem rmk_iff (l : List UInt8) (k : Nat) : rmk (l.drop k) = true ↔ ∃ (h : k + 1 < l.length), (l[k].toNat : Int) = 45 ∧ (l[k + 1].toNat : Int) = 45 := by
  by_cases h1 : k + 1 < l.length
  · rw [List.drop_eq_getElem_cons (by omega), List.drop_eq_getElem_cons h1]
    unfold rmk
    simp only [Bool.and_eq_true, decide_eq_true_eq]
    constructor
    · intro h; exact ⟨h1, by omega, by omega⟩
    · rintro ⟨_, h2, h3⟩; exact ⟨by omega, by omega⟩
  · constructor
    · intro h
      exfalso
      have hl : (l.drop k).length ≤ 1 := by rw [List.length_drop]; omega
      generalize l.drop k = m at *
      match m, hl with
      | [], _ => cases h
      | [a], _ => cases h
    · rintro ⟨h, _⟩; exact absurd h h1
set_option maxHeartbeats 1000000 in
theorem remark_any (s : ByteArray) (k : Nat) (w : World) (hs : s.size ≤ 1000000000) (hk : k ≤ s.size) :
    Calls Tryz.prog 163 #[.string s, .int .i64 k] w fun e w' => e = .returned (.bool (rmk (s.data.toList.drop k))) ∧ w = w' := by
  have HL := Lib.hid (Lib.size_eq s)
  have HI := Lib.hid (rmk_iff s.data.toList k)
  generalize rmk (s.data.toList.drop k) = R at *
  by_cases h1 : k + 1 < s.size
  · have h1' : (k : Int) + 1 < (s.size : Int) := by omega
    have hl1 : k + 1 < s.data.toList.length := by rw [← HL.out]; exact h1
    have hk0 : k < s.size := by omega
    have e0 : s.data.toList[k] = s[k] := rfl
    have e1 : s.data.toList[k + 1] = s[k + 1] := rfl
    have HI2 := Lib.hid (show R = true ↔ (s[k].toNat : Int) = 45 ∧ (s[k + 1].toNat : Int) = 45 by
      rw [HI.out]
      constructor
      · rintro ⟨_, h2, h3⟩; exact ⟨h2, h3⟩
      · rintro ⟨h2, h3⟩; exact ⟨hl1, h2, h3⟩)
    clear e0 e1 HI
    by_cases c0 : (s[k].toNat : Int) = 45
    · by_cases c1 : (s[k + 1].toNat : Int) = 45
      · have HE := Lib.hid (show R = true from HI2.out.2 ⟨c0, c1⟩)
        have c0' : ((s[k].toNat : Int) == 45) = true := beq_iff_eq.2 c0
        have c1' : ((s[k + 1].toNat : Int) == 45) = true := beq_iff_eq.2 c1
        clear c0 c1
        go_enter Tryz.func163, Tryz.ntmps163
        go_wp2
        go_ret
        exact ⟨by rw [HE.out]; rfl, rfl⟩
      · have HE := Lib.hid (show R = false by cases R with
          | false => rfl
          | true => exact absurd (HI2.out.1 rfl).2 c1)
        have c0' : ((s[k].toNat : Int) == 45) = true := beq_iff_eq.2 c0
        have c1' : ((s[k + 1].toNat : Int) == 45) = false := beq_eq_false_iff_ne.2 c1
        clear c0 c1
        go_enter Tryz.func163, Tryz.ntmps163
        go_wp2
        go_ret
        exact ⟨by rw [HE.out]; rfl, rfl⟩
    · have HE := Lib.hid (show R = false by cases R with
        | false => rfl
        | true => exact absurd (HI2.out.1 rfl).1 c0)
      have c0' : ((s[k].toNat : Int) == 45) = false := beq_eq_false_iff_ne.2 c0
      clear c0
      go_enter Tryz.func163, Tryz.ntmps163
      go_wp2
      go_ret
      exact ⟨by rw [HE.out]; rfl, rfl⟩
  · have h1' : ¬ (k : Int) + 1 < (s.size : Int) := by omega
    have HE := Lib.hid (show R = false by cases R with
      | false => rfl
      | true => exact absurd (HI.out.1 rfl).1 (by rw [← HL.out]; exact h1))
    clear h1
    go_enter Tryz.func163, Tryz.ntmps163
    go_wp2
    go_ret
    exact ⟨by rw [HE.out]; rfl, rfl⟩

theorem blk_b {c : UInt8} {r : List UInt8} (h : Lx.isB c = true) : Lx.blk false (c :: r) = 1 + Lx.blk false r := by simp only [Lx.blk]; rw [if_pos h]
theorem blk_stop {c : UInt8} {r : List UInt8} (h : Lx.isB c = false) (h2 : rmk (c :: r) = false) : Lx.blk false (c :: r) = 0 := by
  simp only [Lx.blk]
  rw [if_neg (by rw [h]; decide), if_neg]
  rintro ⟨h3, h4⟩
  cases r with
  | nil => cases h4
  | cons d r =>
    simp only [List.head?_cons, Option.some.injEq] at h4
    subst h4
    unfold rmk at h2
    simp [h3] at h2
theorem blk_rem {c : UInt8} {r : List UInt8} (h2 : rmk (c :: r) = true) : Lx.blk false (c :: r) = Lx.blk true (c :: r) ∧ c.toNat = 45 := by
  cases r with
  | nil => cases h2
  | cons d r =>
    unfold rmk at h2
    simp only [Bool.and_eq_true, decide_eq_true_eq] at h2
    refine ⟨?_, h2.1⟩
    have hb : Lx.isB c = false := decide_eq_false (by omega)
    have hd : d = 45 := UInt8.toNat_inj.1 h2.2
    subst hd
    simp only [Lx.blk]
    rw [if_neg (by rw [hb]; decide), if_pos ⟨h2.1, rfl⟩, if_neg (show ¬ c.toNat = 10 by omega)]
theorem blk_ten {c : UInt8} {r : List UInt8} (h : c.toNat = 10) : Lx.blk true (c :: r) = Lx.blk false (c :: r) := by
  rw [blk_b (show Lx.isB c = true from decide_eq_true (by omega))]
  simp only [Lx.blk]
  rw [if_pos h]
theorem blk_on {c : UInt8} {r : List UInt8} (h : c.toNat ≠ 10) : Lx.blk true (c :: r) = 1 + Lx.blk true r := by
  simp only [Lx.blk]
  rw [if_neg h]
set_option maxHeartbeats 4000000 in
theorem blank_any (s : ByteArray) (k0 : Nat) (w : World) (hs : s.size ≤ 1000000000) (hk0 : k0 ≤ s.size) :
    Calls Tryz.prog 105 #[.string s, .int .i64 k0] w fun e w' => e = .returned (.int .i64 ((k0 + Lx.blk false (s.data.toList.drop k0) : Nat) : Int)) ∧ w = w' := by
  have HL := Lib.hid (Lib.size_eq s)
  obtain ⟨R, hR⟩ : ∃ R, R = k0 + Lx.blk false (s.data.toList.drop k0) := ⟨_, rfl⟩
  rw [← hR]
  have HR := Lib.hid hR
  have HRM := Lib.hid (fun (k : Nat) (hk : k ≤ s.size) w0 => remark_any s k w0 hs hk)
  have HDR := Lib.hid (fun (k : Nat) (hk : k < s.size) => show s.data.toList.drop k = s[k] :: s.data.toList.drop (k + 1) by
    rw [List.drop_eq_getElem_cons (by rw [← Lib.size_eq]; exact hk)]; rfl)
  clear hR
  go_enter Tryz.func105, Tryz.ntmps105
  go_wp2
  go_loop [1] (fun i => ∃ k : Nat, i = .int .i64 k ∧ k ≤ s.size ∧ Hid (R = k + Lx.blk false (s.data.toList.drop k))) (fun i => s.size - (intOf i).toNat)
  case atStart => exact ⟨k0, rfl, hk0, HR⟩
  case round =>
    obtain ⟨k, rfl, hk, HI⟩ := hrel
    by_cases hlt : k < s.size
    · have hlt' : (k : Int) < (s.size : Int) := by omega
      have hd := HDR.out k hlt
      have HRK := Lib.hid (HRM.out k hk w)
      rw [hd] at HI HRK
      clear hd
      cases hb : Lx.isB s[k] with
      | true =>
        have HN := Lib.hid (show R = (k + 1) + Lx.blk false (s.data.toList.drop (k + 1)) by rw [HI.out, blk_b hb]; omega)
        have h4 : s[k].toNat = 9 ∨ s[k].toNat = 10 ∨ s[k].toNat = 13 ∨ s[k].toNat = 32 := of_decide_eq_true hb
        clear hb HRK
        rcases h4 with h | h | h | h
        all_goals
          have h' : (s[k].toNat : Int) = _ := congrArg Nat.cast h
          clear h
          go_wp2
          go_round
          case rel => exact ⟨k + 1, by go_num, hlt, HN⟩
          case measure => simp [intOf]; omega
      | false =>
        have h4 : ¬ (s[k].toNat = 9 ∨ s[k].toNat = 10 ∨ s[k].toNat = 13 ∨ s[k].toNat = 32) := of_decide_eq_false hb
        have n1 : ((s[k].toNat : Int) == 9) = false := beq_eq_false_iff_ne.2 (by omega)
        have n2 : ((s[k].toNat : Int) == 10) = false := beq_eq_false_iff_ne.2 (by omega)
        have n3 : ((s[k].toNat : Int) == 13) = false := beq_eq_false_iff_ne.2 (by omega)
        have n4 : ((s[k].toNat : Int) == 32) = false := beq_eq_false_iff_ne.2 (by omega)
        have HBF := Lib.hid hb
        clear h4 hb
        cases hr : rmk (s[k] :: s.data.toList.drop (k + 1)) with
        | true =>
          rw [hr] at HRK
          obtain ⟨hr1, hr2⟩ := blk_rem hr
          have HC := Lib.hid (show R = k + Lx.blk true (s.data.toList.drop k) by rw [HI.out, hr1, HDR.out k hlt])
          have H45 := Lib.hid hr2
          clear hr hr1 hr2
          go_wp2_with fail
          refine HRK.out.mono ?_
          rintro e w1 ⟨rfl, rfl⟩
          go_wp2
          clear n1 n2 n3 n4
          go_loop [1] (fun i => ∃ j : Nat, i = .int .i64 j ∧ k ≤ j ∧ j ≤ s.size ∧ Hid (R = j + Lx.blk true (s.data.toList.drop j))) (fun i => s.size - (intOf i).toNat)
          case atStart => exact ⟨k, rfl, Nat.le_refl _, hk, HC⟩
          case round =>
            obtain ⟨j, rfl, hkj, hj, HJ⟩ := hrel
            by_cases hjl : j < s.size
            · have hjl' : (j : Int) < (s.size : Int) := by omega
              have hdj := HDR.out j hjl
              rw [hdj] at HJ
              by_cases h10 : s[j].toNat = 10
              · have hjk : k < j := by
                  rcases Nat.lt_or_ge k j with h | h
                  · exact h
                  · exfalso
                    obtain rfl : k = j := by omega
                    have := H45.out
                    omega
                have HN := Lib.hid (show R = j + Lx.blk false (s.data.toList.drop j) by rw [HJ.out, blk_ten h10, hdj])
                have h10' : ((s[j].toNat : Int) != 10) = false := by simp [h10]
                have h102 : ((s[j].toNat : Int) == 10) = true := by simp [h10]
                clear hdj h10
                go_wp2
                go_round
                case rel => exact ⟨j, rfl, hj, HN⟩
                case measure => simp [intOf]; omega
              · have HN := Lib.hid (show R = (j + 1) + Lx.blk true (s.data.toList.drop (j + 1)) by rw [HJ.out, blk_on h10]; omega)
                have h102 : ((s[j].toNat : Int) == 10) = false := beq_eq_false_iff_ne.2 (by omega)
                have h10' : ((s[j].toNat : Int) != 10) = true := by simp [bne, h102]
                clear hdj h10
                go_wp2
                go_round
                case rel => exact ⟨j + 1, by go_num, by omega, hjl, HN⟩
                case measure => simp [intOf]; omega
            · obtain rfl : j = s.size := by omega
              have hjl' : ¬ ((s.size : Nat) : Int) < (s.size : Int) := by omega
              have HN := Lib.hid (show R = s.size + Lx.blk false (s.data.toList.drop s.size) by
                have h3 := HJ.out
                rw [List.drop_of_length_le (by rw [← HL.out]; exact Nat.le_refl _)] at h3 ⊢
                exact h3)
              clear hjl
              go_wp2
              go_round
              case rel => exact ⟨s.size, rfl, Nat.le_refl _, HN⟩
              case measure => simp [intOf]; omega
        | false =>
          rw [hr] at HRK
          have HE := Lib.hid (show R = k by rw [HI.out, blk_stop HBF.out hr]; rfl)
          clear hr
          go_wp2_with fail
          refine HRK.out.mono ?_
          rintro e w1 ⟨rfl, rfl⟩
          go_wp2
          go_ret
          exact ⟨by rw [HE.out]; rfl, rfl⟩
    · obtain rfl : k = s.size := by omega
      have hlt' : ¬ ((s.size : Nat) : Int) < (s.size : Int) := by omega
      have HE := Lib.hid (show R = s.size by
        have h3 := HI.out
        rw [List.drop_of_length_le (by rw [← HL.out]; exact Nat.le_refl _)] at h3
        exact h3)
      clear hlt
      go_wp2
      go_ret
      exact ⟨by rw [HE.out]; rfl, rfl⟩
end Go.Proofs.YtdcjpinbflmikaaGreatDoor
