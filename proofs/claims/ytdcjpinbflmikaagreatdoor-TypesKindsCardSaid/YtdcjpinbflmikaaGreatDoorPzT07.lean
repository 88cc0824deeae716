/- Facts and walks for the statement. -/
import Derived.Test.YtdcjpinbflmikaaGreatDoorPzT04
import Derived.Lib.CutLaws
import Derived.Test.YtdcjpinbflmikaaGreatDoorPzT06
namespace Go.Proofs.YtdcjpinbflmikaaGreatDoor
open Go.RowKit
def rmk (l : List UInt8) : Bool := match l with
  | c :: d :: _ => decide (c.toNat = 45) && decide (d.toNat = 45)
  | _ => false
theorem rmk_iff (l : List UInt8) (k : Nat) : rmk (l.drop k) = true ↔ ∃ (h : k + 1 < l.length), (l[k].toNat : Int) = 45 ∧ (l[k + 1].toNat : Int) = 45 := by
  by_cases h1 : k + 1 < l.length
  · rw [List.drop_eq_getElem_cons (by omega), List.drop_eq_getElem_cons h1]
    unfold rmk
    simp only [Bool.and_eq_true, decide_eq_true_eq]
    constructor
    · intro h; exact ⟨h1, by omega, by omega⟩
    · rintro ⟨_, h2, h3⟩; exact ⟨by omega, by omega⟩
  · constructor
    · intro h
      exfalso
      have hl : (l.drop k).length ≤ 1 := by rw [List.length_drop]; omega
      generalize l.drop k = m at *
      match m, hl with
      | [], _ => cases h
      | [a], _ => cases h
    · rintro ⟨h, _⟩; exact absurd h h1
set_option maxHeartbeats 1000000 in
theorem remark_any (s : ByteArray) (k : Nat) (w : World) (hs : s.size ≤ 1000000000) (hk : k ≤ s.size) :
    Calls Tryz.prog 163 #[.string s, .int .i64 k] w fun e w' => e = .returned (.bool (rmk (s.data.toList.drop k))) ∧ w = w' := by
  have HL := Lib.hid (Lib.size_eq s)
  have HI := Lib.hid (rmk_iff s.data.toList k)
  generalize rmk (s.data.toList.drop k) = R at *
  by_cases h1 : k + 1 < s.size
  · have h1' : (k : Int) + 1 < (s.size : Int) := by omega
    have hl1 : k + 1 < s.data.toList.length := by rw [← HL.out]; exact h1
    have hk0 : k < s.size := by omega
    have e0 : s.data.toList[k] = s[k] := rfl
    have e1 : s.data.toList[k + 1] = s[k + 1] := rfl
    have HI2 := Lib.hid (show R = true ↔ (s[k].toNat : Int) = 45 ∧ (s[k + 1].toNat : Int) = 45 by
      rw [HI.out]
      constructor
      · rintro ⟨_, h2, h3⟩; exact ⟨h2, h3⟩
      · rintro ⟨h2, h3⟩; exact ⟨hl1, h2, h3⟩)
    clear e0 e1 HI
    by_cases c0 : (s[k].toNat : Int) = 45
    · by_cases c1 : (s[k + 1].toNat : Int) = 45
      · have HE := Lib.hid (show R = true from HI2.out.2 ⟨c0, c1⟩)
        have c0' : ((s[k].toNat : Int) == 45) = true := beq_iff_eq.2 c0
        have c1' : ((s[k + 1].toNat : Int) == 45) = true := beq_iff_eq.2 c1
        clear c0 c1
        go_enter Tryz.func163, Tryz.ntmps163
        go_wp2
        go_ret
        exact ⟨by rw [HE.out]; rfl, rfl⟩
      · have HE := Lib.hid (show R = false by cases R with
          | false => rfl
          | true => exact absurd (HI2.out.1 rfl).2 c1)
        have c0' : ((s[k].toNat : Int) == 45) = true := beq_iff_eq.2 c0
        have c1' : ((s[k + 1].toNat : Int) == 45) = false := beq_eq_false_iff_ne.2 c1
        clear c0 c1
        go_enter Tryz.func163, Tryz.ntmps163
        go_wp2
        go_ret
        exact ⟨by rw [HE.out]; rfl, rfl⟩
    · have HE := Lib.hid (show R = false by cases R with
        | false => rfl
        | true => exact absurd (HI2.out.1 rfl).1 c0)
      have c0' : ((s[k].toNat : Int) == 45) = false := beq_eq_false_iff_ne.2 c0
      clear c0
      go_enter Tryz.func163, Tryz.ntmps163
      go_wp2
      go_ret
      exact ⟨by rw [HE.out]; rfl, rfl⟩
  · have h1' : ¬ (k : Int) + 1 < (s.size : Int) := by omega
    have HE := Lib.hid (show R = false by cases R with
      | false => rfl
      | true => exact absurd (HI.out.1 rfl).1 (by rw [← HL.out]; exact h1))
    clear h1
    go_enter Tryz.func163, Tryz.ntmps163
    go_wp2
    go_ret
    exact ⟨by rw [HE.out]; rfl, rfl⟩
theorem blk_b {c : UInt8} {r : List UInt8} (h : Lx.isB c = true) : Lx.blk false (c :: r) = 1 + Lx.blk false r := by simp only [Lx.blk]; rw [if_pos h]
theorem blk_stop {c : UInt8} {r : List UInt8} (h : Lx.isB c = false) (h2 : rmk (c :: r) = false) : Lx.blk false (c :: r) = 0 := by
  simp only [Lx.blk]
  rw [if_neg (by rw [h]; decide), if_neg]
  rintro ⟨h3, h4⟩
  cases r with
  | nil => cases h4
  | cons d r =>
    simp only [List.head?_cons, Option.some.injEq] at h4
    subst h4
    unfold rmk at h2
    simp [h3] at h2
theorem blk_rem {c : UInt8} {r : List UInt8} (h2 : rmk (c :: r) = true) : Lx.blk false (c :: r) = Lx.blk true (c :: r) ∧ c.toNat = 45 := by
  cases r with
  | nil => cases h2
  | cons d r =>
    unfold rmk at h2
    simp only [Bool.and_eq_true, decide_eq_true_eq] at h2
    refine ⟨?_, h2.1⟩
    have hb : Lx.isB c = false := decide_eq_false (by omega)
    have hd : d = 45 := UInt8.toNat_inj.1 h2.2
    subst hd
    simp only [Lx.blk]
    rw [if_neg (by rw [hb]; decide), if_pos ⟨h2.1, rfl⟩, if_neg (show ¬ c.toNat = 10 by omega)]
theorem blk_ten {c : UInt8} {r : List UInt8} (h : c.toNat = 10) : Lx.blk true (c :: r) = Lx.blk false (c :: r) := by
  rw [blk_b (show Lx.isB c = true from decide_eq_true (by omega))]
  simp only [Lx.blk]
  rw [if_pos h]
theorem blk_on {c : UInt8} {r : List UInt8} (h : c.toNat ≠ 10) : Lx.blk true (c :: r) = 1 + Lx.blk true r := by
  simp only [Lx.blk]
  rw [if_neg h]
set_option maxHeartbeats 4000000 in
theorem blank_any (s : ByteArray) (k0 : Nat) (w : World) (hs : s.size ≤ 1000000000) (hk0 : k0 ≤ s.size) :
    Calls Tryz.prog 105 #[.string s, .int .i64 k0] w fun e w' => e = .returned (.int .i64 ((k0 + Lx.blk false (s.data.toList.drop k0) : Nat) : Int)) ∧ w = w' := by
  have HL := Lib.hid (Lib.size_eq s)
  obtain ⟨R, hR⟩ : ∃ R, R = k0 + Lx.blk false (s.data.toList.drop k0) := ⟨_, rfl⟩
  rw [← hR]
  have HR := Lib.hid hR
  have HRM := Lib.hid (fun (k : Nat) (hk : k ≤ s.size) w0 => remark_any s k w0 hs hk)
  have HDR := Lib.hid (fun (k : Nat) (hk : k < s.size) => show s.data.toList.drop k = s[k] :: s.data.toList.drop (k + 1) by
    rw [List.drop_eq_getElem_cons (by rw [← Lib.size_eq]; exact hk)]; rfl)
  clear hR
  go_enter Tryz.func105, Tryz.ntmps105
  go_wp2
  go_loop [1] (fun i => ∃ k : Nat, i = .int .i64 k ∧ k ≤ s.size ∧ Hid (R = k + Lx.blk false (s.data.toList.drop k))) (fun i => s.size - (intOf i).toNat)
  case atStart => exact ⟨k0, rfl, hk0, HR⟩
  case round =>
    obtain ⟨k, rfl, hk, HI⟩ := hrel
    by_cases hlt : k < s.size
    · have hlt' : (k : Int) < (s.size : Int) := by omega
      have hd := HDR.out k hlt
      have HRK := Lib.hid (HRM.out k hk w)
      rw [hd] at HI HRK
      clear hd
      cases hb : Lx.isB s[k] with
      | true =>
        have HN := Lib.hid (show R = (k + 1) + Lx.blk false (s.data.toList.drop (k + 1)) by rw [HI.out, blk_b hb]; omega)
        have h4 : s[k].toNat = 9 ∨ s[k].toNat = 10 ∨ s[k].toNat = 13 ∨ s[k].toNat = 32 := of_decide_eq_true hb
        clear hb HRK
        rcases h4 with h | h | h | h
        all_goals
          have h' : (s[k].toNat : Int) = _ := congrArg Nat.cast h
          clear h
          go_wp2
          go_round
          case rel => exact ⟨k + 1, by go_num, hlt, HN⟩
          case measure => simp [intOf]; omega
      | false =>
        have h4 : ¬ (s[k].toNat = 9 ∨ s[k].toNat = 10 ∨ s[k].toNat = 13 ∨ s[k].toNat = 32) := of_decide_eq_false hb
        have n1 : ((s[k].toNat : Int) == 9) = false := beq_eq_false_iff_ne.2 (by omega)
        have n2 : ((s[k].toNat : Int) == 10) = false := beq_eq_false_iff_ne.2 (by omega)
        have n3 : ((s[k].toNat : Int) == 13) = false := beq_eq_false_iff_ne.2 (by omega)
        have n4 : ((s[k].toNat : Int) == 32) = false := beq_eq_false_iff_ne.2 (by omega)
        have HBF := Lib.hid hb
        clear h4 hb
        cases hr : rmk (s[k] :: s.data.toList.drop (k + 1)) with
        | true =>
          rw [hr] at HRK
          obtain ⟨hr1, hr2⟩ := blk_rem hr
          have HC := Lib.hid (show R = k + Lx.blk true (s.data.toList.drop k) by rw [HI.out, hr1, HDR.out k hlt])
          have H45 := Lib.hid hr2
          clear hr hr1 hr2
          go_wp2_with fail
          refine HRK.out.mono ?_
          rintro e w1 ⟨rfl, rfl⟩
          go_wp2
          clear n1 n2 n3 n4
          go_loop [1] (fun i => ∃ j : Nat, i = .int .i64 j ∧ k ≤ j ∧ j ≤ s.size ∧ Hid (R = j + Lx.blk true (s.data.toList.drop j))) (fun i => s.size - (intOf i).toNat)
          case atStart => exact ⟨k, rfl, Nat.le_refl _, hk, HC⟩
          case round =>
            obtain ⟨j, rfl, hkj, hj, HJ⟩ := hrel
            by_cases hjl : j < s.size
            · have hjl' : (j : Int) < (s.size : Int) := by omega
              have hdj := HDR.out j hjl
              rw [hdj] at HJ
              by_cases h10 : s[j].toNat = 10
              · have hjk : k < j := by
                  rcases Nat.lt_or_ge k j with h | h
                  · exact h
                  · exfalso
                    obtain rfl : k = j := by omega
                    have := H45.out
                    omega
                have HN := Lib.hid (show R = j + Lx.blk false (s.data.toList.drop j) by rw [HJ.out, blk_ten h10, hdj])
                have h10' : ((s[j].toNat : Int) != 10) = false := by simp [h10]
                have h102 : ((s[j].toNat : Int) == 10) = true := by simp [h10]
                clear hdj h10
                go_wp2
                go_round
                case rel => exact ⟨j, rfl, hj, HN⟩
                case measure => simp [intOf]; omega
              · have HN := Lib.hid (show R = (j + 1) + Lx.blk true (s.data.toList.drop (j + 1)) by rw [HJ.out, blk_on h10]; omega)
                have h102 : ((s[j].toNat : Int) == 10) = false := beq_eq_false_iff_ne.2 (by omega)
                have h10' : ((s[j].toNat : Int) != 10) = true := by simp [bne, h102]
                clear hdj h10
                go_wp2
                go_round
                case rel => exact ⟨j + 1, by go_num, by omega, hjl, HN⟩
                case measure => simp [intOf]; omega
            · obtain rfl : j = s.size := by omega
              have hjl' : ¬ ((s.size : Nat) : Int) < (s.size : Int) := by omega
              have HN := Lib.hid (show R = s.size + Lx.blk false (s.data.toList.drop s.size) by
                have h3 := HJ.out
                rw [List.drop_of_length_le (by rw [← HL.out]; exact Nat.le_refl _)] at h3 ⊢
                exact h3)
              clear hjl
              go_wp2
              go_round
              case rel => exact ⟨s.size, rfl, Nat.le_refl _, HN⟩
              case measure => simp [intOf]; omega
        | false =>
          rw [hr] at HRK
          have HE := Lib.hid (show R = k by rw [HI.out, blk_stop HBF.out hr]; rfl)
          clear hr
          go_wp2_with fail
          refine HRK.out.mono ?_
          rintro e w1 ⟨rfl, rfl⟩
          go_wp2
          go_ret
          exact ⟨by rw [HE.out]; rfl, rfl⟩
    · obtain rfl : k = s.size := by omega
      have hlt' : ¬ ((s.size : Nat) : Int) < (s.size : Int) := by omega
      have HE := Lib.hid (show R = s.size by
        have h3 := HI.out
        rw [List.drop_of_length_le (by rw [← HL.out]; exact Nat.le_refl _)] at h3
        exact h3)
      clear hlt
      go_wp2
      go_ret
      exact ⟨by rw [HE.out]; rfl, rfl⟩
end Go.Proofs.YtdcjpinbflmikaaGreatDoor
namespace Go.Proofs.YtdcjpinbflmikaaGreatDoor
open Go.RowKit
set_option maxHeartbeats 1000000 in
theorem is_any (s : ByteArray) (w : World) (hs : s.size ≤ maxLen) (h : Sg w) :
    Calls Tryz.prog 146 #[.string s] w fun e w' => e = .returned (.int .u8 (Lx.is s.data.toList)) ∧ Below w.heap.size w w' := by
  have HF := Lib.hid (first_any s w hs h)
  have HE := Lib.hid (Lx.is_fst s.data.toList)
  rw [← Lib.size_eq] at HE
  generalize Lx.is s.data.toList = R at *
  generalize Lx.fst s.data.toList = d at *
  obtain ⟨k, n⟩ := d
  simp only at HF HE
  clear h
  by_cases c : n < s.size
  · have c' : (n : Int) < (s.size : Int) := by omega
    have HR := Lib.hid (show R = 0 by rw [HE.out, if_pos c])
    clear c HE
    go_enter Tryz.func146, Tryz.ntmps146
    go_wp2_with fail
    refine HF.out.mono ?_
    rintro e w1 ⟨rfl, b⟩
    go_wp2
    go_ret
    exact ⟨by rw [HR.out]; rfl, b⟩
  · have c' : ¬ (n : Int) < (s.size : Int) := by omega
    have HR := Lib.hid (show R = k by rw [HE.out, if_neg c])
    clear c HE
    go_enter Tryz.func146, Tryz.ntmps146
    go_wp2_with fail
    refine HF.out.mono ?_
    rintro e w1 ⟨rfl, b⟩
    go_wp2
    go_ret
    exact ⟨by rw [HR.out]; rfl, b⟩
/-! ### blanks -/
namespace Lx
def nt (c : UInt8) : Bool := decide (c.toNat ≠ 10)
def dash (l : List UInt8) : Bool := Lib.hasPrefix l [45, 45]
def stop (l : List UInt8) : Nat := if dash l then blk true l else 0
theorem blk_run : ∀ l : List UInt8, blk false l = run isB l + stop (l.drop (run isB l))
  | [] => rfl
  | c :: r => by
    have ih := blk_run r
    cases hb : isB c with
    | true =>
      rw [blk_b hb]
      unfold run
      rw [if_pos hb, Nat.add_comm 1 (run isB r), List.drop_succ_cons]
      omega
    | false =>
      have hr : run isB (c :: r) = 0 := by unfold run; rw [if_neg (by rw [hb]; decide)]
      rw [hr, List.drop_zero, Nat.zero_add]
      unfold stop
      have hm : dash (c :: r) = rmk (c :: r) := by
        unfold dash rmk Lib.hasPrefix
        cases r with
        | nil => simp [List.isPrefixOf]
        | cons d r =>
          have e : ∀ x : UInt8, ((45 : UInt8) == x) = decide (x.toNat = 45) := fun x => by
            rw [Bool.eq_iff_iff, beq_iff_eq, decide_eq_true_iff]
            exact ⟨fun h => by rw [← h]; rfl, fun h => (UInt8.toNat_inj.1 h).symm⟩
          show ((45 == c) && ((45 == d) && List.isPrefixOf [] r)) = _
          rw [e, e, show List.isPrefixOf [] r = true from rfl, Bool.and_true]
      cases hk : rmk (c :: r) with
      | true => rw [hm, hk, if_pos rfl, (blk_rem hk).1]
      | false => rw [hm, hk, if_neg (by decide), blk_stop hb hk]
theorem blk_line : ∀ l : List UInt8, blk true l = run nt l + blk false (l.drop (run nt l))
  | [] => rfl
  | c :: r => by
    have ih := blk_line r
    by_cases h : c.toNat = 10
    · have hr : run nt (c :: r) = 0 := by unfold run; rw [if_neg (by unfold nt; simp [h])]
      rw [hr, blk_ten h, List.drop_zero, Nat.zero_add]
    · rw [blk_on h]
      unfold run
      rw [if_pos (by unfold nt; simp [h]), Nat.add_comm 1 (run nt r), List.drop_succ_cons]
      omega
theorem dash_one {l : List UInt8} (h : dash l = true) : 1 ≤ run nt l := by
  cases l with
  | nil => exact absurd h (by decide)
  | cons c r =>
    have hc : c = 45 := by
      unfold dash Lib.hasPrefix at h
      simp [List.isPrefixOf] at h
      exact h.1.symm
    subst hc
    unfold run
    rw [if_pos (by decide)]
    omega
end Lx
def spB : ByteArray := ⟨#[32, 9, 10, 13]⟩
theorem sp_mem (c : UInt8) : Lx.isB c = true ↔ c ∈ spB.data.toList := by
  have e : ∀ (x : UInt8), c = x ↔ c.toNat = x.toNat := fun x => ⟨fun h => by rw [h], fun h => UInt8.toNat_inj.1 h⟩
  show Lx.isB c = true ↔ c ∈ [32, 9, 10, 13]
  unfold Lx.isB
  rw [decide_eq_true_iff]
  simp only [List.mem_cons, List.not_mem_nil, or_false]
  rw [e, e, e, e]
  show _ ↔ c.toNat = 32 ∨ c.toNat = 9 ∨ c.toNat = 10 ∨ c.toNat = 13
  omega
theorem nt_iff (c : UInt8) : Lx.nt c = true ↔ c.toNat ≠ 10 := by unfold Lx.nt; rw [decide_eq_true_iff]
set_option maxHeartbeats 4000000 in
set_option maxRecDepth 100000 in
theorem blanks_any (s : ByteArray) (w : World) (hs : s.size ≤ 1000000000) :
    Calls Tryz.prog 108 #[.string s] w fun e w' => e = .returned (.int .i64 (Lx.blk false s.data.toList)) ∧ Below w.heap.size w w' := by
  have HL := Lib.hid (Lib.size_eq s)
  have HSP := Lib.hid (fun (b : Nat) (t : ByteArray) w0 (ht : t.size ≤ maxLen) (h0 : w0.cell? ⟨b, 0, none⟩ = some (.string spB)) => lead_among (I := fun w => w.cell? ⟨b, 0, none⟩ = some (.string spB)) (fun _ _ h b => cell_below b (Nat.le_refl _) h) #[.pointer (some ⟨b, 0, none⟩)] Lx.isB (among_fits b spB Lx.isB sp_mem) t w0 ht h0)
  have HLI := Lib.hid (fun (t : ByteArray) w0 (ht : t.size ≤ maxLen) => lead_line (I := fun _ => True) (fun _ _ _ _ => True.intro) #[] Lx.nt (line_fits _ Lx.nt nt_iff) t w0 ht True.intro)
  have HPX := Lib.hid (fun (t : ByteArray) w0 => show Calls Tryz.prog 170 #[.string t, .string ⟨#[45, 45]⟩] w0 fun e w' => e = .returned (.bool (Lx.dash t.data.toList)) ∧ w' = w0 from Tryz.strings_HasPrefix t ⟨#[45, 45]⟩ w0)
  have hsm : s.size ≤ maxLen := by unfold maxLen; omega
  obtain ⟨R, hR⟩ : ∃ R, R = Lx.blk false s.data.toList := ⟨_, rfl⟩
  rw [← hR]
  have HR := Lib.hid (hR.trans (Lx.blk_run _))
  have hr1 := Lx.run_le Lx.isB s.data.toList
  rw [← HL.out] at hr1
  obtain ⟨n0, hn0⟩ : ∃ n0, n0 = Lx.run Lx.isB s.data.toList := ⟨_, rfl⟩
  rw [← hn0] at HR hr1
  have HN0 := Lib.hid hn0
  clear hR hn0
  go_enter Tryz.func108, Tryz.ntmps108
  go_wp2_with fail
  refine (among_new spB w).mono ?_
  rintro e w1 ⟨b, rfl, hc, b1⟩
  have H1 := Lib.hid (And.intro b1 hc)
  clear hc b1
  go_wp2_with fail
  refine (HSP.out b s w1 hsm H1.out.2).mono ?_
  rintro e w2 ⟨rfl, b1⟩
  have H2 := Lib.hid (And.intro (H1.out.1.trans (b1.mono H1.out.1.size)) (cell_below b1 (Nat.le_refl _) H1.out.2))
  rw [← HN0.out]
  clear b1 H1
  go_wp2
  go_loopw [5] (fun i wr => ∃ n : Nat, i = .int .i64 n ∧ n ≤ s.size ∧ Hid (R = n + Lx.stop (s.data.toList.drop n)) ∧ Hid (Below w.heap.size w wr ∧ wr.cell? ⟨b, 0, none⟩ = some (.string spB))) (fun i _ => s.size - (intOf i).toNat)
  case atStart => exact ⟨n0, rfl, hr1, HR, H2⟩
  case round =>
    clear hr1 H2
    obtain ⟨n, rfl, hn, HI, HB⟩ := hrel
    have hn' : (n : Int) ≤ (s.size : Int) := by omega
    have hd : (s.extract n s.size).data.toList = s.data.toList.drop n := Lib.extract_to_end s n
    have HP := Lib.hid (HPX.out (s.extract n s.size) wr)
    have HLN := Lib.hid (fun w0 => HLI.out (s.extract n s.size) w0 (by rw [ByteArray.size_extract]; unfold maxLen; omega))
    rw [hd] at HP HLN
    cases hp : Lx.dash (s.data.toList.drop n) with
    | false =>
      rw [hp] at HP
      have HE := Lib.hid (show R = n by rw [HI.out]; unfold Lx.stop; rw [hp, if_neg (by decide)]; rfl)
      clear hp hd
      go_wp2_with fail
      refine HP.out.mono ?_
      rintro e w3 ⟨rfl, rfl⟩
      go_wp2
      go_ret
      exact ⟨ret_int (by rw [HE.out]), HB.out.1⟩
    | true =>
      rw [hp] at HP
      have h1 := Lx.dash_one hp
      have h2 := Lx.run_le Lx.nt (s.data.toList.drop n)
      rw [List.length_drop, ← HL.out] at h2
      have h3 : R = n + Lx.blk true (s.data.toList.drop n) := by rw [HI.out]; unfold Lx.stop; rw [hp, if_pos rfl]
      rw [Lx.blk_line] at h3
      obtain ⟨m, hm⟩ : ∃ m, m = Lx.run Lx.nt (s.data.toList.drop n) := ⟨_, rfl⟩
      rw [← hm] at h1 h2 h3 HLN
      rw [List.drop_drop, Lx.blk_run, List.drop_drop] at h3
      have hnm : n + m ≤ s.size := by omega
      have h4 := Lx.run_le Lx.isB (s.data.toList.drop (n + m))
      rw [List.length_drop, ← HL.out] at h4
      have hd2 : (s.extract (n + m) s.size).data.toList = s.data.toList.drop (n + m) := Lib.extract_to_end s (n + m)
      have HSX := Lib.hid (fun w0 h0 => HSP.out b (s.extract (n + m) s.size) w0 (by rw [ByteArray.size_extract]; unfold maxLen; omega) h0)
      rw [hd2] at HSX
      obtain ⟨q, hq⟩ : ∃ q, q = Lx.run Lx.isB (s.data.toList.drop (n + m)) := ⟨_, rfl⟩
      rw [← hq] at h3 h4 HSX
      have HE := Lib.hid (show R = (n + m + q : Nat) + Lx.stop (s.data.toList.drop (n + m + q)) by omega)
      have h5 : n + m + q ≤ s.size := by omega
      clear h3 hm hq hd hd2 hp
      have hnm' : (n : Int) + (m : Int) ≤ (s.size : Int) := by omega
      have hz : ((n : Int) + (m : Int)).toNat = n + m := by omega
      go_wp2_with fail
      refine HP.out.mono ?_
      rintro e w3 ⟨rfl, rfl⟩
      go_wp2_with fail
      refine (HLN.out _).mono ?_
      rintro e w4 ⟨rfl, b1⟩
      have H4 := Lib.hid (And.intro (HB.out.1.trans (b1.mono HB.out.1.size)) (cell_below b1 (Nat.le_refl _) HB.out.2))
      clear b1
      go_wp2_with fail
      refine (HSX.out _ H4.out.2).mono ?_
      rintro e w5 ⟨rfl, b1⟩
      have H5 := Lib.hid (And.intro (H4.out.1.trans (b1.mono H4.out.1.size)) (cell_below b1 (Nat.le_refl _) H4.out.2))
      clear b1 H4
      go_wp2
      go_roundw
      case rel => exact ⟨n + m + q, by go_num, h5, HE, H5⟩
      case measure => simp [intOf]; omega
end Go.Proofs.YtdcjpinbflmikaaGreatDoor
namespace Go.Proofs.YtdcjpinbflmikaaGreatDoor
open Go.RowKit
theorem lx_ext (s : ByteArray) (a k : Nat) : (s.extract a (a + k)).data.toList = (s.data.toList.drop a).take k := by
  rw [← Lib.toList_data, Lib.extract_toList, show a + k - a = k by omega]
theorem lngo_end {l : List UInt8} {f k n : Nat} (h : l.length < k) : Lx.lngo l f k n = n := by
  cases f with
  | zero => rfl
  | succ f => unfold Lx.lngo; rw [if_pos h]
theorem lngo_stop {l : List UInt8} {f k n : Nat} (h : 3 ≤ k) (h2 : n ≠ k - 1) : Lx.lngo l f k n = n := by
  cases f with
  | zero => rfl
  | succ f => unfold Lx.lngo; split; rfl; rw [if_pos ⟨h, h2⟩]
theorem lngo_on {l : List UInt8} {f k n : Nat} (h : k ≤ l.length) (h2 : k < 3 ∨ n = k - 1) : Lx.lngo l (f + 1) k n = Lx.lngo l f (k + 1) (if Lx.whole (l.take k) ≠ 0 then k else n) := by
  rw [Lx.lngo, if_neg (by omega), if_neg (by omega)]
theorem kind_bd (l : List UInt8) : 0 ≤ Lx.whole l ∧ Lx.whole l ≤ 4 := by
  unfold Lx.whole
  repeat' split
  all_goals omega
set_option maxHeartbeats 4000000 in
theorem longest_any (s : ByteArray) (a : Nat) (w : World) (hs : s.size ≤ 1000000000) (ha : a ≤ s.size) :
    Calls Tryz.prog 106 #[.string s, .int .i64 a] w fun e w' => e = .returned (.int .i64 ((Lx.lng (s.data.toList.drop a) : Nat) : Int)) ∧ Below w.heap.size w w' := by
  have HL := Lib.hid (show (s.data.toList.drop a).length = s.size - a by rw [List.length_drop, ← Lib.size_eq])
  have HX := Lib.hid (fun (k : Nat) (hk : a + k ≤ s.size) w0 => show Calls Tryz.prog 107 #[.string (s.extract a (a + k))] w0 fun e w' => e = .returned (.int .u8 (Lx.whole ((s.data.toList.drop a).take k))) ∧ Below w0.heap.size w0 w' by
    rw [← lx_ext]
    exact whole_any (s.extract a (a + k)) w0 (by rw [ByteArray.size_extract]; omega))
  obtain ⟨R, hR⟩ : ∃ R, R = Lx.lng (s.data.toList.drop a) := ⟨_, rfl⟩
  rw [← hR]
  have HR := Lib.hid (show R = Lx.lngo (s.data.toList.drop a) (s.size - a + 2 - 1) 1 0 by rw [hR]; unfold Lx.lng; rw [HL.out]; rfl)
  clear hR
  generalize s.data.toList.drop a = l at *
  go_enter Tryz.func106, Tryz.ntmps106
  go_wp2
  go_loopw [5, 6] (fun vn vk wr => ∃ (n k : Nat), vn = .int .i64 n ∧ vk = .int .i64 k ∧ 1 ≤ k ∧ n < k ∧ a + k ≤ s.size + 1 ∧ Below w.heap.size w wr ∧ Hid (R = Lx.lngo l (s.size - a + 2 - k) k n)) (fun _ vk _ => s.size + 1 - (intOf vk).toNat)
  case atStart => exact ⟨0, 1, rfl, rfl, Nat.le_refl _, Nat.zero_lt_one, by omega, Below.refl _ _, HR⟩
  case round =>
    obtain ⟨n, k, rfl, rfl, hk1, hnk, hka, hB, HI⟩ := hrel
    have HB := Lib.hid hB
    clear hB
    by_cases hlt : a + k ≤ s.size
    · have hlt' : (a : Int) + (k : Int) ≤ (s.size : Int) := by omega
      by_cases hgo : k < 3 ∨ n = k - 1
      · have HN := Lib.hid (show R = Lx.lngo l (s.size - a + 2 - (k + 1)) (k + 1) (if Lx.whole (l.take k) ≠ 0 then k else n) by
          rw [HI.out, show s.size - a + 2 - k = (s.size - a + 2 - (k + 1)) + 1 by omega, lngo_on (by rw [HL.out]; omega) hgo])
        have hbd := kind_bd (l.take k)
        have HW := Lib.hid (HX.out k hlt)
        generalize Lx.whole (l.take k) = z at *
        by_cases hz : z = 0
        · have HN2 := Lib.hid (show R = Lx.lngo l (s.size - a + 2 - (k + 1)) (k + 1) n by rw [HN.out, if_neg (by omega)])
          have hz' : (z != 0) = false := by simp [hz]
          clear hz HN
          by_cases h3 : k < 3
          · have h3' : (k : Int) < 3 := by omega
            clear hgo
            go_wp2_with fail
            refine (HW.out _).mono ?_
            rintro e w1 ⟨rfl, h1⟩
            have HB1 := Lib.hid (HB.out.trans (h1.mono HB.out.size))
            clear h1
            go_wp2
            go_round
            case rel => exact ⟨n, k + 1, rfl, by go_num, by omega, by omega, by omega, HB1.out, HN2⟩
            case measure => simp [intOf]; omega
          · have h3' : ¬ (k : Int) < 3 := by omega
            have hn' : ((n : Int) == (k : Int) - 1) = true := beq_iff_eq.2 (by omega)
            clear hgo
            go_wp2_with fail
            refine (HW.out _).mono ?_
            rintro e w1 ⟨rfl, h1⟩
            have HB1 := Lib.hid (HB.out.trans (h1.mono HB.out.size))
            clear h1
            go_wp2
            go_round
            case rel => exact ⟨n, k + 1, rfl, by go_num, by omega, by omega, by omega, HB1.out, HN2⟩
            case measure => simp [intOf]; omega
        · have HN2 := Lib.hid (show R = Lx.lngo l (s.size - a + 2 - (k + 1)) (k + 1) k by rw [HN.out, if_pos hz])
          have hz' : (z != 0) = true := by simp [hz]
          clear hz HN
          by_cases h3 : k < 3
          · have h3' : (k : Int) < 3 := by omega
            clear hgo
            go_wp2_with fail
            refine (HW.out _).mono ?_
            rintro e w1 ⟨rfl, h1⟩
            have HB1 := Lib.hid (HB.out.trans (h1.mono HB.out.size))
            clear h1
            go_wp2
            go_round
            case rel => exact ⟨k, k + 1, rfl, by go_num, by omega, by omega, by omega, HB1.out, HN2⟩
            case measure => simp [intOf]; omega
          · have h3' : ¬ (k : Int) < 3 := by omega
            have hn' : ((n : Int) == (k : Int) - 1) = true := beq_iff_eq.2 (by omega)
            clear hgo
            go_wp2_with fail
            refine (HW.out _).mono ?_
            rintro e w1 ⟨rfl, h1⟩
            have HB1 := Lib.hid (HB.out.trans (h1.mono HB.out.size))
            clear h1
            go_wp2
            go_round
            case rel => exact ⟨k, k + 1, rfl, by go_num, by omega, by omega, by omega, HB1.out, HN2⟩
            case measure => simp [intOf]; omega
      · have HE := Lib.hid (show R = n by rw [HI.out, lngo_stop (by omega) (by omega)])
        have h3' : ¬ (k : Int) < 3 := by omega
        have hn' : ((n : Int) == (k : Int) - 1) = false := beq_eq_false_iff_ne.2 (by omega)
        clear hgo
        go_wp2
        go_ret
        exact ⟨by rw [HE.out]; rfl, HB.out⟩
    · have HE := Lib.hid (show R = n by rw [HI.out, lngo_end (by rw [HL.out]; omega)])
      have hlt' : ¬ (a : Int) + (k : Int) ≤ (s.size : Int) := by omega
      clear hlt
      go_wp2
      go_ret
      exact ⟨by rw [HE.out]; rfl, HB.out⟩
end Go.Proofs.YtdcjpinbflmikaaGreatDoor
