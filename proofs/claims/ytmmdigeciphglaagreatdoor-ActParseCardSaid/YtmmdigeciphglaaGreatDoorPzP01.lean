/- Facts and walks for the statement. -/
import Derived.Test.YtmmdigeciphglaaGreatDoorPzB26
import Derived.Test.YtmmdigeciphglaaGreatDoorPzP00
import Derived.Lib.CutLaws
import Derived.OwnWalk
import Derived.Deep.RegionHeld3
import Derived.Deep.AppendLies
namespace Go.Proofs.YtmmdigeciphglaaGreatDoor
open Go.RowKit
theorem rmk_iff (l : List UInt8) (k : Nat) : rmk (l.drop k) = true ↔ ∃ (h : k + 1 < l.length), (l[k].toNat : Int) = 45 ∧ (l[k + 1].toNat : Int) = 45 := by
  by_cases h1 : k + 1 < l.length
  · rw [List.drop_eq_getElem_cons (by omega), List.drop_eq_getElem_cons h1]
    unfold rmk
    simp only [Bool.and_eq_true, decide_eq_true_eq]
    constructor
    · intro h; exact ⟨h1, by omega, by omega⟩
    · rintro ⟨_, h2, h3⟩; exact ⟨by omega, by omega⟩
  · constructor
    · intro h
      exfalso
      have hl : (l.drop k).length ≤ 1 := by rw [List.length_drop]; omega
      generalize l.drop k = m at *
      match m, hl with
      | [], _ => cases h
      | [a], _ => cases h
    · rintro ⟨h, _⟩; exact absurd h h1
set_option maxHeartbeats 1000000 in
theorem remark_any (s : ByteArray) (k : Nat) (w : World) (hs : s.size ≤ 1000000000) (hk : k ≤ s.size) :
    Calls Tryz.prog 89 #[.string s, .int .i64 k] w fun e w' => e = .returned (.bool (rmk (s.data.toList.drop k))) ∧ w = w' := by
  have HL := Lib.hid (Lib.size_eq s)
  have HI := Lib.hid (rmk_iff s.data.toList k)
  generalize rmk (s.data.toList.drop k) = R at *
  by_cases h1 : k + 1 < s.size
  · have h1' : (k : Int) + 1 < (s.size : Int) := by omega
    have hl1 : k + 1 < s.data.toList.length := by rw [← HL.out]; exact h1
    have hk0 : k < s.size := by omega
    have e0 : s.data.toList[k] = s[k] := rfl
    have e1 : s.data.toList[k + 1] = s[k + 1] := rfl
    have HI2 := Lib.hid (show R = true ↔ (s[k].toNat : Int) = 45 ∧ (s[k + 1].toNat : Int) = 45 by
      rw [HI.out]
      constructor
      · rintro ⟨_, h2, h3⟩; exact ⟨h2, h3⟩
      · rintro ⟨h2, h3⟩; exact ⟨hl1, h2, h3⟩)
    clear e0 e1 HI
    by_cases c0 : (s[k].toNat : Int) = 45
    · by_cases c1 : (s[k + 1].toNat : Int) = 45
      · have HE := Lib.hid (show R = true from HI2.out.2 ⟨c0, c1⟩)
        have c0' : ((s[k].toNat : Int) == 45) = true := beq_iff_eq.2 c0
        have c1' : ((s[k + 1].toNat : Int) == 45) = true := beq_iff_eq.2 c1
        clear c0 c1
        go_enter Tryz.func89, Tryz.ntmps89
        go_wp2
        go_ret
        exact ⟨by rw [HE.out]; rfl, rfl⟩
      · have HE := Lib.hid (show R = false by cases R with
          | false => rfl
          | true => exact absurd (HI2.out.1 rfl).2 c1)
        have c0' : ((s[k].toNat : Int) == 45) = true := beq_iff_eq.2 c0
        have c1' : ((s[k + 1].toNat : Int) == 45) = false := beq_eq_false_iff_ne.2 c1
        clear c0 c1
        go_enter Tryz.func89, Tryz.ntmps89
        go_wp2
        go_ret
        exact ⟨by rw [HE.out]; rfl, rfl⟩
    · have HE := Lib.hid (show R = false by cases R with
        | false => rfl
        | true => exact absurd (HI2.out.1 rfl).1 c0)
      have c0' : ((s[k].toNat : Int) == 45) = false := beq_eq_false_iff_ne.2 c0
      clear c0
      go_enter Tryz.func89, Tryz.ntmps89
      go_wp2
      go_ret
      exact ⟨by rw [HE.out]; rfl, rfl⟩
  · have h1' : ¬ (k : Int) + 1 < (s.size : Int) := by omega
    have HE := Lib.hid (show R = false by cases R with
      | false => rfl
      | true => exact absurd (HI.out.1 rfl).1 (by rw [← HL.out]; exact h1))
    clear h1
    go_enter Tryz.func89, Tryz.ntmps89
    go_wp2
    go_ret
    exact ⟨by rw [HE.out]; rfl, rfl⟩
set_option maxHeartbeats 4000000 in
theorem blank_any (s : ByteArray) (k0 : Nat) (w : World) (hs : s.size ≤ 1000000000) (hk0 : k0 ≤ s.size) :
    Calls Tryz.prog 61 #[.string s, .int .i64 k0] w fun e w' => e = .returned (.int .i64 ((k0 + Lx.blk false (s.data.toList.drop k0) : Nat) : Int)) ∧ w = w' := by
  have HL := Lib.hid (Lib.size_eq s)
  obtain ⟨R, hR⟩ : ∃ R, R = k0 + Lx.blk false (s.data.toList.drop k0) := ⟨_, rfl⟩
  rw [← hR]
  have HR := Lib.hid hR
  have HRM := Lib.hid (fun (k : Nat) (hk : k ≤ s.size) w0 => remark_any s k w0 hs hk)
  have HDR := Lib.hid (fun (k : Nat) (hk : k < s.size) => show s.data.toList.drop k = s[k] :: s.data.toList.drop (k + 1) by
    rw [List.drop_eq_getElem_cons (by rw [← Lib.size_eq]; exact hk)]; rfl)
  clear hR
  go_enter Tryz.func61, Tryz.ntmps61
  go_wp2
  go_loop [1] (fun i => ∃ k : Nat, i = .int .i64 k ∧ k ≤ s.size ∧ Hid (R = k + Lx.blk false (s.data.toList.drop k))) (fun i => s.size - (intOf i).toNat)
  case atStart => exact ⟨k0, rfl, hk0, HR⟩
  case round =>
    obtain ⟨k, rfl, hk, HI⟩ := hrel
    by_cases hlt : k < s.size
    · have hlt' : (k : Int) < (s.size : Int) := by omega
      have hd := HDR.out k hlt
      have HRK := Lib.hid (HRM.out k hk w)
      rw [hd] at HI HRK
      clear hd
      cases hb : Lx.isB s[k] with
      | true =>
        have HN := Lib.hid (show R = (k + 1) + Lx.blk false (s.data.toList.drop (k + 1)) by rw [HI.out, blk_b hb]; omega)
        have h4 : s[k].toNat = 9 ∨ s[k].toNat = 10 ∨ s[k].toNat = 13 ∨ s[k].toNat = 32 := of_decide_eq_true hb
        clear hb HRK
        rcases h4 with h | h | h | h
        all_goals
          have h' : (s[k].toNat : Int) = _ := congrArg Nat.cast h
          clear h
          go_wp2
          go_round
          case rel => exact ⟨k + 1, by go_num, hlt, HN⟩
          case measure => simp [intOf]; omega
      | false =>
        have h4 : ¬ (s[k].toNat = 9 ∨ s[k].toNat = 10 ∨ s[k].toNat = 13 ∨ s[k].toNat = 32) := of_decide_eq_false hb
        have n1 : ((s[k].toNat : Int) == 9) = false := beq_eq_false_iff_ne.2 (by omega)
        have n2 : ((s[k].toNat : Int) == 10) = false := beq_eq_false_iff_ne.2 (by omega)
        have n3 : ((s[k].toNat : Int) == 13) = false := beq_eq_false_iff_ne.2 (by omega)
        have n4 : ((s[k].toNat : Int) == 32) = false := beq_eq_false_iff_ne.2 (by omega)
        have HBF := Lib.hid hb
        clear h4 hb
        cases hr : rmk (s[k] :: s.data.toList.drop (k + 1)) with
        | true =>
          rw [hr] at HRK
          obtain ⟨hr1, hr2⟩ := blk_rem hr
          have HC := Lib.hid (show R = k + Lx.blk true (s.data.toList.drop k) by rw [HI.out, hr1, HDR.out k hlt])
          have H45 := Lib.hid hr2
          clear hr hr1 hr2
          go_wp2_with fail
          refine HRK.out.mono ?_
          rintro e w1 ⟨rfl, rfl⟩
          go_wp2
          clear n1 n2 n3 n4
          go_loop [1] (fun i => ∃ j : Nat, i = .int .i64 j ∧ k ≤ j ∧ j ≤ s.size ∧ Hid (R = j + Lx.blk true (s.data.toList.drop j))) (fun i => s.size - (intOf i).toNat)
          case atStart => exact ⟨k, rfl, Nat.le_refl _, hk, HC⟩
          case round =>
            obtain ⟨j, rfl, hkj, hj, HJ⟩ := hrel
            by_cases hjl : j < s.size
            · have hjl' : (j : Int) < (s.size : Int) := by omega
              have hdj := HDR.out j hjl
              rw [hdj] at HJ
              by_cases h10 : s[j].toNat = 10
              · have hjk : k < j := by
                  rcases Nat.lt_or_ge k j with h | h
                  · exact h
                  · exfalso
                    obtain rfl : k = j := by omega
                    have := H45.out
                    omega
                have HN := Lib.hid (show R = j + Lx.blk false (s.data.toList.drop j) by rw [HJ.out, blk_ten h10, hdj])
                have h10' : ((s[j].toNat : Int) != 10) = false := by simp [h10]
                have h102 : ((s[j].toNat : Int) == 10) = true := by simp [h10]
                clear hdj h10
                go_wp2
                go_round
                case rel => exact ⟨j, rfl, hj, HN⟩
                case measure => simp [intOf]; omega
              · have HN := Lib.hid (show R = (j + 1) + Lx.blk true (s.data.toList.drop (j + 1)) by rw [HJ.out, blk_on h10]; omega)
                have h102 : ((s[j].toNat : Int) == 10) = false := beq_eq_false_iff_ne.2 (by omega)
                have h10' : ((s[j].toNat : Int) != 10) = true := by simp [bne, h102]
                clear hdj h10
                go_wp2
                go_round
                case rel => exact ⟨j + 1, by go_num, by omega, hjl, HN⟩
                case measure => simp [intOf]; omega
            · obtain rfl : j = s.size := by omega
              have hjl' : ¬ ((s.size : Nat) : Int) < (s.size : Int) := by omega
              have HN := Lib.hid (show R = s.size + Lx.blk false (s.data.toList.drop s.size) by
                have h3 := HJ.out
                rw [List.drop_of_length_le (by rw [← HL.out]; exact Nat.le_refl _)] at h3 ⊢
                exact h3)
              clear hjl
              go_wp2
              go_round
              case rel => exact ⟨s.size, rfl, Nat.le_refl _, HN⟩
              case measure => simp [intOf]; omega
        | false =>
          rw [hr] at HRK
          have HE := Lib.hid (show R = k by rw [HI.out, blk_stop HBF.out hr]; rfl)
          clear hr
          go_wp2_with fail
          refine HRK.out.mono ?_
          rintro e w1 ⟨rfl, rfl⟩
          go_wp2
          go_ret
          exact ⟨by rw [HE.out]; rfl, rfl⟩
    · obtain rfl : k = s.size := by omega
      have hlt' : ¬ ((s.size : Nat) : Int) < (s.size : Int) := by omega
      have HE := Lib.hid (show R = s.size by
        have h3 := HI.out
        rw [List.drop_of_length_le (by rw [← HL.out]; exact Nat.le_refl _)] at h3
        exact h3)
      clear hlt
      go_wp2
      go_ret
      exact ⟨by rw [HE.out]; rfl, rfl⟩
end Go.Proofs.YtmmdigeciphglaaGreatDoor
namespace Go.Proofs.YtmmdigeciphglaaGreatDoor
open Go.RowKit
theorem lngo_end {l : List UInt8} {f k n : Nat} (h : l.length < k) : Lx.lngo l f k n = n := by
  cases f with
  | zero => rfl
  | succ f => unfold Lx.lngo; rw [if_pos h]
theorem lngo_stop {l : List UInt8} {f k n : Nat} (h : 3 ≤ k) (h2 : n ≠ k - 1) : Lx.lngo l f k n = n := by
  cases f with
  | zero => rfl
  | succ f => unfold Lx.lngo; split; rfl; rw [if_pos ⟨h, h2⟩]
theorem lngo_on {l : List UInt8} {f k n : Nat} (h : k ≤ l.length) (h2 : k < 3 ∨ n = k - 1) : Lx.lngo l (f + 1) k n = Lx.lngo l f (k + 1) (if Lx.whole (l.take k) ≠ 0 then k else n) := by
  rw [Lx.lngo, if_neg (by omega), if_neg (by omega)]
theorem kind_bd (l : List UInt8) : 0 ≤ Lx.whole l ∧ Lx.whole l ≤ 4 := by
  unfold Lx.whole
  repeat' split
  all_goals omega
set_option maxHeartbeats 4000000 in
theorem longest_any (s : ByteArray) (a : Nat) (w : World) (hs : s.size ≤ 1000000000) (ha : a ≤ s.size) :
    Calls Tryz.prog 62 #[.string s, .int .i64 a] w fun e w' => e = .returned (.int .i64 ((Lx.lng (s.data.toList.drop a) : Nat) : Int)) ∧ Below w.heap.size w w' := by
  have HL := Lib.hid (show (s.data.toList.drop a).length = s.size - a by rw [List.length_drop, ← Lib.size_eq])
  have HX := Lib.hid (fun (k : Nat) (hk : a + k ≤ s.size) w0 => show Calls Tryz.prog 63 #[.string (s.extract a (a + k))] w0 fun e w' => e = .returned (.int .u8 (Lx.whole ((s.data.toList.drop a).take k))) ∧ Below w0.heap.size w0 w' by
    rw [← lx_ext]
    exact whole_any (s.extract a (a + k)) w0 (by rw [ByteArray.size_extract]; omega))
  obtain ⟨R, hR⟩ : ∃ R, R = Lx.lng (s.data.toList.drop a) := ⟨_, rfl⟩
  rw [← hR]
  have HR := Lib.hid (show R = Lx.lngo (s.data.toList.drop a) (s.size - a + 2 - 1) 1 0 by rw [hR]; unfold Lx.lng; rw [HL.out]; rfl)
  clear hR
  generalize s.data.toList.drop a = l at *
  go_enter Tryz.func62, Tryz.ntmps62
  go_wp2
  go_loopw [5, 6] (fun vn vk wr => ∃ (n k : Nat), vn = .int .i64 n ∧ vk = .int .i64 k ∧ 1 ≤ k ∧ n < k ∧ a + k ≤ s.size + 1 ∧ Below w.heap.size w wr ∧ Hid (R = Lx.lngo l (s.size - a + 2 - k) k n)) (fun _ vk _ => s.size + 1 - (intOf vk).toNat)
  case atStart => exact ⟨0, 1, rfl, rfl, Nat.le_refl _, Nat.zero_lt_one, by omega, Below.refl _ _, HR⟩
  case round =>
    obtain ⟨n, k, rfl, rfl, hk1, hnk, hka, hB, HI⟩ := hrel
    have HB := Lib.hid hB
    clear hB
    by_cases hlt : a + k ≤ s.size
    · have hlt' : (a : Int) + (k : Int) ≤ (s.size : Int) := by omega
      by_cases hgo : k < 3 ∨ n = k - 1
      · have HN := Lib.hid (show R = Lx.lngo l (s.size - a + 2 - (k + 1)) (k + 1) (if Lx.whole (l.take k) ≠ 0 then k else n) by
          rw [HI.out, show s.size - a + 2 - k = (s.size - a + 2 - (k + 1)) + 1 by omega, lngo_on (by rw [HL.out]; omega) hgo])
        have hbd := kind_bd (l.take k)
        have HW := Lib.hid (HX.out k hlt)
        generalize Lx.whole (l.take k) = z at *
        by_cases hz : z = 0
        · have HN2 := Lib.hid (show R = Lx.lngo l (s.size - a + 2 - (k + 1)) (k + 1) n by rw [HN.out, if_neg (by omega)])
          have hz' : (z != 0) = false := by simp [hz]
          clear hz HN
          by_cases h3 : k < 3
          · have h3' : (k : Int) < 3 := by omega
            clear hgo
            go_wp2_with fail
            refine (HW.out _).mono ?_
            rintro e w1 ⟨rfl, h1⟩
            have HB1 := Lib.hid (HB.out.trans (h1.mono HB.out.size))
            clear h1
            go_wp2
            go_round
            case rel => exact ⟨n, k + 1, rfl, by go_num, by omega, by omega, by omega, HB1.out, HN2⟩
            case measure => simp [intOf]; omega
          · have h3' : ¬ (k : Int) < 3 := by omega
            have hn' : ((n : Int) == (k : Int) - 1) = true := beq_iff_eq.2 (by omega)
            clear hgo
            go_wp2_with fail
            refine (HW.out _).mono ?_
            rintro e w1 ⟨rfl, h1⟩
            have HB1 := Lib.hid (HB.out.trans (h1.mono HB.out.size))
            clear h1
            go_wp2
            go_round
            case rel => exact ⟨n, k + 1, rfl, by go_num, by omega, by omega, by omega, HB1.out, HN2⟩
            case measure => simp [intOf]; omega
        · have HN2 := Lib.hid (show R = Lx.lngo l (s.size - a + 2 - (k + 1)) (k + 1) k by rw [HN.out, if_pos hz])
          have hz' : (z != 0) = true := by simp [hz]
          clear hz HN
          by_cases h3 : k < 3
          · have h3' : (k : Int) < 3 := by omega
            clear hgo
            go_wp2_with fail
            refine (HW.out _).mono ?_
            rintro e w1 ⟨rfl, h1⟩
            have HB1 := Lib.hid (HB.out.trans (h1.mono HB.out.size))
            clear h1
            go_wp2
            go_round
            case rel => exact ⟨k, k + 1, rfl, by go_num, by omega, by omega, by omega, HB1.out, HN2⟩
            case measure => simp [intOf]; omega
          · have h3' : ¬ (k : Int) < 3 := by omega
            have hn' : ((n : Int) == (k : Int) - 1) = true := beq_iff_eq.2 (by omega)
            clear hgo
            go_wp2_with fail
            refine (HW.out _).mono ?_
            rintro e w1 ⟨rfl, h1⟩
            have HB1 := Lib.hid (HB.out.trans (h1.mono HB.out.size))
            clear h1
            go_wp2
            go_round
            case rel => exact ⟨k, k + 1, rfl, by go_num, by omega, by omega, by omega, HB1.out, HN2⟩
            case measure => simp [intOf]; omega
      · have HE := Lib.hid (show R = n by rw [HI.out, lngo_stop (by omega) (by omega)])
        have h3' : ¬ (k : Int) < 3 := by omega
        have hn' : ((n : Int) == (k : Int) - 1) = false := beq_eq_false_iff_ne.2 (by omega)
        clear hgo
        go_wp2
        go_ret
        exact ⟨by rw [HE.out]; rfl, HB.out⟩
    · have HE := Lib.hid (show R = n by rw [HI.out, lngo_end (by rw [HL.out]; omega)])
      have hlt' : ¬ (a : Int) + (k : Int) ≤ (s.size : Int) := by omega
      clear hlt
      go_wp2
      go_ret
      exact ⟨by rw [HE.out]; rfl, HB.out⟩
end Go.Proofs.YtmmdigeciphglaaGreatDoor
namespace Go.Proofs.YtmmdigeciphglaaGreatDoor
open Go.RowKit
theorem infoLT : (Tryz.prog.info? 88).map (fun i => (i.zero, i.size, i.bytes)) = some (some (.agg #[.int .u8 0, .string ⟨#[]⟩, .int .i64 0]), 3, 32) := by kernel_rfl
structure LtI (s : ByteArray) (w : World) (R : List Lx.T × Nat × Int) (v : Value) (wr : World) (p : Nat) (ts : List Lx.T) : Prop where
  hp : p ≤ s.size
  hl : ts.length ≤ p
  below : Below w.heap.size w wr
  own : wr.ownsRow w.heap.size 88 3 v ts.length (ts.flatMap tkV)
  eq : ∃ f, s.size - p < f ∧ R = jn ts (Lx.cut f (s.data.toList.drop p) p)
def LtP (R : List Lx.T × Nat × Int) (w : World) (e : Ending) (w' : World) : Prop :=
  ∃ v, w'.ownsRow w.heap.size 88 3 v R.1.length (R.1.flatMap tkV) ∧ e = .returned (.tuple #[v, .int .i64 R.2.1, .int .i64 R.2.2]) ∧ Below w.heap.size w w'
set_option maxHeartbeats 8000000 in
set_option maxRecDepth 100000 in
theorem rtoks_any (s : ByteArray) (w : World) :
    Calls Tryz.prog 37 #[.string s] w (LtP (Lx.toks s.data.toList) w) := by
  have HL := Lib.hid (Lib.size_eq s)
  obtain ⟨R, hR⟩ : ∃ R, R = Lx.toks s.data.toList := ⟨_, rfl⟩
  rw [← hR]
  by_cases hbig : 65536 < s.size
  · have hbig' : (s.size : Int) > 65536 := by omega
    have HE := Lib.hid (show R = ([], 0, 3) by rw [hR]; unfold Lx.toks; rw [if_pos (by rw [← HL.out]; exact hbig)])
    have HB1 := Lib.hid (Below.refl w.heap.size w)
    clear hR hbig
    go_enter Tryz.func37, Tryz.ntmps37
    go_wp2
    go_ret3
    exact ⟨.slice none 0 0, by rw [HE.out]; exact World.ownsRow_nil _ _ _ _, by rw [HE.out]; rfl, HB1.out⟩
  · have hbig' : ¬ (s.size : Int) > 65536 := by omega
    have hsm : s.size ≤ 65536 := by omega
    have hs : s.size ≤ 1000000000 := by omega
    have HB0 := Lib.hid (show Calls Tryz.prog 61 #[.string s, .int .i64 0] w fun e w' => e = .returned (.int .i64 ((Lx.blk false s.data.toList : Nat) : Int)) ∧ w = w' by
      have h3 := blank_any s 0 w hs (Nat.zero_le _)
      rw [List.drop_zero, Nat.zero_add] at h3
      exact h3)
    obtain ⟨b0, hb0⟩ : ∃ b, b = Lx.blk false s.data.toList := ⟨_, rfl⟩
    have hb0l := Lx.blk_le false s.data.toList
    have H0 := Lib.hid (show LtI s w R (.slice none 0 0) w b0 [] from ⟨by rw [hb0, HL.out]; exact hb0l, Nat.zero_le _, Below.refl _ _, World.ownsRow_nil _ _ _ _, s.size + 1, by omega, by
      rw [hR, hb0]
      unfold Lx.toks
      rw [if_neg (by rw [← HL.out]; exact hbig), HL.out]
      exact cut_form _ _ _⟩)
    rw [← hb0] at HB0
    have HBL := Lib.hid (fun (k : Nat) (hk : k ≤ s.size) w0 => blank_any s k w0 hs hk)
    have HLG := Lib.hid (fun (k : Nat) (hk : k ≤ s.size) w0 => longest_any s k w0 hs hk)
    have HWH := Lib.hid (fun (a k : Nat) w0 => whole_any (s.extract a (a + k)) w0 (by rw [ByteArray.size_extract]; omega))
    clear hR hb0 hb0l hbig
    go_enter Tryz.func37, Tryz.ntmps37
    go_wp2_with fail
    refine HB0.out.mono ?_
    rintro e w1 ⟨rfl, rfl⟩
    go_wp2
    go_loopw [5, 6] (fun v0 i wr => ∃ (v : Value) (p : Nat) (ts : List Lx.T), v = v0 ∧ i = .int .i64 p ∧ Hid (LtI s w R v wr p ts)) (fun _ i _ => s.size - (intOf i).toNat)
    case atStart => exact ⟨_, b0, [], rfl, rfl, H0⟩
    case round =>
      obtain ⟨v, p, ts, hv0, rfl, HI⟩ := hrel
      subst hv0
      have hp := HI.out.hp
      by_cases hlt : p < s.size
      · have hlt' : (p : Int) < (s.size : Int) := by omega
        have HG := Lib.hid (HLG.out p hp)
        have HWN := Lib.hid (fun k => HWH.out p k)
        obtain ⟨L, hL⟩ : ∃ L, L = s.data.toList.drop p := ⟨_, rfl⟩
        have hLl : L.length = s.size - p := by rw [hL, List.length_drop, ← HL.out]
        have hne : L ≠ [] := by intro e; rw [e] at hLl; simp at hLl; omega
        obtain ⟨n, hn⟩ : ∃ n, n = Lx.lng L := ⟨_, rfl⟩
        have hnl := Lx.lng_le L
        rw [← hL, ← hn] at HG
        rw [← hn] at hnl
        have HF := HI.out.eq
        rw [← hL] at HF
        have HEQ := Lib.hid HF
        have hsz : w.heap.size ≤ w.heap.size := Nat.le_refl _
        clear HF
        by_cases h0 : n = 0
        · have HE := Lib.hid (show R = ([], p, 70) by
            obtain ⟨f, hf, he⟩ := HEQ.out
            rw [he, cut_bad (by omega) hne (by rw [← hn]; exact Or.inl h0)])
          subst h0
          clear hn hnl hL hLl hne
          go_wp2_with fail
          refine (HG.out _).mono ?_
          rintro e w1 ⟨rfl, h1⟩
          have HB1 := Lib.hid (HI.out.below.trans (h1.mono HI.out.below.size))
          clear h1
          go_wp2
          go_ret3
          exact ⟨.slice none 0 0, by rw [HE.out]; exact World.ownsRow_nil _ _ _ _, by rw [HE.out]; rfl, HB1.out⟩
        · have hn0 : ((n : Int) == 0) = false := beq_eq_false_iff_ne.2 (by omega)
          by_cases h64 : 64 < n
          · have h64' : (n : Int) > 64 := by omega
            have HE := Lib.hid (show R = ([], p, 70) by
              obtain ⟨f, hf, he⟩ := HEQ.out
              rw [he, cut_bad (by omega) hne (by rw [← hn]; exact Or.inr h64)])
            clear hn hnl hL hLl hne h0
            go_wp2_with fail
            refine (HG.out _).mono ?_
            rintro e w1 ⟨rfl, h1⟩
            have HB1 := Lib.hid (HI.out.below.trans (h1.mono HI.out.below.size))
            clear h1
            go_wp2
            go_ret3
            exact ⟨.slice none 0 0, by rw [HE.out]; exact World.ownsRow_nil _ _ _ _, by rw [HE.out]; rfl, HB1.out⟩
          · have h64' : ¬ (n : Int) > 64 := by omega
            obtain ⟨b, hb⟩ : ∃ b, b = Lx.blk false (L.drop n) := ⟨_, rfl⟩
            have hdd : L.drop n = s.data.toList.drop (p + n) := by rw [hL, List.drop_drop]
            have hpn : p + n ≤ s.size := by omega
            have hbl := Lx.blk_le false (L.drop n)
            rw [← hb, List.length_drop] at hbl
            have HBK := Lib.hid (fun w0 => show Calls Tryz.prog 61 #[.string s, .int .i64 ((p : Int) + (n : Int))] w0 fun e w' => e = .returned (.int .i64 ((p + n + b : Nat) : Int)) ∧ w0 = w' by
              have h3 := HBL.out (p + n) hpn w0
              rw [← hdd, ← hb] at h3
              rw [← Int.natCast_add]
              exact h3)
            have HWK := Lib.hid (HWN.out n)
            rw [lx_ext, ← hL] at HWK
            have HX := Lib.hid (show (⟨(L.take n).toArray⟩ : ByteArray) = s.extract p (p + n) by rw [hL]; exact lx_mk s p n)
            have HNX := Lib.hid (show ∃ f, s.size - (p + n + b) < f ∧ R = jn (ts ++ [⟨Lx.whole (L.take n), L.take n, p⟩]) (Lx.cut f (s.data.toList.drop (p + n + b)) (p + n + b)) by
              obtain ⟨f, hf, he⟩ := HEQ.out
              obtain ⟨f, rfl⟩ : ∃ f', f = f' + 1 := ⟨f - 1, by omega⟩
              refine ⟨f, by omega, ?_⟩
              rw [he, cut_good hne (by rw [← hn]; omega), ← hn, ← hb, show L.drop (n + b) = s.data.toList.drop (p + n + b) by rw [hL, List.drop_drop, Nat.add_assoc]])
            have hpb : p + n + b ≤ s.size := by omega
            generalize Lx.whole (L.take n) = K at *
            generalize L.take n = X at *
            have HN0 := Lib.hid (show 0 < n by omega)
            have hll := HI.out.hl
            have hmax : ts.length + 1 ≤ maxLen := by unfold maxLen; omega
            obtain ⟨i0, hi, hz0, hz1, hz2⟩ := info_parts infoLT
            have b1 : IntKind.i64.wrap ((p : Int) + (n : Int)) = (p : Int) + (n : Int) := IntWalk.i64_in _ (by omega)
            have a0 : (p : Int) + (n : Int) ≤ (s.size : Int) := by omega
            have a1 : (0 : Int) ≤ (p : Int) + (n : Int) := by omega
            have a2 : (p : Int) ≤ (p : Int) + (n : Int) := by omega
            have a3 : ((p : Int) + (n : Int)).toNat = p + n := by omega
            clear hb hdd hbl hn hnl hL hLl hne h0 h64 HEQ
            go_wp2_with fail
            refine (HG.out _).mono ?_
            rintro e w1 ⟨rfl, h1⟩
            have HB1 := Lib.hid (HI.out.below.trans (h1.mono HI.out.below.size))
            have HO1 := Lib.hid (own_below HI.out.own h1)
            clear h1
            go_wp2_with fail
            have hbw := Lib.hid (show ∀ k, v.ownBlock = some k → w.heap.size ≤ k from fun k hk => (HI.out.own.lt k hk).1)
            go_region_held3 (fun _ => True) (exact True.intro) (first | (go_at_call 63; refine (HWK.out _).mono ?_; rintro e w2 ⟨rfl, h2⟩; have h3 := (Below.refl w1.heap.size w1).drew.trans h2; have HB2 := Lib.hid (HB1.out.trans (h3.mono HB1.out.size)); have HO2 := Lib.hid (own_below HO1.out h3); have hsz2 := HB2.out.size; clear h2 h3) | (refine step_append_lies _ (by rfl) _ _ _ (by rfl) w.heap.size 88 i0 _ 3 32 Tryz.underlying84 hi hz0 hz1 hz2 rfl (by omega) v ts.length (ts.flatMap tkV) (by rfl) (by exact World.ownsRow.alloc HO2.out _) _ 1 _ [.int .u8 K, .string (s.extract p (p + n)), .int .i64 (p : Int)] (by rfl) rfl (by intro j u hu; exact news_at _ _ _ _ (by simp) j u hu) (by intro u hu; simp at hu; rcases hu with rfl | rfl | rfl <;> rfl) (by omega) hmax (by omega) (by simp; omega) _ rfl ?_; intro g9 cap9 w9 hown9 hgr9 hat9 hlt9; have HR9 := Lib.hid (And.intro hown9 (show Below w.heap.size w w9 from Below.grown (HB2.out.alloc hsz2 _) hgr9 (by simp; omega) hbw.out)); clear hown9 hgr9 hat9))
            have HJ := Lib.hid (show LtI s w R (.slice (some ⟨g9, 0, none⟩) (ts.length + 1) cap9) w9 (p + n + b) (ts ++ [⟨K, X, p⟩]) from ⟨hpb, by rw [List.length_append]; have := HN0.out; simp; omega, HR9.out.2, by
              rw [List.flatMap_append, List.length_append]
              have h4 := HR9.out.1
              rw [← HX.out] at h4
              exact h4, HNX.out⟩)
            clear HR9 HO2 HB2 HO1 HB1 hll hmax hi hz0 hz1 hz2
            go_wp2_with fail
            refine (HBK.out _).mono ?_
            rintro e w5 ⟨rfl, rfl⟩
            go_wp2
            refine ⟨⟨_, p + n + b, _, rfl, by go_num, HJ⟩, ?_⟩
            have := HN0.out
            simp [intOf]
            omega
      · obtain rfl : p = s.size := by omega
        have hlt' : ¬ ((s.size : Nat) : Int) < (s.size : Int) := by omega
        have HE := Lib.hid (show R = (ts, 0, 0) by
          obtain ⟨f, hf, he⟩ := HI.out.eq
          rw [List.drop_of_length_le (by rw [← HL.out]; exact Nat.le_refl _)] at he
          rw [he, cut_none (by omega)])
        clear hlt
        go_wp2
        go_ret3
        exact ⟨v, by rw [HE.out]; exact HI.out.own, by rw [HE.out]; rfl, HI.out.below⟩
end Go.Proofs.YtmmdigeciphglaaGreatDoor
