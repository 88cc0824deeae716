/- hopscotchref01.Next, walked: the first character of a text, bytes of each length tried. Condition: the text is of a length that fits. -/
import Derived.Test.YthncfhakbobkkaaGreatDoorU8Num
import Derived.Test.YthncfhakbobkkaaGreatDoorU8Lead
import Derived.Deep.RegionWith
import Derived.Deep.DeepCutAuto
namespace Go.Proofs.YthncfhakbobkkaaGreatDoor
open Go.RowKit Go.PlainAid

theorem below_ofDrew {w w' : World} (h : Below w.drew.heap.size w.drew w') : Below w.heap.size w w' := (Below.refl w.heap.size w).drew.trans h
theorem nx_hit {l : List UInt8} {n : Nat} (h : U8.hit l n = true) : U8.nx l = (U8.num l n, n, 0) := by
  obtain ⟨h1, h2, _, h4⟩ := U8.hit_put h
  have := U8.nx_put h1 (l.drop n)
  rw [h2, ← h4] at this
  exact this
theorem nx_none {l : List UInt8} (hne : l ≠ []) (h : ∀ m, 1 ≤ m → m ≤ 4 → U8.hit l m = false) : U8.nx l = (0, 0, 10) := by
  unfold U8.nx
  rw [if_neg hne, h 1 (by omega) (by omega), h 2 (by omega) (by omega), h 3 (by omega) (by omega), h 4 (by omega) (by omega)]
  rfl
theorem hit_long {l : List UInt8} {n : Nat} (h : l.length < n) : U8.hit l n = false := by
  unfold U8.hit
  rw [decide_eq_false (by omega)]; rfl

set_option maxHeartbeats 2000000 in
set_option maxRecDepth 100000 in
theorem rnext_any (s : ByteArray) (w : World) (_hs : s.size ≤ maxLen) :
    Calls Tryz.prog 28 #[.string s] w fun e w' => e = .returned (.tuple #[.int .i64 (U8.nx s.data.toList).1, .int .i64 (U8.nx s.data.toList).2.1, .int .i64 (U8.nx s.data.toList).2.2]) ∧ Below w.heap.size w w' := by
  unfold maxLen at _hs
  have hlen := Lib.hid (Lib.size_eq s)
  by_cases h0 : s.data.toList = []
  · have hne : s.toList = [] := by rw [Lib.toList_data]; exact h0
    rw [h0, show U8.nx [] = (0, 0, 0) from rfl]
    go_enter Tryz.func28, Tryz.ntmps28
    go_wp2
    go_ret3
    exact ⟨rfl, Below.refl _ _⟩
  · have hne : s.toList.isEmpty = false := string_toList_ne h0
    go_enter Tryz.func28, Tryz.ntmps28
    go_wp2
    go_loopw [5] (fun v wr => ∃ n : Nat, v = .int .i64 n ∧ 1 ≤ n ∧ n ≤ 5 ∧ Below w.heap.size w wr ∧ Hid (∀ m, 1 ≤ m → m < n → U8.hit s.data.toList m = false)) (fun v _ => 5 - (intOf v).toNat)
    case atStart => exact ⟨1, rfl, Nat.le_refl _, by omega, Below.refl _ _, Lib.hid (fun m h1 h2 => by omega)⟩
    case round =>
      obtain ⟨n, rfl, hn1, hn5, hbw, HH⟩ := hrel
      by_cases hin : n ≤ 4 ∧ n ≤ s.size
      · obtain ⟨hn4, hns⟩ := hin
        have hn4' : (n : Int) ≤ 4 := by omega
        have hns' : (n : Int) ≤ (s.size : Int) := by omega
        have HN := Lib.hid (fun w0 => number_any s n w0 hn1 hn4 hns)
        have hbd := num_bd s.data.toList n
        obtain ⟨c, hc⟩ : ∃ c, c = U8.num s.data.toList n := ⟨_, rfl⟩
        rw [← hc] at HN hbd
        have HI := Lib.hid (fun w0 => is_any c w0 hbd.1 hbd.2)
        have HP := Lib.hid (fun w0 => rput_any c w0 hbd.1 hbd.2)
        have HC := Lib.hid hc
        cases hch : U8.isCh c with
        | false =>
          rw [hch] at HI
          have HX := Lib.hid (hit_false (l := s.data.toList) (n := n) (by rw [← hc]; exact hch))
          clear hc hch
          go_wp2_with fail
          refine (HN.out _).mono ?_
          rintro e w1 ⟨rfl, hw1⟩
          go_wp2_with fail
          go_quiet ((go_at_call 49; exact Calls.quiet_of_same ((HI.out _).mono fun _ _ h => ⟨h.1, h.2.symm⟩)))
          go_wp2
          go_roundw
          case rel =>
            refine ⟨n + 1, by go_num, by omega, by omega, below_drewN (hbw.trans (hw1.mono hbw.size)) _, Lib.hid (fun m h1 h2 => ?_)⟩
            by_cases hm : m < n
            · exact HH.out m h1 hm
            · obtain rfl : m = n := by omega
              exact HX.out
          case measure => simp [intOf]; omega
        | true =>
          rw [hch] at HI
          have HX := Lib.hid (hit_eq (l := s.data.toList) (n := n) (by have := hlen.out; omega) (by rw [← hc]; exact hch))
          rw [← hc] at HX
          have hx : (s.extract 0 n).toList = s.data.toList.take n := by rw [Lib.extract_toList]; rfl
          have hq : (U8.put c == (s.extract 0 n).toList) = U8.hit s.data.toList n := by rw [hx, HX.out]
          clear hx HX hch
          generalize hh : U8.hit s.data.toList n = hit at *
          have HB := Lib.hid hh
          clear hc hh
          go_wp2_with fail
          refine (HN.out _).mono ?_
          rintro e w1 ⟨rfl, hw1⟩
          go_wp2_with fail
          go_region_with (first | (go_at_call 49; refine (HI.out _).mono ?_; rintro e w2 ⟨rfl, rfl⟩) | (go_at_call 50; refine (HP.out _).mono ?_; rintro e w2 ⟨rfl, hw2⟩))
          cases hit with
          | true =>
            have hnx := nx_hit HB.out
            rw [← HC.out] at hnx
            have HF := Lib.hid hnx; clear hnx
            go_wp2
            go_ret3
            exact ⟨by rw [HF.out]; rfl, (hbw.trans (hw1.mono hbw.size)).trans ((below_ofDrew hw2).mono (by have := hw1.size; have := hbw.size; omega))⟩
          | false =>
            go_wp2
            refine ⟨⟨n + 1, by go_num, by omega, by omega, (hbw.trans (hw1.mono hbw.size)).trans ((below_ofDrew hw2).mono (by have := hw1.size; have := hbw.size; omega)), Lib.hid (fun m h1 h2 => ?_)⟩, by simp [intOf]; omega⟩
            by_cases hm : m < n
            · exact HH.out m h1 hm
            · obtain rfl : m = n := by omega
              exact HB.out
      · have hnx := nx_none h0 (fun m h1 h4 => by
          by_cases hm : m < n
          · exact HH.out m h1 hm
          · exact hit_long (by have := hlen.out; omega))
        have HF := Lib.hid hnx; clear hnx h0
        by_cases hn4 : n ≤ 4
        · have hn4' : (n : Int) ≤ 4 := by omega
          have hns' : ¬ (n : Int) ≤ (s.size : Int) := by omega
          clear hin
          go_wp2
          go_ret3
          exact ⟨by rw [HF.out]; rfl, hbw⟩
        · have hn4' : ¬ (n : Int) ≤ 4 := by omega
          clear hin
          go_wp2
          go_ret3
          exact ⟨by rw [HF.out]; rfl, hbw⟩

set_option maxHeartbeats 1000000 in
theorem rvalid_any (s : ByteArray) (w : World) (hs : s.size ≤ maxLen) :
    Calls Tryz.prog 16 #[.string s] w fun e w' => e = .returned (.tuple #[.int .i64 (vld s.data.toList).1, .int .i64 (vld s.data.toList).2]) ∧ Below w.heap.size w w' := by
  have hlen := Lib.hid (Lib.size_eq s)
  have hle := Lib.hid (U8.lead_le _ s.data.toList (Nat.le_refl _)).2
  have hsm := Lib.hid hs
  unfold maxLen at hs
  go_enter Tryz.func16, Tryz.ntmps16
  go_wp2
  go_loopw [4] (fun v wr => ∃ at_ : Nat, v = .int .i64 at_ ∧ at_ ≤ s.size ∧ Below w.heap.size w wr ∧ Hid ((U8.lead s.data.toList).2 = at_ + (U8.lead (s.data.toList.drop at_)).2)) (fun v _ => s.size - (intOf v).toNat)
  case atStart => exact ⟨0, rfl, Nat.zero_le _, Below.refl _ _, Lib.hid (by simp)⟩
  case round =>
    obtain ⟨p, rfl, hp, hbw, HS⟩ := hrel
    by_cases hlt : p < s.size
    · have hlt' : (p : Int) < (s.size : Int) := by omega
      have hne : s.data.toList.drop p ≠ [] := by intro e; have := congrArg List.length e; have := hlen.out; simp at *; omega
      have HN := Lib.hid (fun w0 => rnext_any (s.extract p s.size) w0 (by have := hsm.out; have h2 := Lib.size_eq (s.extract p s.size); rw [Lib.extract_to_end, List.length_drop, ← Lib.size_eq] at h2; unfold maxLen at this ⊢; omega))
      rw [Lib.extract_to_end] at HN
      by_cases hok : (U8.nx (s.data.toList.drop p)).2.2 = 0
      · have h1 := U8.nx_ok hne hok
        have h2 := Lib.hid (U8.lead_good hne hok)
        have hk : p + (U8.nx (s.data.toList.drop p)).2.1 ≤ s.size := by have := h1.2.2.2.1; have := hlen.out; simp at *; omega
        have hk1 := h1.2.2.1
        rw [hok] at HN
        clear h1 hok hne
        generalize U8.nx (s.data.toList.drop p) = d at *
        obtain ⟨c, k, z⟩ := d
        simp only at HN h2 hk hk1
        go_wp2_with fail
        refine (HN.out _).mono ?_
        rintro e w1 ⟨rfl, hw1⟩
        go_wp2
        go_roundw
        case rel => exact ⟨p + k, by go_num, hk, hbw.trans (hw1.mono hbw.size), Lib.hid (by rw [HS.out, h2.out, List.drop_drop]; simp only; omega)⟩
        case measure => simp [intOf]; omega
      · have hz : (U8.nx (s.data.toList.drop p)).2.2 = 10 := (U8.nx_err).resolve_left hok
        have hb := U8.lead_bad hok
        have hv : vld s.data.toList = ((p : Int), 10) := by
          have h3 := HS.out
          rw [hb] at h3
          unfold vld
          rw [if_pos (by have := hlen.out; omega), h3]; rfl
        have HV := Lib.hid hv
        rw [hz] at HN
        clear hz hb hv hok hne
        generalize U8.nx (s.data.toList.drop p) = d at *
        obtain ⟨c, k, z⟩ := d
        simp only at HN
        go_wp2_with fail
        refine (HN.out _).mono ?_
        rintro e w1 ⟨rfl, hw1⟩
        go_wp2
        go_ret2
        exact ⟨by rw [HV.out]; rfl, hbw.trans (hw1.mono hbw.size)⟩
    · have hlt' : ¬ (p : Int) < (s.size : Int) := by omega
      have hv : vld s.data.toList = (0, 0) := by
        unfold vld
        have h3 := HS.out
        rw [List.drop_of_length_le (by have := hlen.out; omega), U8.lead_nil] at h3
        rw [if_neg (by have := hlen.out; omega)]
      have HV := Lib.hid hv
      clear hv hlt
      go_wp2
      go_ret2
      exact ⟨by rw [HV.out]; rfl, hbw⟩

end Go.Proofs.YthncfhakbobkkaaGreatDoor
