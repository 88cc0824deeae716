/- name.Split, Is and Begin, walked: what the plain facts tell. Condition: a text's length fits. -/
import Derived.Test.YtgccffhnblhopaaNmParts
namespace Go.Proofs.Ytgccffhnblhopaa
open Go.RowKit

theorem str_cell (w : World) (vs : Array Value) (t : TypeId) (j : Nat) {v : Value} (h : vs[j]? = some v) : (w.alloc (.cells vs t)).cell? ⟨w.heap.size, j, none⟩ = some v :=
  (World.cell?_alloc_mark w vs t (0, 0) j).trans h
theorem colon_lt {l : List UInt8} {j : Nat} (h : Lib.indexByte l 58 = j) : j + 1 ≤ l.length := by
  have h1 := (Lib.indexByte_some h).1
  rcases Nat.lt_or_ge j l.length with h | h
  · exact h
  · rw [List.getElem?_eq_none h] at h1; cases h1

set_option maxHeartbeats 1000000 in
set_option maxRecDepth 100000 in
theorem split_any (s : ByteArray) (w : World) (hs : s.size ≤ maxLen) :
    Calls Try.prog 8 #[.string s] w fun e w' => e = .returned (.tuple #[.string ⟨(Nm.split s.data.toList).1.toArray⟩, .string ⟨(Nm.split s.data.toList).2.1.toArray⟩, .bool (Nm.split s.data.toList).2.2]) ∧ Below w.heap.size w w' := by
  have HP := Lib.hid (plain_any s w hs)
  have hlen : s.data.toList.length = s.size := (Lib.size_eq s).symm
  cases hp : Nm.plain s.data.toList with
  | true =>
    rw [Nm.split_plain hp]
    simp only
    rw [mk_data]
    rw [hp] at HP
    clear hp hlen
    go_enter Try.func8, Try.ntmps8
    go_wp2_with fail
    refine HP.out.mono ?_
    rintro e w1 ⟨rfl, rfl⟩
    go_wp2
    go_ret3
    exact ⟨rfl, Below.refl _ _⟩
  | false =>
    rw [hp] at HP
    have hge := Lib.indexByte_ge s.data.toList 58
    -- what is cut, in either way
    obtain ⟨p, q, b, HC, hpq, hps, hqs⟩ : ∃ p q b, RowKit.Hid (Calls Try.prog 16 #[.string s, .string ⟨#[58]⟩] w fun e w' => e = .returned (.tuple #[.string p, .string q, .bool b]) ∧ Below w.heap.size w w') ∧
        (Lib.cut s.data.toList [58]).1 = p.data.toList ∧ p.size ≤ s.size ∧ (q.size ≤ s.size ∧ (Lib.cut s.data.toList [58]).2.1 = q.data.toList) := by
      by_cases hi : Lib.indexByte s.data.toList 58 = -1
      · refine ⟨s, ⟨#[]⟩, false, Lib.hid ((cut_miss s w hi).mono fun e w' h => ⟨h.1, h.2 ▸ Below.refl _ _⟩), ?_, Nat.le_refl _, Nat.zero_le _, ?_⟩
        · rw [Nm.cut_none hi]
        · rw [Nm.cut_none hi]
      · obtain ⟨j, hj⟩ : ∃ j : Nat, Lib.indexByte s.data.toList 58 = j := ⟨(Lib.indexByte s.data.toList 58).toNat, by omega⟩
        have hjl := colon_lt hj
        refine ⟨s.extract 0 j, s.extract (j + 1) s.size, true, Lib.hid (cut_hit s w j hj (by omega) hs), ?_, extract_size _ _ _, extract_size _ _ _, ?_⟩
        · rw [Nm.cut_some hj, take_data]
        · rw [Nm.cut_some hj, drop_data]
    have hsp : Nm.split s.data.toList = if 64 < s.size then ([], [], false) else if Nm.plain p.data.toList && Nm.plain q.data.toList then (p.data.toList, q.data.toList, true) else ([], [], false) := by
      unfold Nm.split
      rw [hp, hpq, hqs.2, hlen]; rfl
    have HA := Lib.hid (fun w0 : World => allPlain_two p q w0.heap.size 2 (w0.alloc (.cells #[.string p, .string q] 9)) (Nat.le_trans hps hs) (Nat.le_trans hqs.1 hs) (str_cell _ _ _ 0 rfl) (str_cell _ _ _ 1 rfl))
    unfold maxLen at hs
    rw [hsp]
    clear hsp hpq hqs hps hp hge
    by_cases h64 : 64 < s.size
    · have h64' : (64 : Int) < (s.size : Int) := by omega
      rw [if_pos h64]
      clear HA
      go_enter Try.func8, Try.ntmps8
      go_wp2_with fail
      refine HP.out.mono ?_
      rintro e w1 ⟨rfl, rfl⟩
      go_wp2_with fail
      refine HC.out.mono ?_
      rintro e w2 ⟨rfl, hb⟩
      go_wp2
      go_ret3
      exact ⟨rfl, hb⟩
    · have h64' : ¬ (64 : Int) < (s.size : Int) := by omega
      rw [if_neg h64]
      cases hx : (Nm.plain p.data.toList && Nm.plain q.data.toList) with
      | true =>
        rw [hx] at HA
        simp only [if_true]
        rw [mk_data, mk_data]
        clear hx
        go_enter Try.func8, Try.ntmps8
        go_wp2_with fail
        refine HP.out.mono ?_
        rintro e w1 ⟨rfl, rfl⟩
        go_wp2_with fail
        refine HC.out.mono ?_
        rintro e w2 ⟨rfl, hb⟩
        go_wp2_with fail
        refine (HA.out w2).mono ?_
        rintro e w3 ⟨rfl, rfl⟩
        have hb2 := hb.trans (((Below.refl w2.heap.size w2).alloc (Nat.le_refl _) (.cells #[.string p, .string q] 9)).mono hb.size)
        clear hb
        go_wp2
        go_ret3
        exact ⟨rfl, hb2⟩
      | false =>
        rw [hx] at HA
        simp only [Bool.false_eq_true, if_false]
        clear hx
        go_enter Try.func8, Try.ntmps8
        go_wp2_with fail
        refine HP.out.mono ?_
        rintro e w1 ⟨rfl, rfl⟩
        go_wp2_with fail
        refine HC.out.mono ?_
        rintro e w2 ⟨rfl, hb⟩
        go_wp2_with fail
        refine (HA.out w2).mono ?_
        rintro e w3 ⟨rfl, rfl⟩
        have hb2 := hb.trans (((Below.refl w2.heap.size w2).alloc (Nat.le_refl _) (.cells #[.string p, .string q] 9)).mono hb.size)
        clear hb
        go_wp2
        go_ret3
        exact ⟨rfl, hb2⟩

set_option maxHeartbeats 1000000 in
theorem is_any (s : ByteArray) (w : World) (hs : s.size ≤ maxLen) :
    Calls Try.prog 10 #[.string s] w fun e w' => e = .returned (.bool (Nm.isn s.data.toList)) ∧ Below w.heap.size w w' := by
  have HS := Lib.hid (split_any s w hs)
  unfold Nm.isn
  generalize Nm.split s.data.toList = d at *
  obtain ⟨p, q, b⟩ := d
  simp only at HS ⊢
  go_enter Try.func10, Try.ntmps10
  go_wp2_with fail
  refine HS.out.mono ?_
  rintro e w1 ⟨rfl, hb⟩
  go_wp2
  go_ret
  exact ⟨rfl, hb⟩

set_option maxHeartbeats 1000000 in
theorem begin_any (s : ByteArray) (w : World) (hs : s.size ≤ maxLen) :
    Calls Try.prog 13 #[.string s] w fun e w' => e = .returned (.int .i64 (Nm.bg s.data.toList)) ∧ w = w' := by
  have hlen : s.data.toList.length = s.size := (Lib.size_eq s).symm
  obtain ⟨N, hN⟩ : ∃ N : Nat, N = min s.size 64 := ⟨_, rfl⟩
  obtain ⟨x, hx⟩ : ∃ x, x = s.extract 0 N := ⟨_, rfl⟩
  have hxd : x.data.toList = s.data.toList.take 64 := by
    rw [hx, take_data, hN]
    by_cases h : s.size ≤ 64
    · rw [Nat.min_eq_left h, List.take_of_length_le (by omega), List.take_of_length_le (by omega)]
    · rw [Nat.min_eq_right (by omega)]
  have hxs : x.size = N := by rw [hx, ByteArray.size_extract]; omega
  have hbg : Nm.bg s.data.toList = if Nm.lg 2 x.data.toList = 0 ∨ Nm.lg 2 x.data.toList = x.size ∨ x.data.toList[Nm.lg 2 x.data.toList]? ≠ some 58 then Nm.lg 2 x.data.toList
      else if Nm.lg 2 (x.data.toList.drop (Nm.lg 2 x.data.toList + 1)) = 0 then Nm.lg 2 x.data.toList else Nm.lg 2 x.data.toList + 1 + Nm.lg 2 (x.data.toList.drop (Nm.lg 2 x.data.toList + 1)) := by
    unfold Nm.bg Nm.bgH
    rw [Lib.size_eq x, hxd]
  rw [hbg]
  have hle := Nm.lg_le x.data.toList 2
  have hxl : x.data.toList.length = x.size := (Lib.size_eq x).symm
  rw [hxl, hxs] at hle
  have HL := Lib.hid (leading_any x w (by unfold maxLen at *; omega))
  have hget : ∀ k (h : k < x.size), x.data.toList[k]? = some x[k] := fun k h => by
    rw [List.getElem?_eq_getElem (by omega)]; rfl
  obtain ⟨h, hh⟩ : ∃ h, h = Nm.lg 2 x.data.toList := ⟨_, rfl⟩
  rw [← hh] at HL hle ⊢
  clear hbg hxd hh
  have hN64 : N ≤ 64 ∧ N ≤ s.size := by omega
  have hmin : min (s.size : Int) 64 = (N : Int) := by omega
  unfold maxLen at hs
  have he : s.extract 0 (min (s.size : Int) 64).toNat = x := by rw [hmin, hx]; rfl
  have HE := Lib.hid he
  have hle2 : h ≤ x.size := by omega
  have hx64 : x.size ≤ 64 := by omega
  clear he hx hmin hxs hN hN64 hle N
  by_cases c0 : h = 0
  · subst c0
    rw [if_pos (Or.inl rfl)]
    clear hget
    go_enter Try.func13, Try.ntmps13
    go_wp2_with fail
    rw [HE.out]
    refine HL.out.mono ?_
    rintro e w1 ⟨rfl, rfl⟩
    go_wp2
    go_ret
    exact ⟨rfl, rfl⟩
  · by_cases c1 : h = x.size
    · subst c1
      rw [if_pos (Or.inr (Or.inl rfl))]
      clear hget
      have c0' : ¬ (x.size : Int) = 0 := by omega
      go_enter Try.func13, Try.ntmps13
      go_wp2_with fail
      rw [HE.out]
      refine HL.out.mono ?_
      rintro e w1 ⟨rfl, rfl⟩
      go_wp2
      go_ret
      exact ⟨rfl, rfl⟩
    · have hlt : h < x.size := by omega
      have hg := hget h hlt
      have hub := u8_bd x[h]
      by_cases c2 : x[h] = 58
      · have hz : (x[h].toNat : Int) = 58 := by rw [c2]; rfl
        rw [hg, c2]
        have HT := Lib.hid (fun w0 => leading_any (x.extract (h + 1) x.size) w0 (by unfold maxLen; have := extract_size x (h + 1) x.size; omega))
        rw [drop_data] at HT
        have hlt2 := Nm.lg_le (x.data.toList.drop (h + 1)) 2
        rw [List.length_drop, hxl] at hlt2
        rw [if_neg (by rintro (h | h | h); exact c0 h; exact c1 h; exact h rfl)]
        generalize Nm.lg 2 (x.data.toList.drop (h + 1)) = t at *
        generalize hy : x.extract (h + 1) x.size = y at *
        have HY := Lib.hid hy
        have HZ := Lib.hid hz
        clear hget hg hz c2 hub hxl hlen hy
        have b0 : ((h : Int) == 0) = false := beq_eq_false_iff_ne.2 (by omega)
        have b1 : ((h : Int) == (x.size : Int)) = false := beq_eq_false_iff_ne.2 (by omega)
        have k1 : (0 : Int) ≤ (h : Int) + 1 := by omega
        have k2 : (h : Int) + 1 ≤ (x.size : Int) := by omega
        by_cases c3 : t = 0
        · subst c3
          rw [if_pos rfl]
          go_enter Try.func13, Try.ntmps13
          go_wp2_with fail
          rw [HE.out]
          refine HL.out.mono ?_
          rintro e w1 ⟨rfl, rfl⟩
          have hz := HZ.out
          go_wp2_with fail
          clear hz
          rw [HY.out]
          refine (HT.out _).mono ?_
          rintro e w2 ⟨rfl, rfl⟩
          go_wp2
          go_ret
          exact ⟨rfl, rfl⟩
        · rw [if_neg c3]
          go_enter Try.func13, Try.ntmps13
          go_wp2_with fail
          rw [HE.out]
          refine HL.out.mono ?_
          rintro e w1 ⟨rfl, rfl⟩
          have hz := HZ.out
          go_wp2_with fail
          clear hz
          rw [HY.out]
          refine (HT.out _).mono ?_
          rintro e w2 ⟨rfl, rfl⟩
          go_wp2
          go_ret
          exact ⟨rfl, rfl⟩
      · have hz : ¬ (x[h].toNat : Int) = 58 := fun e => c2 (UInt8.toNat_inj.1 (by show x[h].toNat = 58; omega))
        have hz' : ((x[h].toNat : Int) != 58) = true := by simpa using hz
        have b0 : ((h : Int) == 0) = false := beq_eq_false_iff_ne.2 (by omega)
        have b1 : ((h : Int) == (x.size : Int)) = false := beq_eq_false_iff_ne.2 (by omega)
        rw [if_pos (Or.inr (Or.inr (by rw [hg]; intro e; exact c2 (Option.some.inj e))))]
        clear hget hg c2 hub hxl hlen
        go_enter Try.func13, Try.ntmps13
        go_wp2_with fail
        rw [HE.out]
        refine HL.out.mono ?_
        rintro e w1 ⟨rfl, rfl⟩
        go_wp2
        go_ret
        exact ⟨rfl, rfl⟩
end Go.Proofs.Ytgccffhnblhopaa
