/- name.Split, Is and Begin, walked: what the plain facts tell. Condition: a text's length fits. -/
import Derived.Test.YthncfhakbobkkaaGreatDoorNmParts
namespace Go.Proofs.YthncfhakbobkkaaGreatDoor.NmW
open Go.RowKit

theorem str_cell (w : World) (vs : Array Value) (t : TypeId) (j : Nat) {v : Value} (h : vs[j]? = some v) : (w.alloc (.cells vs t)).cell? ⟨w.heap.size, j, none⟩ = some v :=
  (World.cell?_alloc_mark w vs t (0, 0) j).trans h
theorem colon_lt {l : List UInt8} {j : Nat} (h : Lib.indexByte l 58 = j) : j + 1 ≤ l.length := by
  have h1 := (Lib.indexByte_some h).1
  rcases Nat.lt_or_ge j l.length with h | h
  · exact h
  · rw [List.getElem?_eq_none h] at h1; cases h1

set_option maxHeartbeats 1000000 in
theorem begin_any (s : ByteArray) (w : World) (hs : s.size ≤ maxLen) :
    Calls Tryz.prog 78 #[.string s] w fun e w' => e = .returned (.int .i64 (Nm.bg s.data.toList)) ∧ w = w' := by
  have hlen : s.data.toList.length = s.size := (Lib.size_eq s).symm
  obtain ⟨N, hN⟩ : ∃ N : Nat, N = min s.size 64 := ⟨_, rfl⟩
  obtain ⟨x, hx⟩ : ∃ x, x = s.extract 0 N := ⟨_, rfl⟩
  have hxd : x.data.toList = s.data.toList.take 64 := by
    rw [hx, take_data, hN]
    by_cases h : s.size ≤ 64
    · rw [Nat.min_eq_left h, List.take_of_length_le (by omega), List.take_of_length_le (by omega)]
    · rw [Nat.min_eq_right (by omega)]
  have hxs : x.size = N := by rw [hx, ByteArray.size_extract]; omega
  have hbg : Nm.bg s.data.toList = if Nm.lg 2 x.data.toList = 0 ∨ Nm.lg 2 x.data.toList = x.size ∨ x.data.toList[Nm.lg 2 x.data.toList]? ≠ some 58 then Nm.lg 2 x.data.toList
      else if Nm.lg 2 (x.data.toList.drop (Nm.lg 2 x.data.toList + 1)) = 0 then Nm.lg 2 x.data.toList else Nm.lg 2 x.data.toList + 1 + Nm.lg 2 (x.data.toList.drop (Nm.lg 2 x.data.toList + 1)) := by
    unfold Nm.bg Nm.bgH
    rw [Lib.size_eq x, hxd]
  rw [hbg]
  have hle := Nm.lg_le x.data.toList 2
  have hxl : x.data.toList.length = x.size := (Lib.size_eq x).symm
  rw [hxl, hxs] at hle
  have HL := Lib.hid (leading_any x w (by unfold maxLen at *; omega))
  have hget : ∀ k (h : k < x.size), x.data.toList[k]? = some x[k] := fun k h => by
    rw [List.getElem?_eq_getElem (by omega)]; rfl
  obtain ⟨h, hh⟩ : ∃ h, h = Nm.lg 2 x.data.toList := ⟨_, rfl⟩
  rw [← hh] at HL hle ⊢
  clear hbg hxd hh
  have hN64 : N ≤ 64 ∧ N ≤ s.size := by omega
  have hmin : min (s.size : Int) 64 = (N : Int) := by omega
  unfold maxLen at hs
  have he : s.extract 0 (min (s.size : Int) 64).toNat = x := by rw [hmin, hx]; rfl
  have HE := Lib.hid he
  have hle2 : h ≤ x.size := by omega
  have hx64 : x.size ≤ 64 := by omega
  clear he hx hmin hxs hN hN64 hle N
  by_cases c0 : h = 0
  · subst c0
    rw [if_pos (Or.inl rfl)]
    clear hget
    go_enter Tryz.func78, Tryz.ntmps78
    go_wp2_with fail
    rw [HE.out]
    refine HL.out.mono ?_
    rintro e w1 ⟨rfl, rfl⟩
    go_wp2
    go_ret
    exact ⟨rfl, rfl⟩
  · by_cases c1 : h = x.size
    · subst c1
      rw [if_pos (Or.inr (Or.inl rfl))]
      clear hget
      have c0' : ¬ (x.size : Int) = 0 := by omega
      go_enter Tryz.func78, Tryz.ntmps78
      go_wp2_with fail
      rw [HE.out]
      refine HL.out.mono ?_
      rintro e w1 ⟨rfl, rfl⟩
      go_wp2
      go_ret
      exact ⟨rfl, rfl⟩
    · have hlt : h < x.size := by omega
      have hg := hget h hlt
      have hub := u8_bd x[h]
      by_cases c2 : x[h] = 58
      · have hz : (x[h].toNat : Int) = 58 := by rw [c2]; rfl
        rw [hg, c2]
        have HT := Lib.hid (fun w0 => leading_any (x.extract (h + 1) x.size) w0 (by unfold maxLen; have := extract_size x (h + 1) x.size; omega))
        rw [drop_data] at HT
        have hlt2 := Nm.lg_le (x.data.toList.drop (h + 1)) 2
        rw [List.length_drop, hxl] at hlt2
        rw [if_neg (by rintro (h | h | h); exact c0 h; exact c1 h; exact h rfl)]
        generalize Nm.lg 2 (x.data.toList.drop (h + 1)) = t at *
        generalize hy : x.extract (h + 1) x.size = y at *
        have HY := Lib.hid hy
        have HZ := Lib.hid hz
        clear hget hg hz c2 hub hxl hlen hy
        have b0 : ((h : Int) == 0) = false := beq_eq_false_iff_ne.2 (by omega)
        have b1 : ((h : Int) == (x.size : Int)) = false := beq_eq_false_iff_ne.2 (by omega)
        have k1 : (0 : Int) ≤ (h : Int) + 1 := by omega
        have k2 : (h : Int) + 1 ≤ (x.size : Int) := by omega
        by_cases c3 : t = 0
        · subst c3
          rw [if_pos rfl]
          go_enter Tryz.func78, Tryz.ntmps78
          go_wp2_with fail
          rw [HE.out]
          refine HL.out.mono ?_
          rintro e w1 ⟨rfl, rfl⟩
          have hz := HZ.out
          go_wp2_with fail
          clear hz
          rw [HY.out]
          refine (HT.out _).mono ?_
          rintro e w2 ⟨rfl, rfl⟩
          go_wp2
          go_ret
          exact ⟨rfl, rfl⟩
        · rw [if_neg c3]
          go_enter Tryz.func78, Tryz.ntmps78
          go_wp2_with fail
          rw [HE.out]
          refine HL.out.mono ?_
          rintro e w1 ⟨rfl, rfl⟩
          have hz := HZ.out
          go_wp2_with fail
          clear hz
          rw [HY.out]
          refine (HT.out _).mono ?_
          rintro e w2 ⟨rfl, rfl⟩
          go_wp2
          go_ret
          exact ⟨rfl, rfl⟩
      · have hz : ¬ (x[h].toNat : Int) = 58 := fun e => c2 (UInt8.toNat_inj.1 (by show x[h].toNat = 58; omega))
        have hz' : ((x[h].toNat : Int) != 58) = true := by simpa using hz
        have b0 : ((h : Int) == 0) = false := beq_eq_false_iff_ne.2 (by omega)
        have b1 : ((h : Int) == (x.size : Int)) = false := beq_eq_false_iff_ne.2 (by omega)
        rw [if_pos (Or.inr (Or.inr (by rw [hg]; intro e; exact c2 (Option.some.inj e))))]
        clear hget hg c2 hub hxl hlen
        go_enter Tryz.func78, Tryz.ntmps78
        go_wp2_with fail
        rw [HE.out]
        refine HL.out.mono ?_
        rintro e w1 ⟨rfl, rfl⟩
        go_wp2
        go_ret
        exact ⟨rfl, rfl⟩
end Go.Proofs.YthncfhakbobkkaaGreatDoor.NmW
