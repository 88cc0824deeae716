/- Facts and walks for the statement. -/
import Derived.Test.YteadfpkihhaadaaGreatDoorPz00
import Derived.Test.YteadfpkihhaadaaGreatDoorPz01
import Derived.WalkKit
import Derived.WalkLawsBesides
import Derived.Outline
import Derived.Handy
import Derived.Lib.OthersKept
import Derived.Lib.Hide
import Derived.WalkSmall
import Derived.Deep.DeepFit
import Derived.Deep.QuietTactic
import Derived.BigQuiet
import Derived.WalkSpells
import Derived.Lib.CutLaws
import Derived.RegionTactic
import Derived.BigRegion
import Derived.IntWalk
namespace Go.Proofs.YteadfpkihhaadaaGreatDoor.NmW
open Go.RowKit
theorem ret_bool {a b : Bool} (h : a = b) : Ending.returned (.bool a) = .returned (.bool b) := by rw [h]
theorem ret_int {k : IntKind} {a b : Int} (h : a = b) : Ending.returned (.int k a) = .returned (.int k b) := by rw [h]
theorem u8_bd (b : UInt8) : 0 ≤ (b.toNat : Int) ∧ (b.toNat : Int) ≤ 255 := by
 have := UInt8.toNat_lt b; omega
set_option maxHeartbeats 1000000 in
theorem part_any (c : Int) (w : World) (h0 : 0 ≤ c) (h1 : c ≤ 255) :
  Calls Tryz.prog 179 #[.int .u8 c] w fun e w' => e = .returned (.int .i64 (Nm.partZ c)) ∧ w = w' := by
 go_enter Tryz.func179, Tryz.ntmps179
 go_wp2
 all_goals go_ret
 all_goals refine ⟨ret_int ?_, rfl⟩
 all_goals
  unfold Nm.partZ Nm.letZ Nm.mayZ
  simp only [decide_eq_true_eq]
  try simp only [beq_iff_eq, beq_eq_false_iff_ne, ne_eq] at *
  first
   | rw [if_pos (by omega)]
   | rw [if_neg (by omega), if_pos (by omega)]
   | rw [if_neg (by omega), if_neg (by omega)]
set_option maxHeartbeats 1000000 in
theorem leading_any (s : ByteArray) (w : World) (hs : s.size ≤ maxLen) :
  Calls Tryz.prog 167 #[.string s] w fun e w' => e = .returned (.int .i64 (Nm.lg 2 s.data.toList)) ∧ w = w' := by
 unfold maxLen at hs
 have HP := Lib.hid part_any
 have hlen := Lib.hid (Lib.size_eq s)
 go_enter Tryz.func167, Tryz.ntmps167
 go_wp2
 go_loop [3, 7] (fun m i => ∃ (k : Nat) (a : Int), k ≤ s.size ∧ 1 ≤ a ∧ a ≤ 2 ∧ i = .int .i64 k ∧ m = .int .i64 a ∧ Hid (Nm.lg 2 s.data.toList = k + Nm.lg a (s.data.toList.drop k))) (fun _ i => s.size - (intOf i).toNat)
 case atStart => exact ⟨0, 2, Nat.zero_le _, by omega, by omega, rfl, rfl, Lib.hid (by simp)⟩
 case round =>
  obtain ⟨k, a, hk, ha1, ha2, rfl, rfl, HS⟩ := hrel
  by_cases hlt : k < s.size
  ·have hb := u8_bd s[k]
   have hk' : k < s.data.toList.length := by rw [← hlen.out]; exact hlt
   have hpb := Nm.partZ_bd (s[k].toNat : Int)
   have HC := Lib.hid (HP.out (s[k].toNat : Int) w hb.1 hb.2)
   by_cases hp : Nm.partZ (s[k].toNat : Int) < a
   ·have hf := Nm.lg_stop (l := s.data.toList) (m := a) hk' hp
    have HF := Lib.hid (HS.out.trans (by rw [hf]))
    clear hf
    generalize Nm.partZ (s[k].toNat : Int) = q at *
    go_wp2_with fail
    refine HC.out.mono ?_
    rintro e w1 ⟨rfl, rfl⟩
    go_wp2
    go_ret
    exact ⟨ret_int (by rw [HF.out]; omega), rfl⟩
   ·have hf := Nm.lg_go (l := s.data.toList) (m := a) hk' hp
    have HF := Lib.hid (HS.out.trans (by rw [hf]))
    clear hf
    generalize Nm.partZ (s[k].toNat : Int) = q at *
    go_wp2_with fail
    refine HC.out.mono ?_
    rintro e w1 ⟨rfl, rfl⟩
    go_wp2
    go_round
    case rel => exact ⟨k + 1, 1, by omega, by omega, by omega, by go_num, rfl, Lib.hid (by rw [HF.out]; omega)⟩
    case measure => simp [intOf]; omega
  ·have hnil : s.data.toList.drop k = [] := List.drop_of_length_le (by have := hlen.out; omega)
   have HF := Lib.hid (HS.out.trans (by rw [hnil]; rfl : _ = k))
   clear hnil
   go_wp2
   go_ret
   exact ⟨ret_int (by rw [HF.out]; omega), rfl⟩
theorem isEmpty_iff (s : ByteArray) : s.toList.isEmpty = decide (s.size = 0) := by
 rw [Lib.toList_data, Lib.size_eq]
 cases s.data.toList <;> simp
set_option maxHeartbeats 1000000 in
theorem plain_any (s : ByteArray) (w : World) (hs : s.size ≤ maxLen) :
  Calls Tryz.prog 141 #[.string s] w fun e w' => e = .returned (.bool (Nm.plain s.data.toList)) ∧ w = w' := by
 have HL := Lib.hid (leading_any s w hs)
 unfold maxLen at hs
 have hle := Nm.lg_le s.data.toList 2
 have hp : Nm.plain s.data.toList = decide (1 ≤ s.size ∧ s.size ≤ 64 ∧ Nm.lg 2 s.data.toList = s.size) := by
  rw [Lib.size_eq]; rfl
 rw [hp]; clear hp
 have he := isEmpty_iff s
 generalize Nm.lg 2 s.data.toList = n at *
 by_cases h0 : s.size = 0
 ·have hne : s.toList = [] := List.isEmpty_iff.1 (by rw [he]; exact decide_eq_true h0)
  clear he
  rw [decide_eq_false (by omega)]
  go_enter Tryz.func141, Tryz.ntmps141
  go_wp2
  go_ret
  exact ⟨rfl, rfl⟩
 ·have hne : s.toList.isEmpty = false := by rw [he]; exact decide_eq_false h0
  clear he
  by_cases h64 : s.size ≤ 64
  ·have h64' : (s.size : Int) ≤ 64 := by omega
   have hd : decide (1 ≤ s.size ∧ s.size ≤ 64 ∧ n = s.size) = ((n : Int) == (s.size : Int)) := by
    rw [Bool.eq_iff_iff]; simp; omega
   rw [hd]; clear hd
   go_enter Tryz.func141, Tryz.ntmps141
   go_wp2_with fail
   refine HL.out.mono ?_
   rintro e w1 ⟨rfl, rfl⟩
   go_wp2
   go_ret
   exact ⟨by first | rfl | (apply ret_bool; simp), rfl⟩
  ·have h64' : ¬ (s.size : Int) ≤ 64 := by omega
   rw [decide_eq_false (by omega)]
   go_enter Tryz.func141, Tryz.ntmps141
   go_wp2
   go_ret
   exact ⟨rfl, rfl⟩
end Go.Proofs.YteadfpkihhaadaaGreatDoor.NmW
namespace Go.Proofs.YteadfpkihhaadaaGreatDoor.NmW
open Go.RowKit
theorem ba_eq {a b : ByteArray} (h : a.data.toList = b.data.toList) : a = b := by
 cases a with | mk x => cases b with | mk y => simpa using h
theorem mk_data (s : ByteArray) : (⟨s.data.toList.toArray⟩ : ByteArray) = s := ba_eq (by simp)
theorem take_data (s : ByteArray) (n : Nat) : (s.extract 0 n).data.toList = s.data.toList.take n := by
 rw [← Lib.toList_data, Lib.extract_toList]; simp
theorem drop_data (s : ByteArray) (n : Nat) : (s.extract n s.size).data.toList = s.data.toList.drop n := Lib.extract_to_end s n
theorem extract_size (s : ByteArray) (a b : Nat) : (s.extract a b).size ≤ s.size := by
 rw [ByteArray.size_extract]; omega
set_option maxHeartbeats 1000000 in
theorem cut_miss (s : ByteArray) (w : World) (h : Lib.indexByte s.data.toList 58 = -1) :
  Calls Tryz.prog 126 #[.string s, .string ⟨#[58]⟩] w fun e w' => e = .returned (.tuple #[.string s, .string ⟨#[]⟩, .bool false]) ∧ w = w' := by
 have HX := Lib.hid (Tryz.stringslite_Index_one s 58 w)
 rw [h] at HX
 have H : Calls Tryz.prog 156 #[.string s, .string ⟨#[58]⟩] w fun e w' => e = .returned (.tuple #[.string s, .string ⟨#[]⟩, .bool false]) ∧ w = w' := by
  clear h
  go_enter Tryz.func156, Tryz.ntmps156
  go_wp2_with fail
  refine HX.out.mono ?_
  rintro e w1 ⟨rfl, rfl⟩
  go_wp2
  go_ret3
  exact ⟨rfl, rfl⟩
 have HC := Lib.hid H
 clear H h HX
 go_enter Tryz.func126, Tryz.ntmps126
 go_wp2_with fail
 refine HC.out.mono ?_
 rintro e w1 ⟨rfl, rfl⟩
 go_wp2
 go_ret3
 exact ⟨rfl, rfl⟩
set_option maxHeartbeats 1000000 in
theorem cut_hit (s : ByteArray) (w : World) (j : Nat) (h : Lib.indexByte s.data.toList 58 = j) (hj : j + 1 ≤ s.size) (hs : s.size ≤ maxLen) :
  Calls Tryz.prog 126 #[.string s, .string ⟨#[58]⟩] w fun e w' => e = .returned (.tuple #[.string (s.extract 0 j), .string (s.extract (j + 1) s.size), .bool true]) ∧ Below w.heap.size w w' := by
 have HX := Lib.hid (Tryz.stringslite_Index_one s 58 w)
 rw [h] at HX
 have H : Calls Tryz.prog 156 #[.string s, .string ⟨#[58]⟩] w fun e w' => e = .returned (.tuple #[.string (s.extract 0 j), .string (s.extract (j + 1) s.size), .bool true]) ∧ Below w.heap.size w w' := by
  clear h
  have c1 : (0 : Int) ≤ ↑j := by omega
  have c2 : (↑j : Int) ≤ ↑s.size := by omega
  have c3 : (0 : Int) ≤ ↑j + 1 := by omega
  have c4 : (↑j + 1 : Int) ≤ ↑s.size := by omega
  unfold maxLen at hs
  have c6 : ((j : Int) + 1).toNat = j + 1 := by omega
  have c5 : IntKind.i64.wrap ((j : Int) + 1) = (j : Int) + 1 := IntWalk.i64_in _ (by omega)
  go_enter Tryz.func156, Tryz.ntmps156
  go_wp2_with fail
  refine HX.out.mono ?_
  rintro e w1 ⟨rfl, rfl⟩
  go_wp2_with fail
  go_quiet (fail)
  go_wp2
  go_ret3
  exact ⟨rfl, below_drewN (Below.refl _ _) _⟩
 have HC := Lib.hid H
 clear H h HX
 go_enter Tryz.func126, Tryz.ntmps126
 go_wp2_with fail
 refine HC.out.mono ?_
 rintro e w1 ⟨rfl, hb⟩
 go_wp2
 go_ret3
 exact ⟨rfl, hb⟩
set_option maxHeartbeats 1000000 in
theorem allPlain_two (p q : ByteArray) (b c : Nat) (w : World) (hp : p.size ≤ maxLen) (hq : q.size ≤ maxLen)
  (h0 : w.cell? ⟨b, 0, none⟩ = some (.string p)) (h1 : w.cell? ⟨b, 1, none⟩ = some (.string q)) :
  Calls Tryz.prog 142 #[.slice (some ⟨b, 0, none⟩) 2 c] w fun e w' => e = .returned (.bool (Nm.plain p.data.toList && Nm.plain q.data.toList)) ∧ w = w' := by
 have HP := Lib.hid (plain_any p w hp)
 have HQ := Lib.hid (plain_any q w hq)
 generalize Nm.plain p.data.toList = x at *
 generalize Nm.plain q.data.toList = y at *
 clear hp hq
 go_enter Tryz.func142, Tryz.ntmps142
 go_wp2
 go_loop [7] (fun i => ∃ k : Nat, k ≤ 2 ∧ i = .int .i64 k ∧ (1 ≤ k → x = true) ∧ (2 ≤ k → y = true)) (fun i => 2 - (intOf i).toNat)
 case atStart => exact ⟨0, by omega, rfl, fun h => by omega, fun h => by omega⟩
 case round =>
  obtain ⟨k, hk, rfl, hx, hy⟩ := hrel
  rcases (by omega : k = 0 ∨ k = 1 ∨ k = 2) with rfl | rfl | rfl
  ·clear hx hy
   go_wp2_with fail
   refine HP.out.mono ?_
   rintro e w1 ⟨rfl, rfl⟩
   cases x with
   | false =>
    go_wp2
    go_ret
    exact ⟨rfl, rfl⟩
   | true =>
    go_wp2
    go_round
    case rel => exact ⟨1, by omega, by go_num, fun _ => trivial, fun h => by omega⟩
    case measure => simp [intOf]
  ·obtain rfl := hx (Nat.le_refl _)
   clear hx hy
   go_wp2_with fail
   refine HQ.out.mono ?_
   rintro e w1 ⟨rfl, rfl⟩
   cases y with
   | false =>
    go_wp2
    go_ret
    exact ⟨rfl, rfl⟩
   | true =>
    go_wp2
    go_round
    case rel => exact ⟨2, by omega, by go_num, fun _ => trivial, fun _ => trivial⟩
    case measure => simp [intOf]
  ·obtain rfl := hx (by omega)
   obtain rfl := hy (Nat.le_refl _)
   clear hx hy
   go_wp2
   go_ret
   exact ⟨rfl, rfl⟩
end Go.Proofs.YteadfpkihhaadaaGreatDoor.NmW
namespace Go.Proofs.YteadfpkihhaadaaGreatDoor.NmW
open Go.RowKit
theorem str_cell (w : World) (vs : Array Value) (t : TypeId) (j : Nat) {v : Value} (h : vs[j]? = some v) : (w.alloc (.cells vs t)).cell? ⟨w.heap.size, j, none⟩ = some v :=
 (World.cell?_alloc_mark w vs t (0, 0) j).trans h
theorem colon_lt {l : List UInt8} {j : Nat} (h : Lib.indexByte l 58 = j) : j + 1 ≤ l.length := by
 have h1 := (Lib.indexByte_some h).1
 rcases Nat.lt_or_ge j l.length with h | h
 ·exact h
 ·rw [List.getElem?_eq_none h] at h1; cases h1
set_option maxHeartbeats 1000000 in
set_option maxRecDepth 100000 in
theorem split_any (s : ByteArray) (w : World) (hs : s.size ≤ maxLen) :
  Calls Tryz.prog 107 #[.string s] w fun e w' => e = .returned (.tuple #[.string ⟨(Nm.split s.data.toList).1.toArray⟩, .string ⟨(Nm.split s.data.toList).2.1.toArray⟩, .bool (Nm.split s.data.toList).2.2]) ∧ Below w.heap.size w w' := by
 have HP := Lib.hid (plain_any s w hs)
 have hlen : s.data.toList.length = s.size := (Lib.size_eq s).symm
 cases hp : Nm.plain s.data.toList with
 | true =>
  rw [Nm.split_plain hp]
  simp only
  rw [mk_data]
  rw [hp] at HP
  clear hp hlen
  go_enter Tryz.func107, Tryz.ntmps107
  go_wp2_with fail
  refine HP.out.mono ?_
  rintro e w1 ⟨rfl, rfl⟩
  go_wp2
  go_ret3
  exact ⟨rfl, Below.refl _ _⟩
 | false =>
  rw [hp] at HP
  have hge := Lib.indexByte_ge s.data.toList 58
  -- what is cut, in either way
  obtain ⟨p, q, b, HC, hpq, hps, hqs⟩ : ∃ p q b, RowKit.Hid (Calls Tryz.prog 126 #[.string s, .string ⟨#[58]⟩] w fun e w' => e = .returned (.tuple #[.string p, .string q, .bool b]) ∧ Below w.heap.size w w') ∧
    (Lib.cut s.data.toList [58]).1 = p.data.toList ∧ p.size ≤ s.size ∧ (q.size ≤ s.size ∧ (Lib.cut s.data.toList [58]).2.1 = q.data.toList) := by
   by_cases hi : Lib.indexByte s.data.toList 58 = -1
   ·refine ⟨s, ⟨#[]⟩, false, Lib.hid ((cut_miss s w hi).mono fun e w' h => ⟨h.1, h.2 ▸ Below.refl _ _⟩), ?_, Nat.le_refl _, Nat.zero_le _, ?_⟩
    ·rw [Nm.cut_none hi]
    ·rw [Nm.cut_none hi]
   ·obtain ⟨j, hj⟩ : ∃ j : Nat, Lib.indexByte s.data.toList 58 = j := ⟨(Lib.indexByte s.data.toList 58).toNat, by omega⟩
    have hjl := colon_lt hj
    refine ⟨s.extract 0 j, s.extract (j + 1) s.size, true, Lib.hid (cut_hit s w j hj (by omega) hs), ?_, extract_size _ _ _, extract_size _ _ _, ?_⟩
    ·rw [Nm.cut_some hj, take_data]
    ·rw [Nm.cut_some hj, drop_data]
  have hsp : Nm.split s.data.toList = if 64 < s.size then ([], [], false) else if Nm.plain p.data.toList && Nm.plain q.data.toList then (p.data.toList, q.data.toList, true) else ([], [], false) := by
   unfold Nm.split
   rw [hp, hpq, hqs.2, hlen]; rfl
  have HA := Lib.hid (fun w0 : World => allPlain_two p q w0.heap.size 2 (w0.alloc (.cells #[.string p, .string q] 9)) (Nat.le_trans hps hs) (Nat.le_trans hqs.1 hs) (str_cell _ _ _ 0 rfl) (str_cell _ _ _ 1 rfl))
  unfold maxLen at hs
  rw [hsp]
  clear hsp hpq hqs hps hp hge
  by_cases h64 : 64 < s.size
  ·have h64' : (64 : Int) < (s.size : Int) := by omega
   rw [if_pos h64]
   clear HA
   go_enter Tryz.func107, Tryz.ntmps107
   go_wp2_with fail
   refine HP.out.mono ?_
   rintro e w1 ⟨rfl, rfl⟩
   go_wp2_with fail
   refine HC.out.mono ?_
   rintro e w2 ⟨rfl, hb⟩
   go_wp2
   go_ret3
   exact ⟨rfl, hb⟩
  ·have h64' : ¬ (64 : Int) < (s.size : Int) := by omega
   rw [if_neg h64]
   cases hx : (Nm.plain p.data.toList && Nm.plain q.data.toList) with
   | true =>
    rw [hx] at HA
    simp only [if_true]
    rw [mk_data, mk_data]
    clear hx
    go_enter Tryz.func107, Tryz.ntmps107
    go_wp2_with fail
    refine HP.out.mono ?_
    rintro e w1 ⟨rfl, rfl⟩
    go_wp2_with fail
    refine HC.out.mono ?_
    rintro e w2 ⟨rfl, hb⟩
    go_wp2_with fail
    refine (HA.out w2).mono ?_
    rintro e w3 ⟨rfl, rfl⟩
    have hb2 := hb.trans (((Below.refl w2.heap.size w2).alloc (Nat.le_refl _) (.cells #[.string p, .string q] 9)).mono hb.size)
    clear hb
    go_wp2
    go_ret3
    exact ⟨rfl, hb2⟩
   | false =>
    rw [hx] at HA
    simp only [Bool.false_eq_true, if_false]
    clear hx
    go_enter Tryz.func107, Tryz.ntmps107
    go_wp2_with fail
    refine HP.out.mono ?_
    rintro e w1 ⟨rfl, rfl⟩
    go_wp2_with fail
    refine HC.out.mono ?_
    rintro e w2 ⟨rfl, hb⟩
    go_wp2_with fail
    refine (HA.out w2).mono ?_
    rintro e w3 ⟨rfl, rfl⟩
    have hb2 := hb.trans (((Below.refl w2.heap.size w2).alloc (Nat.le_refl _) (.cells #[.string p, .string q] 9)).mono hb.size)
    clear hb
    go_wp2
    go_ret3
    exact ⟨rfl, hb2⟩
set_option maxHeartbeats 1000000 in
theorem is_any (s : ByteArray) (w : World) (hs : s.size ≤ maxLen) :
  Calls Tryz.prog 68 #[.string s] w fun e w' => e = .returned (.bool (Nm.isn s.data.toList)) ∧ Below w.heap.size w w' := by
 have HS := Lib.hid (split_any s w hs)
 unfold Nm.isn
 generalize Nm.split s.data.toList = d at *
 obtain ⟨p, q, b⟩ := d
 simp only at HS ⊢
 go_enter Tryz.func68, Tryz.ntmps68
 go_wp2_with fail
 refine HS.out.mono ?_
 rintro e w1 ⟨rfl, hb⟩
 go_wp2
 go_ret
 exact ⟨rfl, hb⟩
set_option maxHeartbeats 1000000 in
theorem begin_any (s : ByteArray) (w : World) (hs : s.size ≤ maxLen) :
  Calls Tryz.prog 160 #[.string s] w fun e w' => e = .returned (.int .i64 (Nm.bg s.data.toList)) ∧ w = w' := by
 have hlen : s.data.toList.length = s.size := (Lib.size_eq s).symm
 obtain ⟨N, hN⟩ : ∃ N : Nat, N = min s.size 64 := ⟨_, rfl⟩
 obtain ⟨x, hx⟩ : ∃ x, x = s.extract 0 N := ⟨_, rfl⟩
 have hxd : x.data.toList = s.data.toList.take 64 := by
  rw [hx, take_data, hN]
  by_cases h : s.size ≤ 64
  ·rw [Nat.min_eq_left h, List.take_of_length_le (by omega), List.take_of_length_le (by omega)]
  ·rw [Nat.min_eq_right (by omega)]
 have hxs : x.size = N := by rw [hx, ByteArray.size_extract]; omega
 have hbg : Nm.bg s.data.toList = if Nm.lg 2 x.data.toList = 0 ∨ Nm.lg 2 x.data.toList = x.size ∨ x.data.toList[Nm.lg 2 x.data.toList]? ≠ some 58 then Nm.lg 2 x.data.toList
   else if Nm.lg 2 (x.data.toList.drop (Nm.lg 2 x.data.toList + 1)) = 0 then Nm.lg 2 x.data.toList else Nm.lg 2 x.data.toList + 1 + Nm.lg 2 (x.data.toList.drop (Nm.lg 2 x.data.toList + 1)) := by
  unfold Nm.bg Nm.bgH
  rw [Lib.size_eq x, hxd]
 rw [hbg]
 have hle := Nm.lg_le x.data.toList 2
 have hxl : x.data.toList.length = x.size := (Lib.size_eq x).symm
 rw [hxl, hxs] at hle
 have HL := Lib.hid (leading_any x w (by unfold maxLen at *; omega))
 have hget : ∀ k (h : k < x.size), x.data.toList[k]? = some x[k] := fun k h => by
  rw [List.getElem?_eq_getElem (by omega)]; rfl
 obtain ⟨h, hh⟩ : ∃ h, h = Nm.lg 2 x.data.toList := ⟨_, rfl⟩
 rw [← hh] at HL hle ⊢
 clear hbg hxd hh
 have hN64 : N ≤ 64 ∧ N ≤ s.size := by omega
 have hmin : min (s.size : Int) 64 = (N : Int) := by omega
 unfold maxLen at hs
 have he : s.extract 0 (min (s.size : Int) 64).toNat = x := by rw [hmin, hx]; rfl
 have HE := Lib.hid he
 have hle2 : h ≤ x.size := by omega
 have hx64 : x.size ≤ 64 := by omega
 clear he hx hmin hxs hN hN64 hle N
 by_cases c0 : h = 0
 ·subst c0
  rw [if_pos (Or.inl rfl)]
  clear hget
  go_enter Tryz.func160, Tryz.ntmps160
  go_wp2_with fail
  rw [HE.out]
  refine HL.out.mono ?_
  rintro e w1 ⟨rfl, rfl⟩
  go_wp2
  go_ret
  exact ⟨rfl, rfl⟩
 ·by_cases c1 : h = x.size
  ·subst c1
   rw [if_pos (Or.inr (Or.inl rfl))]
   clear hget
   have c0' : ¬ (x.size : Int) = 0 := by omega
   go_enter Tryz.func160, Tryz.ntmps160
   go_wp2_with fail
   rw [HE.out]
   refine HL.out.mono ?_
   rintro e w1 ⟨rfl, rfl⟩
   go_wp2
   go_ret
   exact ⟨rfl, rfl⟩
  ·have hlt : h < x.size := by omega
   have hg := hget h hlt
   have hub := u8_bd x[h]
   by_cases c2 : x[h] = 58
   ·have hz : (x[h].toNat : Int) = 58 := by rw [c2]; rfl
    rw [hg, c2]
    have HT := Lib.hid (fun w0 => leading_any (x.extract (h + 1) x.size) w0 (by unfold maxLen; have := extract_size x (h + 1) x.size; omega))
    rw [drop_data] at HT
    have hlt2 := Nm.lg_le (x.data.toList.drop (h + 1)) 2
    rw [List.length_drop, hxl] at hlt2
    rw [if_neg (by rintro (h | h | h); exact c0 h; exact c1 h; exact h rfl)]
    generalize Nm.lg 2 (x.data.toList.drop (h + 1)) = t at *
    generalize hy : x.extract (h + 1) x.size = y at *
    have HY := Lib.hid hy
    have HZ := Lib.hid hz
    clear hget hg hz c2 hub hxl hlen hy
    have b0 : ((h : Int) == 0) = false := beq_eq_false_iff_ne.2 (by omega)
    have b1 : ((h : Int) == (x.size : Int)) = false := beq_eq_false_iff_ne.2 (by omega)
    have k1 : (0 : Int) ≤ (h : Int) + 1 := by omega
    have k2 : (h : Int) + 1 ≤ (x.size : Int) := by omega
    by_cases c3 : t = 0
    ·subst c3
     rw [if_pos rfl]
     go_enter Tryz.func160, Tryz.ntmps160
     go_wp2_with fail
     rw [HE.out]
     refine HL.out.mono ?_
     rintro e w1 ⟨rfl, rfl⟩
     have hz := HZ.out
     go_wp2_with fail
     clear hz
     rw [HY.out]
     refine (HT.out _).mono ?_
     rintro e w2 ⟨rfl, rfl⟩
     go_wp2
     go_ret
     exact ⟨rfl, rfl⟩
    ·rw [if_neg c3]
     go_enter Tryz.func160, Tryz.ntmps160
     go_wp2_with fail
     rw [HE.out]
     refine HL.out.mono ?_
     rintro e w1 ⟨rfl, rfl⟩
     have hz := HZ.out
     go_wp2_with fail
     clear hz
     rw [HY.out]
     refine (HT.out _).mono ?_
     rintro e w2 ⟨rfl, rfl⟩
     go_wp2
     go_ret
     exact ⟨rfl, rfl⟩
   ·have hz : ¬ (x[h].toNat : Int) = 58 := fun e => c2 (UInt8.toNat_inj.1 (by show x[h].toNat = 58; omega))
    have hz' : ((x[h].toNat : Int) != 58) = true := by simpa using hz
    have b0 : ((h : Int) == 0) = false := beq_eq_false_iff_ne.2 (by omega)
    have b1 : ((h : Int) == (x.size : Int)) = false := beq_eq_false_iff_ne.2 (by omega)
    rw [if_pos (Or.inr (Or.inr (by rw [hg]; intro e; exact c2 (Option.some.inj e))))]
    clear hget hg c2 hub hxl hlen
    go_enter Tryz.func160, Tryz.ntmps160
    go_wp2_with fail
    rw [HE.out]
    refine HL.out.mono ?_
    rintro e w1 ⟨rfl, rfl⟩
    go_wp2
    go_ret
    exact ⟨rfl, rfl⟩
end Go.Proofs.YteadfpkihhaadaaGreatDoor.NmW
