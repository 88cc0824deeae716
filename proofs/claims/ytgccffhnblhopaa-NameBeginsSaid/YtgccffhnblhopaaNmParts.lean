/- The functions of package name that part a name (Split, Is, Begin), walked. Condition: a text's length fits. -/
import Derived.Test.YtgccffhnblhopaaNmWalk
import Derived.Lib.CutLaws
import Derived.RegionTactic
import Derived.BigRegion
import Derived.IntWalk
namespace Go.Proofs.Ytgccffhnblhopaa
open Go.RowKit

theorem ba_eq {a b : ByteArray} (h : a.data.toList = b.data.toList) : a = b := by
  cases a with | mk x => cases b with | mk y => simpa using h
theorem mk_data (s : ByteArray) : (⟨s.data.toList.toArray⟩ : ByteArray) = s := ba_eq (by simp)
theorem data_mk (l : List UInt8) : (ByteArray.mk l.toArray).data.toList = l := by simp
theorem take_data (s : ByteArray) (n : Nat) : (s.extract 0 n).data.toList = s.data.toList.take n := by
  rw [← Lib.toList_data, Lib.extract_toList]; simp
theorem drop_data (s : ByteArray) (n : Nat) : (s.extract n s.size).data.toList = s.data.toList.drop n := Lib.extract_to_end s n
theorem extract_size (s : ByteArray) (a b : Nat) : (s.extract a b).size ≤ s.size := by
  rw [ByteArray.size_extract]; omega

set_option maxHeartbeats 1000000 in
/-- strings.Cut at a colon that is not there. -/
theorem cut_miss (s : ByteArray) (w : World) (h : Lib.indexByte s.data.toList 58 = -1) :
    Calls Try.prog 16 #[.string s, .string ⟨#[58]⟩] w fun e w' => e = .returned (.tuple #[.string s, .string ⟨#[]⟩, .bool false]) ∧ w = w' := by
  have HX := Lib.hid (Try.stringslite_Index_one s 58 w)
  rw [h] at HX
  have H : Calls Try.prog 20 #[.string s, .string ⟨#[58]⟩] w fun e w' => e = .returned (.tuple #[.string s, .string ⟨#[]⟩, .bool false]) ∧ w = w' := by
    clear h
    go_enter Try.func20, Try.ntmps20
    go_wp2_with fail
    refine HX.out.mono ?_
    rintro e w1 ⟨rfl, rfl⟩
    go_wp2
    go_ret3
    exact ⟨rfl, rfl⟩
  have HC := Lib.hid H
  clear H h HX
  go_enter Try.func16, Try.ntmps16
  go_wp2_with fail
  refine HC.out.mono ?_
  rintro e w1 ⟨rfl, rfl⟩
  go_wp2
  go_ret3
  exact ⟨rfl, rfl⟩

set_option maxHeartbeats 1000000 in
theorem cut_hit (s : ByteArray) (w : World) (j : Nat) (h : Lib.indexByte s.data.toList 58 = j) (hj : j + 1 ≤ s.size) (hs : s.size ≤ maxLen) :
    Calls Try.prog 16 #[.string s, .string ⟨#[58]⟩] w fun e w' => e = .returned (.tuple #[.string (s.extract 0 j), .string (s.extract (j + 1) s.size), .bool true]) ∧ Below w.heap.size w w' := by
  have HX := Lib.hid (Try.stringslite_Index_one s 58 w)
  rw [h] at HX
  have H : Calls Try.prog 20 #[.string s, .string ⟨#[58]⟩] w fun e w' => e = .returned (.tuple #[.string (s.extract 0 j), .string (s.extract (j + 1) s.size), .bool true]) ∧ Below w.heap.size w w' := by
    clear h
    have c1 : (0 : Int) ≤ ↑j := by omega
    have c2 : (↑j : Int) ≤ ↑s.size := by omega
    have c3 : (0 : Int) ≤ ↑j + 1 := by omega
    have c4 : (↑j + 1 : Int) ≤ ↑s.size := by omega
    unfold maxLen at hs
    have c6 : ((j : Int) + 1).toNat = j + 1 := by omega
    have c5 : IntKind.i64.wrap ((j : Int) + 1) = (j : Int) + 1 := IntWalk.i64_in _ (by omega)
    go_enter Try.func20, Try.ntmps20
    go_wp2_with fail
    refine HX.out.mono ?_
    rintro e w1 ⟨rfl, rfl⟩
    go_wp2_with fail
    go_quiet (fail)
    go_wp2
    go_ret3
    exact ⟨rfl, below_drewN (Below.refl _ _) _⟩
  have HC := Lib.hid H
  clear H h HX
  go_enter Try.func16, Try.ntmps16
  go_wp2_with fail
  refine HC.out.mono ?_
  rintro e w1 ⟨rfl, hb⟩
  go_wp2
  go_ret3
  exact ⟨rfl, hb⟩

set_option maxHeartbeats 1000000 in
/-- The variadic call, of two parts. -/
theorem allPlain_two (p q : ByteArray) (b c : Nat) (w : World) (hp : p.size ≤ maxLen) (hq : q.size ≤ maxLen)
    (h0 : w.cell? ⟨b, 0, none⟩ = some (.string p)) (h1 : w.cell? ⟨b, 1, none⟩ = some (.string q)) :
    Calls Try.prog 17 #[.slice (some ⟨b, 0, none⟩) 2 c] w fun e w' => e = .returned (.bool (Nm.plain p.data.toList && Nm.plain q.data.toList)) ∧ w = w' := by
  have HP := Lib.hid (plain_any p w hp)
  have HQ := Lib.hid (plain_any q w hq)
  generalize Nm.plain p.data.toList = x at *
  generalize Nm.plain q.data.toList = y at *
  clear hp hq
  go_enter Try.func17, Try.ntmps17
  go_wp2
  go_loop [7] (fun i => ∃ k : Nat, k ≤ 2 ∧ i = .int .i64 k ∧ (1 ≤ k → x = true) ∧ (2 ≤ k → y = true)) (fun i => 2 - (intOf i).toNat)
  case atStart => exact ⟨0, by omega, rfl, fun h => by omega, fun h => by omega⟩
  case round =>
    obtain ⟨k, hk, rfl, hx, hy⟩ := hrel
    rcases (by omega : k = 0 ∨ k = 1 ∨ k = 2) with rfl | rfl | rfl
    · clear hx hy
      go_wp2_with fail
      refine HP.out.mono ?_
      rintro e w1 ⟨rfl, rfl⟩
      cases x with
      | false =>
        go_wp2
        go_ret
        exact ⟨rfl, rfl⟩
      | true =>
        go_wp2
        go_round
        case rel => exact ⟨1, by omega, by go_num, fun _ => trivial, fun h => by omega⟩
        case measure => simp [intOf]
    · obtain rfl := hx (Nat.le_refl _)
      clear hx hy
      go_wp2_with fail
      refine HQ.out.mono ?_
      rintro e w1 ⟨rfl, rfl⟩
      cases y with
      | false =>
        go_wp2
        go_ret
        exact ⟨rfl, rfl⟩
      | true =>
        go_wp2
        go_round
        case rel => exact ⟨2, by omega, by go_num, fun _ => trivial, fun _ => trivial⟩
        case measure => simp [intOf]
    · obtain rfl := hx (by omega)
      obtain rfl := hy (Nat.le_refl _)
      clear hx hy
      go_wp2
      go_ret
      exact ⟨rfl, rfl⟩
end Go.Proofs.Ytgccffhnblhopaa
