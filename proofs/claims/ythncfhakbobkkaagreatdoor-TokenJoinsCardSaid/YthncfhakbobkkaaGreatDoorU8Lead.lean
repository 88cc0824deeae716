/- The functions of package utf that go through a text, walked. Condition: the tables hold what their texts lay. -/
import Derived.Test.YthncfhakbobkkaaGreatDoorU8Walk
namespace Go.Proofs.YthncfhakbobkkaaGreatDoor
open Go.RowKit

theorem string_toList_ne {s : ByteArray} (h : s.data.toList ≠ []) : s.toList.isEmpty = false := by
  rw [Lib.toList_data]
  cases e : s.data.toList with
  | nil => exact absurd e h
  | cons _ _ => rfl

set_option maxHeartbeats 1000000 in
set_option maxRecDepth 100000 in
theorem leading_any (s : ByteArray) (w : World) (T : Tabs w) (hs : s.size ≤ maxLen) :
    Calls Tryz.prog 34 #[.string s] w fun e w' => e = .returned (.tuple #[.int .i64 (U8.lead s.data.toList).1, .int .i64 (U8.lead s.data.toList).2]) ∧ Below w.heap.size w w' := by
  unfold maxLen at hs
  have hle := U8.lead_le _ s.data.toList (Nat.le_refl _)
  have hlen : s.data.toList.length ≤ s.size ∧ s.size ≤ s.data.toList.length := by rw [Lib.size_eq]; exact ⟨Nat.le_refl _, Nat.le_refl _⟩
  go_enter Tryz.func34, Tryz.ntmps34
  go_wp2
  go_loopw [2] (fun v wr => ∃ pos n : Nat, v = .int .i64 n ∧ wr.heap[w.heap.size]? = some (.stringIter s pos) ∧ Below w.heap.size w wr ∧ pos ≤ s.size ∧ n ≤ pos ∧ Hid (U8.lead s.data.toList = (n + (U8.lead (s.data.toList.drop pos)).1, pos + (U8.lead (s.data.toList.drop pos)).2))) (fun _ wr => s.size - wr.iterPos w.heap.size)
  case atStart => exact ⟨0, 0, rfl, World.iter_heap w s 0, (Below.refl _ _).alloc (Nat.le_refl _) _, Nat.zero_le _, Nat.le_refl _, Lib.hid (by simp)⟩
  case round =>
    obtain ⟨pos, n, rfl, hit, hbw, hps, hnp, HS⟩ := hrel
    have hpos0 := Lib.hid (iterPos_of hit)
    by_cases hp : pos < s.size
    · have hnx : ∀ ty, (Instr.next (.pointer (some ⟨w.heap.size, 0, none⟩)) true ty).run Tryz.prog wr = _ := fun ty => Lib.run_next_any_at wr w.heap.size s pos ty hit hp
      have hit2 := Lib.iterAt_heap wr w.heap.size s pos (pos + (Utf8.decode s pos).2) hit
      have hbw2 := Lib.below_iterAt hbw (k := w.heap.size) (Nat.le_refl _) s (pos + (Utf8.decode s pos).2)
      have hz2 : wr.heap.size = (wr.iterAt w.heap.size s (pos + (Utf8.decode s pos).2)).heap.size := (Lib.iterAt_size _ _ _ _).symm
      obtain ⟨W1, hW1⟩ : ∃ W1, W1 = wr.iterAt w.heap.size s (pos + (Utf8.decode s pos).2) := ⟨_, rfl⟩
      rw [← hW1] at hnx hit2 hbw2 hz2
      rw [decode_drop] at hnx hit2
      have hne : s.data.toList.drop pos ≠ [] := by intro e; have := congrArg List.length e; simp at this; omega
      have hdl := dec_le (s.data.toList.drop pos)
      have hBW : w.heap.size < W1.heap.size := lt_of_block hit2
      have HB := Lib.hid (fun (w0 : World) (T0 : Tabs w0) => begins_any (s.extract pos s.size) ((U8.dec (s.data.toList.drop pos)).1 : Nat) w0 T0 (by omega) (by omega))
      rw [Lib.extract_to_end] at HB
      have HN := Lib.hid (U8.nx_dec hne)
      have T1 : Tabs W1 := T.below hbw2 (Nat.le_refl _)
      generalize U8.dec (s.data.toList.drop pos) = d at *
      obtain ⟨r, k⟩ := d
      simp only at hnx hit2 HB hdl
      generalize hb : U8.begB (s.data.toList.drop pos) (r : Int) = b at *
      have HZ := Lib.hid hz2
      clear hb hW1 hz2 hit hbw
      go_wp2_with fail
      refine (HB.out _ T1).mono ?_
      rintro e w2 ⟨rfl, hw2⟩
      have hit3 : w2.heap[w.heap.size]? = some (.stringIter s (pos + k)) := by rw [hw2.block _ hBW]; exact hit2
      have hbw3 : Below w.heap.size w w2 := hbw2.trans (hw2.mono (by omega))
      have hn := HN.out
      cases b with
      | true =>
        simp only [if_true] at hn
        have hok := U8.nx_ok hne (by rw [hn])
        have hgood := Lib.hid (U8.lead_good hne (by rw [hn]))
        rw [hn] at hok hgood
        have hlk : pos + k ≤ s.size := by have := hok.2.2.2.1; simp at this; omega
        have hk1 : 1 ≤ k := hok.2.2.1
        clear hok hn HN HB T1 hit2 hbw2 hw2 hnx hBW hle
        go_wp2
        go_roundw
        case rel =>
          refine ⟨pos + k, n + 1, by go_num, hit3, hbw3, hlk, by omega, Lib.hid ?_⟩
          rw [HS.out, hgood.out, List.drop_drop]
          simp only [Prod.mk.injEq]
          omega
        case measure =>
          rw [iterPos_of hit3, hpos0.out]
          omega
      | false =>
        simp only [Bool.false_eq_true, if_false] at hn
        have hl := U8.lead_bad (l := s.data.toList.drop pos) (by rw [hn]; decide)
        have hfin := HS.out
        rw [hl] at hfin
        have HF := Lib.hid hfin
        clear hn HN HB T1 hit2 hbw2 hw2 hnx hBW hl hfin
        go_wp2
        go_ret2
        exact ⟨by rw [HF.out]; rfl, hbw3⟩
    · have hnx : ∀ ty, (Instr.next (.pointer (some ⟨w.heap.size, 0, none⟩)) true ty).run Tryz.prog wr = _ := fun ty => Lib.run_next_end_at wr w.heap.size s pos ty hit hp
      have hfin := HS.out
      have hnil : s.data.toList.drop pos = [] := List.drop_of_length_le (by omega)
      rw [hnil, U8.lead_nil] at hfin
      have hpe : pos = s.size := by omega
      rw [hpe] at hfin
      have HF := Lib.hid hfin
      clear hfin hnil hpe HS
      go_wp2
      go_ret2
      exact ⟨by rw [HF.out]; rfl, hbw⟩

/-- What Valid answers. -/
def vld (l : List UInt8) : Int × Int := if (U8.lead l).2 < l.length then (((U8.lead l).2 : Int), 10) else (0, 0)

set_option maxHeartbeats 1000000 in
theorem valid_any (s : ByteArray) (w : World) (T : Tabs w) (hs : s.size ≤ maxLen) :
    Calls Tryz.prog 22 #[.string s] w fun e w' => e = .returned (.tuple #[.int .i64 (vld s.data.toList).1, .int .i64 (vld s.data.toList).2]) ∧ Below w.heap.size w w' := by
  have HL := Lib.hid (leading_any s w T hs)
  have hlen : s.data.toList.length = s.size := (Lib.size_eq s).symm
  have hle := (U8.lead_le _ s.data.toList (Nat.le_refl _)).2
  have hv : vld s.data.toList = if (U8.lead s.data.toList).2 < s.size then (((U8.lead s.data.toList).2 : Int), 10) else (0, 0) := by unfold vld; rw [hlen]
  rw [hlen] at hle
  unfold maxLen at hs
  clear hlen
  rw [hv]
  clear hv
  generalize U8.lead s.data.toList = d at *
  obtain ⟨n, z⟩ := d
  simp only at HL hle ⊢
  by_cases hz : z < s.size
  · rw [if_pos hz]
    have hz' : (z : Int) < (s.size : Int) := by omega
    go_enter Tryz.func22, Tryz.ntmps22
    go_wp2_with fail
    refine HL.out.mono ?_
    rintro e w1 ⟨rfl, hw1⟩
    go_wp2
    go_ret2
    exact ⟨rfl, hw1⟩
  · rw [if_neg hz]
    have hz' : ¬ (z : Int) < (s.size : Int) := by omega
    go_enter Tryz.func22, Tryz.ntmps22
    go_wp2_with fail
    refine HL.out.mono ?_
    rintro e w1 ⟨rfl, hw1⟩
    go_wp2
    go_ret2
    exact ⟨rfl, hw1⟩

end Go.Proofs.YthncfhakbobkkaaGreatDoor
