/- The document's answers for layer 1 (hopscotchref01), walked: each gives what the plain facts tell. No condition but that texts are of a length that fits. -/
import Derived.Test.YthncfhakbobkkaaGreatDoorU8Walk
import Derived.Deep.QuietTactic
import Derived.BigQuiet
import Derived.WalkSpells
import Derived.Laws.BytesArg
namespace Go.Proofs.YthncfhakbobkkaaGreatDoor
open Go.RowKit

set_option maxHeartbeats 400000 in
theorem is_any (c : Int) (w : World) (h0 : -2147483648 ≤ c) (h1 : c ≤ 2147483647) :
    Calls Tryz.prog 49 #[.int .i64 c] w fun e w' => e = .returned (.bool (U8.isCh c)) ∧ w = w' := by
  go_enter Tryz.func49, Tryz.ntmps49
  go_wp2
  all_goals go_ret
  all_goals exact ⟨ret_bool (by rw [Bool.eq_iff_iff, U8.isCh_iff]; simp; try omega), rfl⟩

/-- string([]byte{..}) of a row that was just made. -/
theorem conv_new (w : World) (xs : List Int) (cap : Nat) :
    (convert 51 9 (.slice (some ⟨w.heap.size, 0, none⟩) xs.length cap)).run Tryz.prog (w.alloc (.cells (xs.map (Value.int .u8)).toArray 5)) = .ok (.string ⟨(xs.map U8.toB).toArray⟩) (w.alloc (.cells (xs.map (Value.int .u8)).toArray 5)) := by
  have h := run_convert_bytes_arg (P := Tryz.prog) (w.alloc (.cells (xs.map (Value.int .u8)).toArray 5)) 51 5 Tryz.underlying51 Tryz.underlying5 w.heap.size 0 xs.length cap xs rfl (fun i hi => by
    have := World.cell?_alloc_mark w (xs.map (Value.int .u8)).toArray 5 (0, 0) (0 + i)
    rw [this]
    simp [hi]) 9 Tryz.underlying9
  exact h
theorem conv1 (w : World) (a : Int) : (convert 51 9 (.slice (some ⟨w.heap.size, 0, none⟩) 1 1)).run Tryz.prog (w.alloc (.cells #[.int .u8 a] 5)) = .ok (.string ⟨#[U8.toB a]⟩) (w.alloc (.cells #[.int .u8 a] 5)) := conv_new w [a] 1
theorem conv2 (w : World) (a b : Int) : (convert 51 9 (.slice (some ⟨w.heap.size, 0, none⟩) 2 2)).run Tryz.prog (w.alloc (.cells #[.int .u8 a, .int .u8 b] 5)) = .ok (.string ⟨#[U8.toB a, U8.toB b]⟩) (w.alloc (.cells #[.int .u8 a, .int .u8 b] 5)) := conv_new w [a, b] 2
theorem conv3 (w : World) (a b c : Int) : (convert 51 9 (.slice (some ⟨w.heap.size, 0, none⟩) 3 3)).run Tryz.prog (w.alloc (.cells #[.int .u8 a, .int .u8 b, .int .u8 c] 5)) = .ok (.string ⟨#[U8.toB a, U8.toB b, U8.toB c]⟩) (w.alloc (.cells #[.int .u8 a, .int .u8 b, .int .u8 c] 5)) := conv_new w [a, b, c] 3
theorem conv4 (w : World) (a b c d : Int) : (convert 51 9 (.slice (some ⟨w.heap.size, 0, none⟩) 4 4)).run Tryz.prog (w.alloc (.cells #[.int .u8 a, .int .u8 b, .int .u8 c, .int .u8 d] 5)) = .ok (.string ⟨#[U8.toB a, U8.toB b, U8.toB c, U8.toB d]⟩) (w.alloc (.cells #[.int .u8 a, .int .u8 b, .int .u8 c, .int .u8 d] 5)) := conv_new w [a, b, c, d] 4

set_option maxHeartbeats 1000000 in
theorem rput_any (c : Int) (w : World) (h0 : -2147483648 ≤ c) (h1 : c ≤ 2147483647) :
    Calls Tryz.prog 50 #[.int .i64 c] w fun e w' => e = .returned (.string ⟨(U8.put c).toArray⟩) ∧ Below w.heap.size w w' := by
  have hI := Lib.hid (is_any c w h0 h1)
  cases hc : U8.isCh c with
  | false =>
    rw [hc] at hI
    rw [U8.put_no hc]
    clear hc
    go_enter Tryz.func50, Tryz.ntmps50
    go_wp2_with fail
    refine hI.out.mono ?_
    rintro e w1 ⟨rfl, rfl⟩
    go_wp2
    go_ret
    exact ⟨rfl, Below.refl _ _⟩
  | true =>
    rw [hc] at hI
    have hb := U8.isCh_lo hc
    have HC := Lib.hid hc
    clear hc
    go_enter Tryz.func50, Tryz.ntmps50
    go_wp2_with fail
    refine hI.out.mono ?_
    rintro e w1 ⟨rfl, rfl⟩
    have k1 := conv1; have k2 := conv2; have k3 := conv3; have k4 := conv4
    have hp := Lib.hid (show U8.put c = (U8.putZ c).map U8.toB by unfold U8.put; rw [HC.out]; rfl)
    by_cases g1 : c ≤ 127
    · go_wp2
      go_ret
      exact ⟨by rw [hp.out, U8.putZ, if_pos (by omega)]; rfl, by go_grown⟩
    · by_cases g2 : c ≤ 2047
      · go_wp2
        go_ret
        exact ⟨by rw [hp.out, U8.putZ, if_neg (by omega), if_pos (by omega)]; rfl, by go_grown⟩
      · by_cases g3 : c ≤ 65535
        · go_wp2
          go_ret
          exact ⟨by rw [hp.out, U8.putZ, if_neg (by omega), if_neg (by omega), if_pos (by omega)]; rfl, by go_grown⟩
        · go_wp2
          go_ret
          exact ⟨by rw [hp.out, U8.putZ, if_neg (by omega), if_neg (by omega), if_neg (by omega)]; rfl, by go_grown⟩
end Go.Proofs.YthncfhakbobkkaaGreatDoor
