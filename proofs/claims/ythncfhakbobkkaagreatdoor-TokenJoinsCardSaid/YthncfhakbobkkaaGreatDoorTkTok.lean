/- Tokens of package token, walked: its answer is the plain facts', in new memory. Conditions: the tables hold what their texts lay; internal/bytealg.MaxLen holds a number; a text's length fits. -/
import Derived.Test.YthncfhakbobkkaaGreatDoorTkCut
import Derived.Test.YthncfhakbobkkaaGreatDoorU8Lead
namespace Go.Proofs.YthncfhakbobkkaaGreatDoor
open Go.RowKit

theorem CutP.from {R : List Tk.T × Nat × Int} {w w1 w' : World} {e : Ending} (hb : Below w.heap.size w w1) (h : CutP R w1 e w') : CutP R w e w' := by
  obtain ⟨v, ps, h1, h2, h3, h4⟩ := h
  exact ⟨v, ps, h1, h2.less hb.size, h3, hb.trans (h4.mono hb.size)⟩
set_option maxHeartbeats 1000000 in
theorem tokens_any (s : ByteArray) (hs : s.size ≤ maxLen) (w : World) (T : Tb w) (hmx : Mx w) :
    Calls Tryz.prog 10 #[.string s] w (CutP (Tk.toks s.data.toList) w) := by
  have hll : s.data.toList.length = s.size := (Lib.size_eq s).symm
  by_cases hbig : 65536 < s.size
  · have hR : Tk.toks s.data.toList = ([], 0, 3) := by unfold Tk.toks; rw [if_pos (by omega)]
    rw [hR]
    have hb' : (65536 : Int) < (s.size : Int) := by omega
    clear hR
    go_enter Tryz.func10, Tryz.ntmps10
    go_wp2
    go_ret3
    exact ⟨_, [], rfl, TokRow.nil _ _, rfl, Below.refl _ _⟩
  · have hb' : ¬ (65536 : Int) < (s.size : Int) := by omega
    have HV := Lib.hid (valid_any s w T.t hs)
    have hle := (U8.lead_le s.data.toList.length s.data.toList (Nat.le_refl _)).2
    by_cases hv : (U8.lead s.data.toList).2 = s.data.toList.length
    · have hR : Tk.toks s.data.toList = Tk.cutT s.data.toList := Tk.toks_of (by omega) hv
      have hvl : vld s.data.toList = (0, 0) := by unfold vld; rw [if_neg (by omega)]
      rw [hR]
      rw [hvl] at HV
      have HT := Lib.hid T
      have HM := Lib.hid hmx
      have HC := Lib.hid (fun w0 (T0 : Tb w0) (M0 : Mx w0) => cut_any4 s (by omega) w0 T0 M0)
      clear hR hvl hv hle hll T hmx
      go_enter Tryz.func10, Tryz.ntmps10
      go_wp2_with fail
      refine HV.out.mono ?_
      rintro e w1 ⟨rfl, h1⟩
      have T1 := HT.out.below h1 (Nat.le_refl _)
      have M1 := HM.out.below h1
      go_wp2_with fail
      refine (HC.out _ T1 M1).mono ?_
      rintro e w2 h2
      obtain ⟨v, ps, hp1, hp2, rfl, hp3⟩ := h2.from h1
      have HP := Lib.hid (And.intro hp1 (And.intro hp2 hp3))
      clear hp1 hp2 hp3 h1 T1 M1 h2
      go_wp2
      go_ret3
      exact ⟨v, ps, HP.out.1, HP.out.2.1, rfl, HP.out.2.2⟩
    · have hR : Tk.toks s.data.toList = ([], (U8.lead s.data.toList).2, 10) := by unfold Tk.toks; rw [if_neg (by omega), if_pos hv]
      have hvl : vld s.data.toList = (((U8.lead s.data.toList).2 : Int), 10) := by unfold vld; rw [if_pos (by omega)]
      rw [hR]
      rw [hvl] at HV
      clear hR hvl hv hle hll
      go_enter Tryz.func10, Tryz.ntmps10
      go_wp2_with fail
      refine HV.out.mono ?_
      rintro e w1 ⟨rfl, h1⟩
      go_wp2
      go_ret3
      exact ⟨_, [], rfl, TokRow.nil _ _, rfl, h1⟩
end Go.Proofs.YthncfhakbobkkaaGreatDoor
