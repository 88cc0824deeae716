/- The reference's remark of layer 4, walked: it answers what the plain facts tell. Condition: a text's length fits (at most 1,000,000 bytes). -/
import Derived.Test.YtpdoegafjfhiiaaGreatDoorTkR2
import Derived.Test.YtpdoegafjfhiiaaGreatDoorTkRem
namespace Go.Proofs.YtpdoegafjfhiiaaGreatDoor
open Go.RowKit

theorem rem_val {l : List UInt8} {p n : Nat} {t : List UInt8} (_hn : p + n ≤ l.length) : (fnd l (p + n) t < 0 ∧ remB (l.drop p) n t = 0) ∨ (0 ≤ fnd l (p + n) t ∧ fnd l (p + n) t + t.length - p = remB (l.drop p) n t ∧ fnd l (p + n) t ≤ l.length) := by
  unfold fnd remB
  rw [List.drop_drop]
  by_cases h : 0 ≤ Lib.index (l.drop (p + n)) t
  · right
    have hr := Lib.index_room _ _ h
    rw [List.length_drop] at hr
    rw [if_pos h, if_pos h]
    exact ⟨by omega, by omega, by omega⟩
  · left
    rw [if_neg h, if_neg h]
    exact ⟨by omega, rfl⟩

set_option maxHeartbeats 4000000 in
set_option maxRecDepth 100000 in
theorem rremark_any (s : ByteArray) (p : Nat) (w : World) (hs : s.size ≤ 1000000) (hp : p ≤ s.size) :
    Calls Tryz.prog 35 #[.string s, .int .i64 p] w fun e w' => e = .returned (.int .i64 (Tk.rem (s.data.toList.drop p))) ∧ w = w' := by
  have hll : s.data.toList.length = s.size := (Lib.size_eq s).symm
  have hs' : (s.size : Int) ≤ 1000000 := by omega
  have hp' : (p : Int) ≤ (s.size : Int) := by omega
  obtain ⟨l, hl⟩ : ∃ l, l = s.data.toList.drop p := ⟨_, rfl⟩
  have HA := Lib.hid (fun w0 => has_any s m00 p w0 hs (by decide) hp)
  have HB := Lib.hid (fun w0 => has_any s m10 p w0 hs (by decide) hp)
  rw [show m00.data.toList = [60, 33, 45, 45] from rfl, ← hl] at HA
  rw [show m10.data.toList = [60, 63] from rfl, ← hl] at HB
  rw [← hl]
  cases hy : Lib.hasPrefix l [60, 33, 45, 45] with
  | true =>
    have hlen : p + 4 ≤ s.size := by have := Tk.hp_len hy; rw [hl, List.length_drop, hll] at this; simp at this; omega
    have hno : Lib.hasPrefix l [60, 63] = false := by
      cases e : Lib.hasPrefix l [60, 63] with
      | false => rfl
      | true =>
        have h1 := Tk.hp4_second hy
        rw [Tk.hp2_second e] at h1; cases h1
    rw [hy] at HA
    rw [hno] at HB
    have HF := Lib.hid (fun w0 => find_any s m01 (p + 4) w0 hs (by decide) (by decide) hlen)
    have hv := rem_val (l := s.data.toList) (p := p) (n := 4) (t := m01.data.toList) (by omega)
    rw [← hl] at hv
    rw [rem_of0 hy]
    rw [show ([45, 45, 62] : List UInt8) = m01.data.toList from rfl]
    have hlen' : (p : Int) + 4 ≤ (s.size : Int) := by omega
    simp only [Int.natCast_add, Int.cast_ofNat_Int] at HF
    generalize fnd s.data.toList (p + 4) m01.data.toList = F at *
    generalize remB l 4 m01.data.toList = R at *
    clear hy hno hl hlen
    rcases hv with ⟨h1, h2⟩ | ⟨h1, h2, h3⟩
    · subst h2
      have h1' : ¬ 0 ≤ F := by omega
      clear h1
      go_enter Tryz.func35, Tryz.ntmps35
      go_wp2_with fail
      refine (HA.out _).mono ?_
      rintro e w1 ⟨rfl, rfl⟩
      go_wp2_with fail
      refine (HF.out _).mono ?_
      rintro e w1 ⟨rfl, rfl⟩
      go_wp2_with fail
      refine (HB.out _).mono ?_
      rintro e w1 ⟨rfl, rfl⟩
      go_wp2
      go_ret
      exact ⟨rfl, rfl⟩
    · have h2' : F + 3 - (p : Int) = (R : Int) := h2
      have h3' : F ≤ 1000000 := by omega
      have H2 := Lib.hid h2'
      clear h2 h2' h3
      go_enter Tryz.func35, Tryz.ntmps35
      go_wp2_with fail
      refine (HA.out _).mono ?_
      rintro e w1 ⟨rfl, rfl⟩
      go_wp2_with fail
      refine (HF.out _).mono ?_
      rintro e w1 ⟨rfl, rfl⟩
      go_wp2
      go_ret
      exact ⟨by rw [← H2.out]; rfl, rfl⟩
  | false =>
    rw [hy] at HA
    cases hz : Lib.hasPrefix l [60, 63] with
    | true =>
      have hlen : p + 2 ≤ s.size := by have := Tk.hp_len hz; rw [hl, List.length_drop, hll] at this; simp at this; omega
      rw [hz] at HB
      have HF := Lib.hid (fun w0 => find_any s m11 (p + 2) w0 hs (by decide) (by decide) hlen)
      have hv := rem_val (l := s.data.toList) (p := p) (n := 2) (t := m11.data.toList) (by omega)
      rw [← hl] at hv
      rw [rem_of1 hy hz]
      rw [show ([63, 62] : List UInt8) = m11.data.toList from rfl]
      have hlen' : (p : Int) + 2 ≤ (s.size : Int) := by omega
      simp only [Int.natCast_add, Int.cast_ofNat_Int] at HF
      generalize fnd s.data.toList (p + 2) m11.data.toList = F at *
      generalize remB l 2 m11.data.toList = R at *
      clear hy hz hl hlen
      rcases hv with ⟨h1, h2⟩ | ⟨h1, h2, h3⟩
      · subst h2
        have h1' : ¬ 0 ≤ F := by omega
        clear h1
        go_enter Tryz.func35, Tryz.ntmps35
        go_wp2_with fail
        refine (HA.out _).mono ?_
        rintro e w1 ⟨rfl, rfl⟩
        go_wp2_with fail
        refine (HB.out _).mono ?_
        rintro e w1 ⟨rfl, rfl⟩
        go_wp2_with fail
        refine (HF.out _).mono ?_
        rintro e w1 ⟨rfl, rfl⟩
        go_wp2
        go_ret
        exact ⟨rfl, rfl⟩
      · have h2' : F + 2 - (p : Int) = (R : Int) := h2
        have h3' : F ≤ 1000000 := by omega
        have H2 := Lib.hid h2'
        clear h2 h2' h3
        go_enter Tryz.func35, Tryz.ntmps35
        go_wp2_with fail
        refine (HA.out _).mono ?_
        rintro e w1 ⟨rfl, rfl⟩
        go_wp2_with fail
        refine (HB.out _).mono ?_
        rintro e w1 ⟨rfl, rfl⟩
        go_wp2_with fail
        refine (HF.out _).mono ?_
        rintro e w1 ⟨rfl, rfl⟩
        go_wp2
        go_ret
        exact ⟨by rw [← H2.out]; rfl, rfl⟩
    | false =>
      rw [hz] at HB
      rw [rem_of2 hy hz]
      clear hy hz hl
      go_enter Tryz.func35, Tryz.ntmps35
      go_wp2_with fail
      refine (HA.out _).mono ?_
      rintro e w1 ⟨rfl, rfl⟩
      go_wp2_with fail
      refine (HB.out _).mono ?_
      rintro e w1 ⟨rfl, rfl⟩
      go_wp2
      go_ret
      exact ⟨rfl, rfl⟩
end Go.Proofs.YtpdoegafjfhiiaaGreatDoor
