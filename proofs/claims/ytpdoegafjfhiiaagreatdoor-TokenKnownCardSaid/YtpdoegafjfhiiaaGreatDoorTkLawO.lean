/- The statement TokenOrder, walked: it answers true. Conditions: the tables hold what their texts lay; internal/bytealg.MaxLen holds a number; a text's length fits. -/
import Derived.Test.YtpdoegafjfhiiaaGreatDoorTkIs
namespace Go.Proofs.YtpdoegafjfhiiaaGreatDoor
open Go.RowKit

def lastP (ps : List (Tk.T × Value)) : Nat → Int
  | 0 => -1
  | k + 1 => match ps[k]? with
    | some x => (x.1.p : Int)
    | none => -1
theorem lastP_succ {ps : List (Tk.T × Value)} {k : Nat} (hk : k < ps.length) : lastP ps (k + 1) = (ps[k].1.p : Int) := by
  show (match ps[k]? with | some x => (x.1.p : Int) | none => -1) = _
  rw [List.getElem?_eq_getElem hk]
theorem last_lt {L : List UInt8} {n : Nat} {ps : List (Tk.T × Value)} (h : Tk.Ord L n (ps.map (·.1))) {k : Nat} (hk : k < ps.length) : lastP ps k < (ps[k].1.p : Int) := by
  cases k with
  | zero => show (-1 : Int) < _; omega
  | succ k =>
    rw [lastP_succ (by omega)]
    have := List.pairwise_iff_getElem.1 h.2 k (k + 1) (by simp; omega) (by simpa using hk) (by omega)
    simp only [List.getElem_map] at this
    omega
theorem ord_ge {L : List UInt8} {n : Nat} {ts : List Tk.T} (h : Tk.Ord L n ts) : ∀ (k : Nat) (hk : k < ts.length), k ≤ ts[k].p
  | 0, _ => Nat.zero_le _
  | k + 1, hk => by
    have h1 := ord_ge h k (by omega)
    have h2 := List.pairwise_iff_getElem.1 h.2 k (k + 1) (by omega) hk (by omega)
    omega
theorem ord_len {L : List UInt8} {n : Nat} {ts : List Tk.T} (h : Tk.Ord L n ts) : ts.length ≤ n := by
  rcases Nat.eq_zero_or_pos ts.length with h0 | h0
  · omega
  · have h1 := ord_ge h (ts.length - 1) (by omega)
    have h2 := (h.1 _ (List.getElem_mem (show ts.length - 1 < ts.length by omega))).2
    omega
theorem last_bd {ps : List (Tk.T × Value)} {L : List UInt8} (h : Tk.Ord L L.length (ps.map (·.1))) (k : Nat) (hk : k ≤ ps.length) : -1 ≤ lastP ps k ∧ lastP ps k ≤ L.length := by
  cases k with
  | zero => exact ⟨Int.le_refl _, by show (-1 : Int) ≤ _; omega⟩
  | succ k =>
    rw [lastP_succ (by omega)]
    have hm : ps[k].1 ∈ ps.map (·.1) := List.mem_map_of_mem (List.getElem_mem (by omega))
    have := (h.1 _ hm).2
    omega

set_option maxHeartbeats 8000000 in
set_option maxRecDepth 100000 in
theorem lawOrder (s : ByteArray) (w : World) (T : Tb w) (hmx : Mx w) (hs : s.size ≤ maxLen) :
    Calls Tryz.prog 6 #[.string s] w fun e w' => e = .returned (.bool true) ∧ Below w.heap.size w w' := by
  have HW := Lib.hid (fun w0 (T0 : Tb w0) (M0 : Mx w0) => works_tk w0 T0 M0)
  by_cases hbig : 800 < s.size
  · have hb' : (800 : Int) < (s.size : Int) := by omega
    go_enter Tryz.func6, Tryz.ntmps6
    go_wp2_with fail
    refine (HW.out _ T hmx).mono ?_
    rintro e w1 ⟨rfl, h1⟩
    go_wp2
    go_ret
    exact ⟨rfl, h1⟩
  · have hb' : ¬ (800 : Int) < (s.size : Int) := by omega
    have HTK := Lib.hid (tokens_any s hs w T hmx)
    have HT := Lib.hid (And.intro T hmx)
    have hll : s.data.toList.length = s.size := (Lib.size_eq s).symm
    obtain ⟨ho1, ho2⟩ := Tk.toks_ord s.data.toList
    obtain ⟨R, hR⟩ : ∃ R, R = Tk.toks s.data.toList := ⟨_, rfl⟩
    rw [← hR] at HTK ho1 ho2
    obtain ⟨ts, at_, E⟩ := R
    simp only at ho1 ho2
    clear hR T hmx
    by_cases hE : E = 0
    · subst hE
      obtain ⟨hord, rfl⟩ := ho1 rfl
      clear ho1 ho2
      have HO := Lib.hid hord
      clear hord
      go_enter Tryz.func6, Tryz.ntmps6
      go_wp2_with fail
      refine HTK.out.mono ?_
      rintro e w1 ⟨v, ps, hm, hrow, rfl, hb⟩
      obtain ⟨A, cap, rfl, hcell, _, _, _⟩ := own_slice hrow.own
      simp only at hm
      subst hm
      have hpsl : (ps.length : Int) ≤ 800 := by
        have := ord_len HO.out
        rw [List.length_map, hll] at this
        omega
      have HRW := Lib.hid hrow
      have HCL := Lib.hid hcell
      have HB := Lib.hid hb
      have HT1 := Lib.hid (And.intro (HT.out.1.below hb (Nat.le_refl _)) (HT.out.2.below hb))
      clear hrow hcell hb
      go_wp2
      go_loopw [6, 7] (fun last i wr => ∃ k : Nat, k ≤ ps.length ∧ i = .int .i64 k ∧ last = .int .i64 (lastP ps k) ∧ Hid (Below w1.heap.size w1 wr)) (fun _ i _ => ps.length - (intOf i).toNat)
      case atStart => exact ⟨0, Nat.zero_le _, rfl, rfl, Lib.hid (Below.refl _ _)⟩
      case round =>
        obtain ⟨k, hk, rfl, rfl, HBR⟩ := hrel
        by_cases hlt : k < ps.length
        · obtain ⟨g, hA, hgl, _, hc⟩ := HCL.out (by omega)
          subst hA
          have c0 := hc _ _ (tok_at ps k 0 hlt (by omega))
          have c1 := hc _ _ (tok_at ps k 1 hlt (by omega))
          have c2 := hc _ _ (tok_at ps k 2 hlt (by omega))
          have c4 := hc _ _ (tok_at ps k 4 hlt (by omega))
          have hlast := last_lt HO.out hlt
          have hlb := last_bd HO.out k hk
          have hmem : ps[k].1 ∈ ps.map (·.1) := List.mem_map_of_mem (List.getElem_mem hlt)
          obtain ⟨hok, hpl⟩ := HO.out.1 _ hmem
          obtain ⟨A2, cap2, hav, _, _, _, _⟩ := own_slice (HRW.out.att _ (List.getElem_mem hlt))
          have hnext := lastP_succ hlt
          generalize ps[k] = x at *
          obtain ⟨⟨K, nm, al, tx, P⟩, av⟩ := x
          simp only [Nat.add_zero] at c0 c1 c2 c4 hlast hok hpl hav hnext
          unfold Tk.OkT at hok
          simp only at hok
          subst hav
          have HNX := Lib.hid hnext
          rw [hll] at hpl
          have hpl' : (P : Int) < (s.size : Int) := by omega
          have hP0 : (0 : Int) ≤ (P : Int) := by omega
          have hl1 : ¬ (P : Int) ≤ lastP ps k := by omega
          obtain ⟨o1, o2, o3, o4, o5, o6⟩ := hok
          have hg : s.data.toList[P]? = some s[P] := Lib.data_getElem? s P hpl
          rw [hg] at o1
          have hlt' : (k : Int) < (ps.length : Int) := by omega
          obtain ⟨N, hN⟩ : ∃ N : ByteArray, N = ⟨nm.toArray⟩ := ⟨_, rfl⟩
          have c1' : wr.cell? ⟨g, k * 5 + 1, none⟩ = some (.string N) := (HBR.out.cell (p := ⟨g, k * 5 + 1, none⟩) hgl).trans (by rw [hN]; exact c1)
          have c0' : wr.cell? ⟨g, k * 5, none⟩ = some (.int .u8 K) := (HBR.out.cell (p := ⟨g, k * 5, none⟩) hgl).trans (c0)
          have c2' : wr.cell? ⟨g, k * 5 + 2, none⟩ = some (.slice A2 al.length cap2) := (HBR.out.cell (p := ⟨g, k * 5 + 2, none⟩) hgl).trans (c2)
          have c4' : wr.cell? ⟨g, k * 5 + 4, none⟩ = some (.int .i64 P) := (HBR.out.cell (p := ⟨g, k * 5 + 4, none⟩) hgl).trans (c4)
          have ha32 : ¬ (32 : Int) < (al.length : Int) := by omega
          have HN := Lib.hid hN
          clear c0 c1 c2 c4 hg hmem hc hlast hlb hnext hN
          have hbyte : ∀ K : Int, ((some s[P] == some 60) = true ↔ K ≠ 4) → (K = 4 → ((s[P].toNat : Int) == 60) = false) ∧ (K ≠ 4 → ((s[P].toNat : Int) == 60) = true) := by
            intro K h
            constructor
            · intro h4
              apply beq_eq_false_iff_ne.2
              intro e
              have : s[P] = 60 := by apply UInt8.toNat_inj.1; show s[P].toNat = 60; omega
              rw [this] at h
              exact h.1 rfl h4
            · intro h4
              have := h.2 h4
              have e : s[P] = 60 := by simpa using this
              rw [e]; rfl
          have hb := hbyte K o1
          clear hbyte o1
          by_cases hK : K = 4
          · subst hK
            have hs60 := hb.1 rfl
            have hNz : N = ⟨#[]⟩ := by rw [HN.out, o4.2 rfl]
            subst hNz
            have ha0 : ¬ (0 : Int) < (al.length : Int) := by
              have : al = [] := Classical.byContradiction fun h => by have := o6 h; omega
              rw [this]; simp
            clear hb o2 o3 o4 o6
            go_wp2_with fail
            go_quiet (fail)
            go_wp2
            go_roundw
            case rel => exact ⟨k + 1, by omega, by go_num, by rw [HNX.out], Lib.hid (below_drewN HBR.out _)⟩
            case measure => simp [intOf]; omega
          · have hs60 := hb.2 hK
            have hnn : nm ≠ [] := fun e => hK (o4.1 e)
            have hNe : N.toList.isEmpty = false := isEmpty_iff (by rw [HN.out]) hnn
            have hNe2 : N.toList ≠ [] := by intro e; rw [e] at hNe; cases hNe
            have hk4 : (K == 4) = false := beq_eq_false_iff_ne.2 hK
            have HAL := Lib.hid (show 0 < al.length → (K == 2) = false from fun h => by
              have h1 := o6 (fun e => by rw [e] at h; exact absurd h (by simp))
              apply beq_eq_false_iff_ne.2
              omega)
            have hk4' : (K != 4) = true := by simp [bne, hk4]
            have hd1 : decide (K < 1) = false := decide_eq_false (by omega)
            have hd2 : decide (4 < K) = false := decide_eq_false (by omega)
            clear hb o4 o6 hnn hK
            go_wp2_with fail
            go_quiet (fail)
            by_cases ha0 : (0 : Int) < (al.length : Int)
            · have hk2 := HAL.out (by omega)
              go_wp2
              go_roundw
              case rel => exact ⟨k + 1, by omega, by go_num, by rw [HNX.out], Lib.hid (below_drewN HBR.out _)⟩
              case measure => simp [intOf]; omega
            ·
              go_wp2
              go_roundw
              case rel => exact ⟨k + 1, by omega, by go_num, by rw [HNX.out], Lib.hid (below_drewN HBR.out _)⟩
              case measure => simp [intOf]; omega
        · go_wp2_with fail
          refine (HW.out _ (HT1.out.1.below HBR.out (Nat.le_refl _)) (HT1.out.2.below HBR.out)).mono ?_
          rintro e w2 ⟨rfl, h2⟩
          have B2 := HB.out.trans ((HBR.out.trans (h2.mono HBR.out.size)).mono HB.out.size)
          go_wp2
          go_ret
          exact ⟨rfl, B2⟩
    · obtain ⟨rfl, hpl⟩ := ho2 hE
      have hE' : (E == 0) = false := beq_eq_false_iff_ne.2 hE
      have hpl' : (at_ : Int) ≤ (s.size : Int) := by omega
      have hpl2 : (0 : Int) ≤ (at_ : Int) := by omega
      clear ho1 ho2 hE
      go_enter Tryz.func6, Tryz.ntmps6
      go_wp2_with fail
      refine HTK.out.mono ?_
      rintro e w1 ⟨v, ps, hm, hrow, rfl, hb⟩
      obtain rfl := map_nil_ hm
      obtain ⟨A, cap, rfl, _, _, _, _⟩ := own_slice hrow.own
      have HB := Lib.hid hb
      have HT1 := Lib.hid (And.intro (HT.out.1.below hb (Nat.le_refl _)) (HT.out.2.below hb))
      clear hrow hm hb
      go_wp2_with fail
      refine (HW.out _ HT1.out.1 HT1.out.2).mono ?_
      rintro e w2 ⟨rfl, h2⟩
      have B2 := Lib.hid (HB.out.trans (h2.mono HB.out.size))
      clear h2
      go_wp2
      go_ret
      exact ⟨rfl, B2.out⟩
end Go.Proofs.YtpdoegafjfhiiaaGreatDoor
