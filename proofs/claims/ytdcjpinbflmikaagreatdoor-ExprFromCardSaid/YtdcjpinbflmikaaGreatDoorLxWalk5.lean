/- Layer 7's program: Is, blanks. Conditions: the table of signs holds what its text lays; a text's length fits. -/
import Derived.Test.YtdcjpinbflmikaaGreatDoorLxWalk4
import Derived.Test.YtdcjpinbflmikaaGreatDoorLxRef2
namespace Go.Proofs.YtdcjpinbflmikaaGreatDoor
open Go.RowKit

set_option maxHeartbeats 1000000 in
theorem is_any (s : ByteArray) (w : World) (hs : s.size ≤ maxLen) (h : Sg w) :
    Calls Tryz.prog 146 #[.string s] w fun e w' => e = .returned (.int .u8 (Lx.is s.data.toList)) ∧ Below w.heap.size w w' := by
  have HF := Lib.hid (first_any s w hs h)
  have HE := Lib.hid (Lx.is_fst s.data.toList)
  rw [← Lib.size_eq] at HE
  generalize Lx.is s.data.toList = R at *
  generalize Lx.fst s.data.toList = d at *
  obtain ⟨k, n⟩ := d
  simp only at HF HE
  clear h
  by_cases c : n < s.size
  · have c' : (n : Int) < (s.size : Int) := by omega
    have HR := Lib.hid (show R = 0 by rw [HE.out, if_pos c])
    clear c HE
    go_enter Tryz.func146, Tryz.ntmps146
    go_wp2_with fail
    refine HF.out.mono ?_
    rintro e w1 ⟨rfl, b⟩
    go_wp2
    go_ret
    exact ⟨by rw [HR.out]; rfl, b⟩
  · have c' : ¬ (n : Int) < (s.size : Int) := by omega
    have HR := Lib.hid (show R = k by rw [HE.out, if_neg c])
    clear c HE
    go_enter Tryz.func146, Tryz.ntmps146
    go_wp2_with fail
    refine HF.out.mono ?_
    rintro e w1 ⟨rfl, b⟩
    go_wp2
    go_ret
    exact ⟨by rw [HR.out]; rfl, b⟩

/-! ### blanks -/
namespace Lx
def nt (c : UInt8) : Bool := decide (c.toNat ≠ 10)
def dash (l : List UInt8) : Bool := Lib.hasPrefix l [45, 45]
def stop (l : List UInt8) : Nat := if dash l then blk true l else 0
theorem blk_run : ∀ l : List UInt8, blk false l = run isB l + stop (l.drop (run isB l))
  | [] => rfl
  | c :: r => by
    have ih := blk_run r
    cases hb : isB c with
    | true =>
      rw [blk_b hb]
      unfold run
      rw [if_pos hb, Nat.add_comm 1 (run isB r), List.drop_succ_cons]
      omega
    | false =>
      have hr : run isB (c :: r) = 0 := by unfold run; rw [if_neg (by rw [hb]; decide)]
      rw [hr, List.drop_zero, Nat.zero_add]
      unfold stop
      have hm : dash (c :: r) = rmk (c :: r) := by
        unfold dash rmk Lib.hasPrefix
        cases r with
        | nil => simp [List.isPrefixOf]
        | cons d r =>
          have e : ∀ x : UInt8, ((45 : UInt8) == x) = decide (x.toNat = 45) := fun x => by
            rw [Bool.eq_iff_iff, beq_iff_eq, decide_eq_true_iff]
            exact ⟨fun h => by rw [← h]; rfl, fun h => (UInt8.toNat_inj.1 h).symm⟩
          show ((45 == c) && ((45 == d) && List.isPrefixOf [] r)) = _
          rw [e, e, show List.isPrefixOf [] r = true from rfl, Bool.and_true]
      cases hk : rmk (c :: r) with
      | true => rw [hm, hk, if_pos rfl, (blk_rem hk).1]
      | false => rw [hm, hk, if_neg (by decide), blk_stop hb hk]
theorem isB_ten {c : UInt8} (h : c.toNat = 10) : isB c = true := decide_eq_true (by omega)
theorem blk_line : ∀ l : List UInt8, blk true l = run nt l + blk false (l.drop (run nt l))
  | [] => rfl
  | c :: r => by
    have ih := blk_line r
    by_cases h : c.toNat = 10
    · have hr : run nt (c :: r) = 0 := by unfold run; rw [if_neg (by unfold nt; simp [h])]
      rw [hr, blk_ten h, List.drop_zero, Nat.zero_add]
    · rw [blk_on h]
      unfold run
      rw [if_pos (by unfold nt; simp [h]), Nat.add_comm 1 (run nt r), List.drop_succ_cons]
      omega
theorem dash_one {l : List UInt8} (h : dash l = true) : 1 ≤ run nt l := by
  cases l with
  | nil => exact absurd h (by decide)
  | cons c r =>
    have hc : c = 45 := by
      unfold dash Lib.hasPrefix at h
      simp [List.isPrefixOf] at h
      exact h.1.symm
    subst hc
    unfold run
    rw [if_pos (by decide)]
    omega
end Lx
def spB : ByteArray := ⟨#[32, 9, 10, 13]⟩
theorem sp_mem (c : UInt8) : Lx.isB c = true ↔ c ∈ spB.data.toList := by
  have e : ∀ (x : UInt8), c = x ↔ c.toNat = x.toNat := fun x => ⟨fun h => by rw [h], fun h => UInt8.toNat_inj.1 h⟩
  show Lx.isB c = true ↔ c ∈ [32, 9, 10, 13]
  unfold Lx.isB
  rw [decide_eq_true_iff]
  simp only [List.mem_cons, List.not_mem_nil, or_false]
  rw [e, e, e, e]
  show _ ↔ c.toNat = 32 ∨ c.toNat = 9 ∨ c.toNat = 10 ∨ c.toNat = 13
  omega
theorem nt_iff (c : UInt8) : Lx.nt c = true ↔ c.toNat ≠ 10 := by unfold Lx.nt; rw [decide_eq_true_iff]
set_option maxHeartbeats 4000000 in
set_option maxRecDepth 100000 in
theorem blanks_any (s : ByteArray) (w : World) (hs : s.size ≤ 1000000000) :
    Calls Tryz.prog 108 #[.string s] w fun e w' => e = .returned (.int .i64 (Lx.blk false s.data.toList)) ∧ Below w.heap.size w w' := by
  have HL := Lib.hid (Lib.size_eq s)
  have HSP := Lib.hid (fun (b : Nat) (t : ByteArray) w0 (ht : t.size ≤ maxLen) (h0 : w0.cell? ⟨b, 0, none⟩ = some (.string spB)) => lead_among (I := fun w => w.cell? ⟨b, 0, none⟩ = some (.string spB)) (fun _ _ h b => cell_below b (Nat.le_refl _) h) #[.pointer (some ⟨b, 0, none⟩)] Lx.isB (among_fits b spB Lx.isB sp_mem) t w0 ht h0)
  have HLI := Lib.hid (fun (t : ByteArray) w0 (ht : t.size ≤ maxLen) => lead_line (I := fun _ => True) (fun _ _ _ _ => True.intro) #[] Lx.nt (line_fits _ Lx.nt nt_iff) t w0 ht True.intro)
  have HPX := Lib.hid (fun (t : ByteArray) w0 => show Calls Tryz.prog 170 #[.string t, .string ⟨#[45, 45]⟩] w0 fun e w' => e = .returned (.bool (Lx.dash t.data.toList)) ∧ w' = w0 from Tryz.strings_HasPrefix t ⟨#[45, 45]⟩ w0)
  have hsm : s.size ≤ maxLen := by unfold maxLen; omega
  obtain ⟨R, hR⟩ : ∃ R, R = Lx.blk false s.data.toList := ⟨_, rfl⟩
  rw [← hR]
  have HR := Lib.hid (hR.trans (Lx.blk_run _))
  have hr1 := Lx.run_le Lx.isB s.data.toList
  rw [← HL.out] at hr1
  obtain ⟨n0, hn0⟩ : ∃ n0, n0 = Lx.run Lx.isB s.data.toList := ⟨_, rfl⟩
  rw [← hn0] at HR hr1
  have HN0 := Lib.hid hn0
  clear hR hn0
  go_enter Tryz.func108, Tryz.ntmps108
  go_wp2_with fail
  refine (among_new spB w).mono ?_
  rintro e w1 ⟨b, rfl, hc, b1⟩
  have H1 := Lib.hid (And.intro b1 hc)
  clear hc b1
  go_wp2_with fail
  refine (HSP.out b s w1 hsm H1.out.2).mono ?_
  rintro e w2 ⟨rfl, b1⟩
  have H2 := Lib.hid (And.intro (H1.out.1.trans (b1.mono H1.out.1.size)) (cell_below b1 (Nat.le_refl _) H1.out.2))
  rw [← HN0.out]
  clear b1 H1
  go_wp2
  go_loopw [5] (fun i wr => ∃ n : Nat, i = .int .i64 n ∧ n ≤ s.size ∧ Hid (R = n + Lx.stop (s.data.toList.drop n)) ∧ Hid (Below w.heap.size w wr ∧ wr.cell? ⟨b, 0, none⟩ = some (.string spB))) (fun i _ => s.size - (intOf i).toNat)
  case atStart => exact ⟨n0, rfl, hr1, HR, H2⟩
  case round =>
    clear hr1 H2
    obtain ⟨n, rfl, hn, HI, HB⟩ := hrel
    have hn' : (n : Int) ≤ (s.size : Int) := by omega
    have hd : (s.extract n s.size).data.toList = s.data.toList.drop n := Lib.extract_to_end s n
    have HP := Lib.hid (HPX.out (s.extract n s.size) wr)
    have HLN := Lib.hid (fun w0 => HLI.out (s.extract n s.size) w0 (by rw [ByteArray.size_extract]; unfold maxLen; omega))
    rw [hd] at HP HLN
    cases hp : Lx.dash (s.data.toList.drop n) with
    | false =>
      rw [hp] at HP
      have HE := Lib.hid (show R = n by rw [HI.out]; unfold Lx.stop; rw [hp, if_neg (by decide)]; rfl)
      clear hp hd
      go_wp2_with fail
      refine HP.out.mono ?_
      rintro e w3 ⟨rfl, rfl⟩
      go_wp2
      go_ret
      exact ⟨ret_int (by rw [HE.out]), HB.out.1⟩
    | true =>
      rw [hp] at HP
      have h1 := Lx.dash_one hp
      have h2 := Lx.run_le Lx.nt (s.data.toList.drop n)
      rw [List.length_drop, ← HL.out] at h2
      have h3 : R = n + Lx.blk true (s.data.toList.drop n) := by rw [HI.out]; unfold Lx.stop; rw [hp, if_pos rfl]
      rw [Lx.blk_line] at h3
      obtain ⟨m, hm⟩ : ∃ m, m = Lx.run Lx.nt (s.data.toList.drop n) := ⟨_, rfl⟩
      rw [← hm] at h1 h2 h3 HLN
      rw [List.drop_drop, Lx.blk_run, List.drop_drop] at h3
      have hnm : n + m ≤ s.size := by omega
      have h4 := Lx.run_le Lx.isB (s.data.toList.drop (n + m))
      rw [List.length_drop, ← HL.out] at h4
      have hd2 : (s.extract (n + m) s.size).data.toList = s.data.toList.drop (n + m) := Lib.extract_to_end s (n + m)
      have HSX := Lib.hid (fun w0 h0 => HSP.out b (s.extract (n + m) s.size) w0 (by rw [ByteArray.size_extract]; unfold maxLen; omega) h0)
      rw [hd2] at HSX
      obtain ⟨q, hq⟩ : ∃ q, q = Lx.run Lx.isB (s.data.toList.drop (n + m)) := ⟨_, rfl⟩
      rw [← hq] at h3 h4 HSX
      have HE := Lib.hid (show R = (n + m + q : Nat) + Lx.stop (s.data.toList.drop (n + m + q)) by omega)
      have h5 : n + m + q ≤ s.size := by omega
      clear h3 hm hq hd hd2 hp
      have hnm' : (n : Int) + (m : Int) ≤ (s.size : Int) := by omega
      have hz : ((n : Int) + (m : Int)).toNat = n + m := by omega
      go_wp2_with fail
      refine HP.out.mono ?_
      rintro e w3 ⟨rfl, rfl⟩
      go_wp2_with fail
      refine (HLN.out _).mono ?_
      rintro e w4 ⟨rfl, b1⟩
      have H4 := Lib.hid (And.intro (HB.out.1.trans (b1.mono HB.out.1.size)) (cell_below b1 (Nat.le_refl _) HB.out.2))
      clear b1
      go_wp2_with fail
      refine (HSX.out _ H4.out.2).mono ?_
      rintro e w5 ⟨rfl, b1⟩
      have H5 := Lib.hid (And.intro (H4.out.1.trans (b1.mono H4.out.1.size)) (cell_below b1 (Nat.le_refl _) H4.out.2))
      clear b1 H4
      go_wp2
      go_roundw
      case rel => exact ⟨n + m + q, by go_num, h5, HE, H5⟩
      case measure => simp [intOf]; omega
end Go.Proofs.YtdcjpinbflmikaaGreatDoor
