/- Facts and walks for the statement. -/
import Derived.Test.YtmmdigeciphglaaGreatDoorPzB05
import Derived.Lib.CutLaws
import Derived.Test.YtmmdigeciphglaaGreatDoorPzB07
import Derived.Test.YtmmdigeciphglaaGreatDoorPzB03
import Derived.OwnWalk
import Derived.Deep.RegionHeld3
import Derived.Deep.AppendLies
namespace Go.Proofs.YtmmdigeciphglaaGreatDoor
open Go.RowKit
def rmk (l : List UInt8) : Bool := match l with
  | c :: d :: _ => decide (c.toNat = 45) && decide (d.toNat = 45)
  | _ => false
theorem blk_b {c : UInt8} {r : List UInt8} (h : Lx.isB c = true) : Lx.blk false (c :: r) = 1 + Lx.blk false r := by simp only [Lx.blk]; rw [if_pos h]
theorem blk_stop {c : UInt8} {r : List UInt8} (h : Lx.isB c = false) (h2 : rmk (c :: r) = false) : Lx.blk false (c :: r) = 0 := by
  simp only [Lx.blk]
  rw [if_neg (by rw [h]; decide), if_neg]
  rintro ⟨h3, h4⟩
  cases r with
  | nil => cases h4
  | cons d r =>
    simp only [List.head?_cons, Option.some.injEq] at h4
    subst h4
    unfold rmk at h2
    simp [h3] at h2
theorem blk_rem {c : UInt8} {r : List UInt8} (h2 : rmk (c :: r) = true) : Lx.blk false (c :: r) = Lx.blk true (c :: r) ∧ c.toNat = 45 := by
  cases r with
  | nil => cases h2
  | cons d r =>
    unfold rmk at h2
    simp only [Bool.and_eq_true, decide_eq_true_eq] at h2
    refine ⟨?_, h2.1⟩
    have hb : Lx.isB c = false := decide_eq_false (by omega)
    have hd : d = 45 := UInt8.toNat_inj.1 h2.2
    subst hd
    simp only [Lx.blk]
    rw [if_neg (by rw [hb]; decide), if_pos ⟨h2.1, rfl⟩, if_neg (show ¬ c.toNat = 10 by omega)]
theorem blk_ten {c : UInt8} {r : List UInt8} (h : c.toNat = 10) : Lx.blk true (c :: r) = Lx.blk false (c :: r) := by
  rw [blk_b (show Lx.isB c = true from decide_eq_true (by omega))]
  simp only [Lx.blk]
  rw [if_pos h]
theorem blk_on {c : UInt8} {r : List UInt8} (h : c.toNat ≠ 10) : Lx.blk true (c :: r) = 1 + Lx.blk true r := by
  simp only [Lx.blk]
  rw [if_neg h]
end Go.Proofs.YtmmdigeciphglaaGreatDoor
namespace Go.Proofs.YtmmdigeciphglaaGreatDoor
open Go.RowKit
set_option maxHeartbeats 1000000 in
theorem is_any (s : ByteArray) (w : World) (hs : s.size ≤ maxLen) (h : Sg w) :
    Calls Tryz.prog 83 #[.string s] w fun e w' => e = .returned (.int .u8 (Lx.is s.data.toList)) ∧ Below w.heap.size w w' := by
  have HF := Lib.hid (first_any s w hs h)
  have HE := Lib.hid (Lx.is_fst s.data.toList)
  rw [← Lib.size_eq] at HE
  generalize Lx.is s.data.toList = R at *
  generalize Lx.fst s.data.toList = d at *
  obtain ⟨k, n⟩ := d
  simp only at HF HE
  clear h
  by_cases c : n < s.size
  · have c' : (n : Int) < (s.size : Int) := by omega
    have HR := Lib.hid (show R = 0 by rw [HE.out, if_pos c])
    clear c HE
    go_enter Tryz.func83, Tryz.ntmps83
    go_wp2_with fail
    refine HF.out.mono ?_
    rintro e w1 ⟨rfl, b⟩
    go_wp2
    go_ret
    exact ⟨by rw [HR.out]; rfl, b⟩
  · have c' : ¬ (n : Int) < (s.size : Int) := by omega
    have HR := Lib.hid (show R = k by rw [HE.out, if_neg c])
    clear c HE
    go_enter Tryz.func83, Tryz.ntmps83
    go_wp2_with fail
    refine HF.out.mono ?_
    rintro e w1 ⟨rfl, b⟩
    go_wp2
    go_ret
    exact ⟨by rw [HR.out]; rfl, b⟩
/-! ### blanks -/
namespace Lx
def nt (c : UInt8) : Bool := decide (c.toNat ≠ 10)
def dash (l : List UInt8) : Bool := Lib.hasPrefix l [45, 45]
def stop (l : List UInt8) : Nat := if dash l then blk true l else 0
theorem blk_run : ∀ l : List UInt8, blk false l = run isB l + stop (l.drop (run isB l))
  | [] => rfl
  | c :: r => by
    have ih := blk_run r
    cases hb : isB c with
    | true =>
      rw [blk_b hb]
      unfold run
      rw [if_pos hb, Nat.add_comm 1 (run isB r), List.drop_succ_cons]
      omega
    | false =>
      have hr : run isB (c :: r) = 0 := by unfold run; rw [if_neg (by rw [hb]; decide)]
      rw [hr, List.drop_zero, Nat.zero_add]
      unfold stop
      have hm : dash (c :: r) = rmk (c :: r) := by
        unfold dash rmk Lib.hasPrefix
        cases r with
        | nil => simp [List.isPrefixOf]
        | cons d r =>
          have e : ∀ x : UInt8, ((45 : UInt8) == x) = decide (x.toNat = 45) := fun x => by
            rw [Bool.eq_iff_iff, beq_iff_eq, decide_eq_true_iff]
            exact ⟨fun h => by rw [← h]; rfl, fun h => (UInt8.toNat_inj.1 h).symm⟩
          show ((45 == c) && ((45 == d) && List.isPrefixOf [] r)) = _
          rw [e, e, show List.isPrefixOf [] r = true from rfl, Bool.and_true]
      cases hk : rmk (c :: r) with
      | true => rw [hm, hk, if_pos rfl, (blk_rem hk).1]
      | false => rw [hm, hk, if_neg (by decide), blk_stop hb hk]
theorem blk_line : ∀ l : List UInt8, blk true l = run nt l + blk false (l.drop (run nt l))
  | [] => rfl
  | c :: r => by
    have ih := blk_line r
    by_cases h : c.toNat = 10
    · have hr : run nt (c :: r) = 0 := by unfold run; rw [if_neg (by unfold nt; simp [h])]
      rw [hr, blk_ten h, List.drop_zero, Nat.zero_add]
    · rw [blk_on h]
      unfold run
      rw [if_pos (by unfold nt; simp [h]), Nat.add_comm 1 (run nt r), List.drop_succ_cons]
      omega
theorem dash_one {l : List UInt8} (h : dash l = true) : 1 ≤ run nt l := by
  cases l with
  | nil => exact absurd h (by decide)
  | cons c r =>
    have hc : c = 45 := by
      unfold dash Lib.hasPrefix at h
      simp [List.isPrefixOf] at h
      exact h.1.symm
    subst hc
    unfold run
    rw [if_pos (by decide)]
    omega
end Lx
def spB : ByteArray := ⟨#[32, 9, 10, 13]⟩
theorem sp_mem (c : UInt8) : Lx.isB c = true ↔ c ∈ spB.data.toList := by
  have e : ∀ (x : UInt8), c = x ↔ c.toNat = x.toNat := fun x => ⟨fun h => by rw [h], fun h => UInt8.toNat_inj.1 h⟩
  show Lx.isB c = true ↔ c ∈ [32, 9, 10, 13]
  unfold Lx.isB
  rw [decide_eq_true_iff]
  simp only [List.mem_cons, List.not_mem_nil, or_false]
  rw [e, e, e, e]
  show _ ↔ c.toNat = 32 ∨ c.toNat = 9 ∨ c.toNat = 10 ∨ c.toNat = 13
  omega
theorem nt_iff (c : UInt8) : Lx.nt c = true ↔ c.toNat ≠ 10 := by unfold Lx.nt; rw [decide_eq_true_iff]
set_option maxHeartbeats 4000000 in
set_option maxRecDepth 100000 in
theorem blanks_any (s : ByteArray) (w : World) (hs : s.size ≤ 1000000000) :
    Calls Tryz.prog 67 #[.string s] w fun e w' => e = .returned (.int .i64 (Lx.blk false s.data.toList)) ∧ Below w.heap.size w w' := by
  have HL := Lib.hid (Lib.size_eq s)
  have HSP := Lib.hid (fun (b : Nat) (t : ByteArray) w0 (ht : t.size ≤ maxLen) (h0 : w0.cell? ⟨b, 0, none⟩ = some (.string spB)) => lead_among (I := fun w => w.cell? ⟨b, 0, none⟩ = some (.string spB)) (fun _ _ h b => cell_below b (Nat.le_refl _) h) #[.pointer (some ⟨b, 0, none⟩)] Lx.isB (among_fits b spB Lx.isB sp_mem) t w0 ht h0)
  have HLI := Lib.hid (fun (t : ByteArray) w0 (ht : t.size ≤ maxLen) => lead_line (I := fun _ => True) (fun _ _ _ _ => True.intro) #[] Lx.nt (line_fits _ Lx.nt nt_iff) t w0 ht True.intro)
  have HPX := Lib.hid (fun (t : ByteArray) w0 => show Calls Tryz.prog 97 #[.string t, .string ⟨#[45, 45]⟩] w0 fun e w' => e = .returned (.bool (Lx.dash t.data.toList)) ∧ w' = w0 from Tryz.strings_HasPrefix t ⟨#[45, 45]⟩ w0)
  have hsm : s.size ≤ maxLen := by unfold maxLen; omega
  obtain ⟨R, hR⟩ : ∃ R, R = Lx.blk false s.data.toList := ⟨_, rfl⟩
  rw [← hR]
  have HR := Lib.hid (hR.trans (Lx.blk_run _))
  have hr1 := Lx.run_le Lx.isB s.data.toList
  rw [← HL.out] at hr1
  obtain ⟨n0, hn0⟩ : ∃ n0, n0 = Lx.run Lx.isB s.data.toList := ⟨_, rfl⟩
  rw [← hn0] at HR hr1
  have HN0 := Lib.hid hn0
  clear hR hn0
  go_enter Tryz.func67, Tryz.ntmps67
  go_wp2_with fail
  refine (among_new spB w).mono ?_
  rintro e w1 ⟨b, rfl, hc, b1⟩
  have H1 := Lib.hid (And.intro b1 hc)
  clear hc b1
  go_wp2_with fail
  refine (HSP.out b s w1 hsm H1.out.2).mono ?_
  rintro e w2 ⟨rfl, b1⟩
  have H2 := Lib.hid (And.intro (H1.out.1.trans (b1.mono H1.out.1.size)) (cell_below b1 (Nat.le_refl _) H1.out.2))
  rw [← HN0.out]
  clear b1 H1
  go_wp2
  go_loopw [5] (fun i wr => ∃ n : Nat, i = .int .i64 n ∧ n ≤ s.size ∧ Hid (R = n + Lx.stop (s.data.toList.drop n)) ∧ Hid (Below w.heap.size w wr ∧ wr.cell? ⟨b, 0, none⟩ = some (.string spB))) (fun i _ => s.size - (intOf i).toNat)
  case atStart => exact ⟨n0, rfl, hr1, HR, H2⟩
  case round =>
    clear hr1 H2
    obtain ⟨n, rfl, hn, HI, HB⟩ := hrel
    have hn' : (n : Int) ≤ (s.size : Int) := by omega
    have hd : (s.extract n s.size).data.toList = s.data.toList.drop n := Lib.extract_to_end s n
    have HP := Lib.hid (HPX.out (s.extract n s.size) wr)
    have HLN := Lib.hid (fun w0 => HLI.out (s.extract n s.size) w0 (by rw [ByteArray.size_extract]; unfold maxLen; omega))
    rw [hd] at HP HLN
    cases hp : Lx.dash (s.data.toList.drop n) with
    | false =>
      rw [hp] at HP
      have HE := Lib.hid (show R = n by rw [HI.out]; unfold Lx.stop; rw [hp, if_neg (by decide)]; rfl)
      clear hp hd
      go_wp2_with fail
      refine HP.out.mono ?_
      rintro e w3 ⟨rfl, rfl⟩
      go_wp2
      go_ret
      exact ⟨ret_int (by rw [HE.out]), HB.out.1⟩
    | true =>
      rw [hp] at HP
      have h1 := Lx.dash_one hp
      have h2 := Lx.run_le Lx.nt (s.data.toList.drop n)
      rw [List.length_drop, ← HL.out] at h2
      have h3 : R = n + Lx.blk true (s.data.toList.drop n) := by rw [HI.out]; unfold Lx.stop; rw [hp, if_pos rfl]
      rw [Lx.blk_line] at h3
      obtain ⟨m, hm⟩ : ∃ m, m = Lx.run Lx.nt (s.data.toList.drop n) := ⟨_, rfl⟩
      rw [← hm] at h1 h2 h3 HLN
      rw [List.drop_drop, Lx.blk_run, List.drop_drop] at h3
      have hnm : n + m ≤ s.size := by omega
      have h4 := Lx.run_le Lx.isB (s.data.toList.drop (n + m))
      rw [List.length_drop, ← HL.out] at h4
      have hd2 : (s.extract (n + m) s.size).data.toList = s.data.toList.drop (n + m) := Lib.extract_to_end s (n + m)
      have HSX := Lib.hid (fun w0 h0 => HSP.out b (s.extract (n + m) s.size) w0 (by rw [ByteArray.size_extract]; unfold maxLen; omega) h0)
      rw [hd2] at HSX
      obtain ⟨q, hq⟩ : ∃ q, q = Lx.run Lx.isB (s.data.toList.drop (n + m)) := ⟨_, rfl⟩
      rw [← hq] at h3 h4 HSX
      have HE := Lib.hid (show R = (n + m + q : Nat) + Lx.stop (s.data.toList.drop (n + m + q)) by omega)
      have h5 : n + m + q ≤ s.size := by omega
      clear h3 hm hq hd hd2 hp
      have hnm' : (n : Int) + (m : Int) ≤ (s.size : Int) := by omega
      have hz : ((n : Int) + (m : Int)).toNat = n + m := by omega
      go_wp2_with fail
      refine HP.out.mono ?_
      rintro e w3 ⟨rfl, rfl⟩
      go_wp2_with fail
      refine (HLN.out _).mono ?_
      rintro e w4 ⟨rfl, b1⟩
      have H4 := Lib.hid (And.intro (HB.out.1.trans (b1.mono HB.out.1.size)) (cell_below b1 (Nat.le_refl _) HB.out.2))
      clear b1
      go_wp2_with fail
      refine (HSX.out _ H4.out.2).mono ?_
      rintro e w5 ⟨rfl, b1⟩
      have H5 := Lib.hid (And.intro (H4.out.1.trans (b1.mono H4.out.1.size)) (cell_below b1 (Nat.le_refl _) H4.out.2))
      clear b1 H4
      go_wp2
      go_roundw
      case rel => exact ⟨n + m + q, by go_num, h5, HE, H5⟩
      case measure => simp [intOf]; omega
end Go.Proofs.YtmmdigeciphglaaGreatDoor
namespace Go.Proofs.YtmmdigeciphglaaGreatDoor
open Go.RowKit
theorem lx_ext (s : ByteArray) (a k : Nat) : (s.extract a (a + k)).data.toList = (s.data.toList.drop a).take k := by
  rw [← Lib.toList_data, Lib.extract_toList, show a + k - a = k by omega]
end Go.Proofs.YtmmdigeciphglaaGreatDoor
namespace Go.Proofs.YtmmdigeciphglaaGreatDoor
open Go.RowKit
theorem lx_mk (s : ByteArray) (a k : Nat) : (⟨((s.data.toList.drop a).take k).toArray⟩ : ByteArray) = s.extract a (a + k) := by
  apply ByteArray.ext
  apply Array.toList_inj.1
  rw [lx_ext]
def tkV (t : Lx.T) : List Value := [.int .u8 t.k, .string ⟨t.tx.toArray⟩, .int .i64 (t.p : Int)]
def jn (ts : List Lx.T) (X : List Lx.T × Nat × Int) : List Lx.T × Nat × Int := if X.2.2 = 0 then (ts ++ X.1, 0, 0) else ([], X.2.1, X.2.2)
theorem cut_none {f p : Nat} {ts : List Lx.T} (hf : 0 < f) : jn ts (Lx.cut f [] p) = (ts, 0, 0) := by
  cases f with
  | zero => omega
  | succ f => unfold Lx.cut; rw [if_pos rfl]; simp [jn]
theorem cut_bad {f p : Nat} {l : List UInt8} {ts : List Lx.T} (hf : 0 < f) (hl : l ≠ []) (h : Lx.lng l = 0 ∨ 64 < Lx.lng l) : jn ts (Lx.cut f l p) = ([], p, 70) := by
  cases f with
  | zero => omega
  | succ f => unfold Lx.cut; rw [if_neg hl, if_pos h]; rfl
theorem cut_good {f p : Nat} {l : List UInt8} {ts : List Lx.T} (hl : l ≠ []) (h : ¬ (Lx.lng l = 0 ∨ 64 < Lx.lng l)) :
    jn ts (Lx.cut (f + 1) l p) = jn (ts ++ [⟨Lx.whole (l.take (Lx.lng l)), l.take (Lx.lng l), p⟩]) (Lx.cut f (l.drop (Lx.lng l + Lx.blk false (l.drop (Lx.lng l)))) (p + Lx.lng l + Lx.blk false (l.drop (Lx.lng l)))) := by
  rw [Lx.cut, if_neg hl, if_neg h]
  simp only
  generalize Lx.cut f _ _ = X
  unfold jn
  by_cases hx : X.2.2 = 0
  · rw [if_pos hx, if_pos hx, if_pos rfl, List.append_assoc]; rfl
  · rw [if_neg hx, if_neg hx, if_neg hx]
theorem cut_form (f : Nat) (l : List UInt8) (p : Nat) : Lx.cut f l p = jn [] (Lx.cut f l p) := by
  cases f with
  | zero => rfl
  | succ f =>
    unfold Lx.cut
    simp only
    generalize Lx.cut f _ _ = X
    split
    · rfl
    · split
      · rfl
      · unfold jn
        by_cases hx : X.2.2 = 0
        · rw [if_pos hx]; rfl
        · rw [if_neg hx]; simp [hx]
end Go.Proofs.YtmmdigeciphglaaGreatDoor
namespace Go.Proofs.YtmmdigeciphglaaGreatDoor
open Go.RowKit
def RdT (w : World) (B : Nat) (A : Option Addr) (l : List Lx.T) : Prop := 0 < l.length → ∃ g o, A = some ⟨g, o, none⟩ ∧ g < B ∧ ∀ j (hj : j < l.length), w.cell? ⟨g, o + j * 3, none⟩ = some (.int .u8 l[j].k) ∧ w.cell? ⟨g, o + j * 3 + 1, none⟩ = some (.string ⟨l[j].tx.toArray⟩) ∧ w.cell? ⟨g, o + j * 3 + 2, none⟩ = some (.int .i64 (l[j].p : Int))
end Go.Proofs.YtmmdigeciphglaaGreatDoor
namespace Go.Proofs.YtmmdigeciphglaaGreatDoor
open Go.RowKit
def LlP (R : List Lx.T × Nat × Int) (w : World) (e : Ending) (w' : World) : Prop :=
  ∃ A c, w'.ownsRow w.heap.size 143 3 (.slice A R.1.length c) R.1.length (R.1.flatMap tkV) ∧ e = .returned (.tuple #[.slice A R.1.length c, .int .i64 R.2.1, .int .i64 R.2.2]) ∧ Below w.heap.size w w'
theorem tk_at : ∀ (l : List Lx.T) (j : Nat) (h : j < l.length), (l.flatMap tkV)[j * 3]? = some (.int .u8 l[j].k) ∧ (l.flatMap tkV)[j * 3 + 1]? = some (.string ⟨l[j].tx.toArray⟩) ∧ (l.flatMap tkV)[j * 3 + 2]? = some (.int .i64 (l[j].p : Int))
  | [], _, h => absurd h (Nat.not_lt_zero _)
  | t :: r, 0, _ => ⟨rfl, rfl, rfl⟩
  | t :: r, j + 1, h => by
    have ih := tk_at r j (by simpa using h)
    rw [List.flatMap_cons]
    have e : ∀ k, (tkV t ++ r.flatMap tkV)[(j + 1) * 3 + k]? = (r.flatMap tkV)[j * 3 + k]? := fun k => by
      rw [List.getElem?_append_right (by show 3 ≤ _; omega)]
      congr 1
      show (j + 1) * 3 + k - 3 = j * 3 + k
      omega
    exact ⟨(e 0).trans ih.1, (e 1).trans ih.2.1, (e 2).trans ih.2.2⟩
theorem own_rd {w : World} {B n c : Nat} {e : TypeId} {A : Option Addr} {l : List Lx.T} (h : w.ownsRow B e 3 (.slice A n c) n (l.flatMap tkV)) (hn : n = l.length) : RdT w w.heap.size A l ∧ n ≤ c ∧ c ≤ maxLen := by
  obtain ⟨A', c', e1, h1, _, h3, h4⟩ := own_slice h
  injection e1 with e1 e2 e3
  subst e1 e3
  refine ⟨fun h0 => ?_, h3, h4⟩
  obtain ⟨g, hA, hg, _, hc⟩ := h1 (by omega)
  refine ⟨g, 0, hA, hg, fun j hj => ?_⟩
  obtain ⟨a0, a1, a2⟩ := tk_at l j hj
  simp only [Nat.zero_add]
  exact ⟨hc _ _ a0, hc _ _ a1, hc _ _ a2⟩
end Go.Proofs.YtmmdigeciphglaaGreatDoor
namespace Go.Proofs.YtmmdigeciphglaaGreatDoor
open Go.RowKit
set_option maxHeartbeats 1000000 in
theorem clone_any (s : ByteArray) (w : World) (hs : s.size ≤ 281474976710656) : Calls Tryz.prog 69 #[.string s] w fun e w' => e = .returned (.string s) ∧ Below w.heap.size w w' := by
  have HC := Lib.hid (Tryz.stringslite_Clone s w hs)
  go_enter Tryz.func69, Tryz.ntmps69
  go_wp2_with fail
  refine HC.out.mono ?_
  rintro e w1 ⟨rfl, b⟩
  go_wp2
  go_ret
  exact ⟨rfl, b⟩
theorem infoLK : (Tryz.prog.info? 143).map (fun i => (i.zero, i.size, i.bytes)) = some (some (.agg #[.int .u8 0, .string ⟨#[]⟩, .int .i64 0]), 3, 32) := by kernel_rfl
structure LkI (s : ByteArray) (w : World) (R : List Lx.T × Nat × Int) (v : Value) (wr : World) (p : Nat) (ts : List Lx.T) : Prop where
  hp : p ≤ s.size
  hl : ts.length ≤ p
  below : Below w.heap.size w wr
  own : wr.ownsRow w.heap.size 143 3 v ts.length (ts.flatMap tkV)
  eq : ∃ f, s.size - p < f ∧ R = jn ts (Lx.cut f (s.data.toList.drop p) p)
set_option maxHeartbeats 8000000 in
set_option maxRecDepth 100000 in
theorem ltoks_any (s : ByteArray) (w : World) (hsz : s.size ≤ maxLen) (h : Sg w) :
    Calls Tryz.prog 39 #[.string s] w (LlP (Lx.toks s.data.toList) w) := by
  have HL := Lib.hid (Lib.size_eq s)
  have HSG := Lib.hid h
  clear h
  obtain ⟨R, hR⟩ : ∃ R, R = Lx.toks s.data.toList := ⟨_, rfl⟩
  rw [← hR]
  unfold maxLen at hsz
  by_cases hbig : 65536 < s.size
  · have hbig' : (s.size : Int) > 65536 := by omega
    have HE := Lib.hid (show R = ([], 0, 3) by rw [hR]; unfold Lx.toks; rw [if_pos (by rw [← HL.out]; exact hbig)])
    have HB1 := Lib.hid (Below.refl w.heap.size w)
    clear hR hbig
    go_enter Tryz.func39, Tryz.ntmps39
    go_wp2
    go_ret3
    exact ⟨none, 0, by rw [HE.out]; exact World.ownsRow_nil _ _ _ _, by rw [HE.out]; rfl, HB1.out⟩
  · have hbig' : ¬ (s.size : Int) > 65536 := by omega
    have hsm : s.size ≤ 65536 := by omega
    have hs : s.size ≤ 1000000000 := by omega
    have HB0 := Lib.hid (blanks_any s w hs)
    obtain ⟨b0, hb0⟩ : ∃ b, b = Lx.blk false s.data.toList := ⟨_, rfl⟩
    have hb0l := Lx.blk_le false s.data.toList
    have H0 := Lib.hid (fun w1 (b1 : Below w.heap.size w w1) => show LkI s w R (.slice none 0 0) w1 b0 [] from ⟨by rw [hb0, HL.out]; exact hb0l, Nat.zero_le _, b1, World.ownsRow_nil _ _ _ _, s.size + 1, by omega, by
      rw [hR, hb0]
      unfold Lx.toks
      rw [if_neg (by rw [← HL.out]; exact hbig), HL.out]
      exact cut_form _ _ _⟩)
    rw [← hb0] at HB0
    have HBL := Lib.hid (fun (k : Nat) w0 => show Calls Tryz.prog 67 #[.string (s.extract k s.size)] w0 fun e w' => e = .returned (.int .i64 (Lx.blk false (s.data.toList.drop k))) ∧ Below w0.heap.size w0 w' from by
      have := blanks_any (s.extract k s.size) w0 (by rw [ByteArray.size_extract]; omega)
      rwa [Lib.extract_to_end] at this)
    have HFS := Lib.hid (fun (k : Nat) w0 (h0 : Sg w0) => show Calls Tryz.prog 68 #[.string (s.extract k s.size)] w0 fun e w' => e = .returned (.tuple #[.int .u8 (Lx.fst (s.data.toList.drop k)).1, .int .i64 (Lx.fst (s.data.toList.drop k)).2]) ∧ Below w0.heap.size w0 w' from by
      have := first_any (s.extract k s.size) w0 (by rw [ByteArray.size_extract]; unfold maxLen; omega) h0
      rwa [Lib.extract_to_end] at this)
    have HCL := Lib.hid (fun (a k : Nat) w0 => clone_any (s.extract a (a + k)) w0 (by rw [ByteArray.size_extract]; omega))
    clear hR hb0 hb0l hbig
    go_enter Tryz.func39, Tryz.ntmps39
    go_wp2_with fail
    refine HB0.out.mono ?_
    rintro e w1 ⟨rfl, h1⟩
    have HI0 := Lib.hid (H0.out w1 h1)
    clear h1 H0
    go_wp2
    go_loopw [2, 3] (fun v0 i wr => ∃ (v : Value) (p : Nat) (ts : List Lx.T), v = v0 ∧ i = .int .i64 p ∧ Hid (LkI s w R v wr p ts)) (fun _ i _ => s.size - (intOf i).toNat)
    case atStart => exact ⟨_, b0, [], rfl, rfl, HI0⟩
    case round =>
      clear HI0
      obtain ⟨v, p, ts, hv0, rfl, HI⟩ := hrel
      subst hv0
      have hp := HI.out.hp
      by_cases hlt : p < s.size
      · have hlt' : (p : Int) < (s.size : Int) := by omega
        have HG := Lib.hid (HFS.out p wr (HSG.out.below HI.out.below (Nat.le_refl _)))
        obtain ⟨L, hL⟩ : ∃ L, L = s.data.toList.drop p := ⟨_, rfl⟩
        have hLl : L.length = s.size - p := by rw [hL, List.length_drop, ← HL.out]
        have hne : L ≠ [] := by intro e; rw [e] at hLl; simp at hLl; omega
        have hfl := Lx.fst_le L
        have hfe := Lx.fst_lng L
        have hfn := @Lx.fst_no L
        rw [← hL] at HG
        have HF := HI.out.eq
        rw [← hL] at HF
        have HEQ := Lib.hid HF
        generalize Lx.fst L = d at *
        obtain ⟨K, n⟩ := d
        simp only at HG hfl hfe hfn
        clear HF
        by_cases h0 : K = 0
        · have HE := Lib.hid (show R = ([], p, 70) by
            obtain ⟨f, hf, he⟩ := HEQ.out
            rw [he, cut_bad (by omega) hne (hfn.1 h0)])
          subst h0
          clear hfl hfe hfn hL hLl hne
          go_wp2_with fail
          refine HG.out.mono ?_
          rintro e w2 ⟨rfl, h1⟩
          have HB1 := Lib.hid (HI.out.below.trans (h1.mono HI.out.below.size))
          clear h1
          go_wp2
          go_ret3
          exact ⟨none, 0, by rw [HE.out]; exact World.ownsRow_nil _ _ _ _, by rw [HE.out]; rfl, HB1.out⟩
        · have hK0 : (K == 0) = false := beq_eq_false_iff_ne.2 h0
          have hgd : ¬ (Lx.lng L = 0 ∨ 64 < Lx.lng L) := fun e => h0 (hfn.2 e)
          rw [if_neg hgd] at hfe
          obtain ⟨hKe, hne2⟩ := Prod.mk.inj hfe
          obtain ⟨b, hb⟩ : ∃ b, b = Lx.blk false (L.drop n) := ⟨_, rfl⟩
          have hdd : L.drop n = s.data.toList.drop (p + n) := by rw [hL, List.drop_drop]
          have hn0 : 0 < n := by omega
          have hpn : p + n ≤ s.size := by have := hfl.1; omega
          have hbl := Lx.blk_le false (L.drop n)
          rw [← hb, List.length_drop] at hbl
          have HBK := Lib.hid (fun w0 => HBL.out (p + n) w0)
          rw [← hdd, ← hb] at HBK
          have HCK := Lib.hid (HCL.out p n)
          have HX := Lib.hid (show (⟨(L.take n).toArray⟩ : ByteArray) = s.extract p (p + n) by rw [hL]; exact lx_mk s p n)
          have HNX := Lib.hid (show ∃ f, s.size - (p + n + b) < f ∧ R = jn (ts ++ [⟨K, L.take n, p⟩]) (Lx.cut f (s.data.toList.drop (p + n + b)) (p + n + b)) by
            obtain ⟨f, hf, he⟩ := HEQ.out
            obtain ⟨f, rfl⟩ : ∃ f', f = f' + 1 := ⟨f - 1, by omega⟩
            refine ⟨f, by omega, ?_⟩
            rw [he, cut_good hne hgd, ← hne2, ← hb, show L.drop (n + b) = s.data.toList.drop (p + n + b) by rw [hL, List.drop_drop, Nat.add_assoc], hKe, ← hne2])
          have hpb : p + n + b ≤ s.size := by omega
          generalize L.take n = X at *
          have HN0 := Lib.hid hn0
          have hll := HI.out.hl
          have hmax : ts.length + 1 ≤ maxLen := by unfold maxLen; omega
          obtain ⟨i0, hi, hz0, hz1, hz2⟩ := info_parts infoLK
          have a0 : (p : Int) + (n : Int) ≤ (s.size : Int) := by omega
          have a1 : (0 : Int) ≤ (p : Int) + (n : Int) := by omega
          have a2 : (p : Int) ≤ (p : Int) + (n : Int) := by omega
          have a3 : ((p : Int) + (n : Int)).toNat = p + n := by omega
          clear hb hdd hbl hfl hfe hfn hL hLl hne h0 HEQ hgd hKe hne2
          go_wp2_with fail
          refine HG.out.mono ?_
          rintro e w2 ⟨rfl, h1⟩
          have HB2 := Lib.hid (HI.out.below.trans (h1.mono HI.out.below.size))
          have HO2 := Lib.hid (own_below HI.out.own h1)
          clear h1
          go_wp2_with fail
          refine (HCK.out _).mono ?_
          rintro e w3 ⟨rfl, h1⟩
          have HB3 := Lib.hid (HB2.out.trans (h1.mono HB2.out.size))
          have HO3 := Lib.hid (own_below HO2.out h1)
          have hsz3 := HB3.out.size
          clear h1 HB2 HO2
          have hbw := Lib.hid (show ∀ k, v.ownBlock = some k → w.heap.size ≤ k from fun k hk => (HI.out.own.lt k hk).1)
          go_wp2_with (at_builtin; (refine wpList_append_own _ rfl _ _ _ rfl w.heap.size 143 i0 _ 3 32 Tryz.underlying94 hi hz0 hz1 hz2 rfl (by omega) v ts.length (ts.flatMap tkV) (by rfl) (by exact World.ownsRow.alloc HO3.out _) _ 1 _ [.int .u8 K, .string (s.extract p (p + n)), .int .i64 (p : Int)] (by rfl) rfl (by intro j u hu; exact news_at _ _ _ _ (by simp) j u hu) (by intro u hu; simp at hu; rcases hu with rfl | rfl | rfl <;> rfl) hmax (by omega) (by simp; omega) ?_); intro v9 w9 hown9 hgr9 _; obtain ⟨A9, c9, hv9, _, _, _, _⟩ := own_slice hown9; subst hv9; have HR9 := Lib.hid (And.intro hown9 (show Below w.heap.size w w9 from Below.grown (HB3.out.alloc hsz3 _) hgr9 (by simp; omega) hbw.out)); clear hown9 hgr9)
          have HJ := Lib.hid (fun w5 (b5 : Below w9.heap.size w9 w5) => show LkI s w R (.slice A9 (ts.length + 1) c9) w5 (p + n + b) (ts ++ [⟨K, X, p⟩]) from ⟨hpb, by rw [List.length_append]; have := HN0.out; simp; omega, HR9.out.2.trans (b5.mono HR9.out.2.size), by
            rw [List.flatMap_append, List.length_append]
            have h4 := HR9.out.1
            rw [← HX.out] at h4
            exact own_below h4 b5, HNX.out⟩)
          clear HR9 HO3 HB3 hll hmax hi hz0 hz1 hz2
          go_wp2_with fail
          refine (HBK.out _).mono ?_
          rintro e w5 ⟨rfl, h1⟩
          have HJ5 := Lib.hid (HJ.out w5 h1)
          clear h1
          go_wp2
          refine ⟨⟨_, p + n + b, _, rfl, by go_num, HJ5⟩, ?_⟩
          have := HN0.out
          simp [intOf]
          omega
      · obtain rfl : p = s.size := by omega
        have hlt' : ¬ ((s.size : Nat) : Int) < (s.size : Int) := by omega
        have HE := Lib.hid (show R = (ts, 0, 0) by
          obtain ⟨f, hf, he⟩ := HI.out.eq
          rw [List.drop_of_length_le (by rw [← HL.out]; exact Nat.le_refl _)] at he
          rw [he, cut_none (by omega)])
        obtain ⟨A9, c9, hv9, _, _, _, _⟩ := own_slice HI.out.own
        subst hv9
        clear hlt
        go_wp2
        go_ret3
        exact ⟨A9, c9, by rw [HE.out]; exact HI.out.own, by rw [HE.out]; rfl, HI.out.below⟩
end Go.Proofs.YtmmdigeciphglaaGreatDoor
