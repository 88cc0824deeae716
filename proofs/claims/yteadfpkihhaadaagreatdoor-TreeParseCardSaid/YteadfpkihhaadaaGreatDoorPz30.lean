/- Facts and walks for the statement. -/
import Derived.Test.YteadfpkihhaadaaGreatDoorPz29
import Derived.Test.YteadfpkihhaadaaGreatDoorPz11
import Derived.Test.YteadfpkihhaadaaGreatDoorPz10
import Derived.Test.YteadfpkihhaadaaGreatDoorPz13
namespace Go.Proofs.YteadfpkihhaadaaGreatDoor
open Go.RowKit
theorem rem_val {l : List UInt8} {p n : Nat} {t : List UInt8} (_hn : p + n ≤ l.length) : (fnd l (p + n) t < 0 ∧ remB (l.drop p) n t = 0) ∨ (0 ≤ fnd l (p + n) t ∧ fnd l (p + n) t + t.length - p = remB (l.drop p) n t ∧ fnd l (p + n) t ≤ l.length) := by
 unfold fnd remB
 rw [List.drop_drop]
 by_cases h : 0 ≤ Lib.index (l.drop (p + n)) t
 ·right
  have hr := Lib.index_room _ _ h
  rw [List.length_drop] at hr
  rw [if_pos h, if_pos h]
  exact ⟨by omega, by omega, by omega⟩
 ·left
  rw [if_neg h, if_neg h]
  exact ⟨by omega, rfl⟩
set_option maxHeartbeats 4000000 in
set_option maxRecDepth 100000 in
theorem rremark_any (s : ByteArray) (p : Nat) (w : World) (hs : s.size ≤ 1000000) (hp : p ≤ s.size) :
  Calls Tryz.prog 48 #[.string s, .int .i64 p] w fun e w' => e = .returned (.int .i64 (Tk.rem (s.data.toList.drop p))) ∧ w = w' := by
 have hll : s.data.toList.length = s.size := (Lib.size_eq s).symm
 have hs' : (s.size : Int) ≤ 1000000 := by omega
 have hp' : (p : Int) ≤ (s.size : Int) := by omega
 obtain ⟨l, hl⟩ : ∃ l, l = s.data.toList.drop p := ⟨_, rfl⟩
 have HA := Lib.hid (fun w0 => hasp_any s m00 p w0 hs (by decide) hp)
 have HB := Lib.hid (fun w0 => hasp_any s m10 p w0 hs (by decide) hp)
 rw [show m00.data.toList = [60, 33, 45, 45] from rfl, ← hl] at HA
 rw [show m10.data.toList = [60, 63] from rfl, ← hl] at HB
 rw [← hl]
 cases hy : Lib.hasPrefix l [60, 33, 45, 45] with
 | true =>
  have hlen : p + 4 ≤ s.size := by have := Tk.hp_len hy; rw [hl, List.length_drop, hll] at this; simp at this; omega
  have hno : Lib.hasPrefix l [60, 63] = false := by
   cases e : Lib.hasPrefix l [60, 63] with
   | false => rfl
   | true =>
    have h1 := Tk.hp4_second hy
    rw [Tk.hp2_second e] at h1; cases h1
  rw [hy] at HA
  rw [hno] at HB
  have HF := Lib.hid (fun w0 => find_any s m01 (p + 4) w0 hs (by decide) (by decide) hlen)
  have hv := rem_val (l := s.data.toList) (p := p) (n := 4) (t := m01.data.toList) (by omega)
  rw [← hl] at hv
  rw [rem_of0 hy]
  rw [show ([45, 45, 62] : List UInt8) = m01.data.toList from rfl]
  have hlen' : (p : Int) + 4 ≤ (s.size : Int) := by omega
  simp only [Int.natCast_add, Int.cast_ofNat_Int] at HF
  generalize fnd s.data.toList (p + 4) m01.data.toList = F at *
  generalize remB l 4 m01.data.toList = R at *
  clear hy hno hl hlen
  rcases hv with ⟨h1, h2⟩ | ⟨h1, h2, h3⟩
  ·subst h2
   have h1' : ¬ 0 ≤ F := by omega
   clear h1
   go_enter Tryz.func48, Tryz.ntmps48
   go_wp2_with fail
   refine (HA.out _).mono ?_
   rintro e w1 ⟨rfl, rfl⟩
   go_wp2_with fail
   refine (HF.out _).mono ?_
   rintro e w1 ⟨rfl, rfl⟩
   go_wp2_with fail
   refine (HB.out _).mono ?_
   rintro e w1 ⟨rfl, rfl⟩
   go_wp2
   go_ret
   exact ⟨rfl, rfl⟩
  ·have h2' : F + 3 - (p : Int) = (R : Int) := h2
   have h3' : F ≤ 1000000 := by omega
   have H2 := Lib.hid h2'
   clear h2 h2' h3
   go_enter Tryz.func48, Tryz.ntmps48
   go_wp2_with fail
   refine (HA.out _).mono ?_
   rintro e w1 ⟨rfl, rfl⟩
   go_wp2_with fail
   refine (HF.out _).mono ?_
   rintro e w1 ⟨rfl, rfl⟩
   go_wp2
   go_ret
   exact ⟨by rw [← H2.out]; rfl, rfl⟩
 | false =>
  rw [hy] at HA
  cases hz : Lib.hasPrefix l [60, 63] with
  | true =>
   have hlen : p + 2 ≤ s.size := by have := Tk.hp_len hz; rw [hl, List.length_drop, hll] at this; simp at this; omega
   rw [hz] at HB
   have HF := Lib.hid (fun w0 => find_any s m11 (p + 2) w0 hs (by decide) (by decide) hlen)
   have hv := rem_val (l := s.data.toList) (p := p) (n := 2) (t := m11.data.toList) (by omega)
   rw [← hl] at hv
   rw [rem_of1 hy hz]
   rw [show ([63, 62] : List UInt8) = m11.data.toList from rfl]
   have hlen' : (p : Int) + 2 ≤ (s.size : Int) := by omega
   simp only [Int.natCast_add, Int.cast_ofNat_Int] at HF
   generalize fnd s.data.toList (p + 2) m11.data.toList = F at *
   generalize remB l 2 m11.data.toList = R at *
   clear hy hz hl hlen
   rcases hv with ⟨h1, h2⟩ | ⟨h1, h2, h3⟩
   ·subst h2
    have h1' : ¬ 0 ≤ F := by omega
    clear h1
    go_enter Tryz.func48, Tryz.ntmps48
    go_wp2_with fail
    refine (HA.out _).mono ?_
    rintro e w1 ⟨rfl, rfl⟩
    go_wp2_with fail
    refine (HB.out _).mono ?_
    rintro e w1 ⟨rfl, rfl⟩
    go_wp2_with fail
    refine (HF.out _).mono ?_
    rintro e w1 ⟨rfl, rfl⟩
    go_wp2
    go_ret
    exact ⟨rfl, rfl⟩
   ·have h2' : F + 2 - (p : Int) = (R : Int) := h2
    have h3' : F ≤ 1000000 := by omega
    have H2 := Lib.hid h2'
    clear h2 h2' h3
    go_enter Tryz.func48, Tryz.ntmps48
    go_wp2_with fail
    refine (HA.out _).mono ?_
    rintro e w1 ⟨rfl, rfl⟩
    go_wp2_with fail
    refine (HB.out _).mono ?_
    rintro e w1 ⟨rfl, rfl⟩
    go_wp2_with fail
    refine (HF.out _).mono ?_
    rintro e w1 ⟨rfl, rfl⟩
    go_wp2
    go_ret
    exact ⟨by rw [← H2.out]; rfl, rfl⟩
  | false =>
   rw [hz] at HB
   rw [rem_of2 hy hz]
   clear hy hz hl
   go_enter Tryz.func48, Tryz.ntmps48
   go_wp2_with fail
   refine (HA.out _).mono ?_
   rintro e w1 ⟨rfl, rfl⟩
   go_wp2_with fail
   refine (HB.out _).mono ?_
   rintro e w1 ⟨rfl, rfl⟩
   go_wp2
   go_ret
   exact ⟨rfl, rfl⟩
end Go.Proofs.YteadfpkihhaadaaGreatDoor
namespace Go.Proofs.YteadfpkihhaadaaGreatDoor
open Go.RowKit
def rowA (p : Nat) (al : List Tk.A) : List Value := al.flatMap fun a => [.string ⟨a.nm.toArray⟩, .string ⟨a.vl.toArray⟩, .int .i64 ((a.p + p : Nat) : Int)]
theorem rowA_snoc (p : Nat) (al : List Tk.A) (a : Tk.A) : rowA p (al ++ [a]) = rowA p al ++ [.string ⟨a.nm.toArray⟩, .string ⟨a.vl.toArray⟩, .int .i64 ((a.p + p : Nat) : Int)] := by
 unfold rowA; rw [List.flatMap_append]; simp
theorem ats_step {f : Nat} {l : List UInt8} {i : Nat} {acc : List Tk.A} (hf : l.length < f) :
  Tk.ats f l i acc = if (l.drop (Tk.bl l)).head? = some 62 then (acc, i + Tk.bl l + 1, 1) else if (l.drop (Tk.bl l)).take 2 = [47, 62] then (acc, i + Tk.bl l + 2, 3)
   else if Tk.bl l = 0 ∨ (Tk.at1 (l.drop (Tk.bl l))).2 = 0 then ([], 0, 0) else Tk.ats f ((l.drop (Tk.bl l)).drop (Tk.at1 (l.drop (Tk.bl l))).2) (i + Tk.bl l + (Tk.at1 (l.drop (Tk.bl l))).2) (acc ++ [Tk.sh (Tk.at1 (l.drop (Tk.bl l))).1 (i + Tk.bl l)]) := by
 obtain ⟨g, rfl⟩ : ∃ g, f = g + 1 := ⟨f - 1, by omega⟩
 conv => lhs; unfold Tk.ats
 simp only
 split
 ·rfl
 ·split
  ·rfl
  ·split
   ·rfl
   ·rename_i h
    have h2 : (Tk.at1 (l.drop (Tk.bl l))).2 ≠ 0 := fun e => h (Or.inr e)
    have h3 := Tk.at1_le (l.drop (Tk.bl l))
    have h4 := Tk.bl_le l
    rw [List.length_drop] at h3
    apply Tk.ats_more
    ·simp only [List.length_drop]; omega
    ·simp only [List.length_drop]; omega
def OwnR (B : Nat) (p : Nat) (w : World) (v : Value) (al : List Tk.A) : Prop := w.ownsRow B 143 3 v al.length (rowA p al)
def RtP (p : Nat) (N : ByteArray) (R : List Tk.A × Nat × Int) (w : World) (e : Ending) (w' : World) : Prop :=
 (R.2.2 = 0 ∧ e = .returned (.tuple #[.agg zT, .int .i64 0]) ∧ Below w.heap.size w w') ∨
 (R.2.2 ≠ 0 ∧ ∃ v, e = .returned (.tuple #[.agg #[.int .u8 R.2.2, .string N, v, .string ⟨#[]⟩, .int .i64 p], .int .i64 R.2.1]) ∧ OwnR w.heap.size p w' v R.1 ∧ Below w.heap.size w w')
structure TagR (l : List UInt8) (p : Nat) (N : ByteArray) (n : Nat) (w : World) (x : Nat) (wr : World) (q : Nat) (v : Value) (acc : List Tk.A) : Prop where
 hq : q ≤ l.length
 hl : acc.length ≤ q
 below : Below w.heap.size w wr
 res : IsBlk wr w.heap.size 64 zT
 tok : IsBlk wr x 64 #[.int .u8 1, .string N, v, .string ⟨#[]⟩, .int .i64 p]
 own : wr.ownsRow (x + 1) 143 3 v acc.length (rowA p acc)
 eq : Tk.tagO l = Tk.ats (l.length + 1) (l.drop q) q acc
theorem own_fiveR {B p r : Nat} {w' : World} {x : Nat} {v : Value} {al : List Tk.A} (h : w'.ownsRow (x + 1) 143 3 v al.length (rowA p al)) (hx : B ≤ x) {hr : r < x + 1} (a b c d e : Value) :
  OwnR B p (((((w'.setCell ⟨r, 0, none⟩ a).setCell ⟨r, 1, none⟩ b).setCell ⟨r, 2, none⟩ c).setCell ⟨r, 3, none⟩ d).setCell ⟨r, 4, none⟩ e) v al :=
 own_less (ownsRow_setCell_below (ownsRow_setCell_below (ownsRow_setCell_below (ownsRow_setCell_below (ownsRow_setCell_below h hr a) hr b) hr c) hr d) hr e) (by omega)
set_option maxHeartbeats 8000000 in
set_option maxRecDepth 100000 in
theorem rtag_open (s : ByteArray) (p : Nat) (w : World) (hs : s.size ≤ 900000) (hp : p + 1 ≤ s.size) (hno : Lib.hasPrefix (s.data.toList.drop p) [60, 47] = false) (N : ByteArray) (hN : N.data.toList = ((s.data.toList.drop p).drop 1).take (Nm.bg ((s.data.toList.drop p).drop 1))) :
  Calls Tryz.prog 49 #[.string s, .int .i64 p] w (RtP p N (Tk.tagO (s.data.toList.drop p)) w) := by
 have hll : s.data.toList.length = s.size := (Lib.size_eq s).symm
 obtain ⟨l, hl⟩ : ∃ l, l = s.data.toList.drop p := ⟨_, rfl⟩
 have hlen : p + l.length = s.size := by rw [hl, List.length_drop, hll]; omega
 have hdr : ∀ q, s.data.toList.drop (p + q) = l.drop q := fun q => by rw [hl, List.drop_drop]
 obtain ⟨n, hn⟩ : ∃ n, n = Nm.bg (l.drop 1) := ⟨_, rfl⟩
 have hnl := (Nm.bg_le (l.drop 1)).1
 rw [← hn, List.length_drop] at hnl
 have HH := Lib.hid (fun w0 => hasp_any s ⟨#[60, 47]⟩ p w0 (by omega) (by decide) (by omega))
 rw [show (⟨#[60, 47]⟩ : ByteArray).data.toList = [60, 47] from rfl, hno] at HH
 have HBG := Lib.hid (fun w0 => NmW.rbegin_any (s.extract (p + 1) s.size) w0 (by have := extract_size s (p + 1) s.size; unfold maxLen; omega))
 rw [drop_ext, hdr, ← hn] at HBG
 rw [← hl, ← hn] at hN
 rw [← hl]
 obtain ⟨R, hR⟩ : ∃ R, R = Tk.tagO l := ⟨_, rfl⟩
 rw [← hR]
 have hs' : (s.size : Int) ≤ 900000 := by omega
 have hp' : (p : Int) + 1 ≤ (s.size : Int) := by omega
 have HB0 := Lib.hid (And.intro (IsBlk.new w 64 zT) ((Below.refl w.heap.size w).alloc (Nat.le_refl _) (.cells zT 64)))
 by_cases hn0 : n = 0
 ·have HE := Lib.hid (show R.2.2 = 0 by rw [hR, tagO_zero (by rw [← hn]; exact hn0)])
  subst hn0
  clear hl hn hR hno hdr hN
  go_enter Tryz.func49, Tryz.ntmps49
  go_wp2_with fail
  refine (HH.out _).mono ?_
  rintro e w1 ⟨rfl, rfl⟩
  go_wp2_with fail
  refine (HBG.out _).mono ?_
  rintro e w1 ⟨rfl, h1⟩
  have kb := HB0.out.1.below h1 HB0.out.1.lt
  have k0 : w1.cell? ⟨w.heap.size, 0, none⟩ = some (.int .u8 0) := kb.at_ 0
  have k1 : w1.cell? ⟨w.heap.size, 1, none⟩ = some (.string ⟨#[]⟩) := kb.at_ 1
  have k2 : w1.cell? ⟨w.heap.size, 2, none⟩ = some (.slice none 0 0) := kb.at_ 2
  have k3 : w1.cell? ⟨w.heap.size, 3, none⟩ = some (.string ⟨#[]⟩) := kb.at_ 3
  have k4 : w1.cell? ⟨w.heap.size, 4, none⟩ = some (.int .i64 0) := kb.at_ 4
  have f0 := kb.fz 0
  have f1 := kb.fz 1
  have f2 := kb.fz 2
  have f3 := kb.fz 3
  have f4 := kb.fz 4
  clear kb
  go_wp2
  exact bodyPost_ret (v := .tuple #[.agg zT, .int .i64 0]) (by simp [results, Tryz.results49, go_sem, k0, k1, k2, k3, k4]) rfl (Or.inl ⟨HE.out, rfl, below_five (HB0.out.2.trans (h1.mono (by simp))) (Nat.le_refl _) _ _ _ _ _⟩)
 have hnz : ((n : Int) == 0) = false := by
  apply beq_eq_false_iff_ne.2
  omega
 have hn1 : (p : Int) + 1 + (n : Int) ≤ (s.size : Int) := by omega
 have hx : s.extract (p + 1) (p + 1 + n) = N := ba_eq (by rw [ext_take, hdr, hN])
 have htag := tagO_is (l := l) hn.symm hn0
 have HTG := Lib.hid htag
 have HR := Lib.hid hR
 have HDR := Lib.hid hdr
 clear hl hn hR hno hdr hN htag
 go_enter Tryz.func49, Tryz.ntmps49
 go_wp2_with fail
 refine (HH.out _).mono ?_
 rintro e w1 ⟨rfl, rfl⟩
 go_wp2_with fail
 refine (HBG.out _).mono ?_
 rintro e w1 ⟨rfl, h1⟩
 obtain ⟨x, hxx⟩ : ∃ x, x = w1.heap.size := ⟨_, rfl⟩
 have hxw : w.heap.size + 1 ≤ x := by have := h1.size; simp at this; omega
 have HT0 := Lib.hid (show TagR l p N n w x (w1.alloc (.cells #[.int .u8 1, .string N, .slice none 0 0, .string ⟨#[]⟩, .int .i64 p] 64)) (1 + n) (.slice none 0 0) [] from
  ⟨by omega, Nat.zero_le _, (HB0.out.2.trans (h1.mono (by simp))).alloc (by omega) _, (HB0.out.1.below h1 HB0.out.1.lt).below ((Below.refl _ _).alloc (Nat.le_refl _) _) (by omega), by rw [hxx]; exact IsBlk.new w1 _ _, World.ownsRow_nil _ _ _ _, HTG.out⟩)
 have HXX := Lib.hid hxx
 clear h1 hxx
 go_wp2
 rw [← HXX.out]
 try rw [hx]
 clear hx
 go_loopw [10] (fun i wr => ∃ q v acc, i = .int .i64 ((p : Int) + (q : Nat)) ∧ Hid (TagR l p N n w x wr q v acc)) (fun i _ => s.size + 1 - (intOf i).toNat)
 case atStart => exact ⟨1 + n, _, _, by simp [Int.natCast_add, Int.add_assoc], HT0⟩
 case round =>
  obtain ⟨q, v, acc, rfl, HI⟩ := hrel
  obtain ⟨b, hb⟩ : ∃ b, b = Tk.bl (l.drop q) := ⟨_, rfl⟩
  have hq := HI.out.hq
  have hbl := Tk.bl_le (l.drop q)
  rw [← hb, List.length_drop] at hbl
  have HBL := Lib.hid (fun w0 => rblanks_any s (p + q) w0 (by omega) (by omega))
  rw [HDR.out, ← hb, Int.natCast_add] at HBL
  have H1 := Lib.hid (fun w0 => hasp_any s ⟨#[62]⟩ (p + q + b) w0 (by omega) (by decide) (by omega))
  have H2 := Lib.hid (fun w0 => hasp_any s ⟨#[47, 62]⟩ (p + q + b) w0 (by omega) (by decide) (by omega))
  have e2 : s.data.toList.drop (p + q + b) = (l.drop q).drop b := by rw [Nat.add_assoc, HDR.out, List.drop_drop]
  rw [show (⟨#[62]⟩ : ByteArray).data.toList = [62] from rfl, e2, Int.natCast_add, Int.natCast_add] at H1
  rw [show (⟨#[47, 62]⟩ : ByteArray).data.toList = [47, 62] from rfl, e2, Int.natCast_add, Int.natCast_add] at H2
  have hstep := ats_step (f := l.length + 1) (l := l.drop q) (i := q) (acc := acc) (by rw [List.length_drop]; omega)
  rw [← hb] at hstep
  have hqb : (p : Int) + (q : Int) + (b : Int) ≤ (s.size : Int) := by omega
  have hxlt := HI.out.tok.lt
  obtain ⟨A, cA, hv, _, _, _, _⟩ := own_slice HI.out.own
  subst hv
  by_cases g1 : ((l.drop q).drop b).head? = some 62
  ·have HE := Lib.hid (show R = (acc, q + b + 1, 1) by rw [HR.out, HI.out.eq, hstep, if_pos g1])
   rw [hp_one.2 g1] at H1
   clear hstep g1 e2 hb
   have x0 : wr.cell? ⟨x, 0, none⟩ = some (.int .u8 1) := HI.out.tok.at_ 0
   have x1 : wr.cell? ⟨x, 1, none⟩ = some (.string N) := HI.out.tok.at_ 1
   have x2 : wr.cell? ⟨x, 2, none⟩ = some (.slice A acc.length cA) := HI.out.tok.at_ 2
   have x3 : wr.cell? ⟨x, 3, none⟩ = some (.string ⟨#[]⟩) := HI.out.tok.at_ 3
   have x4 : wr.cell? ⟨x, 4, none⟩ = some (.int .i64 p) := HI.out.tok.at_ 4
   have kb := HI.out.res
   have k0 : wr.cell? ⟨w.heap.size, 0, none⟩ = some (.int .u8 0) := kb.at_ 0
   have k1 : wr.cell? ⟨w.heap.size, 1, none⟩ = some (.string ⟨#[]⟩) := kb.at_ 1
   have k2 : wr.cell? ⟨w.heap.size, 2, none⟩ = some (.slice none 0 0) := kb.at_ 2
   have k3 : wr.cell? ⟨w.heap.size, 3, none⟩ = some (.string ⟨#[]⟩) := kb.at_ 3
   have k4 : wr.cell? ⟨w.heap.size, 4, none⟩ = some (.int .i64 0) := kb.at_ 4
   have f0 := kb.fz 0
   have f1 := kb.fz 1
   have f2 := kb.fz 2
   have f3 := kb.fz 3
   have f4 := kb.fz 4
   clear kb
   go_wp2_with fail
   refine (HBL.out _).mono ?_
   rintro e w2 ⟨rfl, rfl⟩
   go_wp2_with fail
   refine (H1.out _).mono ?_
   rintro e w2 ⟨rfl, rfl⟩
   go_wp2
   exact bodyPost_ret (v := .tuple #[.agg #[.int .u8 1, .string N, .slice A acc.length cA, .string ⟨#[]⟩, .int .i64 p], .int .i64 ((p : Int) + (q : Int) + (b : Int) + 1 - (p : Int))]) (by simp [results, Tryz.results49, go_sem, k0, k1, k2, k3, k4]) rfl (Or.inr ⟨by rw [HE.out]; simp, .slice A acc.length cA, by
    rw [HE.out]
    have y1 : (p : Int) + (q : Int) + (b : Int) + 1 - (p : Int) = ((q + b + 1 : Nat) : Int) := by omega
    rw [y1], by rw [HE.out]; exact own_fiveR (r := w.heap.size) (hr := by omega) HI.out.own (by omega) _ _ _ _ _, below_five HI.out.below (Nat.le_refl _) _ _ _ _ _⟩)
  ·by_cases g2 : ((l.drop q).drop b).take 2 = [47, 62]
   ·have HE := Lib.hid (show R = (acc, q + b + 2, 3) by rw [HR.out, HI.out.eq, hstep, if_neg g1, if_pos g2])
    rw [hp_one_no g1] at H1
    rw [hp_two.2 g2] at H2
    clear hstep g1 g2 e2 hb
    have x0 : wr.cell? ⟨x, 0, none⟩ = some (.int .u8 1) := HI.out.tok.at_ 0
    have x1 : wr.cell? ⟨x, 1, none⟩ = some (.string N) := HI.out.tok.at_ 1
    have x2 : wr.cell? ⟨x, 2, none⟩ = some (.slice A acc.length cA) := HI.out.tok.at_ 2
    have x3 : wr.cell? ⟨x, 3, none⟩ = some (.string ⟨#[]⟩) := HI.out.tok.at_ 3
    have x4 : wr.cell? ⟨x, 4, none⟩ = some (.int .i64 p) := HI.out.tok.at_ 4
    have y0 := HI.out.tok.fz 0
    have ne1 : w.heap.size ≠ x := by omega
    have ne2 : x ≠ w.heap.size := by omega
    have kb := HI.out.res
    have k0 : wr.cell? ⟨w.heap.size, 0, none⟩ = some (.int .u8 0) := kb.at_ 0
    have k1 : wr.cell? ⟨w.heap.size, 1, none⟩ = some (.string ⟨#[]⟩) := kb.at_ 1
    have k2 : wr.cell? ⟨w.heap.size, 2, none⟩ = some (.slice none 0 0) := kb.at_ 2
    have k3 : wr.cell? ⟨w.heap.size, 3, none⟩ = some (.string ⟨#[]⟩) := kb.at_ 3
    have k4 : wr.cell? ⟨w.heap.size, 4, none⟩ = some (.int .i64 0) := kb.at_ 4
    have f0 := kb.fz 0
    have f1 := kb.fz 1
    have f2 := kb.fz 2
    have f3 := kb.fz 3
    have f4 := kb.fz 4
    clear kb
    go_wp2_with fail
    refine (HBL.out _).mono ?_
    rintro e w2 ⟨rfl, rfl⟩
    go_wp2_with fail
    refine (H1.out _).mono ?_
    rintro e w2 ⟨rfl, rfl⟩
    go_wp2_with fail
    refine (H2.out _).mono ?_
    rintro e w2 ⟨rfl, rfl⟩
    go_wp2
    exact bodyPost_ret (v := .tuple #[.agg #[.int .u8 3, .string N, .slice A acc.length cA, .string ⟨#[]⟩, .int .i64 p], .int .i64 ((p : Int) + (q : Int) + (b : Int) + 2 - (p : Int))]) (by simp [results, Tryz.results49, go_sem, k0, k1, k2, k3, k4]) rfl (Or.inr ⟨by rw [HE.out]; simp, .slice A acc.length cA, by
     rw [HE.out]
     have y1 : (p : Int) + (q : Int) + (b : Int) + 2 - (p : Int) = ((q + b + 2 : Nat) : Int) := by omega
     rw [y1], by rw [HE.out]; exact own_fiveR (r := w.heap.size) (hr := by omega) (ownsRow_setCell_below HI.out.own (Nat.lt_succ_self x) _) (by omega) _ _ _ _ _, below_five (HI.out.below.setCell (p := ⟨x, 0, none⟩) (by show w.heap.size ≤ x; omega) _) (Nat.le_refl _) _ _ _ _ _⟩)
   ·rw [hp_one_no g1] at H1
    rw [hp_two_no g2] at H2
    rw [if_neg g1, if_neg g2] at hstep
    by_cases g3 : b = 0
    ·have HE := Lib.hid (show R.2.2 = 0 by rw [HR.out, HI.out.eq, hstep, if_pos (Or.inl g3)])
     subst g3
     clear hstep g1 g2 e2 hb
     go_wp2_with fail
     refine (HBL.out _).mono ?_
     rintro e w2 ⟨rfl, rfl⟩
     go_wp2_with fail
     refine (H1.out _).mono ?_
     rintro e w2 ⟨rfl, rfl⟩
     go_wp2_with fail
     refine (H2.out _).mono ?_
     rintro e w2 ⟨rfl, rfl⟩
     have kb := HI.out.res
     have k0 : wr.cell? ⟨w.heap.size, 0, none⟩ = some (.int .u8 0) := kb.at_ 0
     have k1 : wr.cell? ⟨w.heap.size, 1, none⟩ = some (.string ⟨#[]⟩) := kb.at_ 1
     have k2 : wr.cell? ⟨w.heap.size, 2, none⟩ = some (.slice none 0 0) := kb.at_ 2
     have k3 : wr.cell? ⟨w.heap.size, 3, none⟩ = some (.string ⟨#[]⟩) := kb.at_ 3
     have k4 : wr.cell? ⟨w.heap.size, 4, none⟩ = some (.int .i64 0) := kb.at_ 4
     have f0 := kb.fz 0
     have f1 := kb.fz 1
     have f2 := kb.fz 2
     have f3 := kb.fz 3
     have f4 := kb.fz 4
     clear kb
     go_wp2
     exact bodyPost_ret (v := .tuple #[.agg zT, .int .i64 0]) (by simp [results, Tryz.results49, go_sem, k0, k1, k2, k3, k4]) rfl (Or.inl ⟨HE.out, rfl, below_five (HI.out.below) (Nat.le_refl _) _ _ _ _ _⟩)
    ·have hbz : ((b : Int) == 0) = false := by
      apply beq_eq_false_iff_ne.2
      omega
     by_cases g4 : p + q + b = s.size
     ·have HE := Lib.hid (show R.2.2 = 0 by
       rw [HR.out, HI.out.eq, hstep, if_pos (Or.inr (by
        rw [show (l.drop q).drop b = [] from List.eq_nil_of_length_eq_zero (by rw [List.length_drop, List.length_drop]; omega), Tk.at1_none (by decide)]))])
      have g4' : ¬ (p : Int) + (q : Int) + (b : Int) < (s.size : Int) := by omega
      have g4'' : (s.size : Int) ≤ (p : Int) + (q : Int) + (b : Int) := by omega
      clear hstep g1 g2 e2 hb g4
      go_wp2_with fail
      refine (HBL.out _).mono ?_
      rintro e w2 ⟨rfl, rfl⟩
      go_wp2_with fail
      refine (H1.out _).mono ?_
      rintro e w2 ⟨rfl, rfl⟩
      go_wp2_with fail
      refine (H2.out _).mono ?_
      rintro e w2 ⟨rfl, rfl⟩
      have kb := HI.out.res
      have k0 : wr.cell? ⟨w.heap.size, 0, none⟩ = some (.int .u8 0) := kb.at_ 0
      have k1 : wr.cell? ⟨w.heap.size, 1, none⟩ = some (.string ⟨#[]⟩) := kb.at_ 1
      have k2 : wr.cell? ⟨w.heap.size, 2, none⟩ = some (.slice none 0 0) := kb.at_ 2
      have k3 : wr.cell? ⟨w.heap.size, 3, none⟩ = some (.string ⟨#[]⟩) := kb.at_ 3
      have k4 : wr.cell? ⟨w.heap.size, 4, none⟩ = some (.int .i64 0) := kb.at_ 4
      have f0 := kb.fz 0
      have f1 := kb.fz 1
      have f2 := kb.fz 2
      have f3 := kb.fz 3
      have f4 := kb.fz 4
      clear kb
      go_wp2
      exact bodyPost_ret (v := .tuple #[.agg zT, .int .i64 0]) (by simp [results, Tryz.results49, go_sem, k0, k1, k2, k3, k4]) rfl (Or.inl ⟨HE.out, rfl, below_five (HI.out.below) (Nat.le_refl _) _ _ _ _ _⟩)
     ·have g4' : (p : Int) + (q : Int) + (b : Int) < (s.size : Int) := by omega
      have HAT := Lib.hid (fun w0 => rattr_any s (p + q + b) w0 (by omega) (by omega))
      have hal := Tk.at1_le ((l.drop q).drop b)
      rw [List.length_drop, List.length_drop] at hal
      rw [e2, Int.natCast_add, Int.natCast_add] at HAT
      unfold rAtV at HAT
      generalize Tk.at1 ((l.drop q).drop b) = AT at *
      obtain ⟨⟨an, av, ap⟩, am⟩ := AT
      simp only at HAT hal hstep
      by_cases g5 : am = 0
      ·have HE := Lib.hid (show R.2.2 = 0 by rw [HR.out, HI.out.eq, hstep, if_pos (Or.inr g5)])
       subst g5
       simp only [if_true] at HAT
       clear hstep g1 g2 e2 hb g4
       go_wp2_with fail
       refine (HBL.out _).mono ?_
       rintro e w2 ⟨rfl, rfl⟩
       go_wp2_with fail
       refine (H1.out _).mono ?_
       rintro e w2 ⟨rfl, rfl⟩
       go_wp2_with fail
       refine (H2.out _).mono ?_
       rintro e w2 ⟨rfl, rfl⟩
       go_wp2_with fail
       refine (HAT.out _).mono ?_
       rintro e w3 ⟨rfl, h3⟩
       have hn3 : w3.heap.size ≠ w.heap.size := by have := h3.size; have := HI.out.res.lt; omega
       have hn4 : w.heap.size ≠ w3.heap.size := fun e => hn3 e.symm
       have hle : w.heap.size ≤ w3.heap.size := by have := h3.size; have := HI.out.below.size; omega
       have HB4 := Lib.hid (show IsBlk (w3.alloc (.cells #[.string ⟨an.toArray⟩, .string ⟨av.toArray⟩, .int .i64 0] 143)) w.heap.size 64 zT ∧ Below w.heap.size w (w3.alloc (.cells #[.string ⟨an.toArray⟩, .string ⟨av.toArray⟩, .int .i64 0] 143)) from ⟨(HI.out.res.below h3 HI.out.res.lt).below ((Below.refl _ _).alloc (Nat.le_refl _) _) (by omega), (HI.out.below.trans (h3.mono HI.out.below.size)).alloc hle _⟩)
       have kb := HB4.out.1
       have k0 : (w3.alloc (.cells #[.string ⟨an.toArray⟩, .string ⟨av.toArray⟩, .int .i64 0] 143)).cell? ⟨w.heap.size, 0, none⟩ = some (.int .u8 0) := kb.at_ 0
       have k1 : (w3.alloc (.cells #[.string ⟨an.toArray⟩, .string ⟨av.toArray⟩, .int .i64 0] 143)).cell? ⟨w.heap.size, 1, none⟩ = some (.string ⟨#[]⟩) := kb.at_ 1
       have k2 : (w3.alloc (.cells #[.string ⟨an.toArray⟩, .string ⟨av.toArray⟩, .int .i64 0] 143)).cell? ⟨w.heap.size, 2, none⟩ = some (.slice none 0 0) := kb.at_ 2
       have k3 : (w3.alloc (.cells #[.string ⟨an.toArray⟩, .string ⟨av.toArray⟩, .int .i64 0] 143)).cell? ⟨w.heap.size, 3, none⟩ = some (.string ⟨#[]⟩) := kb.at_ 3
       have k4 : (w3.alloc (.cells #[.string ⟨an.toArray⟩, .string ⟨av.toArray⟩, .int .i64 0] 143)).cell? ⟨w.heap.size, 4, none⟩ = some (.int .i64 0) := kb.at_ 4
       have f0 := kb.fz 0
       have f1 := kb.fz 1
       have f2 := kb.fz 2
       have f3 := kb.fz 3
       have f4 := kb.fz 4
       clear kb
       go_wp2
       exact bodyPost_ret (v := .tuple #[.agg zT, .int .i64 0]) (by simp [results, Tryz.results49, go_sem, k0, k1, k2, k3, k4]) rfl (Or.inl ⟨HE.out, rfl, below_five (HB4.out.2) (Nat.le_refl _) _ _ _ _ _⟩)
      ·rw [if_neg (by rintro (h | h); exact g3 h; exact g5 h)] at hstep
       rw [if_neg g5] at HAT
       have HEQ := Lib.hid (show Tk.tagO l = Tk.ats (l.length + 1) (l.drop (q + b + am)) (q + b + am) (acc ++ [Tk.sh ⟨an, av, ap⟩ (q + b)]) by
        rw [HI.out.eq, hstep, List.drop_drop, List.drop_drop, ← Nat.add_assoc])
       have hmz : ((am : Int) == 0) = false := by
        apply beq_eq_false_iff_ne.2
        omega
       have hqm : q + b + am ≤ l.length := by omega
       have hqm' : (p : Int) + (q : Int) + (b : Int) + (am : Int) ≤ (s.size : Int) := by omega
       have hapl : acc.length + 1 ≤ q + b + am := by have := HI.out.hl; omega
       obtain ⟨NN, hNN⟩ : ∃ X : ByteArray, X = ⟨an.toArray⟩ := ⟨_, rfl⟩
       obtain ⟨VV, hVV⟩ : ∃ X : ByteArray, X = ⟨av.toArray⟩ := ⟨_, rfl⟩
       obtain ⟨PP, hPP⟩ : ∃ X : Int, X = ((ap + (p + q + b) : Nat) : Int) := ⟨_, rfl⟩
       rw [← hNN, ← hVV, ← hPP] at HAT
       have HNV := Lib.hid (And.intro hNN (And.intro hVV hPP))
       obtain ⟨i0, hi, hz0, hz1, hz2⟩ := info_parts infoRA
       have hbig : acc.length + 1 ≤ maxLen := by unfold maxLen; omega
       clear hstep g1 g2 e2 hb g4 g5 hNN hVV hPP
       go_wp2_with fail
       refine (HBL.out _).mono ?_
       rintro e w2 ⟨rfl, rfl⟩
       go_wp2_with fail
       refine (H1.out _).mono ?_
       rintro e w2 ⟨rfl, rfl⟩
       go_wp2_with fail
       refine (H2.out _).mono ?_
       rintro e w2 ⟨rfl, rfl⟩
       go_wp2_with fail
       refine (HAT.out _).mono ?_
       rintro e w3 ⟨rfl, h3⟩
       have t3 := HI.out.tok.below h3 hxlt
       have x2 : w3.cell? ⟨x, 2, none⟩ = some (.slice A acc.length cA) := t3.at_ 2
       have hx3 : x < w3.heap.size := t3.lt
       have hn3 : w3.heap.size ≠ x := by omega
       have hn4 : x ≠ w3.heap.size := by omega
       have own3 := own_below HI.out.own h3
       have H3 := Lib.hid h3
       clear h3 t3
       go_wp2_with (at_builtin; refine wpList_append_lies _ rfl _ _ _ rfl (x + 1) 143 i0 _ 3 40 Tryz.underlying62 hi hz0 hz1 hz2 rfl (by omega) (.slice A acc.length cA) acc.length (rowA p acc) (by rfl) (by exact (own3.alloc _).alloc _) _ 1 _ [.string NN, .string VV, .int .i64 PP] (by rfl) rfl (by intro j u hu; exact news_at _ _ _ _ (by simp) j u hu) (by intro u hu; simp at hu; rcases hu with rfl | rfl | rfl <;> rfl) (by omega) hbig (by omega) (by simp; omega) _ rfl ?_; intro g9 c9 w9 hown9 hgr9 _ _; have B9 : Below (x + 1) wr w9 := Below.grown ((((Below.refl _ _).trans (H3.out.mono hxlt)).alloc (by omega) _).alloc (by simp; omega) _) hgr9 (by simp; omega) (fun k hk => (own3.lt k hk).1); have y2 := (B9.cell (p := ⟨x, 2, none⟩) (Nat.lt_succ_self x)).trans (HI.out.tok.at_ 2); have yf := (B9.frozen (p := ⟨x, 2, none⟩) (Nat.lt_succ_self x)).trans (HI.out.tok.fz 2); have HB9 := Lib.hid B9; clear B9)
       have HNX := Lib.hid (show TagR l p N n w x (w9.setCell ⟨x, 2, none⟩ (.slice (some ⟨g9, 0, none⟩) (acc.length + 1) c9)) (q + b + am) (.slice (some ⟨g9, 0, none⟩) (acc.length + 1) c9) (acc ++ [Tk.sh ⟨an, av, ap⟩ (q + b)]) from by
        refine ⟨hqm, by rw [List.length_append]; exact hapl, ?_, ?_, ?_, ?_, HEQ.out⟩
        ·exact (HI.out.below.trans (HB9.out.mono (by omega))).setCell (p := ⟨x, 2, none⟩) (by show w.heap.size ≤ x; omega) _
        ·exact (HI.out.res.below HB9.out (by omega)).far (by show w.heap.size ≠ x; omega) _
        ·exact (HI.out.tok.below HB9.out (Nat.lt_succ_self x)).set 2 _
        ·rw [List.length_append, rowA_snoc]
         have e9 : ((Tk.sh ⟨an, av, ap⟩ (q + b)).p + p : Nat) = ap + (p + q + b) := by show ap + (q + b) + p = _; omega
         rw [e9, ← HNV.out.2.2]
         show World.ownsRow _ _ _ _ _ _ (rowA p acc ++ [.string ⟨an.toArray⟩, .string ⟨av.toArray⟩, .int .i64 PP])
         rw [← HNV.out.1, ← HNV.out.2.1]
         exact ownsRow_setCell_below hown9 (Nat.lt_succ_self x) _)
       have e10 : Value.int .i64 ((p : Int) + (q : Int) + (b : Int) + (am : Int)) = Value.int .i64 ((p : Int) + ((q + b + am : Nat) : Int)) := by rw [Int.natCast_add, Int.natCast_add, ← Int.add_assoc, ← Int.add_assoc]
       have HE10 := Lib.hid e10
       clear hown9 hgr9 e10
       go_wp2
       go_roundw
       case rel => first | exact ⟨q + b + am, _, _, HE10.out, HNX⟩ | ((repeat apply Exists.intro); exact ⟨⟨q + b + am, _, _, HE10.out, HNX⟩, rfl⟩)
       case measure => simp [intOf]; omega
end Go.Proofs.YteadfpkihhaadaaGreatDoor
