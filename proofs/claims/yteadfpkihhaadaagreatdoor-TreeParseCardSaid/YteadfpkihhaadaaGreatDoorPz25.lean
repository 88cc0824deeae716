/- Facts and walks for the statement. -/
import Derived.Test.YteadfpkihhaadaaGreatDoorPz24
import Derived.Test.YteadfpkihhaadaaGreatDoorPz17
import Derived.Deep.LoopGhost
import Derived.Test.YteadfpkihhaadaaGreatDoorPz16
namespace Go.Proofs.YteadfpkihhaadaaGreatDoor
open Go.RowKit
def Tr.chs (l : List UInt8) : Bool := (vld l).2 == 0
def Tr.impr (a : Tr.At) : Bool := !Nm.isn a.1 || !Tr.chs a.2
def Tr.proper (n : Tr.N) : Bool := Nm.isn n.nm && (n.tx.isEmpty || !Tk.allB n.tx) && Tr.chs n.tx && decide (n.al.length ≤ 32) && Tr.rising n.al && !n.al.any Tr.impr
theorem ba_size (l : List UInt8) : (⟨l.toArray⟩ : ByteArray).size = l.length := by show l.toArray.size = _; simp
set_option maxHeartbeats 2000000 in
theorem chs_any (w : World) (T : Tb w) (l : List UInt8) (hl : l.length ≤ 1048576) :
  Calls Tryz.prog 70 #[.string ⟨l.toArray⟩] w fun e w' => e = .returned (.bool (Tr.chs l)) ∧ Below w.heap.size w w' := by
 have HV := Lib.hid (valid_any ⟨l.toArray⟩ w T.t (by rw [ba_size]; unfold maxLen; omega))
 have HC := Lib.hid (show Tr.chs l = ((vld l).2 == 0) from rfl)
 obtain ⟨R, hR⟩ : ∃ R, R = Tr.chs l := ⟨_, rfl⟩
 rw [← hR] at HC ⊢
 change Hid (Calls _ _ _ w fun e w' => e = .returned (.tuple #[.int .i64 (vld l).1, .int .i64 (vld l).2]) ∧ _) at HV
 generalize (vld l).1 = p at *
 generalize (vld l).2 = q at *
 generalize (⟨l.toArray⟩ : ByteArray) = S at *
 clear hR hl T
 go_enter Tryz.func70, Tryz.ntmps70
 go_wp2_with fail
 refine HV.out.mono ?_
 rintro e w1 ⟨rfl, h1⟩
 have B1 := Lib.hid h1
 clear h1
 go_wp2
 go_ret
 exact ⟨by rw [HC.out]; rfl, B1.out⟩
set_option maxHeartbeats 2000000 in
theorem impr_any (w : World) (T : Tb w) (a : Tr.At) (h1 : a.1.length ≤ 1048576) (h2 : a.2.length ≤ 1048576) :
  Calls Tryz.prog 73 #[.agg #[.string ⟨a.1.toArray⟩, .string ⟨a.2.toArray⟩]] w fun e w' => e = .returned (.bool (Tr.impr a)) ∧ Below w.heap.size w w' := by
 obtain ⟨n, v⟩ := a
 obtain ⟨W1, hW1⟩ : ∃ W1, W1 = w.alloc (.cells #[.string ⟨n.toArray⟩, .string ⟨v.toArray⟩] 51) := ⟨_, rfl⟩
 have hb1 : Below w.heap.size w W1 := by rw [hW1]; exact (Below.refl _ _).alloc (Nat.le_refl _) _
 have hk1 : IsBlk W1 w.heap.size 51 #[.string ⟨n.toArray⟩, .string ⟨v.toArray⟩] := by rw [hW1]; exact IsBlk.new _ _ _
 have HB1 := Lib.hid hb1
 have HK1 := Lib.hid hk1
 have HE1 := Lib.hid hW1
 have HI := Lib.hid (NmW.is_any ⟨n.toArray⟩ W1 (by rw [ba_size]; unfold maxLen; simp only at h1; omega))
 have HC := Lib.hid (fun w' (hb : Below w.heap.size w w') => chs_any w' (T.below hb (Nat.le_refl _)) v h2)
 have HR := Lib.hid (show Tr.impr (n, v) = (!Nm.isn n || !Tr.chs v) from rfl)
 change Hid (Calls _ _ _ W1 fun e w' => e = .returned (.bool (Nm.isn n)) ∧ _) at HI
 obtain ⟨R, hR⟩ : ∃ R, R = Tr.impr (n, v) := ⟨_, rfl⟩
 rw [← hR] at HR ⊢
 generalize Nm.isn n = b1 at *
 generalize Tr.chs v = b2 at *
 simp only
 generalize (⟨n.toArray⟩ : ByteArray) = N at *
 generalize (⟨v.toArray⟩ : ByteArray) = V at *
 have x0 : W1.cell? ⟨w.heap.size, 0, none⟩ = some (.string N) := hk1.at_ 0
 have x1 : W1.cell? ⟨w.heap.size, 1, none⟩ = some (.string V) := hk1.at_ 1
 have HX1 := Lib.hid x1
 rw [HE1.out] at x0 x1
 clear hR hW1 hb1 hk1 h1 h2 T
 go_enter Tryz.func73, Tryz.ntmps73
 go_wp2_with fail
 rw [← HE1.out]
 refine HI.out.mono ?_
 rintro e w2 ⟨rfl, h2⟩
 have B2 := Lib.hid (HB1.out.trans (h2.mono HB1.out.size))
 have y1 : w2.cell? ⟨w.heap.size, 1, none⟩ = some (.string V) := (h2.cell (p := ⟨w.heap.size, 1, none⟩) HK1.out.lt).trans HX1.out
 clear h2 x0 x1
 cases b1 with
 | false =>
  go_wp2
  go_ret
  exact ⟨by rw [HR.out]; rfl, B2.out⟩
 | true =>
  go_wp2_with fail
  refine (HC.out _ B2.out).mono ?_
  rintro e w3 ⟨rfl, h3⟩
  have B3 := Lib.hid (B2.out.trans (h3.mono B2.out.size))
  clear h3 y1
  go_wp2
  go_ret
  exact ⟨by rw [HR.out]; cases b2 <;> rfl, B3.out⟩
set_option maxHeartbeats 4000000 in
set_option maxRecDepth 100000 in
theorem idxImpr_any (w : World) (T : Tb w) (A : Option Addr) (c : Nat) (al : List Tr.At) (hl : al.length ≤ c) (hc : c ≤ maxLen) (h : Reads2o w w.heap.size A al) (hf : ∀ a ∈ al, a.1.length ≤ 1048576 ∧ a.2.length ≤ 1048576) :
  Calls Tryz.prog 109 #[.slice A al.length c, .func (Fn.func 73) #[] #[]] w fun e w' => (∃ i : Int, e = .returned (.int .i64 i) ∧ (decide (0 ≤ i) = al.any Tr.impr)) ∧ Below w.heap.size w w' := by
 have H := Lib.hid h
 have HF := Lib.hid hf
 have HT := Lib.hid T
 have hm : (al.length : Int) ≤ 9223372036854775807 := by unfold maxLen at hc; omega
 have hl' : (al.length : Int) ≤ (c : Int) := by omega
 clear h hf T
 go_enter Tryz.func109, Tryz.ntmps109
 go_wp2
 go_loopw [8] (fun i wr => ∃ k : Nat, i = .int .i64 k ∧ k ≤ al.length ∧ Hid (Below w.heap.size w wr ∧ (al.take k).any Tr.impr = false)) (fun i _ => al.length - (intOf i).toNat)
 case atStart => exact ⟨0, rfl, Nat.zero_le _, Lib.hid ⟨Below.refl _ _, rfl⟩⟩
 case round =>
  obtain ⟨k, rfl, hk, HI⟩ := hrel
  by_cases hlt : k < al.length
  ·have hlt' : (k : Int) < (al.length : Int) := by omega
   obtain ⟨g, o, hA, hg, hcl⟩ := (H.out.below HI.out.1) (by omega)
   subst hA
   obtain ⟨c0, c1⟩ := hcl k hlt
   have hfa := HF.out _ (List.getElem_mem hlt)
   have HM := Lib.hid (fun w' (hb : Below wr.heap.size wr w') => impr_any w' ((HT.out.below HI.out.1 (Nat.le_refl _)).below hb (Nat.le_refl _)) al[k] hfa.1 hfa.2)
   have HAN := Lib.hid (show Tr.impr al[k] = true → al.any Tr.impr = true from fun h => List.any_eq_true.2 ⟨_, List.getElem_mem hlt, h⟩)
   have HST := Lib.hid (show Tr.impr al[k] = false → (al.take (k + 1)).any Tr.impr = false from fun h => by
    rw [List.take_succ_eq_append_getElem hlt, List.any_append, HI.out.2]; simp [h])
   have hkn : k < al.length := hlt
   clear hcl hfa
   generalize al[k] = a at *
   obtain ⟨n, v⟩ := a
   simp only at c0 c1 HM
   generalize Tr.impr (n, v) = bb at *
   generalize (⟨n.toArray⟩ : ByteArray) = N at *
   generalize (⟨v.toArray⟩ : ByteArray) = V at *
   clear hlt
   go_wp2_with fail
   refine (HM.out _ (by first | exact Below.refl _ _ | exact (Below.refl _ _).drew)).mono ?_
   rintro e w3 ⟨rfl, h3⟩
   have B3 := Lib.hid (HI.out.1.trans (h3.mono HI.out.1.size))
   clear h3 c0 c1
   cases bb with
   | true =>
    have HF2 := Lib.hid (HAN.out rfl)
    go_wp2
    go_ret
    exact ⟨⟨_, rfl, by rw [HF2.out]; simp⟩, B3.out⟩
   | false =>
    have HF2 := Lib.hid (HST.out rfl)
    go_wp2
    go_roundw
    case rel => exact ⟨k + 1, by go_num, hkn, Lib.hid ⟨B3.out, HF2.out⟩⟩
    case measure => simp [intOf]; omega
  ·obtain rfl : k = al.length := by omega
   have HF2 := Lib.hid (show al.any Tr.impr = false from by have := HI.out.2; rwa [List.take_length] at this)
   have hlt' : ¬ ((al.length : Nat) : Int) < (al.length : Int) := by omega
   go_wp2
   go_ret
   exact ⟨⟨_, rfl, by rw [HF2.out]; rfl⟩, HI.out.1⟩
set_option maxHeartbeats 2000000 in
theorem conImpr_any (w : World) (T : Tb w) (A : Option Addr) (c : Nat) (al : List Tr.At) (hl : al.length ≤ c) (hc : c ≤ maxLen) (h : Reads2o w w.heap.size A al) (hf : ∀ a ∈ al, a.1.length ≤ 1048576 ∧ a.2.length ≤ 1048576) :
  Calls Tryz.prog 72 #[.slice A al.length c, .func (Fn.func 73) #[] #[]] w fun e w' => e = .returned (.bool (al.any Tr.impr)) ∧ Below w.heap.size w w' := by
 have HI := Lib.hid (idxImpr_any w T A c al hl hc h hf)
 generalize al.any Tr.impr = R at *
 clear h hf T
 go_enter Tryz.func72, Tryz.ntmps72
 go_wp2_with fail
 refine HI.out.mono ?_
 rintro e w1 ⟨⟨i, rfl, hi⟩, h1⟩
 have B1 := Lib.hid h1
 clear h1
 subst hi
 by_cases h0 : 0 ≤ i
 ·go_wp2
  go_ret
  exact ⟨by first | (simp; done) | (simp [h0]; done), B1.out⟩
 ·go_wp2
  go_ret
  exact ⟨by first | (simp; done) | (simp [h0]; done), B1.out⟩
end Go.Proofs.YteadfpkihhaadaaGreatDoor
namespace Go.Proofs.YteadfpkihhaadaaGreatDoor
open Go.RowKit
set_option maxHeartbeats 8000000 in
set_option maxRecDepth 100000 in
theorem proper_any (w : World) (T : Tb w) (x : Nd) (hx : NdOk w w.heap.size x) (hf : NdFit x) :
  Calls Tryz.prog 31 #[.agg x.cs] w fun e w' => e = .returned (.bool (Tr.proper x.n)) ∧ Below w.heap.size w w' := by
 obtain ⟨⟨nm, al, tx, pa, fi, nx, at0⟩, A, c⟩ := x
 obtain ⟨f1, f2, f3, f4⟩ := hf
 simp only at f1 f2 f3 f4
 obtain ⟨W1, hW1⟩ : ∃ W1, W1 = w.alloc (.cells (Nd.cs ⟨⟨nm, al, tx, pa, fi, nx, at0⟩, A, c⟩) 49) := ⟨_, rfl⟩
 have hb1 : Below w.heap.size w W1 := by rw [hW1]; exact (Below.refl _ _).alloc (Nat.le_refl _) _
 have hk1 : IsBlk W1 w.heap.size 49 (Nd.cs ⟨⟨nm, al, tx, pa, fi, nx, at0⟩, A, c⟩) := by rw [hW1]; exact IsBlk.new _ _ _
 have HIS := Lib.hid (NmW.is_any ⟨nm.toArray⟩ W1 (by rw [ba_size]; unfold maxLen; omega))
 change Hid (Calls _ _ _ W1 fun e w' => e = .returned (.bool (Nm.isn nm)) ∧ _) at HIS
 have HBL := Lib.hid (fun w' => blank_any ⟨tx.toArray⟩ (by rw [ba_size]; unfold maxLen; omega) w')
 change Hid (∀ w', Calls _ _ _ w' fun e w'' => e = .returned (.bool (Tk.allB tx)) ∧ _) at HBL
 have HCH := Lib.hid (fun w' (hb : Below w.heap.size w w') => chs_any w' (T.below hb (Nat.le_refl _)) tx f2)
 have HRI := Lib.hid (fun w' (hb : Below w.heap.size w w') => rising_any w' A c al hx.len hx.cap ((hx.below hb).more hb.size).att)
 have HCI := Lib.hid (fun w' (hb : Below w.heap.size w w') => conImpr_any w' (T.below hb (Nat.le_refl _)) A c al hx.len hx.cap ((hx.below hb).more hb.size).att f4)
 have HR := Lib.hid (show Tr.proper ⟨nm, al, tx, pa, fi, nx, at0⟩ = (Nm.isn nm && (tx.isEmpty || !Tk.allB tx) && Tr.chs tx && decide (al.length ≤ 32) && Tr.rising al && !al.any Tr.impr) from rfl)
 obtain ⟨R, hR⟩ : ∃ R, R = Tr.proper ⟨nm, al, tx, pa, fi, nx, at0⟩ := ⟨_, rfl⟩
 rw [← hR] at HR ⊢
 have hte : (⟨tx.toArray⟩ : ByteArray).toList.isEmpty = tx.isEmpty := by rw [toList_of (a := tx) rfl]
 unfold Nd.cs at hW1 hk1 ⊢
 simp only at hW1 hk1 ⊢
 have h32 : decide ((al.length : Int) ≤ 32) = decide (al.length ≤ 32) := by
  by_cases h : al.length ≤ 32
  ·rw [decide_eq_true h]; apply decide_eq_true; omega
  ·rw [decide_eq_false h]; apply decide_eq_false; omega
 generalize Nm.isn nm = b1 at *
 generalize tx.isEmpty = b2 at *
 generalize Tk.allB tx = b3 at *
 generalize Tr.chs tx = b4 at *
 generalize decide (al.length ≤ 32) = b5 at *
 generalize Tr.rising al = b6 at *
 generalize al.any Tr.impr = b7 at *
 generalize (⟨nm.toArray⟩ : ByteArray) = N at *
 generalize (⟨tx.toArray⟩ : ByteArray) = X at *
 have HX := Lib.hid (fun w' (hb : Below W1.heap.size W1 w') => (show w'.cell? ⟨w.heap.size, 0, none⟩ = some (.string N) ∧ w'.cell? ⟨w.heap.size, 1, none⟩ = some (.slice A al.length c) ∧ w'.cell? ⟨w.heap.size, 2, none⟩ = some (.string X) from by
  have := hk1.below hb hk1.lt
  exact ⟨this.at_ 0, this.at_ 1, this.at_ 2⟩))
 have B0 := Lib.hid (Below.refl W1.heap.size W1)
 have HB1 := Lib.hid hb1
 have HE1 := Lib.hid hW1
 obtain ⟨x0, x1, x2⟩ := HX.out W1 B0.out
 rw [hW1] at x0 x1 x2
 clear hR hW1 hb1 hk1 hx T f1 f2 f3 f4
 go_enter Tryz.func31, Tryz.ntmps31
 go_wp2_with fail
 rw [← HE1.out]
 refine HIS.out.mono ?_
 rintro e w1 ⟨rfl, h1⟩
 have B1 := Lib.hid h1
 clear h1 x0 x1 x2
 obtain ⟨y0, y1, y2⟩ := HX.out w1 B1.out
 cases b1 with
 | false =>
  go_wp2
  go_ret
  exact ⟨by rw [HR.out]; rfl, HB1.out.trans (B1.out.mono HB1.out.size)⟩
 | true =>
  cases b2 with
  | true =>
   have he : X.toList = [] := List.isEmpty_iff.1 hte
   go_wp2_with fail
   refine ((HCH.out w1 (HB1.out.trans (B1.out.mono HB1.out.size)))).mono ?_
   rintro e w3 ⟨rfl, h3⟩
   have B3 := Lib.hid (B1.out.trans (h3.mono B1.out.size))
   clear h3 y0 y1 y2
   obtain ⟨y0, y1, y2⟩ := HX.out w3 B3.out
   cases b4 with
   | false =>
    go_wp2
    go_ret
    exact ⟨by rw [HR.out]; rfl, HB1.out.trans (B3.out.mono HB1.out.size)⟩
   | true =>
    cases b5 with
    | false =>
     go_wp2
     go_ret
     exact ⟨by rw [HR.out]; rfl, HB1.out.trans (B3.out.mono HB1.out.size)⟩
    | true =>
     go_wp2_with fail
     refine ((HRI.out w3 (HB1.out.trans (B3.out.mono HB1.out.size)))).mono ?_
     rintro e w4 ⟨rfl, h4⟩
     have B4 := Lib.hid (B3.out.trans (h4.mono B3.out.size))
     clear h4 y0 y1 y2
     obtain ⟨y0, y1, y2⟩ := HX.out w4 B4.out
     cases b6 with
     | false =>
      go_wp2
      go_ret
      exact ⟨by rw [HR.out]; rfl, HB1.out.trans (B4.out.mono HB1.out.size)⟩
     | true =>
      go_wp2_with fail
      refine ((HCI.out w4 (HB1.out.trans (B4.out.mono HB1.out.size)))).mono ?_
      rintro e w5 ⟨rfl, h5⟩
      have B5 := Lib.hid (B4.out.trans (h5.mono B4.out.size))
      clear h5 y0 y1 y2
      obtain ⟨y0, y1, y2⟩ := HX.out w5 B5.out
      cases b7 with
      | false =>
       go_wp2
       go_ret
       exact ⟨by rw [HR.out]; rfl, HB1.out.trans (B5.out.mono HB1.out.size)⟩
      | true =>
       go_wp2
       go_ret
       exact ⟨by rw [HR.out]; rfl, HB1.out.trans (B5.out.mono HB1.out.size)⟩
  | false =>
   have he : ¬ X.toList = [] := fun e => by rw [e] at hte; cases hte
   go_wp2_with fail
   refine ((HBL.out w1)).mono ?_
   rintro e w2 ⟨rfl, h2⟩
   have B2 := Lib.hid (B1.out.trans (h2.mono B1.out.size))
   clear h2 y0 y1 y2
   obtain ⟨y0, y1, y2⟩ := HX.out w2 B2.out
   cases b3 with
   | true =>
    go_wp2
    go_ret
    exact ⟨by rw [HR.out]; rfl, HB1.out.trans (B2.out.mono HB1.out.size)⟩
   | false =>
    go_wp2_with fail
    refine ((HCH.out w2 (HB1.out.trans (B2.out.mono HB1.out.size)))).mono ?_
    rintro e w3 ⟨rfl, h3⟩
    have B3 := Lib.hid (B2.out.trans (h3.mono B2.out.size))
    clear h3 y0 y1 y2
    obtain ⟨y0, y1, y2⟩ := HX.out w3 B3.out
    cases b4 with
    | false =>
     go_wp2
     go_ret
     exact ⟨by rw [HR.out]; rfl, HB1.out.trans (B3.out.mono HB1.out.size)⟩
    | true =>
     cases b5 with
     | false =>
      go_wp2
      go_ret
      exact ⟨by rw [HR.out]; rfl, HB1.out.trans (B3.out.mono HB1.out.size)⟩
     | true =>
      go_wp2_with fail
      refine ((HRI.out w3 (HB1.out.trans (B3.out.mono HB1.out.size)))).mono ?_
      rintro e w4 ⟨rfl, h4⟩
      have B4 := Lib.hid (B3.out.trans (h4.mono B3.out.size))
      clear h4 y0 y1 y2
      obtain ⟨y0, y1, y2⟩ := HX.out w4 B4.out
      cases b6 with
      | false =>
       go_wp2
       go_ret
       exact ⟨by rw [HR.out]; rfl, HB1.out.trans (B4.out.mono HB1.out.size)⟩
      | true =>
       go_wp2_with fail
       refine ((HCI.out w4 (HB1.out.trans (B4.out.mono HB1.out.size)))).mono ?_
       rintro e w5 ⟨rfl, h5⟩
       have B5 := Lib.hid (B4.out.trans (h5.mono B4.out.size))
       clear h5 y0 y1 y2
       obtain ⟨y0, y1, y2⟩ := HX.out w5 B5.out
       cases b7 with
       | false =>
        go_wp2
        go_ret
        exact ⟨by rw [HR.out]; rfl, HB1.out.trans (B5.out.mono HB1.out.size)⟩
       | true =>
        go_wp2
        go_ret
        exact ⟨by rw [HR.out]; rfl, HB1.out.trans (B5.out.mono HB1.out.size)⟩
end Go.Proofs.YteadfpkihhaadaaGreatDoor
namespace Go.Proofs.YteadfpkihhaadaaGreatDoor
open Go.RowKit
def Tr.toPlace (p : Int) (op : List Tr.E) : List Tr.E := (op.reverse.dropWhile (fun e => e.pl != p)).reverse
theorem Tr.toPlace_hit {p : Int} {l : List Tr.E} {e : Tr.E} (h : e.pl = p) : Tr.toPlace p (l ++ [e]) = l ++ [e] := by
 unfold Tr.toPlace
 rw [List.reverse_append]
 simp [h]
theorem Tr.toPlace_miss {p : Int} {l : List Tr.E} {e : Tr.E} (h : e.pl ≠ p) : Tr.toPlace p (l ++ [e]) = Tr.toPlace p l := by
 unfold Tr.toPlace
 rw [List.reverse_append]
 simp [h]
structure ClI (B r : Nat) (w : World) (m : Gm) (p : Int) (wr : World) (m' : Gm) : Prop where
 st : GTo B r w m wr m'
 ns : m'.ns = m.ns
 op : Tr.toPlace p (m'.es.map (·.1)) = Tr.toPlace p (m.es.map (·.1))
def ClP (B r : Nat) (w : World) (m : Gm) (p : Int) (e : Ending) (w' : World) : Prop :=
 ∃ m', e = .returned (.bool (decide ((Tr.inn m'.g).pl = p))) ∧ GTo B r w m w' m' ∧ m'.ns = m.ns ∧ m'.es.map (·.1) = Tr.toPlace p (m.es.map (·.1))
set_option maxHeartbeats 4000000 in
set_option maxRecDepth 100000 in
theorem closeTo_any (B : Nat) (w : World) (r : Nat) (m : Gm) (h : GS B w r m) (p : Int) :
  Calls Tryz.prog 32 #[.pointer (some ⟨r, 0, none⟩), .int .i64 p] w (ClP B r w m p) := by
 have HS := Lib.hid (show ClI B r w m p w m from ⟨GTo.refl h, rfl, rfl⟩)
 clear h
 go_enter Tryz.func32, Tryz.ntmps32
 go_wp2
 go_loopg [] m.es.length (fun g1 wr => ∃ m', m'.es.length ≤ g1 ∧ Hid (ClI B r w m p wr m'))
 case atStart => exact ⟨m, Nat.le_refl _, HS⟩
 case round =>
  obtain ⟨m', hg1', HI⟩ := hrel
  have HG1 := Lib.hid hg1'
  clear hg1'
  have HO := Lib.hid (outside_any B wr r m' HI.out.st.gs)
  have HIN := Lib.hid (fun w' (hb : Below wr.heap.size wr w') => inner_any B w' r m' (HI.out.st.gs.below hb))
  obtain ⟨PL, hPL⟩ : ∃ x, x = (Tr.inn m'.g).pl := ⟨_, rfl⟩
  rcases List.eq_nil_or_concat m'.es with he | ⟨l, x, he⟩
  ·rw [he] at HO
   have HOP := Lib.hid (show m'.es.map (·.1) = Tr.toPlace p (m.es.map (·.1)) from by rw [← HI.out.op, he]; rfl)
   have HPL := Lib.hid hPL
   clear he hPL
   go_wp2_with fail
   refine HO.out.mono ?_
   rintro e w1 ⟨rfl, h1⟩
   have B1 := Lib.hid h1
   clear h1
   go_wp2_with fail
   refine (HIN.out w1 B1.out).mono ?_
   rintro e w2 ⟨eb, eo, rfl, hi⟩
   have c0 : w2.cell? ⟨eb, eo, none⟩ = some (.int .i64 PL) := by rw [HPL.out]; exact hi.c0
   have HB := Lib.hid (B1.out.trans (hi.bl.mono B1.out.size))
   clear hi
   by_cases hp : PL = p
   ·have hpb : (PL == p) = true := by simp [hp]
    have HD := Lib.hid (show decide ((Tr.inn m'.g).pl = p) = true from by rw [← HPL.out]; exact decide_eq_true hp)
    clear hp
    go_wp2
    go_ret
    exact ⟨m', by rw [HD.out]; rfl, HI.out.st.on HB.out, HI.out.ns, HOP.out⟩
   ·have hpb : (PL == p) = false := beq_eq_false_iff_ne.2 hp
    have HD := Lib.hid (show decide ((Tr.inn m'.g).pl = p) = false from by rw [← HPL.out]; exact decide_eq_false hp)
    clear hp
    go_wp2
    go_ret
    exact ⟨m', by rw [HD.out]; rfl, HI.out.st.on HB.out, HI.out.ns, HOP.out⟩
  ·rw [List.concat_eq_append] at he
   have hnb : (l ++ [x]).isEmpty = false := by simp
   rw [he, hnb] at HO
   have HE := Lib.hid he
   have HPL := Lib.hid hPL
   clear he hPL hnb
   go_wp2_with fail
   refine HO.out.mono ?_
   rintro e w1 ⟨rfl, h1⟩
   have B1 := Lib.hid h1
   clear h1
   go_wp2_with fail
   refine (HIN.out w1 B1.out).mono ?_
   rintro e w2 ⟨eb, eo, rfl, hi⟩
   have c0 : w2.cell? ⟨eb, eo, none⟩ = some (.int .i64 PL) := by rw [HPL.out]; exact hi.c0
   have HB := Lib.hid (B1.out.trans (hi.bl.mono B1.out.size))
   clear hi
   by_cases hp : PL = p
   ·have hpb : (PL == p) = true := by simp [hp]
    have HD := Lib.hid (show decide ((Tr.inn m'.g).pl = p) = true from by rw [← HPL.out]; exact decide_eq_true hp)
    have HOP := Lib.hid (show m'.es.map (·.1) = Tr.toPlace p (m.es.map (·.1)) from by
     rw [← HI.out.op, HE.out, List.map_append, List.map_cons, List.map_nil, Tr.toPlace_hit]
     rw [← inn_last HE.out, ← HPL.out]; exact hp)
    clear hp
    go_wp2_with fail
    refine (HIN.out w2 HB.out).mono ?_
    rintro e w3 ⟨eb3, eo3, rfl, hi⟩
    have c3 : w3.cell? ⟨eb3, eo3, none⟩ = some (.int .i64 PL) := by rw [HPL.out]; exact hi.c0
    have HB3 := Lib.hid (HB.out.trans (hi.bl.mono HB.out.size))
    clear hi c0
    go_wp2
    go_ret
    exact ⟨m', by rw [HD.out]; rfl, HI.out.st.on HB3.out, HI.out.ns, HOP.out⟩
   ·have hpb : (PL == p) = false := beq_eq_false_iff_ne.2 hp
    have HOP := Lib.hid (show Tr.toPlace p (l.map (·.1)) = Tr.toPlace p (m.es.map (·.1)) from by
     rw [← HI.out.op, HE.out, List.map_append, List.map_cons, List.map_nil, Tr.toPlace_miss]
     rw [← inn_last HE.out, ← HPL.out]; exact hp)
    obtain ⟨og, n, cap, hv⟩ := HI.out.st.gs.ovform HE.out
    have HCL := Lib.hid (close_any B w2 r m' (HI.out.st.gs.below HB.out) HE.out hv)
    clear hp hv
    go_wp2_with fail
    refine HCL.out.mono ?_
    rintro e w3 ⟨rfl, h3⟩
    have HN := Lib.hid (show ClI B r w m p w3 { m' with ov := .slice (some ⟨og, 0, none⟩) l.length cap, es := l } from ⟨(HI.out.st.on HB.out).trans h3, HI.out.ns, HOP.out⟩)
    clear h3 c0
    go_wp2
    go_roundg (gk - 1)
    case measure => have h1 := HG1.out; have h2 := congrArg List.length HE.out; rw [List.length_append] at h2; simp at h2; omega
    case rel => exact ⟨_, by have h1 := HG1.out; have h2 := congrArg List.length HE.out; rw [List.length_append] at h2; simp at h2; simp only; omega, HN⟩
end Go.Proofs.YteadfpkihhaadaaGreatDoor
namespace Go.Proofs.YteadfpkihhaadaaGreatDoor
open Go.RowKit
def Tr.chk1 (g : Tr.G) (n : Tr.N) : Option Tr.G :=
 if Tr.proper n && decide ((Tr.inn ⟨g.ns, Tr.toPlace n.pa g.op⟩).pl = n.pa) && !Tr.behind ⟨g.ns, Tr.toPlace n.pa g.op⟩ && !decide (4096 ≤ g.ns.length) && !decide (64 ≤ (Tr.toPlace n.pa g.op).length) then some (Tr.opn ⟨g.ns, Tr.toPlace n.pa g.op⟩ n) else none
def Tr.chkL : List Tr.N → Tr.G → Option Tr.G
 | [], g => some g
 | n :: r, g => (Tr.chk1 g n).bind (Tr.chkL r)
def Tr.chkF (xs : List Tr.N) : Option Tr.G → Bool
 | none => false
 | some g => !xs.isEmpty && Tr.same xs g.ns
def Tr.check (xs : List Tr.N) : Bool := Tr.chkF xs (Tr.chkL xs Tr.G0)
namespace Tr
theorem mod_at {l : List N} {k i : Nat} {f : N → N} {x : N} (h : (l.modify k f)[i]? = some x) : ∃ y, l[i]? = some y ∧ (x = y ∨ x = f y) := by
 rw [List.getElem?_modify] at h
 cases e : l[i]? with
 | none => rw [e] at h; simp at h
 | some y =>
  rw [e] at h
  simp only [Option.map_eq_map, Option.map_some, Option.some.injEq] at h
  refine ⟨y, rfl, ?_⟩
  by_cases hk : k = i
  ·rw [if_pos hk] at h; exact Or.inr h.symm
  ·rw [if_neg hk] at h; exact Or.inl h.symm
theorem Lk.more {n m i : Nat} {k : Int} (h : Lk n i k) (hm : n ≤ m) : Lk m i k := h.imp id (fun h => ⟨h.1, by omega⟩)
theorem lt_of_at {l : List N} {i : Nat} {x : N} (h : l[i]? = some x) : i < l.length := (List.getElem?_eq_some_iff.1 h).1
theorem Linked.add {ns : List N} (h : Linked ns) (n : N) (pa el : Int) : Linked (add ns n pa el) := by
 intro i x hx
 rw [add_len]
 unfold Tr.add at hx
 by_cases hi : i < ns.length
 ·rw [List.getElem?_append_left (by rw [link_len]; exact hi)] at hx
  unfold link at hx
  have keep : ∀ y, ns[i]? = some y → Lk (ns.length + 1) i y.fi ∧ Lk (ns.length + 1) i y.nx := fun y hy => ⟨((h i y hy).1).more (by omega), ((h i y hy).2).more (by omega)⟩
  split at hx
  ·obtain ⟨y, hy, rfl | rfl⟩ := mod_at hx
   ·exact keep _ hy
   ·exact ⟨(keep _ hy).1, Or.inr ⟨by simp only; omega, by simp only; omega⟩⟩
  ·split at hx
   ·obtain ⟨y, hy, rfl | rfl⟩ := mod_at hx
    ·exact keep _ hy
    ·exact ⟨Or.inr ⟨by simp only; omega, by simp only; omega⟩, (keep _ hy).2⟩
   ·exact keep _ hx
 ·rw [List.getElem?_append_right (by rw [link_len]; omega), link_len] at hx
  have h0 := (List.getElem?_eq_some_iff.1 hx).1
  simp only [List.length_cons, List.length_nil] at h0
  rw [show i - ns.length = 0 by omega] at hx
  simp only [List.getElem?_cons_zero, Option.some.injEq] at hx
  subst hx
  exact ⟨Or.inl rfl, Or.inl rfl⟩
theorem chk1_ok {g g' : G} {n : N} (h : chk1 g n = some g') : proper n = true ∧ g.ns.length < 4096 ∧ g' = opn ⟨g.ns, toPlace n.pa g.op⟩ n ∧ (inn ⟨g.ns, toPlace n.pa g.op⟩).pl = n.pa ∧ behind ⟨g.ns, toPlace n.pa g.op⟩ = false ∧ (toPlace n.pa g.op).length < 64 := by
 unfold chk1 at h
 split at h
 ·rename_i h1
  simp only [Bool.and_eq_true, decide_eq_true_eq, Bool.not_eq_true', decide_eq_false_iff_not] at h1
  simp only [Option.some.injEq] at h
  obtain ⟨⟨⟨⟨a, b⟩, c⟩, d⟩, e⟩ := h1
  exact ⟨a, by omega, h.symm, b, c, by omega⟩
 ·cases h
theorem chkL_ok : ∀ (xs : List N) (g g' : G), chkL xs g = some g' → Linked g.ns → g.ns.length ≤ 4096 → Linked g'.ns ∧ (∀ x ∈ xs, proper x = true) ∧ g'.ns.length = g.ns.length + xs.length ∧ g'.ns.length ≤ 4096
 | [], g, g', h, hl, hn => by
  unfold chkL at h
  simp only [Option.some.injEq] at h
  subst h
  exact ⟨hl, fun x hx => (by cases hx), rfl, hn⟩
 | n :: r, g, g', h, hl, hn => by
  unfold chkL at h
  cases e : chk1 g n with
  | none => rw [e] at h; cases h
  | some g1 =>
   rw [e] at h
   obtain ⟨h1, h2, h3, _⟩ := chk1_ok e
   have hns : g1.ns = add g.ns n (inn ⟨g.ns, toPlace n.pa g.op⟩).pl (inn ⟨g.ns, toPlace n.pa g.op⟩).yg := by rw [h3]; rfl
   have hlen : g1.ns.length = g.ns.length + 1 := by rw [hns, add_len]
   have := chkL_ok r g1 g' h (by rw [hns]; exact hl.add _ _ _) (by omega)
   refine ⟨this.1, fun x hx => ?_, by rw [this.2.2.1, hlen, List.length_cons]; omega, this.2.2.2⟩
   rcases List.mem_cons.1 hx with rfl | hx
   ·exact h1
   ·exact this.2.1 x hx
theorem same1_iff {x y : N} : same1 x y = true ↔ x.nm = y.nm ∧ x.al = y.al ∧ x.tx = y.tx ∧ x.pa = y.pa ∧ x.fi = y.fi ∧ x.nx = y.nx := by
 unfold same1
 simp only [Bool.and_eq_true, beq_iff_eq, and_assoc]
theorem same_iff : ∀ {xs ys : List N}, same xs ys = true ↔ xs.length = ys.length ∧ ∀ (i : Nat) (x y : N), xs[i]? = some x → ys[i]? = some y → same1 x y = true
 | [], [] => by simp [same]
 | [], y :: ys => by simp [same]
 | x :: xs, [] => by simp [same]
 | x :: xs, y :: ys => by
  have ih := same_iff (xs := xs) (ys := ys)
  unfold same
  rw [Bool.and_eq_true, ih]
  constructor
  ·rintro ⟨h1, h2, h3⟩
   refine ⟨by rw [List.length_cons, List.length_cons, h2], fun i a b ha hb => ?_⟩
   cases i with
   | zero =>
    simp only [List.getElem?_cons_zero, Option.some.injEq] at ha hb
    subst ha hb
    exact h1
   | succ i => exact h3 i a b (by simpa using ha) (by simpa using hb)
  ·rintro ⟨h1, h2⟩
   refine ⟨h2 0 x y rfl rfl, by simpa using h1, fun i a b ha hb => h2 (i + 1) a b (by simpa using ha) (by simpa using hb)⟩
theorem Linked.same {xs ys : List N} (h : Linked ys) (hs : same xs ys = true) : Linked xs := by
 obtain ⟨h1, h2⟩ := same_iff.1 hs
 intro i x hx
 have hi : i < ys.length := by have := lt_of_at hx; omega
 obtain ⟨_, _, _, _, e, f⟩ := same1_iff.1 (h2 i x _ hx (List.getElem?_eq_getElem hi))
 rw [e, f, h1]
 exact h i _ (List.getElem?_eq_getElem hi)
theorem check_ok {xs : List N} (h : check xs = true) : Linked xs ∧ (∀ x ∈ xs, proper x = true) ∧ 0 < xs.length ∧ xs.length ≤ 4096 := by
 unfold check at h
 cases e : chkL xs G0 with
 | none => rw [e] at h; cases h
 | some g =>
  rw [e] at h
  unfold chkF at h
  rw [Bool.and_eq_true, Bool.not_eq_true', List.isEmpty_eq_false_iff] at h
  obtain ⟨h1, h2, h3, h4⟩ := chkL_ok xs G0 g e (fun i x hx => by cases hx) (by decide)
  have hl : xs.length = g.ns.length := (same_iff.1 h.2).1
  exact ⟨h1.same h.2, h2, List.length_pos_iff.2 h.1, by omega⟩
theorem chs_valid {l : List UInt8} (h : chs l = true) : En.validL l := by
 unfold chs vld at h
 have := (U8.lead_le l.length l (Nat.le_refl _)).2
 unfold En.validL
 revert h
 split
 ·intro h; cases h
 ·intro _; omega
theorem proper_iff {n : N} : proper n = true ↔ Nm.isn n.nm = true ∧ (n.tx = [] ∨ Tk.allB n.tx = false) ∧ chs n.tx = true ∧ n.al.length ≤ 32 ∧ rising n.al = true ∧ ∀ a ∈ n.al, Nm.isn a.1 = true ∧ chs a.2 = true := by
 unfold proper impr
 simp only [Bool.and_eq_true, Bool.or_eq_true, List.isEmpty_iff, Bool.not_eq_true', decide_eq_true_eq, List.any_eq_false, and_assoc]
 constructor
 ·rintro ⟨a, b, c, d, e, f⟩
  exact ⟨a, b, c, d, e, fun x hx => by have := f x hx; simpa using this⟩
 ·rintro ⟨a, b, c, d, e, f⟩
  exact ⟨a, b, c, d, e, fun x hx => by have := f x hx; simpa using this⟩
end Tr
end Go.Proofs.YteadfpkihhaadaaGreatDoor
namespace Go.Proofs.YteadfpkihhaadaaGreatDoor
open Go.RowKit
theorem GS.reads {B : Nat} {w : World} {r : Nat} {m : Gm} (h : GS B w r m) {An : Option Addr} {cn : Nat} (hv : m.nv = .slice An m.ns.length cn) : ReadsNd w w.heap.size An m.ns := by
 refine ⟨fun h0 => ?_, h.att⟩
 have hn := h.nown
 rw [hv] at hn
 obtain ⟨A', c', e, _, _, h3⟩ := own_sliced hn
 injection e with e1 _ e3
 subst e1 e3
 obtain ⟨g, rfl, _, hg⟩ := h3 h0
 refine ⟨g, 0, rfl, hg, fun k hk j u hu => ?_⟩
 rw [Nat.zero_add]
 have hj : j < 7 := by
  have : j < m.ns[k].cs.size := by
   rcases Nat.lt_or_ge j m.ns[k].cs.size with h | h
   ·exact h
   ·rw [Array.getElem?_eq_none h] at hu; cases hu
  exact this
 rw [hn.cellAt (k * 7 + j) (by omega), fl_at ndV_len m.ns k j hk hj]
 unfold ndV
 rw [Array.getElem?_toList]
 exact hu
theorem GTo.bl {B r : Nat} {w w' : World} {m m' : Gm} (h : GTo B r w m w' m') (h0 : GS B w r m) : Below B w w' := h.fr.below (fun _ hb => (h0.kinds hb).1) (Nat.le_trans h0.base (Nat.le_of_lt h0.blk.lt))
theorem Tr.chk1_eq {m m2 : Gm} {n : Tr.N} (h1 : m2.ns = m.ns) (h2 : m2.es.map (·.1) = Tr.toPlace n.pa (m.es.map (·.1))) :
  Tr.chk1 m.g n = if (Tr.proper n && decide ((Tr.inn m2.g).pl = n.pa) && !Tr.behind m2.g && !decide (4096 ≤ m2.ns.length) && !decide (64 ≤ m2.es.length)) = true then some (Tr.opn m2.g n) else none := by
 have hg : m2.g = ⟨m.g.ns, Tr.toPlace n.pa m.g.op⟩ := by unfold Gm.g; rw [h1, h2]
 have hl : m2.es.length = (Tr.toPlace n.pa m.g.op).length := by rw [← List.length_map (f := (·.1)), h2]; rfl
 have hn : m2.ns.length = m.g.ns.length := by rw [h1]; unfold Gm.g; simp
 unfold Tr.chk1
 rw [hg, hl, hn]
theorem Tr.bnd_no {X : List Tr.N} {b : Bool} {g : Tr.G} {f : Tr.G → Option Tr.G} (h : b = false) : Tr.chkF X ((if b = true then some g else none).bind f) = false := by subst h; rfl
theorem Tr.bnd_yes {X : List Tr.N} {b : Bool} {g : Tr.G} {f : Tr.G → Option Tr.G} (h : b = true) : Tr.chkF X ((if b = true then some g else none).bind f) = Tr.chkF X (f g) := by subst h; rfl
structure ChI (w : World) (tv : Value) (xs : List Nd) (r : Nat) (R : Bool) (wr : World) (k : Nat) (m : Gm) : Prop where
 box : IsBlk wr w.heap.size 31 #[tv]
 bl : Below w.heap.size w wr
 gs : GS w.heap.size wr r m
 eq : R = Tr.chkF (xs.map Nd.n) (Tr.chkL ((xs.map Nd.n).drop k) m.g)
 nl : m.ns.length ≤ 4096
 ol : m.es.length ≤ 64
theorem ChI.next {w : World} {tv : Value} {xs : List Nd} {r : Nat} {R : Bool} {wr : World} {k : Nat} {m : Gm} (h : ChI w tv xs r R wr k m) (hk : k < xs.length) : R = Tr.chkF (xs.map Nd.n) ((Tr.chk1 m.g xs[k].n).bind (Tr.chkL ((xs.map Nd.n).drop (k + 1)))) := by
 rw [h.eq, List.drop_eq_getElem_cons (by rw [List.length_map]; exact hk), List.getElem_map]
 rfl
set_option maxHeartbeats 8000000 in
set_option maxRecDepth 100000 in
theorem check_any (w : World) (T : Tb w) (A : Option Addr) (c : Nat) (xs : List Nd) (hl : xs.length ≤ c) (hc : c ≤ maxLen) (hr : ReadsNd w w.heap.size A xs) (hf : ∀ x ∈ xs, NdFit x) :
  Calls Tryz.prog 14 #[.agg #[.slice A xs.length c]] w fun e w' => e = .returned (.int .i64 (if Tr.check (xs.map Nd.n) then 0 else 50)) ∧ Below w.heap.size w w' := by
 have H := Lib.hid hr
 have HF := Lib.hid hf
 have HT := Lib.hid T
 have HLC := Lib.hid (And.intro hl hc)
 have hm : (xs.length : Int) ≤ 9223372036854775807 := by unfold maxLen at hc; omega
 have hl' : (xs.length : Int) ≤ (c : Int) := by omega
 obtain ⟨W1, hW1⟩ : ∃ W1, W1 = w.alloc (.cells #[.slice A xs.length c] 31) := ⟨_, rfl⟩
 obtain ⟨W2, hW2⟩ : ∃ W2, W2 = W1.alloc (.cells #[.slice none 0 0, .slice none 0 0] 74) := ⟨_, rfl⟩
 have hb1 : Below w.heap.size w W1 := by rw [hW1]; exact (Below.refl _ _).alloc (Nat.le_refl _) _
 have hk1 : IsBlk W1 w.heap.size 31 #[.slice A xs.length c] := by rw [hW1]; exact IsBlk.new _ _ _
 have hb2 : Below W1.heap.size W1 W2 := by rw [hW2]; exact (Below.refl _ _).alloc (Nat.le_refl _) _
 obtain ⟨r, hrr⟩ : ∃ r, r = W1.heap.size := ⟨_, rfl⟩
 obtain ⟨R, hR⟩ : ∃ R, R = Tr.check (xs.map Nd.n) := ⟨_, rfl⟩
 have HS := Lib.hid (show ChI w (.slice A xs.length c) xs r R W2 0 ⟨.slice none 0 0, [], .slice none 0 0, []⟩ from
  ⟨hk1.below hb2 hk1.lt, hb1.trans (hb2.mono hb1.size), ⟨by rw [hrr]; exact hb1.size, by rw [hrr, hW2]; exact IsBlk.new _ _ _, World.ownsRow_nil _ _ _ _, World.ownsRow_nil _ _ _ _, fun _ h => (by cases h), List.Pairwise.nil, fun _ h => (by cases h), fun _ h => (by cases h), Tr.Ok.zero⟩, by rw [hR]; rfl, by simp, by simp⟩)
 have x0 : W2.cell? ⟨w.heap.size, 0, none⟩ = some (.slice A xs.length c) := (hk1.below hb2 hk1.lt).at_ 0
 have HE1 := Lib.hid hW1
 have HE2 := Lib.hid hW2
 rw [hW2, hW1] at x0
 obtain ⟨V, hV⟩ : ∃ V : Int, V = if Tr.check (xs.map Nd.n) then 0 else 50 := ⟨_, rfl⟩
 rw [← hR] at hV
 have HV := Lib.hid hV
 rw [show (if Tr.check (xs.map Nd.n) then (0 : Int) else 50) = V from by rw [hV, hR]]
 have hm1 : W1.heap.size = w.heap.size + 1 := by rw [hW1]; simp
 have hr2 : r = w.heap.size + 1 := by omega
 subst hr2
 clear hr hf T hl hc hW1 hW2 hb1 hk1 hb2 hR hrr hV hm1
 go_enter Tryz.func14, Tryz.ntmps14
 go_wp2
 rw [← HE1.out, ← HE2.out]
 clear x0
 go_loopw [9] (fun i wr => ∃ (k : Nat) (m : Gm), i = .int .i64 k ∧ k ≤ xs.length ∧ Hid (ChI w (.slice A xs.length c) xs (w.heap.size + 1) R wr k m)) (fun i _ => xs.length - (intOf i).toNat)
 case atStart => exact ⟨0, _, rfl, Nat.zero_le _, HS⟩
 case round =>
  obtain ⟨k, m, rfl, hk, HI⟩ := hrel
  by_cases hlt : k < xs.length
  ·have hlt' : (k : Int) < (xs.length : Int) := by omega
   have G := H.out.below HI.out.bl
   obtain ⟨g, o, hA, hg, hcl⟩ := G.row (by omega)
   subst hA
   have hcs := hcl k hlt
   have hax := G.att _ (List.getElem_mem hlt)
   have HNX := Lib.hid (HI.out.next hlt)
   have HFX := Lib.hid (HF.out _ (List.getElem_mem hlt))
   have HLT := Lib.hid hlt
   clear hcl G
   generalize xs[k] = x at *
   clear hlt
   have HPR := Lib.hid (fun w' (hb : Below wr.heap.size wr w') => proper_any w' ((HT.out.below HI.out.bl (Nat.le_refl _)).below hb (Nat.le_refl _)) x ((hax.more HI.out.bl.size).below hb |>.more hb.size) HFX.out)
   have HGS := Lib.hid (fun w' (hb : Below wr.heap.size wr w') => HI.out.gs.below hb)
   have HXD := Lib.hid (hax.more HI.out.bl.size)
   have HAL := Lib.hid (show 0 < x.n.al.length → ∀ a, x.A = some a → a.block < w.heap.size from fun h0 a ha => by
    obtain ⟨g, o, e, hg, _⟩ := hax.att h0
    rw [ha] at e
    injection e with e
    subst e
    exact hg)
   obtain ⟨W3, hW3⟩ : ∃ W3, W3 = wr.alloc (.cells x.cs 49) := ⟨_, rfl⟩
   have hb3 : Below wr.heap.size wr W3 := by rw [hW3]; exact (Below.refl _ _).alloc (Nat.le_refl _) _
   have hk3 : IsBlk W3 wr.heap.size 49 x.cs := by rw [hW3]; exact IsBlk.new _ _ _
   have HB3 := Lib.hid hb3
   have HK3 := Lib.hid hk3
   have HE3 := Lib.hid hW3
   have HOP := Lib.hid (fun (w' : World) (m' : Gm) (h : GS w.heap.size w' (w.heap.size + 1) m') (h1 : m'.ns.length ≤ 4096) (h2 : m'.es.length ≤ 64) (hx : NdOk w' w'.heap.size x) => open_any w.heap.size w' (w.heap.size + 1) m' h x (by omega) h2 hx (fun h0 a ha ho => by have h4 := HAL.out h0 a ha; have h5 := (h.kinds ho).1; omega))
   have HQ := Lib.hid (show ∀ b, m.own (w.heap.size + 1) b → b ≠ wr.heap.size from fun b hb => by have := (HI.out.gs.kinds hb).2.1; omega)
   clear hax hb3 hk3 hW3
   obtain ⟨PR, hPR⟩ : ∃ b, b = Tr.proper x.n := ⟨_, rfl⟩
   rw [← hPR] at HPR
   obtain ⟨PA, hPA⟩ : ∃ b, b = x.n.pa := ⟨_, rfl⟩
   have HPP := Lib.hid (And.intro hPR hPA)
   clear hPR hPA
   obtain ⟨⟨nm, al, tx, pa, fi, nx, at0⟩, Ax, cx⟩ := x
   unfold Nd.cs at hcs HE3 HK3 HPR HOP
   simp only at hcs HE3 HK3 HPR HOP HPP
   have a0 : wr.cell? ⟨g, o + k * 7, none⟩ = some (.string ⟨nm.toArray⟩) := hcs 0 _ rfl
   have a1 : wr.cell? ⟨g, o + k * 7 + 1, none⟩ = some (.slice Ax al.length cx) := hcs 1 _ rfl
   have a2 : wr.cell? ⟨g, o + k * 7 + 2, none⟩ = some (.string ⟨tx.toArray⟩) := hcs 2 _ rfl
   have a3 : wr.cell? ⟨g, o + k * 7 + 3, none⟩ = some (.int .i64 pa) := hcs 3 _ rfl
   have a4 : wr.cell? ⟨g, o + k * 7 + 4, none⟩ = some (.int .i64 fi) := hcs 4 _ rfl
   have a5 : wr.cell? ⟨g, o + k * 7 + 5, none⟩ = some (.int .i64 nx) := hcs 5 _ rfl
   have a6 : wr.cell? ⟨g, o + k * 7 + 6, none⟩ = some (.int .i64 at0) := hcs 6 _ rfl
   clear hcs
   obtain ⟨N, hN⟩ : ∃ N : ByteArray, N = ⟨nm.toArray⟩ := ⟨_, rfl⟩
   obtain ⟨X, hX⟩ : ∃ N : ByteArray, N = ⟨tx.toArray⟩ := ⟨_, rfl⟩
   rw [← hN] at a0 HE3 HK3 HPR HOP
   rw [← hX] at a2 HE3 HK3 HPR HOP
   clear hN hX
   have HCL := Lib.hid (fun w' (hb : Below wr.heap.size wr w') => closeTo_any w.heap.size w' (w.heap.size + 1) m (HGS.out w' hb) pa)
   go_wp2_with fail
   rw [← HE3.out]
   refine (HPR.out W3 HB3.out).mono ?_
   rintro e w4 ⟨rfl, h4⟩
   have B4 := Lib.hid (HB3.out.trans (h4.mono HB3.out.size))
   have y3 : w4.cell? ⟨wr.heap.size, 3, none⟩ = some (.int .i64 pa) := (HK3.out.below h4 HK3.out.lt).at_ 3
   have HK4 := Lib.hid (HK3.out.below h4 HK3.out.lt)
   clear h4 a0 a1 a2 a3 a4 a5 a6
   have t0 : w4.cell? ⟨w.heap.size, 0, none⟩ = some (.slice (some ⟨g, o, none⟩) xs.length c) := ((HI.out.box.below (B4.out) HI.out.box.lt)).at_ 0
   have HBX := Lib.hid (show IsBlk w4 w.heap.size 31 #[.slice (some ⟨g, o, none⟩) xs.length c] from HI.out.box.below B4.out HI.out.box.lt)
   have HG4 := Lib.hid (HGS.out w4 B4.out)
   have HL4 := Lib.hid (HI.out.bl.trans (B4.out.mono HI.out.bl.size))
   have HX4 := Lib.hid (HXD.out.below B4.out)
   have HNL := Lib.hid HI.out.nl
   have HC1 := Lib.hid (fun (m2 : Gm) (h1 : m2.ns = m.ns) (h2 : m2.es.map (·.1) = Tr.toPlace pa (m.es.map (·.1))) => Tr.chk1_eq (m := m) (m2 := m2) (n := ⟨nm, al, tx, pa, fi, nx, at0⟩) h1 h2)
   have HQ4 := Lib.hid (show ∀ b, m.own (w.heap.size + 1) b → b ≠ wr.heap.size from HQ.out)
   cases PR with
   | false =>
    have HF := Lib.hid (show R = false from by
     rw [HNX.out]
     unfold Tr.chk1
     rw [← HPP.out.1]; rfl)
    go_wp2
    go_ret
    exact ⟨by rw [HV.out, HF.out]; rfl, HL4.out⟩
   | true =>
    go_wp2_with fail
    refine (HCL.out w4 B4.out).mono ?_
    rintro e w5 ⟨m2, rfl, h5, hns, hes⟩
    have HR5 := Lib.hid (show R = Tr.chkF (xs.map Nd.n) ((if (true && decide ((Tr.inn m2.g).pl = pa) && !Tr.behind m2.g && !decide (4096 ≤ m2.ns.length) && !decide (64 ≤ m2.es.length)) = true then some (Tr.opn m2.g ⟨nm, al, tx, pa, fi, nx, at0⟩) else none).bind (Tr.chkL ((xs.map Nd.n).drop (k + 1)))) from by
     rw [HNX.out, HC1.out m2 hns hes, ← HPP.out.1])
    have H5 := Lib.hid h5
    have HN2 := Lib.hid (show m2.ns.length ≤ 4096 from by rw [hns]; exact HNL.out)
    have HK5 := Lib.hid (h5.fr.blk HK4.out (fun ho => HQ4.out _ ho rfl))
    have HBX5 := Lib.hid (h5.fr.blk HBX.out (HG4.out.not_own HBX.out (by decide) (by decide) (by decide) (by decide)))
    have HL5 := Lib.hid (HL4.out.trans (h5.bl HG4.out))
    have HQ5 := Lib.hid (show ∀ b, m2.own (w.heap.size + 1) b → b ≠ wr.heap.size from fun b hb e => by
     rcases h5.new b hb with h | h
     ·exact HQ4.out b h e
     ·have := HK4.out.lt; omega)
    have HB5 := Lib.hid (fun w' (hb : Below w5.heap.size w5 w') => behind_any w.heap.size w' (w.heap.size + 1) m2 (h5.gs.below hb))
    have HX5 := Lib.hid (h5.fr.nd (HX4.out.more B4.out.size) (fun h0 a ha ho => by have h6 := HAL.out h0 a ha; have h7 := (HG4.out.kinds ho).1; omega))
    clear h5 hns hes y3
    obtain ⟨b1, hb1⟩ : ∃ b, b = decide ((Tr.inn m2.g).pl = pa) := ⟨_, rfl⟩
    obtain ⟨b2, hb2⟩ : ∃ b, b = Tr.behind m2.g := ⟨_, rfl⟩
    obtain ⟨b3, hb3⟩ : ∃ b, b = decide (4096 ≤ m2.ns.length) := ⟨_, rfl⟩
    obtain ⟨b4, hb4⟩ : ∃ b, b = decide (64 ≤ m2.es.length) := ⟨_, rfl⟩
    rw [← hb1, ← hb2, ← hb3, ← hb4] at HR5
    rw [← hb2] at HB5
    rw [← hb1]
    have HBB := Lib.hid (And.intro hb3 hb4)
    clear hb1 hb2 hb3 hb4
    cases b1 with
    | false =>
     have HF := Lib.hid (show R = false from by rw [HR5.out]; exact Tr.bnd_no rfl)
     go_wp2
     go_ret
     exact ⟨by rw [HV.out, HF.out]; rfl, HL5.out⟩
    | true =>
     go_wp2_with fail
     refine (HB5.out w5 (Below.refl _ _)).mono ?_
     rintro e w6 ⟨rfl, h6⟩
     have B6 := Lib.hid h6
     clear h6
     cases b2 with
     | true =>
      have HF := Lib.hid (show R = false from by rw [HR5.out]; exact Tr.bnd_no rfl)
      go_wp2
      go_ret
      exact ⟨by rw [HV.out, HF.out]; rfl, HL5.out.trans (B6.out.mono HL5.out.size)⟩
     | false =>
      obtain ⟨An, cn, Ao, co, hgc⟩ := (H5.out.gs.below B6.out).cells
      have g0 := hgc.c0
      have HFU := Lib.hid (fun w' => full_any w' An m2.ns.length cn)
      have HDE := Lib.hid (fun w' (hb : Below w6.heap.size w6 w') => deep_any w.heap.size w' (w.heap.size + 1) m2 ((H5.out.gs.below B6.out).below hb))
      rw [← HBB.out.1] at HFU
      rw [← HBB.out.2] at HDE
      clear hgc
      go_wp2_with fail
      refine (HFU.out w6).mono ?_
      rintro e w7 ⟨rfl, h7⟩
      have B7 := Lib.hid h7
      clear h7 g0
      cases b3 with
      | true =>
       have HF := Lib.hid (show R = false from by rw [HR5.out]; exact Tr.bnd_no rfl)
       go_wp2
       go_ret
       exact ⟨by rw [HV.out, HF.out]; rfl, HL5.out.trans ((B6.out.trans (B7.out.mono B6.out.size)).mono HL5.out.size)⟩
      | false =>
       go_wp2_with fail
       refine (HDE.out w7 B7.out).mono ?_
       rintro e w8 ⟨rfl, h8⟩
       have B8 := Lib.hid (B6.out.trans ((B7.out.trans (h8.mono B7.out.size)).mono B6.out.size))
       have HL8 := Lib.hid (HL5.out.trans (B8.out.mono HL5.out.size))
       clear h8
       cases b4 with
       | true =>
        have HF := Lib.hid (show R = false from by rw [HR5.out]; exact Tr.bnd_no rfl)
        go_wp2
        go_ret
        exact ⟨by rw [HV.out, HF.out]; rfl, HL8.out⟩
       | false =>
        have HN8 := Lib.hid (show m2.ns.length < 4096 from by have := of_decide_eq_false HBB.out.1.symm; omega)
        have HE8 := Lib.hid (show m2.es.length < 64 from by have := of_decide_eq_false HBB.out.2.symm; omega)
        have HR8 := Lib.hid (show R = Tr.chkF (xs.map Nd.n) (Tr.chkL ((xs.map Nd.n).drop (k + 1)) (Tr.opn m2.g ⟨nm, al, tx, pa, fi, nx, at0⟩)) from by rw [HR5.out]; exact Tr.bnd_yes rfl)
        have kb := HK5.out.below B8.out HK5.out.lt
        have p0 : w8.cell? ⟨wr.heap.size, 0, none⟩ = some (.string N) := kb.at_ 0
        have p1 : w8.cell? ⟨wr.heap.size, 1, none⟩ = some (.slice Ax al.length cx) := kb.at_ 1
        have p2 : w8.cell? ⟨wr.heap.size, 2, none⟩ = some (.string X) := kb.at_ 2
        have p3 : w8.cell? ⟨wr.heap.size, 3, none⟩ = some (.int .i64 pa) := kb.at_ 3
        have p4 : w8.cell? ⟨wr.heap.size, 4, none⟩ = some (.int .i64 fi) := kb.at_ 4
        have p5 : w8.cell? ⟨wr.heap.size, 5, none⟩ = some (.int .i64 nx) := kb.at_ 5
        have p6 : w8.cell? ⟨wr.heap.size, 6, none⟩ = some (.int .i64 at0) := kb.at_ 6
        have HOA := Lib.hid (HOP.out w8 m2 (H5.out.gs.below B8.out) (by have := HN8.out; omega) (by have := HE8.out; omega) ((HX5.out.below B8.out).more B8.out.size))
        have HG8 := Lib.hid (H5.out.gs.below B8.out)
        have HBX8 := Lib.hid (HBX5.out.below B8.out HBX5.out.lt)
        clear kb
        go_wp2_with fail
        refine HOA.out.mono ?_
        rintro e w9 ⟨m3, rfl, h9, hg9, _⟩
        have HN := Lib.hid (show ChI w (.slice (some ⟨g, o, none⟩) xs.length c) xs (w.heap.size + 1) R w9 (k + 1) m3 from by
         have e1 : m3.ns.length = m2.ns.length + 1 := by
          have := congrArg (fun g => g.ns.length) hg9
          simp only [Tr.opn, Tr.add_len] at this
          simpa [Gm.g] using this
         have e2 : m3.es.length = m2.es.length + 1 := by
          have := congrArg (fun g => g.op.length) hg9
          simp only [Tr.opn, List.length_append, Tr.young_len] at this
          simpa [Gm.g] using this
         refine ⟨h9.fr.blk HBX8.out (HG8.out.not_own HBX8.out (by decide) (by decide) (by decide) (by decide)), HL8.out.trans (h9.bl HG8.out), h9.gs, ?_, ?_, ?_⟩
         ·rw [hg9]; exact HR8.out
         ·rw [e1]; have := HN8.out; omega
         ·rw [e2]; have := HE8.out; omega)
        clear h9 hg9 p0 p1 p2 p3 p4 p5 p6
        go_wp2
        go_roundw
        case rel => exact ⟨k + 1, m3, by go_num, HLT.out, HN⟩
        case measure => have := HLT.out; simp [intOf]; omega
  ·obtain rfl : k = xs.length := by omega
   have hlt' : ¬ ((xs.length : Nat) : Int) < (xs.length : Int) := by omega
   have t0 : wr.cell? ⟨w.heap.size, 0, none⟩ = some (.slice A xs.length c) := HI.out.box.at_ 0
   have HR := Lib.hid (show R = (!xs.isEmpty && Tr.same (xs.map Nd.n) (m.ns.map Nd.n)) from by
    rw [HI.out.eq, List.drop_eq_nil_of_le (by rw [List.length_map]; exact Nat.le_refl _)]
    show (!(xs.map Nd.n).isEmpty && _) = _
    rw [List.isEmpty_map]; rfl)
   obtain ⟨An, cn, Ao, co, hgc⟩ := HI.out.gs.cells
   have g0 := hgc.c0
   have HEQ := Lib.hid (equalFunc_any wr A An c cn xs m.ns (by have := HLC.out.1; omega) hgc.ln HLC.out.2 hgc.mn ((H.out.below HI.out.bl).more HI.out.bl.size) (HI.out.gs.reads hgc.nv))
   have hem := isEmpty_int xs
   clear hgc hlt hk
   generalize Tr.same (xs.map Nd.n) (m.ns.map Nd.n) = sb at *
   obtain ⟨eb, heb⟩ : ∃ b, b = xs.isEmpty := ⟨_, rfl⟩
   rw [← heb] at hem HR
   clear heb
   have HL := Lib.hid HI.out.bl
   cases eb with
   | true =>
    go_wp2
    go_ret
    exact ⟨by rw [HV.out, HR.out]; rfl, HL.out⟩
   | false =>
    go_wp2_with fail
    refine HEQ.out.mono ?_
    rintro e w3 ⟨rfl, h3⟩
    have HL3 := Lib.hid (HL.out.trans (h3.mono HL.out.size))
    clear h3
    cases sb with
    | true =>
     go_wp2
     go_ret
     exact ⟨by rw [HV.out, HR.out]; rfl, HL3.out⟩
    | false =>
     go_wp2
     go_ret
     exact ⟨by rw [HV.out, HR.out]; rfl, HL3.out⟩
end Go.Proofs.YteadfpkihhaadaaGreatDoor
