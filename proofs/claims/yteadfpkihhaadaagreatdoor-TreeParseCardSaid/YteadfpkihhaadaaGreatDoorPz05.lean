/- Facts and walks for the statement. -/
import Derived.Test.YteadfpkihhaadaaGreatDoorPz02
import Derived.Test.YteadfpkihhaadaaGreatDoorPz03
import Derived.Test.YteadfpkihhaadaaGreatDoorPz04
import Derived.Shelf.Strings.SlTrimAscii
import Derived.Deep.RegionHeld3
import Derived.Lib.OthersKept
import Derived.OwnWalk
import Derived.Deep.AppendLies
namespace Go.Proofs.YteadfpkihhaadaaGreatDoor
open Go.RowKit
abbrev CT : TypeId := 178
def IsCur (g : Nat) (s : ByteArray) (p : Nat) (w : World) : Prop := w.heap[g]? = some (.cells #[.string s, .int .i64 p] CT (0, 0))
theorem IsCur.lt {g : Nat} {s : ByteArray} {p : Nat} {w : World} (h : IsCur g s p w) : g < w.heap.size := by
 rcases Nat.lt_or_ge g w.heap.size with hlt | hge
 ·exact hlt
 ·unfold IsCur at h; rw [Array.getElem?_eq_none hge] at h; cases h
theorem IsCur.c0 {g : Nat} {s : ByteArray} {p : Nat} {w : World} (h : IsCur g s p w) : w.cell? ⟨g, 0, none⟩ = some (.string s) := Lib.cell_of_heap h 0
theorem IsCur.c1 {g : Nat} {s : ByteArray} {p : Nat} {w : World} (h : IsCur g s p w) : w.cell? ⟨g, 1, none⟩ = some (.int .i64 p) := Lib.cell_of_heap h 1
theorem IsCur.fz {g : Nat} {s : ByteArray} {p : Nat} {w : World} (h : IsCur g s p w) (i : Nat) : w.frozen? ⟨g, i, none⟩ = false := by
 unfold IsCur at h; simp [World.frozen?, h]
theorem IsCur.set {g : Nat} {s : ByteArray} {p : Nat} {w : World} (h : IsCur g s p w) (q : Nat) : IsCur g s q (w.setCell ⟨g, 1, none⟩ (.int .i64 q)) := by
 unfold IsCur at h ⊢
 simp [World.setCell, Array.getElem?_modify, h]
theorem IsCur.below {g : Nat} {s : ByteArray} {p : Nat} {w w' : World} (h : IsCur g s p w) (hb : Below w.heap.size w w') : IsCur g s p w' := (hb.block g h.lt).trans h
theorem IsCur.new (w : World) (s : ByteArray) (p : Nat) : IsCur w.heap.size s p (w.alloc (.cells #[.string s, .int .i64 p] CT)) := heap_alloc_new w _
theorem grown_trans {w w1 w2 : World} {r : Option Nat} (h : w.grownBy w1 r) (k : w1.grownBy w2 r) : w.grownBy w2 r :=
 ⟨k.os.trans h.os, k.tape.trans h.tape, k.output.trans h.output, Nat.le_trans h.size k.size, fun i hi hn => (k.block i (Nat.lt_of_lt_of_le hi h.size) hn).trans (h.block i hi hn)⟩
theorem grown_refl (w : World) (r : Option Nat) : w.grownBy w r := ⟨rfl, rfl, rfl, Nat.le_refl _, fun _ _ _ => rfl⟩
theorem grown_below {w w' : World} (h : Below w.heap.size w w') (r : Option Nat) : w.grownBy w' r := ⟨h.os, h.tape, h.output, h.size, fun k hk _ => h.block k hk⟩
theorem grown_set (w : World) (g i : Nat) (v : Value) : w.grownBy (w.setCell ⟨g, i, none⟩ v) (some g) :=
 ⟨rfl, rfl, rfl, by simp [World.setCell], fun k _ hn => Below.heap_setCell w _ v k (fun e => hn (by rw [e]))⟩
theorem grown_drewN {w w' : World} {r : Option Nat} (h : w.grownBy w' r) (n : Nat) : w.grownBy (w'.drewN n) r := ⟨h.os, h.tape, h.output, h.size, h.block⟩
theorem drop_ext (s : ByteArray) (p : Nat) : (s.extract p s.size).data.toList = s.data.toList.drop p := drop_data s p
def CurTo (g : Nat) (s : ByteArray) (q : Nat) (w w' : World) : Prop := IsCur g s q w' ∧ w.grownBy w' (some g)
theorem cur_store {g : Nat} {s : ByteArray} {p : Nat} {w w1 : World} (h : IsCur g s p w1) (hg : w.grownBy w1 (some g)) {z : Int} {q : Nat} (hz : z = (q : Int)) : CurTo g s q w (w1.setCell ⟨g, 1, none⟩ (.int .i64 z)) := by
 subst hz
 exact ⟨h.set q, grown_trans hg (grown_set _ _ _ _)⟩
set_option maxHeartbeats 1000000 in
theorem sign_no (g : Nat) (s t : ByteArray) (p : Nat) (w : World) (hp : p ≤ s.size) (h : IsCur g s p w) (hno : Lib.hasPrefix (s.data.toList.drop p) t.data.toList = false) :
  Calls Tryz.prog 130 #[.pointer (some ⟨g, 0, none⟩), .string t] w fun e w' => e = .returned (.bool false) ∧ CurTo g s p w w' := by
 have hc0 := h.c0
 have hc1 := h.c1
 have hp' : (p : Int) ≤ (s.size : Int) := by omega
 have HP := Lib.hid (fun w0 => Tryz.strings_HasPrefix (s.extract p s.size) t w0)
 rw [drop_ext, hno] at HP
 have HI := Lib.hid h
 clear hno h
 go_enter Tryz.func130, Tryz.ntmps130
 go_wp2_with fail
 go_quiet ((go_at_call 89; exact Calls.quiet_of_same (HP.out _)))
 go_wp2
 go_ret
 exact ⟨rfl, HI.out, grown_drewN (grown_refl _ _) _⟩
set_option maxHeartbeats 1000000 in
theorem sign_yes (g : Nat) (s t : ByteArray) (p : Nat) (w : World) (hs : s.size ≤ maxLen) (hp : p ≤ s.size) (h : IsCur g s p w) (ht : p + t.size ≤ s.size) (hyes : Lib.hasPrefix (s.data.toList.drop p) t.data.toList = true) :
  Calls Tryz.prog 130 #[.pointer (some ⟨g, 0, none⟩), .string t] w fun e w' => e = .returned (.bool true) ∧ CurTo g s (p + t.size) w w' := by
 have hc0 := h.c0
 have hc1 := h.c1
 have hf1 := h.fz 1
 have hp' : (p : Int) ≤ (s.size : Int) := by omega
 have HP := Lib.hid (fun w0 => Tryz.strings_HasPrefix (s.extract p s.size) t w0)
 rw [drop_ext, hyes] at HP
 have HI := Lib.hid h
 unfold maxLen at hs
 clear hyes h
 go_enter Tryz.func130, Tryz.ntmps130
 go_wp2_with fail
 go_quiet ((go_at_call 89; exact Calls.quiet_of_same (HP.out _)))
 go_wp2
 go_ret
 exact ⟨rfl, cur_store (w1 := w.drewN nq) HI.out (grown_drewN (grown_refl _ _) nq) (Int.natCast_add p t.size).symm⟩
theorem blanks_ascii : ∀ (j : Nat) b, (⟨#[32, 9, 10, 13]⟩ : ByteArray).data.toList[j]? = some b → b.toNat < 128 := ascii_of_all (by decide)
theorem trimL_any (s : ByteArray) (w : World) :
  Calls Tryz.prog 162 #[.string s, .string ⟨#[32, 9, 10, 13]⟩] w fun e w' => e = .returned (.string ⟨(s.data.toList.drop (Tk.bl s.data.toList)).toArray⟩) ∧ Below w.heap.size w w' := by
 refine (Any.strings_TrimLeft_laid Tryz.lays161 (by kernel_rfl) s ⟨#[32, 9, 10, 13]⟩ w (by decide) blanks_ascii).mono fun e w' h => ⟨?_, h.2⟩
 rw [h.1, ← Tk.trimLeft_bl]; rfl
theorem trim_any (s : ByteArray) (w : World) (hs : s.size ≤ maxLen) :
  Calls Tryz.prog 108 #[.string s, .string ⟨#[32, 9, 10, 13]⟩] w fun e w' => e = .returned (.string ⟨(Lib.trimS s.data.toList Tk.blanks).toArray⟩) ∧ Below w.heap.size w w' := by
 refine (Any.strings_Trim_laid Tryz.lays160 (by kernel_rfl) s ⟨#[32, 9, 10, 13]⟩ w (by unfold maxLen at hs; omega) (by decide) blanks_ascii).mono fun e w' h => ⟨?_, h.2⟩
 rw [h.1]; rfl
set_option maxHeartbeats 2000000 in
theorem blanks_any (g : Nat) (s : ByteArray) (p : Nat) (w : World) (hs : s.size ≤ maxLen) (hp : p ≤ s.size) (h : IsCur g s p w) :
  Calls Tryz.prog 129 #[.pointer (some ⟨g, 0, none⟩)] w fun e w' => e = .returned (.bool (decide (0 < Tk.bl (s.data.toList.drop p)))) ∧ CurTo g s (p + Tk.bl (s.data.toList.drop p)) w w' := by
 have hc0 := h.c0
 have hc1 := h.c1
 have hp' : (p : Int) ≤ (s.size : Int) := by omega
 have HT := Lib.hid (fun w0 => trimL_any (s.extract p s.size) w0)
 rw [drop_ext] at HT
 have hle := Tk.bl_le (s.data.toList.drop p)
 rw [List.length_drop, ← Lib.size_eq] at hle
 obtain ⟨R, hR⟩ : ∃ R : ByteArray, R = ⟨((s.data.toList.drop p).drop (Tk.bl (s.data.toList.drop p))).toArray⟩ := ⟨_, rfl⟩
 have hRs : R.size + (p + Tk.bl (s.data.toList.drop p)) = s.size := by rw [hR, size_mk, List.length_drop, List.length_drop, ← Lib.size_eq]; omega
 rw [← hR] at HT
 have HI := Lib.hid h
 unfold maxLen at hs
 generalize Tk.bl (s.data.toList.drop p) = n at *
 have HRs := Lib.hid hRs
 have b1 : IntKind.i64.wrap ((s.size : Int) - (p : Int)) = (s.size : Int) - (p : Int) := IntWalk.i64_in _ (by omega)
 have b2 : IntKind.i64.wrap ((s.size : Int) - (p : Int) - (R.size : Int)) = (n : Int) := by rw [IntWalk.i64_in _ (by omega)]; omega
 clear hR h hRs
 go_enter Tryz.func129, Tryz.ntmps129
 go_wp2_with fail
 go_region_held3 (fun w' => w'.cell? ⟨g, 0, none⟩ = some (.string s) ∧ w'.cell? ⟨g, 1, none⟩ = some (.int .i64 p)) (first | exact ⟨hc0, hc1⟩ | exact ⟨(h1.cell (p := ⟨g, 0, none⟩) HI.out.lt).trans hc0, (h1.cell (p := ⟨g, 1, none⟩) HI.out.lt).trans hc1⟩) (first | (go_at_call 162; refine (HT.out _).mono ?_; rintro e w1 ⟨rfl, h1⟩))
 have h2 := (Below.refl w.heap.size w).drew.trans h1
 have J := HI.out.below h2
 have g1 := grown_below h2 (some g)
 have k0 := J.c0
 have k1 := J.c1
 have kf := J.fz 1
 have HJ := Lib.hid (And.intro J g1)
 clear h1 h2 hc0 hc1 J g1 b1 b2
 go_wp2
 go_ret
 exact ⟨by first | rfl | (apply ret_bool; simp), cur_store HJ.out.1 HJ.out.2 (Int.natCast_add p n).symm⟩
set_option maxHeartbeats 1000000 in
theorem clone_any (s : ByteArray) (w : World) (hs : s.size ≤ 281474976710656) :
  Calls Tryz.prog 161 #[.string s] w fun e w' => e = .returned (.string s) ∧ Below w.heap.size w w' := by
 have H := Lib.hid (Tryz.stringslite_Clone s w hs)
 go_enter Tryz.func161, Tryz.ntmps161
 go_wp2_with fail
 refine H.out.mono ?_
 rintro e w1 ⟨rfl, h1⟩
 go_wp2
 go_ret
 exact ⟨rfl, h1⟩
theorem ext_take (s : ByteArray) (p n : Nat) : (s.extract p (p + n)).data.toList = (s.data.toList.drop p).take n := by
 rw [← Lib.toList_data, Lib.extract_toList]; congr 1; omega
set_option maxHeartbeats 2000000 in
theorem name_any (g : Nat) (s : ByteArray) (p : Nat) (w : World) (hs : s.size ≤ 1000000) (hp : p ≤ s.size) (h : IsCur g s p w) :
  Calls Tryz.prog 128 #[.pointer (some ⟨g, 0, none⟩)] w fun e w' => e = .returned (.string ⟨((s.data.toList.drop p).take (Nm.bg (s.data.toList.drop p))).toArray⟩) ∧ CurTo g s (p + Nm.bg (s.data.toList.drop p)) w w' := by
 have hc0 := h.c0
 have hc1 := h.c1
 have hf1 := h.fz 1
 have hp' : (p : Int) ≤ (s.size : Int) := by omega
 have HB := Lib.hid (fun w0 => NmW.begin_any (s.extract p s.size) w0 (by have := extract_size s p s.size; unfold maxLen; omega))
 rw [drop_ext] at HB
 have hle := (Nm.bg_le (s.data.toList.drop p)).1
 rw [List.length_drop, ← Lib.size_eq] at hle
 have hbe : (⟨((s.data.toList.drop p).take (Nm.bg (s.data.toList.drop p))).toArray⟩ : ByteArray) = s.extract p (p + Nm.bg (s.data.toList.drop p)) := ba_eq (by rw [data_mk, ext_take])
 rw [hbe]
 generalize Nm.bg (s.data.toList.drop p) = n at *
 have HC := Lib.hid (fun w0 => clone_any (s.extract p (p + n)) w0 (by have := extract_size s p (p + n); omega))
 have HI := Lib.hid h
 have a0 : (p : Int) + (n : Int) ≤ (s.size : Int) := by omega
 have b1 : IntKind.i64.wrap ((p : Int) + (n : Int)) = (p : Int) + (n : Int) := IntWalk.i64_in _ (by omega)
 clear hbe h
 go_enter Tryz.func128, Tryz.ntmps128
 go_wp2_with fail
 go_quiet ((go_at_call 160; exact Calls.quiet_of_same ((HB.out _).mono fun _ _ h => ⟨h.1, h.2.symm⟩)))
 go_wp2_with fail
 have J0 := cur_store (w1 := w.drewN nq) HI.out (grown_drewN (grown_refl w (some g)) nq) (z := (p : Int) + (n : Int)) (q := p + n) (Int.natCast_add p n).symm
 generalize (w.drewN nq).setCell ⟨g, 1, none⟩ (.int .i64 ((p : Int) + (n : Int))) = W1 at *
 have k0 := J0.1.c0
 have k1 : W1.cell? ⟨g, 1, none⟩ = some (.int .i64 ((p : Int) + (n : Int))) := by rw [J0.1.c1, Int.natCast_add]
 have a1 : (0 : Int) ≤ (p : Int) + (n : Int) := by omega
 have a2 : (p : Int) ≤ (p : Int) + (n : Int) := by omega
 have a3 : ((p : Int) + (n : Int)).toNat = p + n := by omega
 have b3 : IntKind.i64.wrap ((p : Int) + (n : Int) - (n : Int)) = (p : Int) := by rw [IntWalk.i64_in _ (by omega)]; omega
 have b4 : IntKind.i64.wrap (p : Int) = (p : Int) := IntWalk.i64_in _ (by omega)
 have HJ := Lib.hid J0
 clear J0 hc0 hc1 hf1 b1 HB HI
 go_region_held3 (fun w' => w'.cell? ⟨g, 0, none⟩ = some (.string s) ∧ w'.cell? ⟨g, 1, none⟩ = some (.int .i64 ((p : Int) + (n : Int)))) (first | exact ⟨k0, k1⟩ | exact ⟨(h1.cell (p := ⟨g, 0, none⟩) HJ.out.1.lt).trans k0, (h1.cell (p := ⟨g, 1, none⟩) HJ.out.1.lt).trans k1⟩) (first | (go_at_call 161; refine (HC.out _).mono ?_; rintro e w1 ⟨rfl, h1⟩))
 have h2 := (Below.refl W1.heap.size W1).drew.trans h1
 have HK := Lib.hid (And.intro (HJ.out.1.below h2) (grown_trans HJ.out.2 (grown_below h2 (some g))))
 clear h1 h2 k0 k1 b3 b4
 go_wp2
 go_ret
 exact ⟨rfl, HK.out.1, HK.out.2⟩
end Go.Proofs.YteadfpkihhaadaaGreatDoor
namespace Go.Proofs.YteadfpkihhaadaaGreatDoor
open Go.RowKit
def IsBlk (w : World) (g : Nat) (t : TypeId) (cs : Array Value) : Prop := w.heap[g]? = some (.cells cs t (0, 0))
theorem IsBlk.lt {w : World} {g : Nat} {t : TypeId} {cs : Array Value} (h : IsBlk w g t cs) : g < w.heap.size := by
 rcases Nat.lt_or_ge g w.heap.size with hlt | hge
 ·exact hlt
 ·unfold IsBlk at h; rw [Array.getElem?_eq_none hge] at h; cases h
theorem IsBlk.at_ {w : World} {g : Nat} {t : TypeId} {cs : Array Value} (h : IsBlk w g t cs) (i : Nat) : w.cell? ⟨g, i, none⟩ = cs[i]? := Lib.cell_of_heap h i
theorem IsBlk.fz {w : World} {g : Nat} {t : TypeId} {cs : Array Value} (h : IsBlk w g t cs) (i : Nat) : w.frozen? ⟨g, i, none⟩ = false := by
 unfold IsBlk at h; simp [World.frozen?, h]
theorem IsBlk.new (w : World) (t : TypeId) (cs : Array Value) : IsBlk (w.alloc (.cells cs t)) w.heap.size t cs := heap_alloc_new w _
theorem IsBlk.below {B : Nat} {w w' : World} {g : Nat} {t : TypeId} {cs : Array Value} (h : IsBlk w g t cs) (hb : Below B w w') (hg : g < B) : IsBlk w' g t cs := (hb.block g hg).trans h
theorem IsBlk.grown {w w' : World} {g : Nat} {t : TypeId} {cs : Array Value} {row : Option Nat} (h : IsBlk w g t cs) (hb : w.grownBy w' row) (hg : some g ≠ row) : IsBlk w' g t cs := (hb.block g h.lt hg).trans h
theorem IsBlk.set {w : World} {g : Nat} {t : TypeId} {cs : Array Value} (h : IsBlk w g t cs) (i : Nat) (u : Value) : IsBlk (w.setCell ⟨g, i, none⟩ u) g t (cs.setIfInBounds i u) := by
 unfold IsBlk at h ⊢
 simp [World.setCell, Array.getElem?_modify, h]
theorem IsBlk.far {w : World} {g : Nat} {t : TypeId} {cs : Array Value} (h : IsBlk w g t cs) {p : Addr} (hp : g ≠ p.block) (u : Value) : IsBlk (w.setCell p u) g t cs := (Below.heap_setCell w p u g hp).trans h
theorem IsCur.blk {g : Nat} {s : ByteArray} {p : Nat} {w : World} (h : IsCur g s p w) : IsBlk w g CT #[.string s, .int .i64 p] := h
theorem cur_alloc {w : World} {g : Nat} {s : ByteArray} {p : Nat} (h : IsCur g s p w) (o : Obj) : IsCur g s p (w.alloc o) := h.below ((Below.refl _ _).alloc (Nat.le_refl _) o)
theorem grown_alloc {w w1 : World} {r : Option Nat} (h : w.grownBy w1 r) (o : Obj) : w.grownBy (w1.alloc o) r := grown_trans h (grown_below ((Below.refl _ _).alloc (Nat.le_refl _) o) r)
theorem grown_setnew {w w1 : World} {r : Option Nat} (h : w.grownBy w1 r) {k : Nat} (hk : w.heap.size ≤ k) (i : Nat) (u : Value) : w.grownBy (w1.setCell ⟨k, i, none⟩ u) r :=
 ⟨h.os, h.tape, h.output, by simp [World.setCell]; exact h.size, fun j hj hn => (Below.heap_setCell w1 _ u j (by simp only; omega)).trans (h.block j hj hn)⟩
theorem CurTo.setnew {g : Nat} {s : ByteArray} {q : Nat} {w w1 : World} (h : CurTo g s q w w1) (hg : g < w.heap.size) {k : Nat} (hk : w.heap.size ≤ k) (i : Nat) (u : Value) : CurTo g s q w (w1.setCell ⟨k, i, none⟩ u) :=
 ⟨h.1.blk.far (by simp only; omega) u, grown_setnew h.2 hk i u⟩
theorem CurTo.alloc {g : Nat} {s : ByteArray} {q : Nat} {w w1 : World} (h : CurTo g s q w w1) (o : Obj) : CurTo g s q w (w1.alloc o) := ⟨cur_alloc h.1 o, grown_alloc h.2 o⟩
theorem CurTo.first {g : Nat} {s : ByteArray} {q : Nat} {w w1 : World} {o : Obj} (h : CurTo g s q (w.alloc o) w1) : CurTo g s q w w1 := ⟨h.1, grown_trans (grown_alloc (grown_refl w (some g)) o) h.2⟩
theorem below_of_grown {B : Nat} {w w' : World} {r : Option Nat} (h : w.grownBy w' r) (hB : B ≤ w.heap.size) (hr : ∀ k, r = some k → B ≤ k) : Below B w w' := (Below.refl B w).grown h hB hr
theorem news_at (w : World) (cs : Array Value) (t : TypeId) (n : Nat) (hn : w.heap.size = n) : ∀ j u, cs.toList[j]? = some u → (w.alloc (.cells cs t)).cell? ((⟨n, 0, none⟩ : Addr).add j) = some u := by
 subst hn
 exact World.news_of_block (heap_alloc_new w _)
end Go.Proofs.YteadfpkihhaadaaGreatDoor
namespace Go.Proofs.YteadfpkihhaadaaGreatDoor
open Go.RowKit
theorem hp_one {l : List UInt8} {c : UInt8} : Lib.hasPrefix l [c] = true ↔ l.head? = some c := by
 unfold Lib.hasPrefix
 cases l with
 | nil => simp
 | cons a r => simp [List.isPrefixOf]; exact eq_comm
theorem hp_one_no {l : List UInt8} {c : UInt8} (h : l.head? ≠ some c) : Lib.hasPrefix l [c] = false := by
 cases e : Lib.hasPrefix l [c] with
 | false => rfl
 | true => exact absurd (hp_one.1 e) h
theorem hp_two {l : List UInt8} {a b : UInt8} : Lib.hasPrefix l [a, b] = true ↔ l.take 2 = [a, b] := by
 unfold Lib.hasPrefix
 rw [List.isPrefixOf_iff_prefix, List.prefix_iff_eq_take]
 exact eq_comm
theorem hp_two_no {l : List UInt8} {a b : UInt8} (h : l.take 2 ≠ [a, b]) : Lib.hasPrefix l [a, b] = false := by
 cases e : Lib.hasPrefix l [a, b] with
 | false => rfl
 | true => exact absurd (hp_two.1 e) h
theorem drop_lt_of_head {s : ByteArray} {p : Nat} {c : UInt8} (h : (s.data.toList.drop p).head? = some c) : p + 1 ≤ s.size := by
 have : 0 < (s.data.toList.drop p).length := by
  cases e : s.data.toList.drop p with
  | nil => rw [e] at h; cases h
  | cons _ _ => simp
 rw [List.length_drop, ← Lib.size_eq] at this; omega
theorem drop_lt_of_two {s : ByteArray} {p : Nat} {a b : UInt8} (h : (s.data.toList.drop p).take 2 = [a, b]) : p + 2 ≤ s.size := by
 have := congrArg List.length h
 rw [List.length_take, List.length_drop, ← Lib.size_eq] at this
 simp at this; omega
def endz (r : List UInt8) (p : Nat) : Int × Nat := if r.head? = some 62 then (1, p + 1) else if r.take 2 = [47, 62] then (3, p + 2) else (0, p)
theorem fin_endz (r : List UInt8) (p : Nat) (acc : List Tk.A) : Tk.fin r p acc = if (endz r p).1 = 0 then ([], 0, 0) else (acc, (endz r p).2, (endz r p).1) := by
 unfold Tk.fin endz
 split
 ·rfl
 ·split <;> rfl
theorem CurTo.trans {g : Nat} {s : ByteArray} {p q : Nat} {w w1 w2 : World} (h : CurTo g s p w w1) (k : CurTo g s q w1 w2) : CurTo g s q w w2 := ⟨k.1, grown_trans h.2 k.2⟩
set_option maxHeartbeats 1000000 in
theorem end_any (g : Nat) (s : ByteArray) (p : Nat) (w : World) (hs : s.size ≤ 1000000) (hp : p ≤ s.size) (h : IsCur g s p w) :
  Calls Tryz.prog 132 #[.pointer (some ⟨g, 0, none⟩)] w fun e w' => e = .returned (.int .u8 (endz (s.data.toList.drop p) p).1) ∧ CurTo g s (endz (s.data.toList.drop p) p).2 w w' := by
 have hm : s.size ≤ maxLen := by unfold maxLen; omega
 unfold endz
 by_cases h1 : (s.data.toList.drop p).head? = some 62
 ·rw [if_pos h1]
  have hl := drop_lt_of_head h1
  have HS := Lib.hid (sign_yes g s ⟨#[62]⟩ p w hm hp h hl (hp_one.2 h1))
  clear h1 h hm
  go_enter Tryz.func132, Tryz.ntmps132
  go_wp2_with fail
  refine HS.out.mono ?_
  rintro e w1 ⟨rfl, h1⟩
  have H1 := Lib.hid h1
  clear h1
  go_wp2
  go_ret
  exact ⟨rfl, H1.out⟩
 ·rw [if_neg h1]
  have HN := Lib.hid (sign_no g s ⟨#[62]⟩ p w hp h (hp_one_no h1))
  by_cases h2 : (s.data.toList.drop p).take 2 = [47, 62]
  ·rw [if_pos h2]
   have hl := drop_lt_of_two h2
   have HS := Lib.hid (fun w1 (k : IsCur g s p w1) => sign_yes g s ⟨#[47, 62]⟩ p w1 hm hp k hl (hp_two.2 h2))
   clear h1 h2 h hm
   go_enter Tryz.func132, Tryz.ntmps132
   go_wp2_with fail
   refine HN.out.mono ?_
   rintro e w1 ⟨rfl, h1⟩
   have H1 := Lib.hid h1
   clear h1
   go_wp2_with fail
   refine (HS.out _ H1.out.1).mono ?_
   rintro e w2 ⟨rfl, h2⟩
   have H2 := Lib.hid (H1.out.trans h2)
   clear h2
   go_wp2
   go_ret
   exact ⟨rfl, H2.out⟩
  ·rw [if_neg h2]
   have HS := Lib.hid (fun w1 (k : IsCur g s p w1) => sign_no g s ⟨#[47, 62]⟩ p w1 hp k (hp_two_no h2))
   clear h1 h2 h hm
   go_enter Tryz.func132, Tryz.ntmps132
   go_wp2_with fail
   refine HN.out.mono ?_
   rintro e w1 ⟨rfl, h1⟩
   have H1 := Lib.hid h1
   clear h1
   go_wp2_with fail
   refine (HS.out _ H1.out.1).mono ?_
   rintro e w2 ⟨rfl, h2⟩
   have H2 := Lib.hid (H1.out.trans h2)
   clear h2
   go_wp2
   go_ret
   exact ⟨rfl, H2.out⟩
/-! ### value -/
def ValPost (g : Nat) (s : ByteArray) (p : Nat) (w : World) (e : Ending) (w' : World) : Prop :=
 ((Tk.qv (s.data.toList.drop p)).2 = 0 ∧ e = .returned (.tuple #[.string ⟨#[]⟩, .int .i64 0, .bool false]) ∧ ∃ q, q ≤ s.size ∧ CurTo g s q w w') ∨
 ((Tk.qv (s.data.toList.drop p)).2 ≠ 0 ∧ e = .returned (.tuple #[.string ⟨(Tk.qv (s.data.toList.drop p)).1.toArray⟩, .int .i64 ((p + 1 : Nat) : Int), .bool true]) ∧ CurTo g s (p + (Tk.qv (s.data.toList.drop p)).2) w w')
theorem drop_cons {s : ByteArray} {p : Nat} {c : UInt8} (h : (s.data.toList.drop p).head? = some c) : s.data.toList.drop p = c :: s.data.toList.drop (p + 1) := by
 cases e : s.data.toList.drop p with
 | nil => rw [e] at h; cases h
 | cons a r =>
  rw [e] at h
  simp only [List.head?_cons, Option.some.injEq] at h
  subst h
  rw [← List.drop_drop, e]; rfl
set_option maxHeartbeats 4000000 in
set_option maxRecDepth 100000 in
theorem value_any (g : Nat) (s : ByteArray) (p : Nat) (w : World) (hs : s.size ≤ 1000000) (hp : p ≤ s.size) (h : IsCur g s p w) :
  Calls Tryz.prog 177 #[.pointer (some ⟨g, 0, none⟩)] w (ValPost g s p w) := by
 have hm : s.size ≤ maxLen := by unfold maxLen; omega
 have HI := Lib.hid h
 have i0 : ∀ w, (Instr.index 236 (.agg #[.string ⟨#[34]⟩, .string ⟨#[39]⟩]) (.int .i64 0)).run Tryz.prog w = .ok (.string ⟨#[34]⟩) w := fun _ => by kernel_rfl
 have i1 : ∀ w, (Instr.index 236 (.agg #[.string ⟨#[34]⟩, .string ⟨#[39]⟩]) (.int .i64 1)).run Tryz.prog w = .ok (.string ⟨#[39]⟩) w := fun _ => by kernel_rfl
 clear h
 go_enter Tryz.func177, Tryz.ntmps177
 go_wp2
 go_loopw [8] (fun i wr => ∃ k : Int, (k = 0 ∨ k = 1 ∨ k = 2) ∧ i = .int .i64 k ∧ Hid (CurTo g s p w wr) ∧ Hid (1 ≤ k → (s.data.toList.drop p).head? ≠ some 34) ∧ Hid (2 ≤ k → (s.data.toList.drop p).head? ≠ some 39)) (fun i _ => 2 - (intOf i).toNat)
 case atStart => exact ⟨0, Or.inl rfl, rfl, Lib.hid ⟨HI.out, grown_refl _ _⟩, Lib.hid (fun h => by omega), Lib.hid (fun h => by omega)⟩
 case round =>
  obtain ⟨k, hk, rfl, HC0, H34, H39⟩ := hrel
  rcases hk with rfl | rfl | rfl
  ·clear H34 H39
   by_cases hq : (s.data.toList.drop p).head? = some 34
   ·
    have hl := drop_lt_of_head hq
    have hdc := drop_cons hq
    have HS := Lib.hid (sign_yes g s ⟨#[34]⟩ p wr hm hp HC0.out.1 hl (hp_one.2 hq))
    obtain ⟨X, hX⟩ : ∃ X, X = s.extract (p + 1) s.size := ⟨_, rfl⟩
    have hXd : X.data.toList = s.data.toList.drop (p + 1) := by rw [hX]; exact drop_ext _ _
    have hXs : X.size + (p + 1) = s.size := by rw [Lib.size_eq, hXd, List.length_drop, ← Lib.size_eq]; omega
    have HX := Lib.hid hX
    have a0 : (p : Int) + 1 ≤ (s.size : Int) := by omega
    have a1 : (0 : Int) ≤ (p : Int) + 1 := by omega
    have a2 : ((p : Int) + 1).toNat = p + 1 := by omega
    clear a2
    rcases En.idx_cases X.data.toList 34 with hi | ⟨j, hi⟩
    ·have HC := Lib.hid (fun w0 => cut1_miss X 34 w0 hi)
     have HF := Lib.hid (show (Tk.qv (s.data.toList.drop p)).2 = 0 by rw [hdc, Tk.qv_miss (by rw [← hXd]; exact hi)])
     clear hi hX hXd hdc
     go_wp2_with fail
     refine HS.out.mono ?_
     rintro e w1 ⟨rfl, h1⟩
     have k0 := h1.1.c0
     have k1 : w1.cell? ⟨g, 1, none⟩ = some (.int .i64 ((p : Int) + 1)) := by rw [h1.1.c1]; rfl
     have H1 := Lib.hid (HC0.out.trans h1)
     clear h1
     go_wp2_with fail
     rw [← HX.out]
     refine (HC.out _).mono ?_
     rintro e w2 ⟨rfl, rfl⟩
     clear k0 k1
     go_wp2
     go_ret3
     exact Or.inl ⟨HF.out, rfl, p + 1, by omega, H1.out⟩
    ·have hjl := En.idx_lt hi
     rw [← Lib.size_eq] at hjl
     have HC := Lib.hid (fun w0 => cut1_hit X 34 w0 j hi hjl (by unfold maxLen; omega))
     obtain ⟨V, hV⟩ : ∃ V, V = X.extract 0 j := ⟨_, rfl⟩
     have hVd : V.data.toList = (s.data.toList.drop (p + 1)).take j := by rw [hV, take_data, hXd]
     have hVs : V.size = j := by rw [hV, ByteArray.size_extract]; omega
     rw [← hV] at HC
     rw [hXd] at hi
     have HL := Lib.hid (fun w0 => Tryz.strings_Contains_one V 60 w0)
     rw [hVd] at HL
     rcases En.idx_cases ((s.data.toList.drop (p + 1)).take j) 60 with hl60 | ⟨m, hl60⟩
     ·have HF := Lib.hid (show Tk.qv (s.data.toList.drop p) = (V.data.toList, j + 2) by rw [hdc, Tk.qv_hit (by decide) hi hl60, hVd])
      rw [hl60, show decide ((0 : Int) ≤ -1) = false by decide] at HL
      have HD := HL
      have HVs := Lib.hid hVs
      have hVs' : (V.size : Int) ≤ 1000000 := by omega
      clear hi hX hXd hdc hV hVd HL hl60 hVs
      go_wp2_with fail
      refine HS.out.mono ?_
      rintro e w1 ⟨rfl, h1⟩
      have k0 := h1.1.c0
      have k1 : w1.cell? ⟨g, 1, none⟩ = some (.int .i64 ((p : Int) + 1)) := by rw [h1.1.c1]; rfl
      have H1 := Lib.hid (HC0.out.trans h1)
      clear h1
      go_wp2_with fail
      rw [← HX.out]
      refine (HC.out _).mono ?_
      rintro e w2 ⟨rfl, h2⟩
      have J2 := H1.out.1.below h2
      have H2 := Lib.hid (And.intro J2 (grown_trans H1.out.2 (grown_below h2 (some g))))
      have k1 : w2.cell? ⟨g, 1, none⟩ = some (.int .i64 ((p : Int) + 1)) := by rw [J2.c1]; rfl
      have kf := J2.fz 1
      clear k0 h2 J2
      go_wp2_with fail
      refine (HD.out _).mono ?_
      rintro e w3 ⟨rfl, hw3⟩
      subst hw3
      go_wp2
      go_ret3
      refine Or.inr ⟨by rw [HF.out]; simp, ?_, ?_⟩
      ·rw [HF.out]; simp only; rw [mk_data]; rfl
      ·rw [HF.out]
       exact cur_store H2.out.1 H2.out.2 (by have := HVs.out; simp only; omega)
     ·have HF := Lib.hid (show (Tk.qv (s.data.toList.drop p)).2 = 0 by rw [hdc, Tk.qv_lt hi (by rw [hl60]; omega)])
      rw [hl60, show decide ((0 : Int) ≤ (m : Int)) = true from decide_eq_true (by omega)] at HL
      have HD := HL
      clear hi hX hXd hdc hV hVd HL hl60 hVs
      go_wp2_with fail
      refine HS.out.mono ?_
      rintro e w1 ⟨rfl, h1⟩
      have k0 := h1.1.c0
      have k1 : w1.cell? ⟨g, 1, none⟩ = some (.int .i64 ((p : Int) + 1)) := by rw [h1.1.c1]; rfl
      have H1 := Lib.hid (HC0.out.trans h1)
      clear h1
      go_wp2_with fail
      rw [← HX.out]
      refine (HC.out _).mono ?_
      rintro e w2 ⟨rfl, h2⟩
      have H2 := Lib.hid (And.intro (H1.out.1.below h2) (grown_trans H1.out.2 (grown_below h2 (some g))))
      clear k0 k1 h2
      go_wp2_with fail
      refine (HD.out _).mono ?_
      rintro e w3 ⟨rfl, hw3⟩
      subst hw3
      go_wp2
      go_ret3
      exact Or.inl ⟨HF.out, rfl, p + 1, by omega, H2.out⟩
   ·have HN := Lib.hid (sign_no g s ⟨#[34]⟩ p wr hp HC0.out.1 (hp_one_no hq))
    have HQ := Lib.hid hq
    clear hq
    go_wp2_with fail
    refine HN.out.mono ?_
    rintro e w1 ⟨rfl, h1⟩
    have H1 := Lib.hid (HC0.out.trans h1)
    clear h1
    go_wp2
    go_roundw
    case rel => exact ⟨1, Or.inr (Or.inl rfl), rfl, H1, Lib.hid (fun _ => HQ.out), Lib.hid (fun h => by omega)⟩
    case measure => simp [intOf]
  ·clear H39
   by_cases hq : (s.data.toList.drop p).head? = some 39
   ·
    have hl := drop_lt_of_head hq
    have hdc := drop_cons hq
    have HS := Lib.hid (sign_yes g s ⟨#[39]⟩ p wr hm hp HC0.out.1 hl (hp_one.2 hq))
    obtain ⟨X, hX⟩ : ∃ X, X = s.extract (p + 1) s.size := ⟨_, rfl⟩
    have hXd : X.data.toList = s.data.toList.drop (p + 1) := by rw [hX]; exact drop_ext _ _
    have hXs : X.size + (p + 1) = s.size := by rw [Lib.size_eq, hXd, List.length_drop, ← Lib.size_eq]; omega
    have HX := Lib.hid hX
    have a0 : (p : Int) + 1 ≤ (s.size : Int) := by omega
    have a1 : (0 : Int) ≤ (p : Int) + 1 := by omega
    have a2 : ((p : Int) + 1).toNat = p + 1 := by omega
    clear a2
    rcases En.idx_cases X.data.toList 39 with hi | ⟨j, hi⟩
    ·have HC := Lib.hid (fun w0 => cut1_miss X 39 w0 hi)
     have HF := Lib.hid (show (Tk.qv (s.data.toList.drop p)).2 = 0 by rw [hdc, Tk.qv_miss (by rw [← hXd]; exact hi)])
     clear hi hX hXd hdc
     go_wp2_with fail
     refine HS.out.mono ?_
     rintro e w1 ⟨rfl, h1⟩
     have k0 := h1.1.c0
     have k1 : w1.cell? ⟨g, 1, none⟩ = some (.int .i64 ((p : Int) + 1)) := by rw [h1.1.c1]; rfl
     have H1 := Lib.hid (HC0.out.trans h1)
     clear h1
     go_wp2_with fail
     rw [← HX.out]
     refine (HC.out _).mono ?_
     rintro e w2 ⟨rfl, rfl⟩
     clear k0 k1
     go_wp2
     go_ret3
     exact Or.inl ⟨HF.out, rfl, p + 1, by omega, H1.out⟩
    ·have hjl := En.idx_lt hi
     rw [← Lib.size_eq] at hjl
     have HC := Lib.hid (fun w0 => cut1_hit X 39 w0 j hi hjl (by unfold maxLen; omega))
     obtain ⟨V, hV⟩ : ∃ V, V = X.extract 0 j := ⟨_, rfl⟩
     have hVd : V.data.toList = (s.data.toList.drop (p + 1)).take j := by rw [hV, take_data, hXd]
     have hVs : V.size = j := by rw [hV, ByteArray.size_extract]; omega
     rw [← hV] at HC
     rw [hXd] at hi
     have HL := Lib.hid (fun w0 => Tryz.strings_Contains_one V 60 w0)
     rw [hVd] at HL
     rcases En.idx_cases ((s.data.toList.drop (p + 1)).take j) 60 with hl60 | ⟨m, hl60⟩
     ·have HF := Lib.hid (show Tk.qv (s.data.toList.drop p) = (V.data.toList, j + 2) by rw [hdc, Tk.qv_hit (by decide) hi hl60, hVd])
      rw [hl60, show decide ((0 : Int) ≤ -1) = false by decide] at HL
      have HD := HL
      have HVs := Lib.hid hVs
      have hVs' : (V.size : Int) ≤ 1000000 := by omega
      clear hi hX hXd hdc hV hVd HL hl60 hVs
      go_wp2_with fail
      refine HS.out.mono ?_
      rintro e w1 ⟨rfl, h1⟩
      have k0 := h1.1.c0
      have k1 : w1.cell? ⟨g, 1, none⟩ = some (.int .i64 ((p : Int) + 1)) := by rw [h1.1.c1]; rfl
      have H1 := Lib.hid (HC0.out.trans h1)
      clear h1
      go_wp2_with fail
      rw [← HX.out]
      refine (HC.out _).mono ?_
      rintro e w2 ⟨rfl, h2⟩
      have J2 := H1.out.1.below h2
      have H2 := Lib.hid (And.intro J2 (grown_trans H1.out.2 (grown_below h2 (some g))))
      have k1 : w2.cell? ⟨g, 1, none⟩ = some (.int .i64 ((p : Int) + 1)) := by rw [J2.c1]; rfl
      have kf := J2.fz 1
      clear k0 h2 J2
      go_wp2_with fail
      refine (HD.out _).mono ?_
      rintro e w3 ⟨rfl, hw3⟩
      subst hw3
      go_wp2
      go_ret3
      refine Or.inr ⟨by rw [HF.out]; simp, ?_, ?_⟩
      ·rw [HF.out]; simp only; rw [mk_data]; rfl
      ·rw [HF.out]
       exact cur_store H2.out.1 H2.out.2 (by have := HVs.out; simp only; omega)
     ·have HF := Lib.hid (show (Tk.qv (s.data.toList.drop p)).2 = 0 by rw [hdc, Tk.qv_lt hi (by rw [hl60]; omega)])
      rw [hl60, show decide ((0 : Int) ≤ (m : Int)) = true from decide_eq_true (by omega)] at HL
      have HD := HL
      clear hi hX hXd hdc hV hVd HL hl60 hVs
      go_wp2_with fail
      refine HS.out.mono ?_
      rintro e w1 ⟨rfl, h1⟩
      have k0 := h1.1.c0
      have k1 : w1.cell? ⟨g, 1, none⟩ = some (.int .i64 ((p : Int) + 1)) := by rw [h1.1.c1]; rfl
      have H1 := Lib.hid (HC0.out.trans h1)
      clear h1
      go_wp2_with fail
      rw [← HX.out]
      refine (HC.out _).mono ?_
      rintro e w2 ⟨rfl, h2⟩
      have H2 := Lib.hid (And.intro (H1.out.1.below h2) (grown_trans H1.out.2 (grown_below h2 (some g))))
      clear k0 k1 h2
      go_wp2_with fail
      refine (HD.out _).mono ?_
      rintro e w3 ⟨rfl, hw3⟩
      subst hw3
      go_wp2
      go_ret3
      exact Or.inl ⟨HF.out, rfl, p + 1, by omega, H2.out⟩
   ·have HN := Lib.hid (sign_no g s ⟨#[39]⟩ p wr hp HC0.out.1 (hp_one_no hq))
    have HQ := Lib.hid hq
    clear hq
    go_wp2_with fail
    refine HN.out.mono ?_
    rintro e w1 ⟨rfl, h1⟩
    have H1 := Lib.hid (HC0.out.trans h1)
    clear h1
    go_wp2
    go_roundw
    case rel => exact ⟨2, Or.inr (Or.inr rfl), rfl, H1, Lib.hid (fun _ => H34.out (by omega)), Lib.hid (fun _ => HQ.out)⟩
    case measure => simp [intOf]
  ·have HF := Lib.hid (show (Tk.qv (s.data.toList.drop p)).2 = 0 by rw [Tk.qv_none fun q hq => ⟨fun e => H34.out (by omega) (by rw [hq, e]), fun e => H39.out (by omega) (by rw [hq, e])⟩])
   go_wp2
   go_ret3
   exact Or.inl ⟨HF.out, rfl, p, hp, HC0.out⟩
/-! ### attribute -/
def attV (p : Nat) (a : Tk.A) : Value := .agg #[.string ⟨a.nm.toArray⟩, .string ⟨a.vl.toArray⟩, .int .i64 ((a.p + p : Nat) : Int)]
def AtP (g : Nat) (s : ByteArray) (p : Nat) (r : Tk.A × Nat) (w : World) (e : Ending) (w' : World) : Prop :=
 (r.2 = 0 ∧ e = .returned (.tuple #[.agg #[.string ⟨#[]⟩, .string ⟨#[]⟩, .int .i64 0], .bool false]) ∧ ∃ q, q ≤ s.size ∧ CurTo g s q w w') ∨
 (r.2 ≠ 0 ∧ e = .returned (.tuple #[attV p r.1, .bool true]) ∧ CurTo g s (p + r.2) w w')
abbrev zA : Array Value := #[.string ⟨#[]⟩, .string ⟨#[]⟩, .int .i64 0]
theorem blk_cur {g r : Nat} {s : ByteArray} {q : Nat} {w w1 : World} {t : TypeId} {cs : Array Value} (h : IsBlk w r t cs) (hne : r ≠ g) (k : CurTo g s q w w1) : IsBlk w1 r t cs := h.grown k.2 (fun e => hne (Option.some.inj e))
theorem AtP.no {g : Nat} {s : ByteArray} {p q : Nat} {r : Tk.A × Nat} {w w' : World} (hg : g < w.heap.size) (h0 : r.2 = 0) (hq : q ≤ s.size) (h : CurTo g s q (w.alloc (.cells zA 216)) w') (a b c : Value) :
  AtP g s p r w (.returned (.tuple #[.agg #[.string ⟨#[]⟩, .string ⟨#[]⟩, .int .i64 0], .bool false])) (((w'.setCell ⟨w.heap.size, 0, none⟩ a).setCell ⟨w.heap.size, 1, none⟩ b).setCell ⟨w.heap.size, 2, none⟩ c) :=
 Or.inl ⟨h0, rfl, q, hq, ((h.first.setnew hg (Nat.le_refl _) _ _).setnew hg (Nat.le_refl _) _ _).setnew hg (Nat.le_refl _) _ _⟩
theorem AtP.yes {g : Nat} {s : ByteArray} {p q : Nat} {r : Tk.A × Nat} {w w' : World} (hg : g < w.heap.size) (h0 : r.2 ≠ 0) (hq : q = p + r.2) (h : CurTo g s q (w.alloc (.cells zA 216)) w') {a b c : Value} (he : attV p r.1 = .agg #[a, b, c]) :
  AtP g s p r w (.returned (.tuple #[.agg #[a, b, c], .bool true])) (((w'.setCell ⟨w.heap.size, 0, none⟩ a).setCell ⟨w.heap.size, 1, none⟩ b).setCell ⟨w.heap.size, 2, none⟩ c) :=
 Or.inr ⟨h0, by rw [he], by rw [← hq]; exact ((h.first.setnew hg (Nat.le_refl _) _ _).setnew hg (Nat.le_refl _) _ _).setnew hg (Nat.le_refl _) _ _⟩
set_option maxHeartbeats 4000000 in
set_option maxRecDepth 100000 in
theorem attribute_any (g : Nat) (s : ByteArray) (p : Nat) (w : World) (hs : s.size ≤ 1000000) (hp : p ≤ s.size) (h : IsCur g s p w) (hn0 : Nm.bg (s.data.toList.drop p) ≠ 0) :
  Calls Tryz.prog 163 #[.pointer (some ⟨g, 0, none⟩)] w (AtP g s p (Tk.at1 (s.data.toList.drop p)) w) := by
 have hm : s.size ≤ maxLen := by unfold maxLen; omega
 have hgl := h.lt
 obtain ⟨l, hl⟩ : ∃ l, l = s.data.toList.drop p := ⟨_, rfl⟩
 obtain ⟨n, hn⟩ : ∃ n, n = Nm.bg l := ⟨_, rfl⟩
 have hnl := (Nm.bg_le l).1
 rw [← hn, hl, List.length_drop, ← Lib.size_eq] at hnl
 obtain ⟨b1, hb1⟩ : ∃ b, b = Tk.bl (l.drop n) := ⟨_, rfl⟩
 have hb1l := Tk.bl_le (l.drop n)
 rw [← hb1, hl, List.drop_drop, List.length_drop, ← Lib.size_eq] at hb1l
 have e1 : s.data.toList.drop (p + n) = l.drop n := by rw [hl, List.drop_drop]
 have e2 : s.data.toList.drop (p + n + b1) = l.drop (n + b1) := by rw [hl, List.drop_drop, Nat.add_assoc]
 have HI0 := Lib.hid (cur_alloc h (.cells zA 216))
 have HB0 := Lib.hid (IsBlk.new w 216 zA)
 have HN := Lib.hid (name_any g s p (w.alloc (.cells zA 216)) hs hp HI0.out)
 have HBL := Lib.hid (fun w0 (k : IsCur g s (p + n) w0) => blanks_any g s (p + n) w0 hm (by omega) k)
 rw [e1, ← hb1] at HBL
 rw [← hl, ← hn] at HN
 rw [← hl] at hn0
 have hn0' : n ≠ 0 := by rw [hn]; exact hn0
 rw [← hl]
 by_cases hq : (l.drop (n + b1)).head? = some 61
 ·have hlt : p + n + b1 + 1 ≤ s.size := drop_lt_of_head (c := 61) (by rw [e2]; exact hq)
  obtain ⟨b2, hb2⟩ : ∃ b, b = Tk.bl (l.drop (n + b1 + 1)) := ⟨_, rfl⟩
  have hb2l := Tk.bl_le (l.drop (n + b1 + 1))
  rw [← hb2, hl, List.drop_drop, List.length_drop, ← Lib.size_eq] at hb2l
  have e3 : s.data.toList.drop (p + n + b1 + 1) = l.drop (n + b1 + 1) := by rw [hl, List.drop_drop]; congr 1; omega
  have e4 : s.data.toList.drop (p + n + b1 + 1 + b2) = l.drop (n + b1 + 1 + b2) := by rw [hl, List.drop_drop]; congr 1; omega
  have HS := Lib.hid (fun w0 (k : IsCur g s (p + n + b1) w0) => sign_yes g s ⟨#[61]⟩ (p + n + b1) w0 hm (by omega) k hlt (hp_one.2 (by rw [e2]; exact hq)))
  have HB2 := Lib.hid (fun w0 (k : IsCur g s (p + n + b1 + 1) w0) => blanks_any g s (p + n + b1 + 1) w0 hm (by omega) k)
  rw [e3, ← hb2] at HB2
  have HV := Lib.hid (fun w0 (k : IsCur g s (p + n + b1 + 1 + b2) w0) => value_any g s (p + n + b1 + 1 + b2) w0 hs (by omega) k)
  have hat := Tk.at1_val (l := l) (n := n) (i := n + b1) (j := n + b1 + 1 + b2) hn.symm hn0' (by rw [hb1]) hq (by rw [hb2])
  obtain ⟨R, hR⟩ : ∃ R, R = Tk.at1 l := ⟨_, rfl⟩
  rw [← hR] at hat ⊢
  by_cases hv : (Tk.qv (l.drop (n + b1 + 1 + b2))).2 = 0
  ·rw [if_pos hv] at hat
   have HAT := Lib.hid hat
   have HV2 := Lib.hid (fun w0 (k : IsCur g s (p + n + b1 + 1 + b2) w0) => show Calls Tryz.prog 177 #[.pointer (some ⟨g, 0, none⟩)] w0 (fun e w' => e = .returned (.tuple #[.string ⟨#[]⟩, .int .i64 0, .bool false]) ∧ ∃ q, q ≤ s.size ∧ CurTo g s q w0 w') from (HV.out w0 k).mono fun e w' hpost => by
    unfold ValPost at hpost
    rw [e4] at hpost
    rcases hpost with ⟨_, he, hc⟩ | ⟨hne, _⟩
    ·exact ⟨he, hc⟩
    ·exact absurd hv hne)
   clear HV hat hv hq e1 e2 e3 e4 hb1 hb2 hn hl hm hn0 hn0' hR
   go_enter Tryz.func163, Tryz.ntmps163
   go_wp2_with fail
   refine HN.out.mono ?_
   rintro e w1 ⟨rfl, h1⟩
   have H1 := Lib.hid h1
   clear h1
   go_wp2_with fail
   refine (HBL.out _ H1.out.1).mono ?_
   rintro e w2 ⟨rfl, h2⟩
   have H2 := Lib.hid (H1.out.trans h2)
   clear h2
   go_wp2_with fail
   refine (HS.out _ H2.out.1).mono ?_
   rintro e w3 ⟨rfl, h3⟩
   have H3 := Lib.hid (H2.out.trans h3)
   clear h3
   go_wp2_with fail
   refine (HB2.out _ H3.out.1).mono ?_
   rintro e w4 ⟨rfl, h4⟩
   have H4 := Lib.hid (H3.out.trans h4)
   clear h4
   go_wp2_with fail
   refine (HV2.out _ H4.out.1).mono ?_
   rintro e w5 ⟨rfl, q, hq, h5⟩
   have H5 := Lib.hid (H4.out.trans h5)
   have kb := blk_cur HB0.out (by omega) H5.out
   clear h5
   have k0 : w5.cell? ⟨w.heap.size, 0, none⟩ = some (.string ⟨#[]⟩) := kb.at_ 0
   have k1 : w5.cell? ⟨w.heap.size, 1, none⟩ = some (.string ⟨#[]⟩) := kb.at_ 1
   have k2 : w5.cell? ⟨w.heap.size, 2, none⟩ = some (.int .i64 0) := kb.at_ 2
   have f0 := kb.fz 0
   have f1 := kb.fz 1
   have f2 := kb.fz 2
   clear kb
   go_wp2
   exact bodyPost_ret (v := .tuple #[.agg #[.string ⟨#[]⟩, .string ⟨#[]⟩, .int .i64 0], .bool false]) (by simp [results, Tryz.results163, go_sem, k0, k1, k2]) rfl (AtP.no hgl (by rw [HAT.out]) hq H5.out _ _ _)
  ·rw [if_neg hv] at hat
   have HAT := Lib.hid hat
   obtain ⟨V, hV⟩ : ∃ V : ByteArray, V = ⟨(Tk.qv (l.drop (n + b1 + 1 + b2))).1.toArray⟩ := ⟨_, rfl⟩
   have HV2 := Lib.hid (fun w0 (k : IsCur g s (p + n + b1 + 1 + b2) w0) => show Calls Tryz.prog 177 #[.pointer (some ⟨g, 0, none⟩)] w0 (fun e w' => e = .returned (.tuple #[.string V, .int .i64 ((p + n + b1 + 1 + b2 + 1 : Nat) : Int), .bool true]) ∧ CurTo g s (p + n + b1 + 1 + b2 + (Tk.qv (l.drop (n + b1 + 1 + b2))).2) w0 w') from (HV.out w0 k).mono fun e w' hpost => by
    unfold ValPost at hpost
    rw [e4] at hpost
    rcases hpost with ⟨h0, _⟩ | ⟨_, he, hc⟩
    ·exact absurd h0 hv
    ·exact ⟨by rw [he, hV], hc⟩)
   have HVV := Lib.hid hV
   have HVN := Lib.hid hv
   obtain ⟨N, hN⟩ : ∃ N : ByteArray, N = ⟨(l.take n).toArray⟩ := ⟨_, rfl⟩
   rw [← hN] at HN
   have HNN := Lib.hid hN
   generalize (Tk.qv (l.drop (n + b1 + 1 + b2))).2 = m at *
   clear HV hat hv hq e1 e2 e3 e4 hb1 hb2 hn hl hm hn0 hn0' hR hV hN
   go_enter Tryz.func163, Tryz.ntmps163
   go_wp2_with fail
   refine HN.out.mono ?_
   rintro e w1 ⟨rfl, h1⟩
   have H1 := Lib.hid h1
   clear h1
   go_wp2_with fail
   refine (HBL.out _ H1.out.1).mono ?_
   rintro e w2 ⟨rfl, h2⟩
   have H2 := Lib.hid (H1.out.trans h2)
   clear h2
   go_wp2_with fail
   refine (HS.out _ H2.out.1).mono ?_
   rintro e w3 ⟨rfl, h3⟩
   have H3 := Lib.hid (H2.out.trans h3)
   clear h3
   go_wp2_with fail
   refine (HB2.out _ H3.out.1).mono ?_
   rintro e w4 ⟨rfl, h4⟩
   have H4 := Lib.hid (H3.out.trans h4)
   clear h4
   go_wp2_with fail
   refine (HV2.out _ H4.out.1).mono ?_
   rintro e w5 ⟨rfl, h5⟩
   have H5 := Lib.hid (H4.out.trans h5)
   clear h5
   have kb := blk_cur HB0.out (by omega) H5.out
   have k0 : w5.cell? ⟨w.heap.size, 0, none⟩ = some (.string ⟨#[]⟩) := kb.at_ 0
   have k1 : w5.cell? ⟨w.heap.size, 1, none⟩ = some (.string ⟨#[]⟩) := kb.at_ 1
   have k2 : w5.cell? ⟨w.heap.size, 2, none⟩ = some (.int .i64 0) := kb.at_ 2
   have f0 := kb.fz 0
   have f1 := kb.fz 1
   have f2 := kb.fz 2
   clear kb
   go_wp2
   exact bodyPost_ret (v := .tuple #[.agg #[.string N, .string V, .int .i64 ((p + n + b1 + 1 + b2 + 1 : Nat) : Int)], .bool true]) (by simp [results, Tryz.results163, go_sem, k0, k1, k2]) rfl (AtP.yes hgl (by rw [HAT.out]; have := HVN.out; simp only; omega) (by rw [HAT.out]; simp only; omega) H5.out (by rw [HAT.out, HVV.out, HNN.out]; unfold attV; simp only; rw [show n + b1 + 1 + b2 + 1 + p = p + n + b1 + 1 + b2 + 1 by omega]))
 ·have HAT := Lib.hid (Tk.at1_sign (l := l) hn.symm (by rw [← hb1]; exact hq))
  have HS := Lib.hid (fun w0 (k : IsCur g s (p + n + b1) w0) => sign_no g s ⟨#[61]⟩ (p + n + b1) w0 (by omega) k (hp_one_no (by rw [e2]; exact hq)))
  have hqs : p + n + b1 ≤ s.size := by omega
  obtain ⟨R, hR⟩ : ∃ R, R = Tk.at1 l := ⟨_, rfl⟩
  rw [← hR] at HAT ⊢
  clear hq e1 e2 hb1 hn hl hm hn0 hn0' hR
  go_enter Tryz.func163, Tryz.ntmps163
  go_wp2_with fail
  refine HN.out.mono ?_
  rintro e w1 ⟨rfl, h1⟩
  have H1 := Lib.hid h1
  clear h1
  go_wp2_with fail
  refine (HBL.out _ H1.out.1).mono ?_
  rintro e w2 ⟨rfl, h2⟩
  have H2 := Lib.hid (H1.out.trans h2)
  clear h2
  go_wp2_with fail
  refine (HS.out _ H2.out.1).mono ?_
  rintro e w3 ⟨rfl, h3⟩
  have H3 := Lib.hid (H2.out.trans h3)
  clear h3
  have kb := blk_cur HB0.out (by omega) H3.out
  have k0 : w3.cell? ⟨w.heap.size, 0, none⟩ = some (.string ⟨#[]⟩) := kb.at_ 0
  have k1 : w3.cell? ⟨w.heap.size, 1, none⟩ = some (.string ⟨#[]⟩) := kb.at_ 1
  have k2 : w3.cell? ⟨w.heap.size, 2, none⟩ = some (.int .i64 0) := kb.at_ 2
  have f0 := kb.fz 0
  have f1 := kb.fz 1
  have f2 := kb.fz 2
  clear kb
  go_wp2
  exact bodyPost_ret (v := .tuple #[.agg #[.string ⟨#[]⟩, .string ⟨#[]⟩, .int .i64 0], .bool false]) (by simp [results, Tryz.results163, go_sem, k0, k1, k2]) rfl (AtP.no hgl (by rw [HAT.out]) hqs H3.out _ _ _)
end Go.Proofs.YteadfpkihhaadaaGreatDoor
