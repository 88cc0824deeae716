/- The cursor of package token, walked: sign, blanks, name: each goes on in its text as the plain facts tell; of old memory the cursor's own place alone is turned. Conditions: the cursor is a block of its own; a text's length fits.
Words for memory in the walks of package token: a block that is known whole; a row of a call's own; what a call leaves as it was. No condition. -/
import Derived.Test.YtgidpcfaeekjhaaGreatDoorNmSplit
import Derived.Test.YtgidpcfaeekjhaaGreatDoorStrCut
import Derived.Test.YtgidpcfaeekjhaaGreatDoorTkBack
import Derived.Shelf.Strings.SlTrimAscii
import Derived.Deep.RegionHeld3
import Derived.Lib.OthersKept
import Derived.OwnWalk
import Derived.Deep.AppendLies
namespace Go.Proofs.YtgidpcfaeekjhaaGreatDoor
open Go.RowKit

abbrev CT : TypeId := 178
def IsCur (g : Nat) (s : ByteArray) (p : Nat) (w : World) : Prop := w.heap[g]? = some (.cells #[.string s, .int .i64 p] CT (0, 0))
theorem IsCur.lt {g : Nat} {s : ByteArray} {p : Nat} {w : World} (h : IsCur g s p w) : g < w.heap.size := by
  rcases Nat.lt_or_ge g w.heap.size with hlt | hge
  · exact hlt
  · unfold IsCur at h; rw [Array.getElem?_eq_none hge] at h; cases h
theorem IsCur.c0 {g : Nat} {s : ByteArray} {p : Nat} {w : World} (h : IsCur g s p w) : w.cell? ⟨g, 0, none⟩ = some (.string s) := Lib.cell_of_heap h 0
theorem IsCur.c1 {g : Nat} {s : ByteArray} {p : Nat} {w : World} (h : IsCur g s p w) : w.cell? ⟨g, 1, none⟩ = some (.int .i64 p) := Lib.cell_of_heap h 1
theorem IsCur.fz {g : Nat} {s : ByteArray} {p : Nat} {w : World} (h : IsCur g s p w) (i : Nat) : w.frozen? ⟨g, i, none⟩ = false := by
  unfold IsCur at h; simp [World.frozen?, h]
theorem IsCur.set {g : Nat} {s : ByteArray} {p : Nat} {w : World} (h : IsCur g s p w) (q : Nat) : IsCur g s q (w.setCell ⟨g, 1, none⟩ (.int .i64 q)) := by
  unfold IsCur at h ⊢
  simp [World.setCell, Array.getElem?_modify, h]
theorem IsCur.below {g : Nat} {s : ByteArray} {p : Nat} {w w' : World} (h : IsCur g s p w) (hb : Below w.heap.size w w') : IsCur g s p w' := (hb.block g h.lt).trans h
theorem IsCur.new (w : World) (s : ByteArray) (p : Nat) : IsCur w.heap.size s p (w.alloc (.cells #[.string s, .int .i64 p] CT)) := heap_alloc_new w _
theorem grown_trans {w w1 w2 : World} {r : Option Nat} (h : w.grownBy w1 r) (k : w1.grownBy w2 r) : w.grownBy w2 r :=
  ⟨k.os.trans h.os, k.tape.trans h.tape, k.output.trans h.output, Nat.le_trans h.size k.size, fun i hi hn => (k.block i (Nat.lt_of_lt_of_le hi h.size) hn).trans (h.block i hi hn)⟩
theorem grown_refl (w : World) (r : Option Nat) : w.grownBy w r := ⟨rfl, rfl, rfl, Nat.le_refl _, fun _ _ _ => rfl⟩
theorem grown_below {w w' : World} (h : Below w.heap.size w w') (r : Option Nat) : w.grownBy w' r := ⟨h.os, h.tape, h.output, h.size, fun k hk _ => h.block k hk⟩
theorem grown_set (w : World) (g i : Nat) (v : Value) : w.grownBy (w.setCell ⟨g, i, none⟩ v) (some g) :=
  ⟨rfl, rfl, rfl, by simp [World.setCell], fun k _ hn => Below.heap_setCell w _ v k (fun e => hn (by rw [e]))⟩
theorem grown_drewN {w w' : World} {r : Option Nat} (h : w.grownBy w' r) (n : Nat) : w.grownBy (w'.drewN n) r := ⟨h.os, h.tape, h.output, h.size, h.block⟩
theorem drop_ext (s : ByteArray) (p : Nat) : (s.extract p s.size).data.toList = s.data.toList.drop p := drop_data s p

/-- What a cursor's call leaves. -/
def CurTo (g : Nat) (s : ByteArray) (q : Nat) (w w' : World) : Prop := IsCur g s q w' ∧ w.grownBy w' (some g)

theorem cur_store {g : Nat} {s : ByteArray} {p : Nat} {w w1 : World} (h : IsCur g s p w1) (hg : w.grownBy w1 (some g)) {z : Int} {q : Nat} (hz : z = (q : Int)) : CurTo g s q w (w1.setCell ⟨g, 1, none⟩ (.int .i64 z)) := by
  subst hz
  exact ⟨h.set q, grown_trans hg (grown_set _ _ _ _)⟩

set_option maxHeartbeats 1000000 in
theorem sign_no (g : Nat) (s t : ByteArray) (p : Nat) (w : World) (hp : p ≤ s.size) (h : IsCur g s p w) (hno : Lib.hasPrefix (s.data.toList.drop p) t.data.toList = false) :
    Calls Tryz.prog 130 #[.pointer (some ⟨g, 0, none⟩), .string t] w fun e w' => e = .returned (.bool false) ∧ CurTo g s p w w' := by
  have hc0 := h.c0
  have hc1 := h.c1
  have hp' : (p : Int) ≤ (s.size : Int) := by omega
  have HP := Lib.hid (fun w0 => Tryz.strings_HasPrefix (s.extract p s.size) t w0)
  rw [drop_ext, hno] at HP
  have HI := Lib.hid h
  clear hno h
  go_enter Tryz.func130, Tryz.ntmps130
  go_wp2_with fail
  go_quiet ((go_at_call 89; exact Calls.quiet_of_same (HP.out _)))
  go_wp2
  go_ret
  exact ⟨rfl, HI.out, grown_drewN (grown_refl _ _) _⟩

set_option maxHeartbeats 1000000 in
theorem sign_yes (g : Nat) (s t : ByteArray) (p : Nat) (w : World) (hs : s.size ≤ maxLen) (hp : p ≤ s.size) (h : IsCur g s p w) (ht : p + t.size ≤ s.size) (hyes : Lib.hasPrefix (s.data.toList.drop p) t.data.toList = true) :
    Calls Tryz.prog 130 #[.pointer (some ⟨g, 0, none⟩), .string t] w fun e w' => e = .returned (.bool true) ∧ CurTo g s (p + t.size) w w' := by
  have hc0 := h.c0
  have hc1 := h.c1
  have hf1 := h.fz 1
  have hp' : (p : Int) ≤ (s.size : Int) := by omega
  have HP := Lib.hid (fun w0 => Tryz.strings_HasPrefix (s.extract p s.size) t w0)
  rw [drop_ext, hyes] at HP
  have HI := Lib.hid h
  unfold maxLen at hs
  clear hyes h
  go_enter Tryz.func130, Tryz.ntmps130
  go_wp2_with fail
  go_quiet ((go_at_call 89; exact Calls.quiet_of_same (HP.out _)))
  go_wp2
  go_ret
  exact ⟨rfl, cur_store (w1 := w.drewN nq) HI.out (grown_drewN (grown_refl _ _) nq) (Int.natCast_add p t.size).symm⟩

theorem blanks_ascii : ∀ (j : Nat) b, (⟨#[32, 9, 10, 13]⟩ : ByteArray).data.toList[j]? = some b → b.toNat < 128 := ascii_of_all (by decide)
theorem trimL_any (s : ByteArray) (w : World) :
    Calls Tryz.prog 162 #[.string s, .string ⟨#[32, 9, 10, 13]⟩] w fun e w' => e = .returned (.string ⟨(s.data.toList.drop (Tk.bl s.data.toList)).toArray⟩) ∧ Below w.heap.size w w' := by
  refine (Any.strings_TrimLeft_laid Tryz.lays161 (by kernel_rfl) s ⟨#[32, 9, 10, 13]⟩ w (by decide) blanks_ascii).mono fun e w' h => ⟨?_, h.2⟩
  rw [h.1, ← Tk.trimLeft_bl]; rfl
theorem trim_any (s : ByteArray) (w : World) (hs : s.size ≤ maxLen) :
    Calls Tryz.prog 108 #[.string s, .string ⟨#[32, 9, 10, 13]⟩] w fun e w' => e = .returned (.string ⟨(Lib.trimS s.data.toList Tk.blanks).toArray⟩) ∧ Below w.heap.size w w' := by
  refine (Any.strings_Trim_laid Tryz.lays160 (by kernel_rfl) s ⟨#[32, 9, 10, 13]⟩ w (by unfold maxLen at hs; omega) (by decide) blanks_ascii).mono fun e w' h => ⟨?_, h.2⟩
  rw [h.1]; rfl

set_option maxHeartbeats 2000000 in
theorem blanks_any (g : Nat) (s : ByteArray) (p : Nat) (w : World) (hs : s.size ≤ maxLen) (hp : p ≤ s.size) (h : IsCur g s p w) :
    Calls Tryz.prog 129 #[.pointer (some ⟨g, 0, none⟩)] w fun e w' => e = .returned (.bool (decide (0 < Tk.bl (s.data.toList.drop p)))) ∧ CurTo g s (p + Tk.bl (s.data.toList.drop p)) w w' := by
  have hc0 := h.c0
  have hc1 := h.c1
  have hp' : (p : Int) ≤ (s.size : Int) := by omega
  have HT := Lib.hid (fun w0 => trimL_any (s.extract p s.size) w0)
  rw [drop_ext] at HT
  have hle := Tk.bl_le (s.data.toList.drop p)
  rw [List.length_drop, ← Lib.size_eq] at hle
  obtain ⟨R, hR⟩ : ∃ R : ByteArray, R = ⟨((s.data.toList.drop p).drop (Tk.bl (s.data.toList.drop p))).toArray⟩ := ⟨_, rfl⟩
  have hRs : R.size + (p + Tk.bl (s.data.toList.drop p)) = s.size := by rw [hR, size_mk, List.length_drop, List.length_drop, ← Lib.size_eq]; omega
  rw [← hR] at HT
  have HI := Lib.hid h
  unfold maxLen at hs
  generalize Tk.bl (s.data.toList.drop p) = n at *
  have HRs := Lib.hid hRs
  have b1 : IntKind.i64.wrap ((s.size : Int) - (p : Int)) = (s.size : Int) - (p : Int) := IntWalk.i64_in _ (by omega)
  have b2 : IntKind.i64.wrap ((s.size : Int) - (p : Int) - (R.size : Int)) = (n : Int) := by rw [IntWalk.i64_in _ (by omega)]; omega
  clear hR h hRs
  go_enter Tryz.func129, Tryz.ntmps129
  go_wp2_with fail
  go_region_held3 (fun w' => w'.cell? ⟨g, 0, none⟩ = some (.string s) ∧ w'.cell? ⟨g, 1, none⟩ = some (.int .i64 p)) (first | exact ⟨hc0, hc1⟩ | exact ⟨(h1.cell (p := ⟨g, 0, none⟩) HI.out.lt).trans hc0, (h1.cell (p := ⟨g, 1, none⟩) HI.out.lt).trans hc1⟩) (first | (go_at_call 162; refine (HT.out _).mono ?_; rintro e w1 ⟨rfl, h1⟩))
  have h2 := (Below.refl w.heap.size w).drew.trans h1
  have J := HI.out.below h2
  have g1 := grown_below h2 (some g)
  have k0 := J.c0
  have k1 := J.c1
  have kf := J.fz 1
  have HJ := Lib.hid (And.intro J g1)
  clear h1 h2 hc0 hc1 J g1 b1 b2
  go_wp2
  go_ret
  exact ⟨by first | rfl | (apply ret_bool; simp), cur_store HJ.out.1 HJ.out.2 (Int.natCast_add p n).symm⟩

set_option maxHeartbeats 1000000 in
theorem clone_any (s : ByteArray) (w : World) (hs : s.size ≤ 281474976710656) :
    Calls Tryz.prog 161 #[.string s] w fun e w' => e = .returned (.string s) ∧ Below w.heap.size w w' := by
  have H := Lib.hid (Tryz.stringslite_Clone s w hs)
  go_enter Tryz.func161, Tryz.ntmps161
  go_wp2_with fail
  refine H.out.mono ?_
  rintro e w1 ⟨rfl, h1⟩
  go_wp2
  go_ret
  exact ⟨rfl, h1⟩
theorem ext_take (s : ByteArray) (p n : Nat) : (s.extract p (p + n)).data.toList = (s.data.toList.drop p).take n := by
  rw [← Lib.toList_data, Lib.extract_toList]; congr 1; omega

set_option maxHeartbeats 2000000 in
theorem name_any (g : Nat) (s : ByteArray) (p : Nat) (w : World) (hs : s.size ≤ 1000000) (hp : p ≤ s.size) (h : IsCur g s p w) :
    Calls Tryz.prog 128 #[.pointer (some ⟨g, 0, none⟩)] w fun e w' => e = .returned (.string ⟨((s.data.toList.drop p).take (Nm.bg (s.data.toList.drop p))).toArray⟩) ∧ CurTo g s (p + Nm.bg (s.data.toList.drop p)) w w' := by
  have hc0 := h.c0
  have hc1 := h.c1
  have hf1 := h.fz 1
  have hp' : (p : Int) ≤ (s.size : Int) := by omega
  have HB := Lib.hid (fun w0 => NmW.begin_any (s.extract p s.size) w0 (by have := extract_size s p s.size; unfold maxLen; omega))
  rw [drop_ext] at HB
  have hle := (Nm.bg_le (s.data.toList.drop p)).1
  rw [List.length_drop, ← Lib.size_eq] at hle
  have hbe : (⟨((s.data.toList.drop p).take (Nm.bg (s.data.toList.drop p))).toArray⟩ : ByteArray) = s.extract p (p + Nm.bg (s.data.toList.drop p)) := ba_eq (by rw [data_mk, ext_take])
  rw [hbe]
  generalize Nm.bg (s.data.toList.drop p) = n at *
  have HC := Lib.hid (fun w0 => clone_any (s.extract p (p + n)) w0 (by have := extract_size s p (p + n); omega))
  have HI := Lib.hid h
  have a0 : (p : Int) + (n : Int) ≤ (s.size : Int) := by omega
  have b1 : IntKind.i64.wrap ((p : Int) + (n : Int)) = (p : Int) + (n : Int) := IntWalk.i64_in _ (by omega)
  clear hbe h
  go_enter Tryz.func128, Tryz.ntmps128
  go_wp2_with fail
  go_quiet ((go_at_call 160; exact Calls.quiet_of_same ((HB.out _).mono fun _ _ h => ⟨h.1, h.2.symm⟩)))
  go_wp2_with fail
  have J0 := cur_store (w1 := w.drewN nq) HI.out (grown_drewN (grown_refl w (some g)) nq) (z := (p : Int) + (n : Int)) (q := p + n) (Int.natCast_add p n).symm
  generalize (w.drewN nq).setCell ⟨g, 1, none⟩ (.int .i64 ((p : Int) + (n : Int))) = W1 at *
  have k0 := J0.1.c0
  have k1 : W1.cell? ⟨g, 1, none⟩ = some (.int .i64 ((p : Int) + (n : Int))) := by rw [J0.1.c1, Int.natCast_add]
  have a1 : (0 : Int) ≤ (p : Int) + (n : Int) := by omega
  have a2 : (p : Int) ≤ (p : Int) + (n : Int) := by omega
  have a3 : ((p : Int) + (n : Int)).toNat = p + n := by omega
  have b3 : IntKind.i64.wrap ((p : Int) + (n : Int) - (n : Int)) = (p : Int) := by rw [IntWalk.i64_in _ (by omega)]; omega
  have b4 : IntKind.i64.wrap (p : Int) = (p : Int) := IntWalk.i64_in _ (by omega)
  have HJ := Lib.hid J0
  clear J0 hc0 hc1 hf1 b1 HB HI
  go_region_held3 (fun w' => w'.cell? ⟨g, 0, none⟩ = some (.string s) ∧ w'.cell? ⟨g, 1, none⟩ = some (.int .i64 ((p : Int) + (n : Int)))) (first | exact ⟨k0, k1⟩ | exact ⟨(h1.cell (p := ⟨g, 0, none⟩) HJ.out.1.lt).trans k0, (h1.cell (p := ⟨g, 1, none⟩) HJ.out.1.lt).trans k1⟩) (first | (go_at_call 161; refine (HC.out _).mono ?_; rintro e w1 ⟨rfl, h1⟩))
  have h2 := (Below.refl W1.heap.size W1).drew.trans h1
  have HK := Lib.hid (And.intro (HJ.out.1.below h2) (grown_trans HJ.out.2 (grown_below h2 (some g))))
  clear h1 h2 k0 k1 b3 b4
  go_wp2
  go_ret
  exact ⟨rfl, HK.out.1, HK.out.2⟩
end Go.Proofs.YtgidpcfaeekjhaaGreatDoor
namespace Go.Proofs.YtgidpcfaeekjhaaGreatDoor
open Go.RowKit

/-- Block g is just these cells. -/
def IsBlk (w : World) (g : Nat) (t : TypeId) (cs : Array Value) : Prop := w.heap[g]? = some (.cells cs t (0, 0))
theorem IsBlk.lt {w : World} {g : Nat} {t : TypeId} {cs : Array Value} (h : IsBlk w g t cs) : g < w.heap.size := by
  rcases Nat.lt_or_ge g w.heap.size with hlt | hge
  · exact hlt
  · unfold IsBlk at h; rw [Array.getElem?_eq_none hge] at h; cases h
theorem IsBlk.at_ {w : World} {g : Nat} {t : TypeId} {cs : Array Value} (h : IsBlk w g t cs) (i : Nat) : w.cell? ⟨g, i, none⟩ = cs[i]? := Lib.cell_of_heap h i
theorem IsBlk.fz {w : World} {g : Nat} {t : TypeId} {cs : Array Value} (h : IsBlk w g t cs) (i : Nat) : w.frozen? ⟨g, i, none⟩ = false := by
  unfold IsBlk at h; simp [World.frozen?, h]
theorem IsBlk.new (w : World) (t : TypeId) (cs : Array Value) : IsBlk (w.alloc (.cells cs t)) w.heap.size t cs := heap_alloc_new w _
theorem IsBlk.below {B : Nat} {w w' : World} {g : Nat} {t : TypeId} {cs : Array Value} (h : IsBlk w g t cs) (hb : Below B w w') (hg : g < B) : IsBlk w' g t cs := (hb.block g hg).trans h
theorem IsBlk.grown {w w' : World} {g : Nat} {t : TypeId} {cs : Array Value} {row : Option Nat} (h : IsBlk w g t cs) (hb : w.grownBy w' row) (hg : some g ≠ row) : IsBlk w' g t cs := (hb.block g h.lt hg).trans h
theorem IsBlk.set {w : World} {g : Nat} {t : TypeId} {cs : Array Value} (h : IsBlk w g t cs) (i : Nat) (u : Value) : IsBlk (w.setCell ⟨g, i, none⟩ u) g t (cs.setIfInBounds i u) := by
  unfold IsBlk at h ⊢
  simp [World.setCell, Array.getElem?_modify, h]
theorem IsBlk.far {w : World} {g : Nat} {t : TypeId} {cs : Array Value} (h : IsBlk w g t cs) {p : Addr} (hp : g ≠ p.block) (u : Value) : IsBlk (w.setCell p u) g t cs := (Below.heap_setCell w p u g hp).trans h
theorem IsCur.blk {g : Nat} {s : ByteArray} {p : Nat} {w : World} (h : IsCur g s p w) : IsBlk w g CT #[.string s, .int .i64 p] := h
theorem cur_alloc {w : World} {g : Nat} {s : ByteArray} {p : Nat} (h : IsCur g s p w) (o : Obj) : IsCur g s p (w.alloc o) := h.below ((Below.refl _ _).alloc (Nat.le_refl _) o)
theorem grown_alloc {w w1 : World} {r : Option Nat} (h : w.grownBy w1 r) (o : Obj) : w.grownBy (w1.alloc o) r := grown_trans h (grown_below ((Below.refl _ _).alloc (Nat.le_refl _) o) r)
theorem grown_setnew {w w1 : World} {r : Option Nat} (h : w.grownBy w1 r) {k : Nat} (hk : w.heap.size ≤ k) (i : Nat) (u : Value) : w.grownBy (w1.setCell ⟨k, i, none⟩ u) r :=
  ⟨h.os, h.tape, h.output, by simp [World.setCell]; exact h.size, fun j hj hn => (Below.heap_setCell w1 _ u j (by simp only; omega)).trans (h.block j hj hn)⟩
theorem CurTo.setnew {g : Nat} {s : ByteArray} {q : Nat} {w w1 : World} (h : CurTo g s q w w1) (hg : g < w.heap.size) {k : Nat} (hk : w.heap.size ≤ k) (i : Nat) (u : Value) : CurTo g s q w (w1.setCell ⟨k, i, none⟩ u) :=
  ⟨h.1.blk.far (by simp only; omega) u, grown_setnew h.2 hk i u⟩
theorem CurTo.alloc {g : Nat} {s : ByteArray} {q : Nat} {w w1 : World} (h : CurTo g s q w w1) (o : Obj) : CurTo g s q w (w1.alloc o) := ⟨cur_alloc h.1 o, grown_alloc h.2 o⟩
theorem CurTo.first {g : Nat} {s : ByteArray} {q : Nat} {w w1 : World} {o : Obj} (h : CurTo g s q (w.alloc o) w1) : CurTo g s q w w1 := ⟨h.1, grown_trans (grown_alloc (grown_refl w (some g)) o) h.2⟩
theorem below_of_grown {B : Nat} {w w' : World} {r : Option Nat} (h : w.grownBy w' r) (hB : B ≤ w.heap.size) (hr : ∀ k, r = some k → B ≤ k) : Below B w w' := (Below.refl B w).grown h hB hr
/-- The cells of an element that was just laid. -/
theorem news_at (w : World) (cs : Array Value) (t : TypeId) (n : Nat) (hn : w.heap.size = n) : ∀ j u, cs.toList[j]? = some u → (w.alloc (.cells cs t)).cell? ((⟨n, 0, none⟩ : Addr).add j) = some u := by
  subst hn
  exact World.news_of_block (heap_alloc_new w _)
end Go.Proofs.YtgidpcfaeekjhaaGreatDoor
