/- Facts and walks for the statement. -/
import Derived.Test.YtmmdigeciphglaaGreatDoorPzB26
import Derived.Test.YtmmdigeciphglaaGreatDoorPzP02
import Derived.Test.YtmmdigeciphglaaGreatDoorPzP03
import Derived.Deep.DeepMust
import Derived.Deep.CutRange
import Derived.Deep.AppendLies
import Derived.Deep.RegionLaw
import Derived.Test.YtmmdigeciphglaaGreatDoorPzP00
import Derived.Lib.Bytealg
import Derived.Lib.ItoaNum
import Derived.Test.YtmmdigeciphglaaGreatDoorProg
import Derived.Laws.EntriesVeiled
import Derived.Lib.IndexLaws
import Derived.Test.YtmmdigeciphglaaGreatDoorPzP01
import Derived.WalkKit
import Derived.WalkLawsBesides
import Derived.Outline
import Derived.Handy
import Derived.Lib.OthersKept
import Derived.Lib.Hide
import Derived.WalkSmall
import Derived.Deep.DeepFit
import Derived.Deep.QuietTactic
import Derived.BigQuiet
import Derived.WalkSpells
import Derived.IntWalk
import Derived.Lib.ParseIntBCases
import Derived.Lib.CutLaws
import Derived.Test.YtmmdigeciphglaaGreatDoorChecked
import Derived.LaidEql
import Derived.Stop.Asserts
import Derived.RowKitTokens
import Derived.Lib.SmallJoins
import Derived.Lib.LaidTab
import Derived.StillTailTactics
import Derived.Deep.RegionWith
import Derived.Laws.Externs
import Derived.Lib.FrozenHead2
import Derived.Lib.UnsafeStr
namespace Go.Proofs.YtmmdigeciphglaaGreatDoor
open Go.RowKit Ex
theorem infoRv : (Tryz.prog.info? 104).map (fun i => (i.zero, i.size, i.bytes)) = some (some (.agg #[.int .u8 0, .int .i64 0, .string ⟨#[]⟩, .int .i64 0, .int .i64 0, .int .i64 0]), 6, 56) := by kernel_rfl
structure RvB (B r : Nat) (w : World) (A : Option Addr) (c : Nat) (ts : List MTok) (i : Nat) (nv : Value) (ns : List Nd) (e0 : Int) (s : Nat) : Prop where
  base : B ≤ r
  blk : IsBlk w r 184 #[.slice A ts.length c, .int .i64 i, nv, .int .i64 e0]
  own : w.ownsRow B 104 6 nv ns.length (ns.flatMap ndV)
  tok : ToR w B A ts
  le : i ≤ ts.length
  sl : ns.length + s ≤ i
theorem RvB.below {B r : Nat} {w w' : World} {A : Option Addr} {c : Nat} {ts : List MTok} {i : Nat} {nv : Value} {ns : List Nd} {e0 : Int} {s : Nat} (h : RvB B r w A c ts i nv ns e0 s) (hb : Below w.heap.size w w') : RvB B r w' A c ts i nv ns e0 s :=
  ⟨h.base, h.blk.below hb h.blk.lt, own_below h.own hb, h.tok.below (hb.mono (Nat.le_trans h.base (Nat.le_of_lt h.blk.lt))), h.le, h.sl⟩
theorem RvB.bw {B r : Nat} {w w' w0 : World} {A : Option Addr} {c : Nat} {ts : List MTok} {i : Nat} {nv : Value} {ns : List Nd} {e0 : Int} {s : Nat} (h : RvB B r w A c ts i nv ns e0 s) (h0 : Below B w0 w) (hb : Below w.heap.size w w') : Below B w0 w' := h0.trans (hb.mono (Nat.le_trans h.base (Nat.le_of_lt h.blk.lt)))
theorem RvB.cells {B r : Nat} {w : World} {A : Option Addr} {c : Nat} {ts : List MTok} {i : Nat} {nv : Value} {ns : List Nd} {e0 : Int} {s : Nat} (h : RvB B r w A c ts i nv ns e0 s) :
    w.cell? ⟨r, 0, none⟩ = some (.slice A ts.length c) ∧ w.cell? ⟨r, 1, none⟩ = some (.int .i64 i) ∧ w.cell? ⟨r, 2, none⟩ = some nv ∧ w.cell? ⟨r, 3, none⟩ = some (.int .i64 e0) :=
  ⟨h.blk.at_ 0, h.blk.at_ 1, h.blk.at_ 2, h.blk.at_ 3⟩
theorem RvB.seti {B r : Nat} {w : World} {A : Option Addr} {c : Nat} {ts : List MTok} {i : Nat} {nv : Value} {ns : List Nd} {e0 : Int} {s : Nat} (h : RvB B r w A c ts i nv ns e0 s) (hi : i < ts.length) : RvB B r (w.setCell ⟨r, 1, none⟩ (.int .i64 ((i : Int) + 1))) A c ts (i + 1) nv ns e0 (s + 1) ∧ Below B w (w.setCell ⟨r, 1, none⟩ (.int .i64 ((i : Int) + 1))) := by
  have hb : Below B w (w.setCell ⟨r, 1, none⟩ (.int .i64 ((i : Int) + 1))) := (Below.refl _ _).setCell (p := ⟨r, 1, none⟩) h.base _
  exact ⟨⟨h.base, h.blk.set 1 _, own_set h.own h.blk (by decide) 1 _, h.tok.below hb, hi, by have := h.sl; omega⟩, hb⟩
theorem RvB.sete {B r : Nat} {w : World} {A : Option Addr} {c : Nat} {ts : List MTok} {i : Nat} {nv : Value} {ns : List Nd} {e0 : Int} {s : Nat} (h : RvB B r w A c ts i nv ns e0 s) (k : Int) : RvB B r (w.setCell ⟨r, 3, none⟩ (.int .i64 k)) A c ts i nv ns k s ∧ Below B w (w.setCell ⟨r, 3, none⟩ (.int .i64 k)) := by
  have hb : Below B w (w.setCell ⟨r, 3, none⟩ (.int .i64 k)) := (Below.refl _ _).setCell (p := ⟨r, 3, none⟩) h.base _
  exact ⟨⟨h.base, h.blk.set 3 _, own_set h.own h.blk (by decide) 3 _, h.tok.below hb, h.le, h.sl⟩, hb⟩
theorem RvB.less {B r : Nat} {w : World} {A : Option Addr} {c : Nat} {ts : List MTok} {i : Nat} {nv : Value} {ns : List Nd} {e0 : Int} {s s' : Nat} (h : RvB B r w A c ts i nv ns e0 s) (hs : s' ≤ s) : RvB B r w A c ts i nv ns e0 s' := ⟨h.base, h.blk, h.own, h.tok, h.le, by have := h.sl; omega⟩
theorem RvB.tcells {B r : Nat} {w : World} {A : Option Addr} {c : Nat} {ts : List MTok} {i : Nat} {nv : Value} {ns : List Nd} {e0 : Int} {s : Nat} (h : RvB B r w A c ts i nv ns e0 s) (hi : i < ts.length) : ∃ g o, A = some ⟨g, o, none⟩ ∧ g < w.heap.size ∧ w.cell? ⟨g, o + i * 3, none⟩ = some (.int .u8 ts[i].1) ∧ w.cell? ⟨g, o + i * 3 + 1, none⟩ = some (.string ts[i].2.1) := by
  obtain ⟨g, o, e, hg, c0, c1, _⟩ := h.tok i hi
  exact ⟨g, o, e, Nat.lt_of_lt_of_le hg (Nat.le_trans h.base (Nat.le_of_lt h.blk.lt)), c0, c1⟩
def okb : Rs → Bool
  | .bad _ _ => false
  | .ok _ _ => true
def RvS (B r : Nat) (A : Option Addr) (c : Nat) (ts : List MTok) (X : Rs) (ns : List Nd) (e0 : Int) (s : Nat) (w' : World) : Prop := match X with
  | .bad left er => ∃ nv ns', RvB B r w' A c ts (ts.length - left) nv ns' er 0
  | .ok rest x => ∃ nv i', rest = (tks ts).drop i' ∧ RvB B r w' A c ts i' nv (ns ++ flat x ns.length) e0 s
def RvA (B r : Nat) (A : Option Addr) (c : Nat) (ts : List MTok) (X : Rs) (ns : List Nd) (e0 : Int) (s : Nat) (w : World) (e : Ending) (w' : World) : Prop :=
  e = .returned (.bool (okb X)) ∧ Below B w w' ∧ RvS B r A c ts X ns e0 s w'
def RvC (B r : Nat) (A : Option Addr) (c : Nat) (ts : List MTok) (F : Nat) (gs : Array Value) (m : Md) (k : Nat) : Prop := ∀ (w : World) (i : Nat) (nv : Value) (ns : List Nd) (e0 : Int) (s : Nat), RvB B r w A c ts i nv ns e0 s → need m ((tks ts).drop i) < k → Calls Tryz.prog F gs w (RvA B r A c ts (R m ((tks ts).drop i)) ns e0 s w)
theorem tks_len (ts : List MTok) : (tks ts).length = ts.length := by unfold tks; rw [List.length_map]
theorem drop_len (ts : List MTok) (i : Nat) : ((tks ts).drop i).length = ts.length - i := by rw [List.length_drop, tks_len]
theorem nx_at {ts : List MTok} {i : Nat} (h : i < ts.length) : nx ((tks ts).drop i) = if Lx.is ts[i].2.1.data.toList = ts[i].1 then ts[i].2.1.data.toList else [] := by
  rw [tks_drop h]; rfl
theorem nx_end {ts : List MTok} {i : Nat} (h : ts.length ≤ i) : nx ((tks ts).drop i) = [] := by
  rw [List.drop_of_length_le (by rw [tks_len]; exact h)]; rfl
theorem nx_lt {ts : List MTok} {i : Nat} (h : nx ((tks ts).drop i) ≠ []) : i < ts.length := by
  rcases Nat.lt_or_ge i ts.length with h1 | h1
  · exact h1
  · exact absurd (nx_end h1) h
theorem tail_drop (ts : List MTok) (i : Nat) : ((tks ts).drop i).tail = (tks ts).drop (i + 1) := by rw [List.tail_drop]
def RvF (c : Nat) (ts : List MTok) : Prop := ts.length ≤ c ∧ ts.length ≤ 800000 ∧ ∀ t ∈ ts, t.2.1.size ≤ 400
end Go.Proofs.YtmmdigeciphglaaGreatDoor
namespace Go.Proofs.YtmmdigeciphglaaGreatDoor
open Go.RowKit Ex
set_option maxHeartbeats 4000000 in
set_option maxRecDepth 100000 in
theorem rvnext_any (B r : Nat) (w : World) (A : Option Addr) (c : Nat) (ts : List MTok) (i : Nat) (nv : Value) (ns : List Nd) (e0 : Int) (s : Nat) (h : RvB B r w A c ts i nv ns e0 s) (hf : RvF c ts) :
    Calls Tryz.prog 152 #[.pointer (some ⟨r, 0, none⟩)] w fun e w' => e = .returned (.string ⟨(nx ((tks ts).drop i)).toArray⟩) ∧ Below w.heap.size w w' := by
  obtain ⟨R, hR⟩ : ∃ R : ByteArray, R = ⟨(nx ((tks ts).drop i)).toArray⟩ := ⟨_, rfl⟩
  rw [← hR]
  have HR := Lib.hid hR
  obtain ⟨n, hnl⟩ : ∃ n, n = ts.length := ⟨_, rfl⟩
  have hn : (n : Int) ≤ 800000 := by have := hf.2.1; omega
  have hc : (n : Int) ≤ (c : Int) := by have := hf.1; omega
  obtain ⟨d0, d1, -, -⟩ := h.cells
  rw [← hnl] at d0
  by_cases hlt : i < ts.length
  · have hlt' : (i : Int) < (n : Int) := by omega
    have hge : decide ((i : Int) ≥ (n : Int)) = false := decide_eq_false (by omega)
    have hge2 : ¬ ((i : Int) ≥ (n : Int)) := by omega
    have hge3 : decide (n ≤ i) = false := decide_eq_false (by omega)
    obtain ⟨g, o, hA, hg, t0, t1⟩ := h.tcells hlt
    subst hA
    have HXS := hf.2.2 _ (List.getElem_mem hlt)
    have HNX := Lib.hid (nx_at hlt)
    have HT := Lib.hid (fun (w1 : World) (hb : Below w.heap.size w w1) => (hb.cell (p := ⟨g, o + i * 3 + 1, none⟩) hg).trans t1)
    generalize ts[i] = T at *
    obtain ⟨K, X, P⟩ := T
    simp only at t0 t1 HXS HNX HT
    have HIS := Lib.hid (fun w0 => ris_any X w0 (by omega))
    have HL := Lib.hid (fun (w1 : World) (hb : Below w.heap.size w w1) => (⟨(h.below hb).cells.1, (h.below hb).cells.2.1⟩ : _ ∧ _))
    rw [← hnl] at HL
    have HH := Lib.hid h
    generalize Lx.is X.data.toList = z at *
    by_cases hz : z = K
    · subst hz
      have hz' : (z != z) = false := by simp
      have HE := Lib.hid (show R = X from by rw [HR.out, HNX.out, if_pos rfl])
      have HCL := Lib.hid (fun (w1 : World) (h1 : Below w.heap.size w.drew w1) => (show w1.cell? ⟨r, 0, none⟩ = some (.slice (some ⟨g, o, none⟩) n c) ∧ w1.cell? ⟨r, 1, none⟩ = some (.int .i64 i) ∧ w1.cell? ⟨g, o + i * 3, none⟩ = some (.int .u8 z) ∧ w1.cell? ⟨g, o + i * 3 + 1, none⟩ = some (.string X) from by
        have b := (Below.refl w.heap.size w).drew.trans h1
        exact ⟨(HL.out w1 b).1, (HL.out w1 b).2, (b.cell (p := ⟨g, o + i * 3, none⟩) hg).trans t0, (b.cell (p := ⟨g, o + i * 3 + 1, none⟩) hg).trans t1⟩))
      clear h hR hlt hnl HNX HR
      go_enter Tryz.func152, Tryz.ntmps152
      go_wp2_with fail
      go_region_held3 (fun w' => w'.cell? ⟨r, 0, none⟩ = some (.slice (some ⟨g, o, none⟩) n c) ∧ w'.cell? ⟨r, 1, none⟩ = some (.int .i64 i) ∧ w'.cell? ⟨g, o + i * 3, none⟩ = some (.int .u8 z) ∧ w'.cell? ⟨g, o + i * 3 + 1, none⟩ = some (.string X)) (first | exact ⟨d0, d1, t0, t1⟩ | exact HCL.out _ h1) (first | (go_at_call 51; refine (HIS.out _).mono ?_; rintro e w1 ⟨rfl, h1⟩))
      have hb := (Below.refl w.heap.size w).drew.trans h1
      have HB := Lib.hid hb
      clear d0 d1 t0 t1
      obtain ⟨d0, d1⟩ := HL.out w1 hb
      have t1 := HT.out w1 hb
      clear h1 hb hz'
      go_wp2_with fail
      go_quiet (fail)
      go_wp2
      go_ret
      exact ⟨by rw [HE.out]; rfl, below_drewN HB.out _⟩
    · have hz' : (z != K) = true := by simpa using hz
      have HE := Lib.hid (show R = ⟨#[]⟩ from by rw [HR.out, HNX.out, if_neg hz])
      have HCL := Lib.hid (fun (w1 : World) (h1 : Below w.heap.size w.drew w1) => (show w1.cell? ⟨r, 0, none⟩ = some (.slice (some ⟨g, o, none⟩) n c) ∧ w1.cell? ⟨r, 1, none⟩ = some (.int .i64 i) ∧ w1.cell? ⟨g, o + i * 3, none⟩ = some (.int .u8 K) ∧ w1.cell? ⟨g, o + i * 3 + 1, none⟩ = some (.string X) from by
        have b := (Below.refl w.heap.size w).drew.trans h1
        exact ⟨(HL.out w1 b).1, (HL.out w1 b).2, (b.cell (p := ⟨g, o + i * 3, none⟩) hg).trans t0, (b.cell (p := ⟨g, o + i * 3 + 1, none⟩) hg).trans t1⟩))
      clear h hR hlt hnl HNX HR hz
      go_enter Tryz.func152, Tryz.ntmps152
      go_wp2_with fail
      go_region_held3 (fun w' => w'.cell? ⟨r, 0, none⟩ = some (.slice (some ⟨g, o, none⟩) n c) ∧ w'.cell? ⟨r, 1, none⟩ = some (.int .i64 i) ∧ w'.cell? ⟨g, o + i * 3, none⟩ = some (.int .u8 K) ∧ w'.cell? ⟨g, o + i * 3 + 1, none⟩ = some (.string X)) (first | exact ⟨d0, d1, t0, t1⟩ | exact HCL.out _ h1) (first | (go_at_call 51; refine (HIS.out _).mono ?_; rintro e w1 ⟨rfl, h1⟩))
      have HB := Lib.hid ((Below.refl w.heap.size w).drew.trans h1)
      clear d0 d1 t0 t1 h1 hz'
      go_wp2
      go_ret
      exact ⟨by rw [HE.out]; rfl, HB.out⟩
  · have hge : decide ((i : Int) ≥ (n : Int)) = true := decide_eq_true (by omega)
    have hge2 : (i : Int) ≥ (n : Int) := by omega
    have hge3 : decide (n ≤ i) = true := decide_eq_true (by omega)
    have HE := Lib.hid (show R = ⟨#[]⟩ from by rw [HR.out, nx_end (by omega)])
    clear h hR hlt hnl HR hf
    go_enter Tryz.func152, Tryz.ntmps152
    go_wp2_with fail
    go_quiet (fail)
    go_wp2
    go_ret
    exact ⟨by rw [HE.out]; rfl, below_drewN (Below.refl _ _) _⟩
set_option maxHeartbeats 2000000 in
set_option maxRecDepth 100000 in
theorem rveats_yes (B r : Nat) (w : World) (A : Option Addr) (c : Nat) (ts : List MTok) (i : Nat) (nv : Value) (ns : List Nd) (e0 : Int) (s : Nat) (h : RvB B r w A c ts i nv ns e0 s) (hf : RvF c ts) (S : ByteArray) (hS : nx ((tks ts).drop i) = S.data.toList) (hne : S.data.toList ≠ []) :
    Calls Tryz.prog 153 #[.pointer (some ⟨r, 0, none⟩), .string S] w fun e w' => e = .returned (.bool true) ∧ Below B w w' ∧ RvB B r w' A c ts (i + 1) nv ns e0 (s + 1) := by
  have HN := Lib.hid (rvnext_any B r w A c ts i nv ns e0 s h hf)
  rw [hS] at HN
  have hlt := nx_lt (ts := ts) (i := i) (by rw [hS]; exact hne)
  have hSS : (⟨S.data.toList.toArray⟩ : ByteArray) = S := rfl
  rw [hSS] at HN
  have hn : (i : Int) < 800000 := by have := hf.2.1; omega
  have HH := Lib.hid (fun (w1 : World) (hb : Below w.heap.size w w1) => (⟨h.below hb, h.bw (Below.refl _ _) hb, (h.below hb).seti hlt⟩ : _ ∧ _ ∧ _))
  have hss : (S.toList != S.toList) = false := by simp
  clear h hf hS hne hlt hSS
  go_enter Tryz.func153, Tryz.ntmps153
  go_wp2_with fail
  refine HN.out.mono ?_
  rintro e w1 ⟨rfl, hb⟩
  have HC := Lib.hid (HH.out w1 hb)
  have d1 := HC.out.1.cells.2.1
  have f1 : w1.frozen? ⟨r, 1, none⟩ = false := HC.out.1.blk.fz 1
  clear hb HN HH
  go_wp2
  go_ret
  exact ⟨rfl, HC.out.2.1.trans HC.out.2.2.2, HC.out.2.2.1⟩
set_option maxHeartbeats 2000000 in
set_option maxRecDepth 100000 in
theorem rveats_no (B r : Nat) (w : World) (A : Option Addr) (c : Nat) (ts : List MTok) (i : Nat) (nv : Value) (ns : List Nd) (e0 : Int) (s : Nat) (h : RvB B r w A c ts i nv ns e0 s) (hf : RvF c ts) (S : ByteArray) (hS : nx ((tks ts).drop i) ≠ S.data.toList) :
    Calls Tryz.prog 153 #[.pointer (some ⟨r, 0, none⟩), .string S] w fun e w' => e = .returned (.bool false) ∧ Below B w w' ∧ RvB B r w' A c ts i nv ns 80 s := by
  have HN := Lib.hid (rvnext_any B r w A c ts i nv ns e0 s h hf)
  obtain ⟨R, hR⟩ : ∃ R : ByteArray, R = ⟨(nx ((tks ts).drop i)).toArray⟩ := ⟨_, rfl⟩
  rw [← hR] at HN
  have hRS : ¬ R.toList = S.toList := fun e => hS (by rw [Lib.toList_data, Lib.toList_data, hR] at e; simpa using e)
  have hss : (R.toList == S.toList) = false := beq_eq_false_iff_ne.2 hRS
  have hss2 : (R.toList != S.toList) = true := by simp [bne, hss]
  have HH := Lib.hid (fun (w1 : World) (hb : Below w.heap.size w w1) => (⟨h.below hb, h.bw (Below.refl _ _) hb, (h.below hb).sete 80⟩ : _ ∧ _ ∧ _))
  clear h hf hS hR hRS
  go_enter Tryz.func153, Tryz.ntmps153
  go_wp2_with fail
  refine HN.out.mono ?_
  rintro e w1 ⟨rfl, hb⟩
  have HC := Lib.hid (HH.out w1 hb)
  have d3 := HC.out.1.cells.2.2.2
  have f3 : w1.frozen? ⟨r, 3, none⟩ = false := HC.out.1.blk.fz 3
  clear hb HN HH
  go_wp2
  go_ret
  exact ⟨rfl, HC.out.2.1.trans HC.out.2.2.2, HC.out.2.2.1⟩
set_option maxHeartbeats 2000000 in
theorem rvlast_any (B r : Nat) (w : World) (A : Option Addr) (c : Nat) (ts : List MTok) (i : Nat) (nv : Value) (ns : List Nd) (e0 : Int) (s : Nat) (h : RvB B r w A c ts i nv ns e0 s) (hn : ts.length ≤ 800000) :
    Calls Tryz.prog 123 #[.pointer (some ⟨r, 0, none⟩)] w fun e w' => e = .returned (.int .i64 ((ns.length : Int) - 1)) ∧ w = w' := by
  obtain ⟨An, cn, rfl, _, _, _⟩ := own_sliced h.own
  have d2 := h.cells.2.2.1
  have hl : (ns.length : Int) ≤ 800000 := by have := h.sl; have := h.le; omega
  clear h hn
  generalize ns.length = k at *
  go_enter Tryz.func123, Tryz.ntmps123
  go_wp2
  go_ret
  exact ⟨rfl, rfl⟩
set_option maxHeartbeats 8000000 in
set_option maxRecDepth 100000 in
theorem rvput_any (B r : Nat) (w : World) (A : Option Addr) (c : Nat) (ts : List MTok) (i : Nat) (nv : Value) (ns : List Nd) (e0 : Int) (s : Nat) (h : RvB B r w A c ts i nv ns e0 (s + 1)) (hn : ts.length ≤ 800000) (n : Nd) :
    Calls Tryz.prog 124 #[.pointer (some ⟨r, 0, none⟩), .agg #[.int .u8 n.op, .int .i64 n.num, .string ⟨n.nm.toArray⟩, .int .i64 n.a, .int .i64 n.b, .int .i64 n.c]] w fun e w' => e = .returned (.bool true) ∧ Below B w w' ∧ ∃ nv', RvB B r w' A c ts i nv' (ns ++ [n]) e0 s := by
  obtain ⟨op, num, nm, na, nb, nc⟩ := n
  simp only
  obtain ⟨N, hN⟩ : ∃ N : ByteArray, N = ⟨nm.toArray⟩ := ⟨_, rfl⟩
  rw [← hN]
  have HN := Lib.hid hN
  obtain ⟨An, cn, rfl, _, _, _⟩ := own_sliced h.own
  obtain ⟨W1, hW1⟩ : ∃ W1, W1 = w.alloc (.cells #[.int .u8 op, .int .i64 num, .string N, .int .i64 na, .int .i64 nb, .int .i64 nc] 104) := ⟨_, rfl⟩
  have hb1 : Below w.heap.size w W1 := by rw [hW1]; exact (Below.refl _ _).alloc (Nat.le_refl _) _
  have h1 := h.below hb1
  have nb1 : IsBlk W1 w.heap.size 104 #[.int .u8 op, .int .i64 num, .string N, .int .i64 na, .int .i64 nb, .int .i64 nc] := by rw [hW1]; exact IsBlk.new _ _ _
  have x0 : W1.cell? ⟨w.heap.size, 0, none⟩ = some (.int .u8 op) := nb1.at_ 0
  have x1 : W1.cell? ⟨w.heap.size, 1, none⟩ = some (.int .i64 num) := nb1.at_ 1
  have x2 : W1.cell? ⟨w.heap.size, 2, none⟩ = some (.string N) := nb1.at_ 2
  have x3 : W1.cell? ⟨w.heap.size, 3, none⟩ = some (.int .i64 na) := nb1.at_ 3
  have x4 : W1.cell? ⟨w.heap.size, 4, none⟩ = some (.int .i64 nb) := nb1.at_ 4
  have x5 : W1.cell? ⟨w.heap.size, 5, none⟩ = some (.int .i64 nc) := nb1.at_ 5
  have d2 : W1.cell? ⟨r, 2, none⟩ = some (.slice An ns.length cn) := h1.cells.2.2.1
  obtain ⟨j0, hj0, jz0, jz1, jz2⟩ := info_parts infoRv
  have hbig : ns.length + 1 ≤ maxLen := by have := h.sl; have := h.le; unfold maxLen; omega
  have hnl : ns.length ≤ 800000 := by have := h.sl; have := h.le; omega
  have hBc : B ≤ W1.heap.size := Nat.le_trans h1.base (Nat.le_of_lt h1.blk.lt)
  have hrc : r < W1.heap.size := h1.blk.lt
  have HR := Lib.hid h1
  have HB1 := Lib.hid (h.bw (Below.refl _ _) hb1)
  have HAPP := Lib.hid (fun (W' w9 : World) (hb : Below W1.heap.size W1 W') (hgr : W'.grownBy w9 (Value.slice An ns.length cn).ownBlock) => (show IsBlk w9 r 184 #[.slice A ts.length c, .int .i64 i, .slice An ns.length cn, .int .i64 e0] ∧ Below B W1 w9 ∧ w9.cell? ⟨r, 2, none⟩ = some (.slice An ns.length cn) ∧ w9.frozen? ⟨r, 2, none⟩ = false from by
    have q : IsBlk w9 r 184 #[.slice A ts.length c, .int .i64 i, .slice An ns.length cn, .int .i64 e0] := (HR.out.blk.below hb HR.out.blk.lt).grown hgr (fun e => blk_apart HR.out.blk HR.out.own (by decide) e.symm)
    exact ⟨q, Below.grown (hb.mono hBc) hgr (Nat.le_trans hBc hb.size) (fun k hk => (HR.out.own.lt k hk).1), q.at_ 2, q.fz 2⟩))
  have HF := Lib.hid (fun (w9 : World) (g9 cap9 : Nat) (hown9 : w9.ownsRow B 104 6 (.slice (some ⟨g9, 0, none⟩) (ns.length + 1) cap9) (ns.length + 1) (ns.flatMap ndV ++ [Value.int .u8 op, .int .i64 num, .string N, .int .i64 na, .int .i64 nb, .int .i64 nc])) (q : IsBlk w9 r 184 #[.slice A ts.length c, .int .i64 i, .slice An ns.length cn, .int .i64 e0]) (hb9 : Below B W1 w9) => (show Below B w (w9.setCell ⟨r, 2, none⟩ (.slice (some ⟨g9, 0, none⟩) (ns.length + 1) cap9)) ∧ ∃ nv', RvB B r (w9.setCell ⟨r, 2, none⟩ (.slice (some ⟨g9, 0, none⟩) (ns.length + 1) cap9)) A c ts i nv' (ns ++ [⟨op, num, nm, na, nb, nc⟩]) e0 s from by
    have hb10 : Below B W1 (w9.setCell ⟨r, 2, none⟩ (.slice (some ⟨g9, 0, none⟩) (ns.length + 1) cap9)) := hb9.setCell (p := ⟨r, 2, none⟩) HR.out.base _
    refine ⟨HB1.out.trans hb10, _, HR.out.base, q.set 2 _, ?_, HR.out.tok.below hb10, HR.out.le, by have := HR.out.sl; rw [List.length_append, List.length_singleton]; omega⟩
    rw [List.length_append, List.length_singleton, List.flatMap_append]
    have e : [(⟨op, num, nm, na, nb, nc⟩ : Nd)].flatMap ndV = [Value.int .u8 op, .int .i64 num, .string N, .int .i64 na, .int .i64 nb, .int .i64 nc] := by rw [HN.out]; rfl
    rw [e]
    exact own_set hown9 q (by decide) 2 _))
  have HW1 := Lib.hid hW1
  clear hN h h1 hb1 nb1 hW1 hn
  go_enter Tryz.func124, Tryz.ntmps124
  go_wp2_with fail
  rw [← HW1.out]
  go_region_law (first | (refine step_append_lies _ (by rfl) _ _ _ (by rfl) B 104 j0 _ 6 56 Tryz.underlying89 hj0 jz0 jz1 jz2 rfl (by omega) (.slice An ns.length cn) ns.length (ns.flatMap ndV) (by rfl) (by exact World.ownsRow.alloc HR.out.own _) _ 1 _ [.int .u8 op, .int .i64 num, .string N, .int .i64 na, .int .i64 nb, .int .i64 nc] (by rfl) rfl (by intro j u hu; exact news_at _ _ _ _ (by simp) j u hu) (by intro u hu; simp at hu; rcases hu with rfl | rfl | rfl | rfl | rfl | rfl <;> rfl) (by omega) hbig (by omega) (by simp; omega) _ rfl ?_; intro g9 cap9 w9 hown9 hgr9 hat9 hlt9; have HA9 := Lib.hid (HAPP.out _ w9 (by first | exact ((Below.refl _ _).alloc (Nat.le_refl _) _).drew | exact ((Below.refl _ _).drew).alloc (Nat.le_refl _) _ | exact (Below.refl _ _).alloc (Nat.le_refl _) _) hgr9); have y1 := HA9.out.2.2.1; have yf := HA9.out.2.2.2))
  all_goals
    go_wp2
    go_ret
    exact ⟨rfl, HF.out _ _ _ hown9 HA9.out.1 HA9.out.2.1⟩
set_option maxHeartbeats 4000000 in
set_option maxRecDepth 100000 in
theorem rvleaf_any (B r : Nat) (w : World) (A : Option Addr) (c : Nat) (ts : List MTok) (i : Nat) (nv : Value) (ns : List Nd) (e0 : Int) (s : Nat) (h : RvB B r w A c ts i nv ns e0 s) (hi : i < ts.length) (hn : ts.length ≤ 800000) (op num : Int) (nm : List UInt8) (a b d : Int) (N : ByteArray) (hN : N = ⟨nm.toArray⟩) :
    Calls Tryz.prog 155 #[.pointer (some ⟨r, 0, none⟩), .agg #[.int .u8 op, .int .i64 num, .string N, .int .i64 a, .int .i64 b, .int .i64 d]] w fun e w' => e = .returned (.bool true) ∧ Below B w w' ∧ ∃ nv', RvB B r w' A c ts (i + 1) nv' (ns ++ [⟨op, num, nm, -1, -1, -1⟩]) e0 s := by
  obtain ⟨W1, hW1⟩ : ∃ W1, W1 = w.alloc (.cells #[.int .u8 op, .int .i64 num, .string N, .int .i64 a, .int .i64 b, .int .i64 d] 104) := ⟨_, rfl⟩
  have hb1 : Below w.heap.size w W1 := by rw [hW1]; exact (Below.refl _ _).alloc (Nat.le_refl _) _
  have h1 := h.below hb1
  have nb1 : IsBlk W1 w.heap.size 104 #[.int .u8 op, .int .i64 num, .string N, .int .i64 a, .int .i64 b, .int .i64 d] := by rw [hW1]; exact IsBlk.new _ _ _
  have hrw : r ≠ w.heap.size := fun e => by have := h.blk.lt; omega
  have hBw : B ≤ w.heap.size := Nat.le_trans h.base (Nat.le_of_lt h.blk.lt)
  obtain ⟨W2, hW2⟩ : ∃ W2, W2 = W1.setCell ⟨r, 1, none⟩ (.int .i64 ((i : Int) + 1)) := ⟨_, rfl⟩
  obtain ⟨h2, hb2⟩ := h1.seti hi
  rw [← hW2] at h2 hb2
  have nb2 : IsBlk W2 w.heap.size 104 #[.int .u8 op, .int .i64 num, .string N, .int .i64 a, .int .i64 b, .int .i64 d] := by rw [hW2]; exact nb1.far (p := ⟨r, 1, none⟩) (fun e => hrw e.symm) _
  obtain ⟨W3, hW3⟩ : ∃ W3, W3 = W2.setCell ⟨w.heap.size, 3, none⟩ (.int .i64 (-1)) := ⟨_, rfl⟩
  have hb3 : Below w.heap.size W2 W3 := by rw [hW3]; exact (Below.refl _ _).setCell (p := ⟨w.heap.size, 3, none⟩) (Nat.le_refl _) _
  have nb3 := nb2.set 3 (.int .i64 (-1))
  rw [← hW3] at nb3
  obtain ⟨W4, hW4⟩ : ∃ W4, W4 = W3.setCell ⟨w.heap.size, 4, none⟩ (.int .i64 (-1)) := ⟨_, rfl⟩
  have hb4 : Below w.heap.size W3 W4 := by rw [hW4]; exact (Below.refl _ _).setCell (p := ⟨w.heap.size, 4, none⟩) (Nat.le_refl _) _
  have nb4 := nb3.set 4 (.int .i64 (-1))
  rw [← hW4] at nb4
  obtain ⟨W5, hW5⟩ : ∃ W5, W5 = W4.setCell ⟨w.heap.size, 5, none⟩ (.int .i64 (-1)) := ⟨_, rfl⟩
  have hb5 : Below w.heap.size W4 W5 := by rw [hW5]; exact (Below.refl _ _).setCell (p := ⟨w.heap.size, 5, none⟩) (Nat.le_refl _) _
  have nb5 := nb4.set 5 (.int .i64 (-1))
  rw [← hW5] at nb5
  have hbb : Below w.heap.size W2 W5 := hb3.trans (hb4.trans hb5)
  have hown5 : W5.ownsRow B 104 6 nv ns.length (ns.flatMap ndV) := by
    have ho := h.own
    refine ⟨ho.1, ?_⟩
    rcases ho.2 with h3 | ⟨g, cap, cur, q1, q2, q3, q4⟩
    · exact Or.inl h3
    · have hg : g < w.heap.size := heap_lt q3
      refine Or.inr ⟨g, cap, cur, q1, q2, ?_, q4⟩
      have e1 : W1.heap[g]? = w.heap[g]? := hb1.block g hg
      have hgr : g ≠ r := fun e => by
        subst e
        have hk : w.heap[g]? = some (.cells _ 184 (0, 0)) := h.blk
        rw [hk] at q3
        injection q3 with q3
        injection q3 with _ q3 _
        exact absurd q3 (by decide)
      have e2 : W2.heap[g]? = W1.heap[g]? := by rw [hW2]; exact Below.heap_setCell _ ⟨r, 1, none⟩ _ _ hgr
      exact ((hbb.block g hg).trans (e2.trans e1)).trans q3
  have h5 : RvB B r W5 A c ts (i + 1) nv ns e0 (s + 1) := ⟨h.base, h2.blk.below hbb h.blk.lt, hown5, h2.tok.below (hbb.mono hBw), h2.le, h2.sl⟩
  have HP := Lib.hid (rvput_any B r W5 A c ts (i + 1) nv ns e0 s h5 hn ⟨op, num, nm, -1, -1, -1⟩)
  simp only at HP
  rw [← hN] at HP
  have HB5 := Lib.hid (((hb1.mono hBw).trans hb2).trans (hbb.mono hBw))
  have y0 : W5.cell? ⟨w.heap.size, 0, none⟩ = some (.int .u8 op) := nb5.at_ 0
  have y1 : W5.cell? ⟨w.heap.size, 1, none⟩ = some (.int .i64 num) := nb5.at_ 1
  have y2 : W5.cell? ⟨w.heap.size, 2, none⟩ = some (.string N) := nb5.at_ 2
  have y3 : W5.cell? ⟨w.heap.size, 3, none⟩ = some (.int .i64 (-1)) := nb5.at_ 3
  have y4 : W5.cell? ⟨w.heap.size, 4, none⟩ = some (.int .i64 (-1)) := nb5.at_ 4
  have y5 : W5.cell? ⟨w.heap.size, 5, none⟩ = some (.int .i64 (-1)) := nb5.at_ 5
  have c1 : W1.cell? ⟨r, 1, none⟩ = some (.int .i64 i) := h1.cells.2.1
  have f1 : W1.frozen? ⟨r, 1, none⟩ = false := h1.blk.fz 1
  have c3 : W2.cell? ⟨w.heap.size, 3, none⟩ = some (.int .i64 a) := nb2.at_ 3
  have f3 : W2.frozen? ⟨w.heap.size, 3, none⟩ = false := nb2.fz 3
  have c4 : W3.cell? ⟨w.heap.size, 4, none⟩ = some (.int .i64 b) := nb3.at_ 4
  have f4 : W3.frozen? ⟨w.heap.size, 4, none⟩ = false := nb3.fz 4
  have c5 : W4.cell? ⟨w.heap.size, 5, none⟩ = some (.int .i64 d) := nb4.at_ 5
  have f5 : W4.frozen? ⟨w.heap.size, 5, none⟩ = false := nb4.fz 5
  have hil : (i : Int) < 800000 := by omega
  rw [hW5, hW4, hW3, hW2, hW1] at y0 y1 y2 y3 y4 y5
  rw [hW4, hW3, hW2, hW1] at c5 f5
  rw [hW3, hW2, hW1] at c4 f4
  rw [hW2, hW1] at c3 f3
  rw [hW1] at c1 f1
  have HW := Lib.hid (show W5 = _ from by rw [hW5, hW4, hW3, hW2, hW1])
  clear hW1 hW2 hW3 hW4 hW5 h h1 h2 h5 hb1 hb2 hb3 hb4 hb5 nb1 nb2 nb3 nb4 nb5 hbb hown5 hrw hBw hN hn hi
  go_enter Tryz.func155, Tryz.ntmps155
  go_wp2_with fail
  rw [← HW.out]
  refine HP.out.mono ?_
  rintro e w6 ⟨rfl, hb6, h6⟩
  have H6 := Lib.hid (And.intro hb6 h6)
  clear hb6 h6
  go_wp2
  go_ret
  exact ⟨rfl, HB5.out.trans H6.out.1, H6.out.2⟩
end Go.Proofs.YtmmdigeciphglaaGreatDoor
namespace Go.Proofs.YtmmdigeciphglaaGreatDoor
open Go.RowKit Ex
def NoOp (n k : Nat) (s : List UInt8) : Prop := ∀ o, 7 ≤ o → o < k → ¬ (s ≠ [] ∧ opS o = s ∧ lvl o = n)
theorem of2_at {n k : Nat} {s : List UInt8} (h : 7 ≤ k ∧ k ≤ 21) (hs : s ≠ [] ∧ opS k = s ∧ lvl k = n) : of2 n s = k := by
  have hne : of2 n s ≠ 0 := by
    intro h0
    have hh : ∀ (l : List Nat), k ∈ l → l.foldr (fun op r => if s ≠ [] ∧ opS op = s ∧ lvl op = n then op else r) 0 ≠ 0 ∨ (0 ∈ l) := by
      intro l
      induction l with
      | nil => intro hm; cases hm
      | cons a l ih =>
        intro hm
        simp only [List.foldr_cons]
        by_cases ha : s ≠ [] ∧ opS a = s ∧ lvl a = n
        · rw [if_pos ha]
          by_cases h0 : a = 0
          · exact Or.inr (by rw [h0]; exact List.mem_cons_self ..)
          · exact Or.inl h0
        · rw [if_neg ha]
          rcases List.mem_cons.1 hm with rfl | hm
          · exact absurd hs ha
          · rcases ih hm with h1 | h1
            · exact Or.inl h1
            · exact Or.inr (List.mem_cons_of_mem _ h1)
    rcases hh ((List.range 15).map (· + 7)) (List.mem_map.2 ⟨k - 7, List.mem_range.2 (by omega), by omega⟩) with h1 | h1
    · exact h1 h0
    · obtain ⟨q, _, hq⟩ := List.mem_map.1 h1; omega
  obtain ⟨h1, h2, _, h4⟩ := of2_tells hne
  exact congrArg Fin.val (ops_one ⟨of2 n s, by omega⟩ ⟨k, by omega⟩ h1 h.1 (h4.trans hs.2.1.symm))
theorem of2_no {n : Nat} {s : List UInt8} (h : NoOp n 22 s) : of2 n s = 0 := by
  by_cases h0 : of2 n s = 0
  · exact h0
  · obtain ⟨h1, h2, h3, h4⟩ := of2_tells h0
    exact absurd ⟨of2_nx h0, h4, h3⟩ (h _ h1 (by omega))
theorem NoOp.step {n k : Nat} {s : List UInt8} (h : NoOp n k s) (hk : ¬ (s ≠ [] ∧ opS k = s ∧ lvl k = n)) : NoOp n (k + 1) s := fun o h1 h2 => by
  rcases Nat.lt_or_ge o k with h3 | h3
  · exact h o h1 h3
  · have : o = k := by omega
    subst this; exact hk
set_option maxHeartbeats 4000000 in
set_option maxRecDepth 100000 in
theorem rvoftwo_any (B r : Nat) (w : World) (A : Option Addr) (c : Nat) (ts : List MTok) (i : Nat) (nv : Value) (ns : List Nd) (e0 : Int) (s : Nat) (h : RvB B r w A c ts i nv ns e0 s) (hf : RvF c ts) (n : Nat) :
    Calls Tryz.prog 122 #[.pointer (some ⟨r, 0, none⟩), .int .i64 (n : Int)] w fun e w' => e = .returned (.int .u8 (of2 n (nx ((tks ts).drop i)) : Nat)) ∧ Below w.heap.size w w' := by
  have HN := Lib.hid (rvnext_any B r w A c ts i nv ns e0 s h hf)
  obtain ⟨S, hS⟩ : ∃ S, S = nx ((tks ts).drop i) := ⟨_, rfl⟩
  rw [← hS] at HN ⊢
  obtain ⟨X, hX⟩ : ∃ X : ByteArray, X = ⟨S.toArray⟩ := ⟨_, rfl⟩
  rw [← hX] at HN
  have HXS := Lib.hid (show X.toList = S by rw [Lib.toList_data, hX])
  have HSG := Lib.hid (fun w0 => rsigns_any w0)
  have HLV := Lib.hid (fun o ho w0 => rlevel_any o ho w0)
  obtain ⟨R, hR⟩ : ∃ R, R = of2 n S := ⟨_, rfl⟩
  rw [← hR]
  have HR := Lib.hid hR
  clear h hf hS hX hR
  go_enter Tryz.func122, Tryz.ntmps122
  go_wp2_with fail
  refine HN.out.mono ?_
  rintro e w1 ⟨rfl, hb1⟩
  have HB1 := Lib.hid hb1
  clear hb1
  go_wp2_with fail
  refine (HSG.out w1).mono ?_
  rintro e w2 ⟨g, rfl, hg, hc, hb2⟩
  have HC := Lib.hid (And.intro hg hc)
  have HB2 := Lib.hid (HB1.out.trans (hb2.mono HB1.out.size))
  clear hg hc hb2
  go_wp2_with fail
  go_loopw [7] (fun kv wr => ∃ k : Nat, kv = .int .u8 k ∧ 7 ≤ k ∧ k ≤ 22 ∧ Hid (Below w2.heap.size w2 wr ∧ NoOp n k S)) (fun kv _ => 22 - (intOf kv).toNat)
  case atStart => exact ⟨7, rfl, Nat.le_refl _, by omega, Lib.hid ⟨Below.refl _ _, fun o h1 h2 => by omega⟩⟩
  case round =>
    obtain ⟨k, rfl, hk7, hk, HI⟩ := hrel
    by_cases hlt : k < 22
    · have hlt' : (k : Int) ≤ 21 := by omega
      have hk22 : (k : Int) < 22 := by omega
      have t0 := (HI.out.1.cell (p := ⟨g, k, none⟩) HC.out.1).trans (HC.out.2 k (by omega))
      obtain ⟨Y, hY⟩ : ∃ Y : ByteArray, Y = ⟨(opS k).toArray⟩ := ⟨_, rfl⟩
      rw [← hY] at t0
      have HYS := Lib.hid (show Y.toList = opS k by rw [Lib.toList_data, hY])
      have s1 : IntKind.u8.wrap ((k : Int) + 1) = (k : Int) + 1 := IntWalk.u8_in _ (by omega)
      have HK := Lib.hid (And.intro hk7 hlt)
      clear hY
      by_cases hn0 : X.toList = []
      · have h1 : (X.toList != []) = false := by rw [hn0]; rfl
        have h2 : X.toList.isEmpty = true := by rw [hn0]; rfl
        have HE := Lib.hid (HI.out.2.step (fun q => q.1 (HXS.out.symm.trans hn0)))
        clear hlt hk hk7
        go_wp2
        go_roundw
        case rel => exact ⟨k + 1, by go_num, by have := HK.out; omega, by have := HK.out; omega, Lib.hid ⟨HI.out.1, HE.out⟩⟩
        case measure => have := HK.out; simp [intOf]; omega
      · have h1 : (X.toList != []) = true := by simpa using hn0
        have h2 : X.toList.isEmpty = false := by simpa using hn0
        by_cases hYX : Y.toList = X.toList
        · have h3 : (Y.toList == X.toList) = true := beq_iff_eq.2 hYX
          have HL := Lib.hid (HLV.out k (by omega) wr)
          rw [rlv_eq k (by omega) (by omega)] at HL
          have HHY := Lib.hid (HYS.out.symm.trans (hYX.trans HXS.out))
          by_cases hl : lvl k = n
          · have HE := Lib.hid (show R = k from by rw [HR.out]; exact of2_at ⟨hk7, by omega⟩ ⟨fun q => hn0 (HXS.out.trans q), HHY.out, hl⟩)
            rw [hl] at HL
            clear hlt hk hk7 hl hYX
            go_wp2_with fail
            refine HL.out.mono ?_
            rintro e w3 ⟨rfl, hb3⟩
            have HB3 := Lib.hid (HB2.out.trans ((HI.out.1.trans (hb3.mono HI.out.1.size)).mono HB2.out.size))
            clear hb3
            go_wp2
            go_ret
            exact ⟨by rw [HE.out]; rfl, HB3.out⟩
          · have HE := Lib.hid (HI.out.2.step (fun q => hl q.2.2))
            have h4 : ((lvl k : Int) == (n : Int)) = false := beq_eq_false_iff_ne.2 (by omega)
            obtain ⟨q, hq⟩ : ∃ q, q = lvl k := ⟨_, rfl⟩
            rw [← hq] at HL h4
            clear hlt hk hk7 hl hYX hq
            go_wp2_with fail
            refine HL.out.mono ?_
            rintro e w3 ⟨rfl, hb3⟩
            have HB3 := Lib.hid (HI.out.1.trans (hb3.mono HI.out.1.size))
            clear hb3
            go_wp2
            go_roundw
            case rel => exact ⟨k + 1, by go_num, by have := HK.out; omega, by have := HK.out; omega, Lib.hid ⟨HB3.out, HE.out⟩⟩
            case measure => have := HK.out; simp [intOf]; omega
        · have h3 : (Y.toList == X.toList) = false := beq_eq_false_iff_ne.2 hYX
          have HE := Lib.hid (HI.out.2.step (fun q => hYX (HYS.out.trans (q.2.1.trans HXS.out.symm))))
          clear hlt hk hk7 hYX
          go_wp2
          go_roundw
          case rel => exact ⟨k + 1, by go_num, by have := HK.out; omega, by have := HK.out; omega, Lib.hid ⟨HI.out.1, HE.out⟩⟩
          case measure => have := HK.out; simp [intOf]; omega
    · obtain rfl : k = 22 := by omega
      have hlt' : ¬ ((22 : Nat) : Int) ≤ 21 := by omega
      have HE := Lib.hid (show R = 0 from by rw [HR.out]; exact of2_no HI.out.2)
      have HB3 := Lib.hid (HB2.out.trans (HI.out.1.mono HB2.out.size))
      clear hlt
      go_wp2
      go_ret
      exact ⟨by rw [HE.out]; rfl, HB3.out⟩
structure Zr (X : ByteArray) (Y : ByteArray) : Prop where
  size : 0 < Y.size ∧ Y.size ≤ 400
  dig : Y.data.toList.all Lx.isD = true
  eq : trz Y.data.toList = trz X.data.toList
theorem Zr.step {X Y D : ByteArray} (h : Zr X Y) (h1 : 1 < Y.size) (h0 : Y[0] = 48) (hD : D = Y.extract 1 Y.size) : Zr X D ∧ D.size + 1 = Y.size := by
  have hl := Lib.size_eq Y
  have hDD : D.data.toList = Y.data.toList.drop 1 := by rw [hD, Lib.extract_to_end]
  have hcons : Y.data.toList = 48 :: D.data.toList := by
    rw [hDD]
    have : 0 < Y.data.toList.length := by omega
    rw [← List.drop_zero (l := Y.data.toList)]
    conv => lhs; rw [List.drop_eq_getElem_cons this]
    have e : Y.data.toList[0] = Y[0] := rfl
    simp [e, h0]
  have hsz : D.size + 1 = Y.size := by rw [Lib.size_eq D, hl, hcons]; rfl
  refine ⟨⟨by have := h.size; omega, ?_, ?_⟩, hsz⟩
  · have := h.dig
    rw [hcons, List.all_cons] at this
    exact (Bool.and_eq_true_iff.1 this).2
  · rw [← h.eq, hcons]
    unfold trz
    rw [List.dropWhile_cons_of_pos (by rfl)]
theorem Zr.stop {X Y : ByteArray} (h : Zr X Y) (h0 : Y.size = 1 ∨ Y[0]'h.size.1 ≠ 48) : Nu.prs Y.data.toList = Nu.prs (trz X.data.toList) := by
  rw [← h.eq]
  have hl := Lib.size_eq Y
  have hne := h.size.1
  congr 1
  have hc : Y.data.toList = Y[0] :: Y.data.toList.drop 1 := by
    have : 0 < Y.data.toList.length := by omega
    conv => lhs; rw [← List.drop_zero (l := Y.data.toList), List.drop_eq_getElem_cons this]
    rfl
  generalize Y[0]'h.size.1 = z at *
  by_cases hz : z = 48
  · have h1 : Y.size = 1 := by
      rcases h0 with h0 | h0
      · exact h0
      · exact absurd hz h0
    have h2 : Y.data.toList.drop 1 = [] := List.drop_of_length_le (by omega)
    rw [hc, h2, hz]
    rfl
  · rw [hc]
    unfold trz
    rw [List.dropWhile_cons_of_neg (by simpa using hz), if_neg (by simp)]
def numP : Option Nat → Int × Int
  | some v => ((v : Int), 0)
  | none => (0, 60)
set_option maxHeartbeats 4000000 in
set_option maxRecDepth 100000 in
theorem rvnumber_any (B r : Nat) (w : World) (A : Option Addr) (c : Nat) (ts : List MTok) (i : Nat) (nv : Value) (ns : List Nd) (e0 : Int) (s : Nat) (h : RvB B r w A c ts i nv ns e0 s) (hi : i < ts.length) (hn : ts.length ≤ 800000) (X : ByteArray) (hX : Zr X X) :
    Calls Tryz.prog 156 #[.pointer (some ⟨r, 0, none⟩), .string X] w fun e w' => Below B w w' ∧ match numv X.data.toList with
      | some v => e = .returned (.bool true) ∧ ∃ nv', RvB B r w' A c ts (i + 1) nv' (ns ++ [⟨1, v, [], -1, -1, -1⟩]) e0 s
      | none => e = .returned (.bool false) ∧ RvB B r w' A c ts i nv ns 60 s := by
  have HX := Lib.hid hX
  have HH := Lib.hid h
  have HP := Lib.hid (fun (Y : ByteArray) (hy : Y.size ≤ 400) w0 => rparse_any Y w0 hy)
  have HLF := Lib.hid (fun (w1 : World) (hb : Below w.heap.size w w1) (v : Int) => rvleaf_any B r w1 A c ts i nv ns e0 s (h.below hb) hi hn 1 v [] 0 0 0 ⟨#[]⟩ rfl)
  have HNT := Lib.hid (show Nu.prs (trz X.data.toList) = numP (numv X.data.toList) from by rw [num_trz hX.dig]; cases numv X.data.toList <;> rfl)
  obtain ⟨V, hV⟩ : ∃ V, V = numv X.data.toList := ⟨_, rfl⟩
  rw [← hV] at HNT ⊢
  clear h hi hn hX hV
  go_enter Tryz.func156, Tryz.ntmps156
  go_wp2_with fail
  go_loop [1] (fun v => ∃ Y : ByteArray, v = .string Y ∧ Hid (Zr X Y)) (fun v => match v with | .string Y => Y.size | _ => 0)
  case atStart => exact ⟨X, rfl, HX⟩
  case round =>
    obtain ⟨Y, rfl, HY⟩ := hrel
    have hy0 := HY.out.size.1
    have hy1 : (0 : Int) < (Y.size : Int) := by omega
    have hdone : Y.size = 1 ∨ Y[0] ≠ 48 → ∃ p : Int × Int, Nu.prs Y.data.toList = p ∧ p = numP V := fun q => ⟨_, rfl, by rw [HY.out.stop q]; exact HNT.out⟩
    have HP2 := Lib.hid (fun w0 => HP.out Y HY.out.size.2 w0)
    by_cases h1 : (Y.size : Int) > 1
    · by_cases hz : (Y[0].toNat : Int) = 48
      · have hz' : ((Y[0].toNat : Int) == 48) = true := beq_iff_eq.2 hz
        obtain ⟨D, hD⟩ : ∃ D, Y.extract 1 Y.size = D := ⟨_, rfl⟩
        have hZ := HY.out.step (by omega) (UInt8.toNat_inj.1 (by show Y[0].toNat = 48; omega)) hD.symm
        have HZ := Lib.hid hZ
        have hs1 : (1 : Int) ≤ (Y.size : Int) := by omega
        clear hdone HP2 hZ hz
        go_wp2
        go_round
        case rel => exact ⟨D, rfl, Lib.hid HZ.out.1⟩
        case measure => have := HZ.out.2; simp only; omega
      · have hz' : ((Y[0].toNat : Int) == 48) = false := beq_eq_false_iff_ne.2 hz
        obtain ⟨p, hp, hpv⟩ := hdone (Or.inr (fun e => hz (by rw [e]; rfl)))
        rw [hp] at HP2
        clear hdone hp hz
        unfold tv at HP2
        cases V with
        | none =>
          obtain rfl : p = (0, 60) := hpv
          go_wp2_with fail
          refine (HP2.out _).mono ?_
          rintro e w1 ⟨rfl, hb⟩
          have h2 := HH.out.below hb
          have HS := Lib.hid (h2.sete 60)
          have HB := Lib.hid (HH.out.bw (Below.refl _ _) hb)
          have d3 := h2.cells.2.2.2
          have f3 : w1.frozen? ⟨r, 3, none⟩ = false := h2.blk.fz 3
          clear hb h2
          go_wp2
          go_ret
          exact ⟨HB.out.trans HS.out.2, rfl, HS.out.1⟩
        | some v =>
          obtain rfl : p = ((v : Int), 0) := hpv
          go_wp2_with fail
          refine (HP2.out _).mono ?_
          rintro e w1 ⟨rfl, hb⟩
          have HC := Lib.hid (HLF.out w1 hb v)
          have HB := Lib.hid (HH.out.bw (Below.refl _ _) hb)
          clear hb
          go_wp2_with fail
          refine HC.out.mono ?_
          rintro e w2 ⟨rfl, hb2, h2⟩
          have H2 := Lib.hid (And.intro hb2 h2)
          clear hb2 h2
          go_wp2
          go_ret
          exact ⟨HB.out.trans H2.out.1, rfl, H2.out.2⟩
    · have hdd := hdone (Or.inl (by omega))
      obtain ⟨p, hp, hpv⟩ := hdd
      rw [hp] at HP2
      clear hdone hp
      unfold tv at HP2
      cases V with
      | none =>
        obtain rfl : p = (0, 60) := hpv
        go_wp2_with fail
        refine (HP2.out _).mono ?_
        rintro e w1 ⟨rfl, hb⟩
        have h2 := HH.out.below hb
        have HS := Lib.hid (h2.sete 60)
        have HB := Lib.hid (HH.out.bw (Below.refl _ _) hb)
        have d3 := h2.cells.2.2.2
        have f3 : w1.frozen? ⟨r, 3, none⟩ = false := h2.blk.fz 3
        clear hb h2
        go_wp2
        go_ret
        exact ⟨HB.out.trans HS.out.2, rfl, HS.out.1⟩
      | some v =>
        obtain rfl : p = ((v : Int), 0) := hpv
        go_wp2_with fail
        refine (HP2.out _).mono ?_
        rintro e w1 ⟨rfl, hb⟩
        have HC := Lib.hid (HLF.out w1 hb v)
        have HB := Lib.hid (HH.out.bw (Below.refl _ _) hb)
        clear hb
        go_wp2_with fail
        refine HC.out.mono ?_
        rintro e w2 ⟨rfl, hb2, h2⟩
        have H2 := Lib.hid (And.intro hb2 h2)
        clear hb2 h2
        go_wp2
        go_ret
        exact ⟨HB.out.trans H2.out.1, rfl, H2.out.2⟩
end Go.Proofs.YtmmdigeciphglaaGreatDoor
namespace Go.Proofs.YtmmdigeciphglaaGreatDoor
open Go.RowKit Ex
theorem R_less {m : Md} {ts r : List Tk} {x : E} (h : R m ts = .ok r x) : r.length + one m ≤ ts.length := rd_less _ _ _ _ _ h
structure RvK (B r : Nat) (A : Option Addr) (c : Nat) (ts : List MTok) (k : Nat) : Prop where
  lev : ∀ n : Nat, n ≤ 10 → ∀ z : Int, z = n → RvC B r A c ts 93 #[.pointer (some ⟨r, 0, none⟩), .int .i64 z] (.lev n) k
  una : RvC B r A c ts 121 #[.pointer (some ⟨r, 0, none⟩)] .una k
  pri : RvC B r A c ts 120 #[.pointer (some ⟨r, 0, none⟩)] .pri k
  bra : ∀ (w : World) (i : Nat) (nv : Value) (ns : List Nd) (e0 : Int) (s : Nat), RvB B r w A c ts i nv ns e0 s → i < ts.length → need .bra ((tks ts).drop i) < k → Calls Tryz.prog 154 #[.pointer (some ⟨r, 0, none⟩)] w (RvA B r A c ts (R .bra ((tks ts).drop i)) ns e0 s w)
def rvAt (r : Nat) (w : World) : Nat := ((w.cell? ⟨r, 1, none⟩).map (fun v => (intOf v).toNat)).getD 0
theorem RvB.at_ {B r : Nat} {w : World} {A : Option Addr} {c : Nat} {ts : List MTok} {i : Nat} {nv : Value} {ns : List Nd} {e0 : Int} {s : Nat} (h : RvB B r w A c ts i nv ns e0 s) : rvAt r w = i := by
  unfold rvAt
  rw [h.cells.2.1]
  simp [intOf]
structure LvI (B r : Nat) (w : World) (A : Option Addr) (c : Nat) (ts : List MTok) (i : Nat) (ns : List Nd) (e0 : Int) (s n : Nat) (X : Rs) (wr : World) (i' : Nat) (nv : Value) (acc : E) : Prop where
  rd : RvB B r wr A c ts i' nv (ns ++ flat acc ns.length) e0 s
  below : Below B w wr
  eq : X = R (.loop n acc) ((tks ts).drop i')
  le : i ≤ i'
theorem flat_bin (op : Nat) (a b : E) (ns : List Nd) : ns ++ flat a ns.length ++ flat b (ns ++ flat a ns.length).length ++ [⟨(op : Nat), 0, [], ((ns ++ flat a ns.length).length : Int) - 1, ((ns ++ flat a ns.length ++ flat b (ns ++ flat a ns.length).length).length : Int) - 1, -1⟩] = ns ++ flat (.bin op a b) ns.length := by
  simp only [flat, List.length_append, flat_len, List.append_assoc, Nat.add_assoc]
theorem flat_un (op : Nat) (a : E) (ns : List Nd) : ns ++ flat a ns.length ++ [⟨(op : Nat), 0, [], ((ns ++ flat a ns.length).length : Int) - 1, -1, -1⟩] = ns ++ flat (.un op a) ns.length := by
  simp only [flat, List.length_append, flat_len, List.append_assoc]
theorem flat_ite (a b c : E) (ns : List Nd) : ns ++ flat a ns.length ++ flat b (ns ++ flat a ns.length).length ++ flat c (ns ++ flat a ns.length ++ flat b (ns ++ flat a ns.length).length).length ++ [⟨22, 0, [], ((ns ++ flat a ns.length).length : Int) - 1, ((ns ++ flat a ns.length ++ flat b (ns ++ flat a ns.length).length).length : Int) - 1, ((ns ++ flat a ns.length ++ flat b (ns ++ flat a ns.length).length ++ flat c (ns ++ flat a ns.length ++ flat b (ns ++ flat a ns.length).length).length).length : Int) - 1⟩] = ns ++ flat (.ite a b c) ns.length := by
  simp only [flat, List.length_append, flat_len, List.append_assoc, Nat.add_assoc]
set_option maxHeartbeats 4000000 in
set_option maxRecDepth 100000 in
theorem rvlev_any (B r : Nat) (A : Option Addr) (c : Nat) (ts : List MTok) (hf : RvF c ts) (k : Nat) (IH : RvK B r A c ts k) (n : Nat) (hn : n ≤ 8) : RvC B r A c ts 93 #[.pointer (some ⟨r, 0, none⟩), .int .i64 (n : Int)] (.lev n) (k + 1) := by
  intro w i nv ns e0 s h hk
  have hni : (n : Int) ≤ 8 := by omega
  have hn10 : ((n : Int) == 10) = false := beq_eq_false_iff_ne.2 (by omega)
  have hn9 : ((n : Int) == 9) = false := beq_eq_false_iff_ne.2 (by omega)
  have HL := Lib.hid (fun (w1 : World) (j : Nat) nv1 ns1 e1 s1 (h1 : RvB B r w1 A c ts j nv1 ns1 e1 s1) (hj : need (.lev (n + 1)) ((tks ts).drop j) < k) => IH.lev (n + 1) (by omega) ((n : Int) + 1) (by omega) w1 j nv1 ns1 e1 s1 h1 hj)
  have H1 := Lib.hid (HL.out w i nv ns e0 s h (by simp only [need, rank] at hk ⊢; omega))
  obtain ⟨X, hX⟩ : ∃ X, X = R (.lev n) ((tks ts).drop i) := ⟨_, rfl⟩
  rw [← hX]
  have hlev := R_lev hn ((tks ts).drop i)
  rw [← hX] at hlev
  obtain ⟨X1, hX1⟩ : ∃ X1, X1 = R (.lev (n + 1)) ((tks ts).drop i) := ⟨_, rfl⟩
  rw [← hX1] at hlev H1
  have HLS := Lib.hid (fun (rr : List Tk) (x : E) (e : X1 = .ok rr x) => R_less (hX1.symm.trans e))
  have HKB := Lib.hid (show 16 * ((tks ts).drop i).length + (14 - n) < k + 1 from hk)
  have HOT := Lib.hid (fun (w1 : World) (j : Nat) nv1 ns1 e1 s1 (h1 : RvB B r w1 A c ts j nv1 ns1 e1 s1) => rvoftwo_any B r w1 A c ts j nv1 ns1 e1 s1 h1 hf n)
  have HLA := Lib.hid (fun (w1 : World) (j : Nat) nv1 ns1 e1 s1 (h1 : RvB B r w1 A c ts j nv1 ns1 e1 s1) => rvlast_any B r w1 A c ts j nv1 ns1 e1 s1 h1 hf.2.1)
  have HPU := Lib.hid (fun (w1 : World) (j : Nat) nv1 ns1 e1 s1 (h1 : RvB B r w1 A c ts j nv1 ns1 e1 (s1 + 1)) nd => rvput_any B r w1 A c ts j nv1 ns1 e1 s1 h1 hf.2.1 nd)
  have hts := hf.2.1
  clear h hk hX hX1 IH hf
  cases X1 with
  | bad l e =>
    have HXE := Lib.hid (show X = .bad l e from hlev)
    clear hlev HLS HL HOT HLA HPU
    go_enter Tryz.func93, Tryz.ntmps93
    go_wp2_with fail
    refine H1.out.mono ?_
    rintro en w1 ⟨rfl, hb, hs⟩
    have HR := Lib.hid (And.intro hb hs)
    clear hb hs H1
    simp only [okb]
    go_wp2
    go_ret
    rw [HXE.out]
    exact ⟨rfl, HR.out.1, HR.out.2⟩
  | ok r1 a =>
    have HXE := Lib.hid (show X = R (.loop n a) r1 from hlev)
    have hls := HLS.out r1 a rfl
    clear hlev HLS
    go_enter Tryz.func93, Tryz.ntmps93
    go_wp2_with fail
    refine H1.out.mono ?_
    rintro en w1 ⟨rfl, hb, nv1, i1, hr1, h1⟩
    have H0 := Lib.hid (show LvI B r w A c ts i ns e0 s n X w1 i1 nv1 a from ⟨h1, hb, by rw [HXE.out, hr1], by
      have := h1.le
      rw [hr1, drop_len, drop_len] at hls
      by_cases hi : i ≤ i1
      · exact hi
      · exfalso
        simp only [one] at hls
        omega⟩)
    clear hb hr1 h1 hls H1 HXE
    simp only [okb]
    go_wp2
    go_loopw [5, 6] (fun _ _ wr => ∃ (i' : Nat) (nv' : Value) (acc : E), Hid (LvI B r w A c ts i ns e0 s n X wr i' nv' acc)) (fun _ _ wr => ts.length - rvAt r wr)
    case atStart => exact ⟨i1, nv1, a, H0⟩
    case round =>
      obtain ⟨j, nvj, acc, HI⟩ := hrel
      have HO := Lib.hid (HOT.out wr j nvj _ e0 s HI.out.rd)
      have HMJ := Lib.hid HI.out.rd.at_
      obtain ⟨q, hq⟩ : ∃ q, q = of2 n (nx ((tks ts).drop j)) := ⟨_, rfl⟩
      rw [← hq] at HO
      by_cases h0 : q = 0
      · have HXE := Lib.hid (show X = .ok ((tks ts).drop j) acc from by rw [HI.out.eq]; exact R_loop0 (hq.symm.trans h0))
        subst h0
        clear hq
        go_wp2_with fail
        refine HO.out.mono ?_
        rintro en w2 ⟨rfl, hb2⟩
        have HR := Lib.hid (And.intro (HI.out.rd.bw HI.out.below hb2) (HI.out.rd.below hb2))
        clear hb2
        go_wp2
        go_ret
        rw [HXE.out]
        exact ⟨rfl, HR.out.1, nvj, j, rfl, HR.out.2⟩
      · have hne : of2 n (nx ((tks ts).drop j)) ≠ 0 := by rw [← hq]; exact h0
        have hlt := nx_lt (of2_nx hne)
        have hq2 := of2_tells hne
        rw [← hq] at hq2
        have HQ := Lib.hid (And.intro hq2.1 hq2.2.1)
        have hq0 : ((q : Int) == 0) = false := beq_eq_false_iff_ne.2 (by omega)
        have hjl : (j : Int) < 800000 := by omega
        have HXL := Lib.hid (show X = then2 (R (.lev (n + 1)) ((tks ts).drop (j + 1))) (fun rr b => R (.loop n (.bin q acc b)) rr) from by rw [HI.out.eq, R_loop hn hne, tail_drop, hq])
        have HLT := Lib.hid hlt
        have HJK := Lib.hid (show 16 * ((tks ts).drop (j + 1)).length + (14 - (n + 1)) < k from by
          have h1 := HKB.out
          have h2 := HI.out.le
          rw [drop_len] at h1 ⊢
          omega)
        clear hq hne hq2 hlt h0
        go_wp2_with fail
        refine HO.out.mono ?_
        rintro en w2 ⟨rfl, hb2⟩
        have H2 := Lib.hid (HI.out.rd.below hb2)
        have HB2 := Lib.hid (HI.out.rd.bw HI.out.below hb2)
        have HA2 := Lib.hid (HLA.out w2 j nvj _ e0 s H2.out)
        obtain ⟨z1, hz1⟩ : ∃ z : Int, z = ((ns ++ flat acc ns.length).length : Int) - 1 := ⟨_, rfl⟩
        rw [← hz1] at HA2
        have HZ1 := Lib.hid hz1
        clear hz1
        have HLI := Lib.hid HI.out.le
        clear hb2 HI HO
        go_wp2_with fail
        refine HA2.out.mono ?_
        rintro en w3 ⟨rfl, rfl⟩
        have d1 := H2.out.cells.2.1
        have f1 : w2.frozen? ⟨r, 1, none⟩ = false := H2.out.blk.fz 1
        have hsi := H2.out.seti HLT.out
        have H3 := Lib.hid hsi.1
        have HB3 := Lib.hid (HB2.out.trans hsi.2)
        have HC3 := Lib.hid (HL.out _ (j + 1) nvj _ e0 (s + 1) hsi.1 HJK.out)
        obtain ⟨X2, hX2⟩ : ∃ X2, X2 = R (.lev (n + 1)) ((tks ts).drop (j + 1)) := ⟨_, rfl⟩
        rw [← hX2] at HXL HC3
        have HLS := Lib.hid (fun (rr : List Tk) (x : E) (e : X2 = .ok rr x) => R_less (hX2.symm.trans e))
        clear hsi hX2 HA2
        cases X2 with
        | bad l e =>
          have HXE := Lib.hid (show X = .bad l e from HXL.out)
          clear HXL
          go_wp2_with fail
          refine HC3.out.mono ?_
          rintro en w4 ⟨rfl, hb, hs⟩
          have HR := Lib.hid (And.intro (HB3.out.trans hb) hs)
          clear hb hs
          simp only [okb]
          go_wp2
          go_ret
          rw [HXE.out]
          exact ⟨rfl, HR.out.1, HR.out.2⟩
        | ok r2 b =>
          have HXE := Lib.hid (show X = R (.loop n (.bin q acc b)) r2 from HXL.out)
          have hls := HLS.out r2 b rfl
          clear HXL HLS
          go_wp2_with fail
          refine HC3.out.mono ?_
          rintro en w4 ⟨rfl, hb, nv4, i4, hr4, h4⟩
          have HB4 := Lib.hid (HB3.out.trans hb)
          have HI4 := Lib.hid (show j + 1 ≤ i4 from by
            have := h4.le
            have h9 := HLT.out
            rw [hr4, drop_len, drop_len] at hls
            simp only [one] at hls
            omega)
          have HXF := Lib.hid (show X = R (.loop n (.bin q acc b)) ((tks ts).drop i4) from by rw [HXE.out, hr4])
          have HA4 := Lib.hid (HLA.out w4 i4 nv4 _ e0 (s + 1) h4)
          have HP4 := Lib.hid (HPU.out w4 i4 nv4 _ e0 s h4 ⟨(q : Nat), 0, [], ((ns ++ flat acc ns.length).length : Int) - 1, ((ns ++ flat acc ns.length ++ flat b (ns ++ flat acc ns.length).length).length : Int) - 1, -1⟩)
          rw [flat_bin] at HP4
          clear hb hr4 h4 hls HXE
          simp only [okb]
          simp only at HP4
          rw [← HZ1.out] at HP4
          generalize ((ns ++ flat acc ns.length ++ flat b (ns ++ flat acc ns.length).length).length : Int) - 1 = z2 at *
          go_wp2_with fail
          refine HA4.out.mono ?_
          rintro en w5 ⟨rfl, rfl⟩
          go_wp2_with fail
          refine HP4.out.mono ?_
          rintro en w6 ⟨rfl, hb6, nv6, h6⟩
          have HN := Lib.hid (show LvI B r w A c ts i ns e0 s n X w6 i4 nv6 (.bin q acc b) from ⟨h6, HB4.out.trans hb6, HXF.out, by have h1 := HLI.out; have h2 := HI4.out; omega⟩)
          have HM6 := Lib.hid h6.at_
          clear hb6 h6
          go_wp2
          go_roundw
          case rel => exact ⟨i4, nv6, _, HN⟩
          case measure => rw [HMJ.out, HM6.out]; have h1 := HI4.out; have h2 := HLT.out; omega
set_option maxHeartbeats 1000000 in
theorem rvlev9_any (B r : Nat) (A : Option Addr) (c : Nat) (ts : List MTok) (k : Nat) (IH : RvK B r A c ts k) : RvC B r A c ts 93 #[.pointer (some ⟨r, 0, none⟩), .int .i64 ((9 : Nat) : Int)] (.lev 9) (k + 1) := by
  intro w i nv ns e0 s h hk
  have HP := Lib.hid (IH.una w i nv ns e0 s h (by simp only [need, rank] at hk ⊢; omega))
  rw [R_9]
  have hz : ((9 : Nat) : Int) = 9 := rfl
  rw [hz]
  clear h hk IH hz
  go_enter Tryz.func93, Tryz.ntmps93
  go_wp2_with fail
  refine HP.out.mono ?_
  rintro en w1 ⟨rfl, hb, hs⟩
  have HR := Lib.hid (And.intro hb hs)
  clear hb hs HP
  go_wp2
  go_ret
  exact ⟨rfl, HR.out.1, HR.out.2⟩
set_option maxHeartbeats 1000000 in
theorem rvlev10_any (B r : Nat) (A : Option Addr) (c : Nat) (ts : List MTok) (k : Nat) (IH : RvK B r A c ts k) : RvC B r A c ts 93 #[.pointer (some ⟨r, 0, none⟩), .int .i64 ((10 : Nat) : Int)] (.lev 10) (k + 1) := by
  intro w i nv ns e0 s h hk
  have HP := Lib.hid (IH.pri w i nv ns e0 s h (by simp only [need, rank] at hk ⊢; omega))
  rw [R_10]
  have hz : ((10 : Nat) : Int) = 10 := rfl
  rw [hz]
  clear h hk IH hz
  go_enter Tryz.func93, Tryz.ntmps93
  go_wp2_with fail
  refine HP.out.mono ?_
  rintro en w1 ⟨rfl, hb, hs⟩
  have HR := Lib.hid (And.intro hb hs)
  clear hb hs HP
  go_wp2
  go_ret
  exact ⟨rfl, HR.out.1, HR.out.2⟩
end Go.Proofs.YtmmdigeciphglaaGreatDoor
namespace Go.Proofs.YtmmdigeciphglaaGreatDoor
open Go.RowKit Ex
theorem R_una_no {ts : List Tk} (h5 : nx ts ≠ [45]) (h6 : nx ts ≠ [110, 111, 116]) : R .una ts = R .pri ts := R_unap h5 h6
set_option maxHeartbeats 4000000 in
set_option maxRecDepth 100000 in
theorem rvuna_any (B r : Nat) (A : Option Addr) (c : Nat) (ts : List MTok) (hf : RvF c ts) (k : Nat) (IH : RvK B r A c ts k) : RvC B r A c ts 121 #[.pointer (some ⟨r, 0, none⟩)] .una (k + 1) := by
  intro w i nv ns e0 s h hk
  have HN := Lib.hid (rvnext_any B r w A c ts i nv ns e0 s h hf)
  obtain ⟨S, hS⟩ : ∃ S, S = nx ((tks ts).drop i) := ⟨_, rfl⟩
  rw [← hS] at HN
  obtain ⟨X, hX⟩ : ∃ X, X = R .una ((tks ts).drop i) := ⟨_, rfl⟩
  rw [← hX]
  have HH := Lib.hid h
  have HU := Lib.hid (fun (w1 : World) (j : Nat) nv1 ns1 e1 s1 (h1 : RvB B r w1 A c ts j nv1 ns1 e1 s1) (hj : need .una ((tks ts).drop j) < k) => IH.una w1 j nv1 ns1 e1 s1 h1 hj)
  have HPR := Lib.hid (fun (w1 : World) (h1 : RvB B r w1 A c ts i nv ns e0 s) => IH.pri w1 i nv ns e0 s h1 (by simp only [need, rank] at hk ⊢; omega))
  have HPN := Lib.hid (And.intro (fun h5 h6 => R_una_no (ts := (tks ts).drop i) h5 h6) True.intro)
  have HLA := Lib.hid (fun (w1 : World) (j : Nat) nv1 ns1 e1 s1 (h1 : RvB B r w1 A c ts j nv1 ns1 e1 s1) => rvlast_any B r w1 A c ts j nv1 ns1 e1 s1 h1 hf.2.1)
  have HPU := Lib.hid (fun (w1 : World) (j : Nat) nv1 ns1 e1 s1 (h1 : RvB B r w1 A c ts j nv1 ns1 e1 (s1 + 1)) nd => rvput_any B r w1 A c ts j nv1 ns1 e1 s1 h1 hf.2.1 nd)
  have hts := hf.2.1
  clear h IH hf
  by_cases hS5 : S = [45]
  ·
    have hlt := nx_lt (ts := ts) (i := i) (by rw [← hS, hS5]; simp)
    have hil : (i : Int) < 800000 := by omega
    have hX2 : X = then2 (R .una ((tks ts).drop (i + 1))) (fun rr b => .ok rr (.un 5 b)) := by rw [hX, R_una5 (hS.symm.trans hS5), tail_drop]
    have HNX := Lib.hid (show Calls _ _ _ _ fun e w' => e = .returned (.string ⟨#[45]⟩) ∧ _ from by have q := HN.out; rw [hS5] at q; exact q)
    have HLT := Lib.hid hlt
    have HKK := Lib.hid (show need .una ((tks ts).drop (i + 1)) < k from by
      simp only [need, rank] at hk ⊢
      rw [drop_len] at hk ⊢
      omega)
    obtain ⟨X2, hX2e⟩ : ∃ X2, X2 = R .una ((tks ts).drop (i + 1)) := ⟨_, rfl⟩
    rw [← hX2e] at hX2
    have HXL := Lib.hid hX2
    have HX2E := Lib.hid hX2e
    clear hS hS5 hX hX2 hX2e HN hk hlt HPR HPN
    go_enter Tryz.func121, Tryz.ntmps121
    go_wp2_with fail
    refine HNX.out.mono ?_
    rintro en w1 ⟨rfl, hb⟩
    have h1 := HH.out.below hb
    have d1 := h1.cells.2.1
    have f1 : w1.frozen? ⟨r, 1, none⟩ = false := h1.blk.fz 1
    have hsi := h1.seti HLT.out
    have HB2 := Lib.hid ((HH.out.bw (Below.refl _ _) hb).trans hsi.2)
    have HC := Lib.hid (HU.out _ (i + 1) nv ns e0 (s + 1) hsi.1 HKK.out)
    rw [← HX2E.out] at HC
    clear hb h1 hsi HNX HH
    cases X2 with
    | bad l e =>
      have HXE := Lib.hid (show X = .bad l e from HXL.out)
      clear HXL HLA HPU HX2E
      go_wp2_with fail
      refine HC.out.mono ?_
      rintro en w3 ⟨rfl, hb, hs⟩
      have HR := Lib.hid (And.intro (HB2.out.trans hb) hs)
      clear hb hs
      simp only [okb]
      go_wp2
      go_ret
      rw [HXE.out]
      exact ⟨rfl, HR.out.1, HR.out.2⟩
    | ok r2 b =>
      have HXE := Lib.hid (show X = .ok r2 (.un 5 b) from HXL.out)
      clear HXL HX2E
      go_wp2_with fail
      refine HC.out.mono ?_
      rintro en w3 ⟨rfl, hb, nv3, i3, hr3, h3⟩
      have HB3 := Lib.hid (HB2.out.trans hb)
      have HR3 := Lib.hid hr3
      have HA := Lib.hid (HLA.out w3 i3 nv3 _ e0 (s + 1) h3)
      have HP := Lib.hid (HPU.out w3 i3 nv3 _ e0 s h3 ⟨(5 : Nat), 0, [], ((ns ++ flat b ns.length).length : Int) - 1, -1, -1⟩)
      rw [flat_un] at HP
      clear hb hr3 h3
      simp only [okb]
      simp only at HP
      generalize ((ns ++ flat b ns.length).length : Int) - 1 = z1 at *
      go_wp2_with fail
      refine HA.out.mono ?_
      rintro en w4 ⟨rfl, rfl⟩
      go_wp2_with fail
      refine HP.out.mono ?_
      rintro en w5 ⟨rfl, hb5, nv5, h5⟩
      have HR := Lib.hid (And.intro (HB3.out.trans hb5) h5)
      clear hb5 h5
      go_wp2
      go_ret
      rw [HXE.out]
      exact ⟨rfl, HR.out.1, nv5, i3, HR3.out, HR.out.2⟩
  · by_cases hS6 : S = [110, 111, 116]
    · have hS5 := hS6
      clear hS6
      have hlt := nx_lt (ts := ts) (i := i) (by rw [← hS, hS5]; simp)
      have hil : (i : Int) < 800000 := by omega
      have hX2 : X = then2 (R .una ((tks ts).drop (i + 1))) (fun rr b => .ok rr (.un 6 b)) := by rw [hX, R_una6 (hS.symm.trans hS5), tail_drop]
      have HNX := Lib.hid (show Calls _ _ _ _ fun e w' => e = .returned (.string ⟨#[110, 111, 116]⟩) ∧ _ from by have q := HN.out; rw [hS5] at q; exact q)
      have HLT := Lib.hid hlt
      have HKK := Lib.hid (show need .una ((tks ts).drop (i + 1)) < k from by
        simp only [need, rank] at hk ⊢
        rw [drop_len] at hk ⊢
        omega)
      obtain ⟨X2, hX2e⟩ : ∃ X2, X2 = R .una ((tks ts).drop (i + 1)) := ⟨_, rfl⟩
      rw [← hX2e] at hX2
      have HXL := Lib.hid hX2
      have HX2E := Lib.hid hX2e
      clear hS hS5 hX hX2 hX2e HN hk hlt HPR HPN
      go_enter Tryz.func121, Tryz.ntmps121
      go_wp2_with fail
      refine HNX.out.mono ?_
      rintro en w1 ⟨rfl, hb⟩
      have h1 := HH.out.below hb
      have d1 := h1.cells.2.1
      have f1 : w1.frozen? ⟨r, 1, none⟩ = false := h1.blk.fz 1
      have hsi := h1.seti HLT.out
      have HB2 := Lib.hid ((HH.out.bw (Below.refl _ _) hb).trans hsi.2)
      have HC := Lib.hid (HU.out _ (i + 1) nv ns e0 (s + 1) hsi.1 HKK.out)
      rw [← HX2E.out] at HC
      clear hb h1 hsi HNX HH
      cases X2 with
      | bad l e =>
        have HXE := Lib.hid (show X = .bad l e from HXL.out)
        clear HXL HLA HPU HX2E
        go_wp2_with fail
        refine HC.out.mono ?_
        rintro en w3 ⟨rfl, hb, hs⟩
        have HR := Lib.hid (And.intro (HB2.out.trans hb) hs)
        clear hb hs
        simp only [okb]
        go_wp2
        go_ret
        rw [HXE.out]
        exact ⟨rfl, HR.out.1, HR.out.2⟩
      | ok r2 b =>
        have HXE := Lib.hid (show X = .ok r2 (.un 6 b) from HXL.out)
        clear HXL HX2E
        go_wp2_with fail
        refine HC.out.mono ?_
        rintro en w3 ⟨rfl, hb, nv3, i3, hr3, h3⟩
        have HB3 := Lib.hid (HB2.out.trans hb)
        have HR3 := Lib.hid hr3
        have HA := Lib.hid (HLA.out w3 i3 nv3 _ e0 (s + 1) h3)
        have HP := Lib.hid (HPU.out w3 i3 nv3 _ e0 s h3 ⟨(6 : Nat), 0, [], ((ns ++ flat b ns.length).length : Int) - 1, -1, -1⟩)
        rw [flat_un] at HP
        clear hb hr3 h3
        simp only [okb]
        simp only at HP
        generalize ((ns ++ flat b ns.length).length : Int) - 1 = z1 at *
        go_wp2_with fail
        refine HA.out.mono ?_
        rintro en w4 ⟨rfl, rfl⟩
        go_wp2_with fail
        refine HP.out.mono ?_
        rintro en w5 ⟨rfl, hb5, nv5, h5⟩
        have HR := Lib.hid (And.intro (HB3.out.trans hb5) h5)
        clear hb5 h5
        go_wp2
        go_ret
        rw [HXE.out]
        exact ⟨rfl, HR.out.1, nv5, i3, HR3.out, HR.out.2⟩
    · have hXE := hX.trans (HPN.out.1 (by rw [← hS]; exact hS5) (by rw [← hS]; exact hS6))
      obtain ⟨T, hT⟩ : ∃ T : ByteArray, T = ⟨S.toArray⟩ := ⟨_, rfl⟩
      rw [← hT] at HN
      have hTS : T.toList = S := by rw [Lib.toList_data, hT]
      have h5 : (T.toList == [45]) = false := beq_eq_false_iff_ne.2 (by rw [hTS]; exact hS5)
      have h6 : (T.toList == [110, 111, 116]) = false := beq_eq_false_iff_ne.2 (by rw [hTS]; exact hS6)
      rw [← hXE] at HPR
      clear hS hS5 hS6 hX hXE hT hTS hk HLA HPU HU HPN
      go_enter Tryz.func121, Tryz.ntmps121
      go_wp2_with fail
      refine HN.out.mono ?_
      rintro en w1 ⟨rfl, hb⟩
      have HC := Lib.hid (HPR.out w1 (HH.out.below hb))
      have HB := Lib.hid (HH.out.bw (Below.refl _ _) hb)
      clear hb HN HPR
      go_wp2_with fail
      refine HC.out.mono ?_
      rintro en w2 ⟨rfl, hb2, hs2⟩
      have HR := Lib.hid (And.intro (HB.out.trans hb2) hs2)
      clear hb2 hs2
      go_wp2
      go_ret
      exact ⟨rfl, HR.out.1, HR.out.2⟩
end Go.Proofs.YtmmdigeciphglaaGreatDoor
namespace Go.Proofs.YtmmdigeciphglaaGreatDoor
open Go.RowKit Ex
theorem R_pri (ts : List Tk) : R .pri ts = if nx ts = [40] then then2 (R (.lev 1) ts.tail) (fun r a => eat [41] r (fun r => .ok r a))
    else if nx ts = [105, 102] then R .bra ts
    else if nx ts = [116, 114, 117, 101] then .ok ts.tail .tt
    else if nx ts = [102, 97, 108, 115, 101] then .ok ts.tail .ff
    else if nx ts ≠ [] ∧ kd ts = 1 then (match numv (nx ts) with
      | some v => .ok ts.tail (.num v)
      | none => .bad ts.length 60)
    else if nx ts ≠ [] ∧ kd ts = 2 then .ok ts.tail (.name (nx ts))
    else .bad ts.length 80 := by
  by_cases h1 : nx ts = [40]
  · rw [if_pos h1]; exact R_par h1
  by_cases h2 : nx ts = [105, 102]
  · rw [if_neg h1, if_pos h2]; exact R_if h2
  rw [if_neg h1, if_neg h2]
  show rd (need .pri ts + 1) .pri ts = _
  rw [rd, if_neg h1, if_neg h2]
  rfl
set_option maxHeartbeats 8000000 in
set_option maxRecDepth 100000 in
theorem rvpri_any (B r : Nat) (A : Option Addr) (c : Nat) (ts : List MTok) (hf : RvF c ts) (k : Nat) (IH : RvK B r A c ts k) : RvC B r A c ts 120 #[.pointer (some ⟨r, 0, none⟩)] .pri (k + 1) := by
  intro w i nv ns e0 s h hk
  have HF := Lib.hid hf
  have HN := Lib.hid (rvnext_any B r w A c ts i nv ns e0 s h hf)
  obtain ⟨S, hS⟩ : ∃ S, S = nx ((tks ts).drop i) := ⟨_, rfl⟩
  obtain ⟨X, hX⟩ : ∃ X, X = R .pri ((tks ts).drop i) := ⟨_, rfl⟩
  rw [← hX]
  rw [R_pri] at hX
  rw [← hS] at HN
  have HH := Lib.hid h
  have HLV := Lib.hid (fun (w1 : World) (j : Nat) nv1 ns1 e1 s1 (h1 : RvB B r w1 A c ts j nv1 ns1 e1 s1) (hj : i + 1 ≤ j) (hi : i < ts.length) => IH.lev 1 (by decide) 1 rfl w1 j nv1 ns1 e1 s1 h1 (by
    simp only [need, rank] at hk ⊢
    rw [drop_len] at hk ⊢
    omega))
  have HBR := Lib.hid (fun (w1 : World) (h1 : RvB B r w1 A c ts i nv ns e0 s) (hi : i < ts.length) => IH.bra w1 i nv ns e0 s h1 hi (by simp only [need, rank] at hk ⊢; omega))
  have hts := hf.2.1
  clear h IH hf hk
  by_cases hS1 : S = [40]
  · rw [hS1] at HN
    have hlt := nx_lt (ts := ts) (i := i) (by rw [← hS, hS1]; simp)
    have hil : (i : Int) < 800000 := by omega
    have hX1 : X = then2 (R (.lev 1) ((tks ts).drop (i + 1))) (fun r a => eat [41] r (fun r => .ok r a)) := by rw [hX, if_pos (hS.symm.trans hS1), tail_drop]
    have HLT := Lib.hid hlt
    have HX1 := Lib.hid hX1
    clear hS hS1 hX hX1 hlt HBR
    go_enter Tryz.func120, Tryz.ntmps120
    go_wp2_with fail
    refine HN.out.mono ?_
    rintro en w1 ⟨rfl, hb⟩
    have HB := Lib.hid (HH.out.bw (Below.refl _ _) hb)
    have h1 := HH.out.below hb
    have d1 := h1.cells.2.1
    have f1 : w1.frozen? ⟨r, 1, none⟩ = false := h1.blk.fz 1
    have hsi := h1.seti HLT.out
    have HB2 := Lib.hid (HB.out.trans hsi.2)
    have HC := Lib.hid (HLV.out _ (i + 1) nv ns e0 (s + 1) hsi.1 (Nat.le_refl _) HLT.out)
    obtain ⟨X2, hX2⟩ : ∃ X2, X2 = R (.lev 1) ((tks ts).drop (i + 1)) := ⟨_, rfl⟩
    rw [← hX2] at HC HX1
    clear hb h1 hsi hX2 HN HLV
    cases X2 with
    | bad l e =>
      have HXE := Lib.hid (show X = .bad l e from HX1.out)
      go_wp2_with fail
      refine HC.out.mono ?_
      rintro en w2 ⟨rfl, hb, hs⟩
      have HR := Lib.hid (And.intro (HB2.out.trans hb) hs)
      clear hb hs
      simp only [okb]
      go_wp2
      go_ret
      rw [HXE.out]
      exact ⟨rfl, HR.out.1, HR.out.2⟩
    | ok r2 a =>
      have HX2 := Lib.hid (show X = eat [41] r2 (fun r => .ok r a) from HX1.out)
      clear HX1
      go_wp2_with fail
      refine HC.out.mono ?_
      rintro en w2 ⟨rfl, hb, nv2, i2, hr2, h2⟩
      have HB3 := Lib.hid (HB2.out.trans hb)
      clear hb HC
      simp only [okb]
      by_cases hn2 : nx r2 = [41]
      · have HE := Lib.hid (rveats_yes B r w2 A c ts i2 nv2 _ e0 _ h2 HF.out ⟨#[41]⟩ (by rw [← hr2]; exact hn2) (by simp))
        have HXE := Lib.hid (show X = .ok ((tks ts).drop (i2 + 1)) a from by rw [HX2.out, eat_yes hn2, hr2, tail_drop])
        clear h2 hr2 hn2 HX2
        go_wp2_with fail
        refine HE.out.mono ?_
        rintro en w3 ⟨rfl, hb, hs⟩
        have HR := Lib.hid (And.intro (HB3.out.trans hb) (hs.less (s' := s) (by omega)))
        clear hb hs
        go_wp2
        go_ret
        rw [HXE.out]
        exact ⟨rfl, HR.out.1, nv2, i2 + 1, rfl, HR.out.2⟩
      · have HE := Lib.hid (rveats_no B r w2 A c ts i2 nv2 _ e0 _ h2 HF.out ⟨#[41]⟩ (by rw [← hr2]; exact hn2))
        have HXE := Lib.hid (show X = .bad r2.length 80 from HX2.out.trans (eat_not hn2))
        have HQ := Lib.hid (show r2.length = ts.length - i2 ∧ i2 ≤ ts.length from ⟨by rw [hr2, drop_len], h2.le⟩)
        clear h2 hr2 hn2 HX2
        go_wp2_with fail
        refine HE.out.mono ?_
        rintro en w3 ⟨rfl, hb, hs⟩
        have HR := Lib.hid (And.intro (HB3.out.trans hb) (hs.less (s' := 0) (Nat.zero_le _)))
        clear hb hs
        go_wp2
        go_ret
        rw [HXE.out]
        exact ⟨rfl, HR.out.1, nv2, _, by rw [HQ.out.1, show ts.length - (ts.length - i2) = i2 from by have := HQ.out.2; omega]; exact HR.out.2⟩
  rw [if_neg (fun e => hS1 (hS.trans e))] at hX
  by_cases hS2 : S = [105, 102]
  · rw [hS2] at HN
    have hlt := nx_lt (ts := ts) (i := i) (by rw [← hS, hS2]; simp)
    have hX1 : X = R .bra ((tks ts).drop i) := by rw [hX, if_pos (hS.symm.trans hS2)]
    have HC := Lib.hid (fun (w1 : World) (hb : Below w.heap.size w w1) => HBR.out w1 (HH.out.below hb) hlt)
    rw [← hX1] at HC
    clear hS hS1 hS2 hX hX1 hlt hts HLV HBR
    go_enter Tryz.func120, Tryz.ntmps120
    go_wp2_with fail
    refine HN.out.mono ?_
    rintro en w1 ⟨rfl, hb⟩
    have HB := Lib.hid (HH.out.bw (Below.refl _ _) hb)
    have HCC := Lib.hid (HC.out w1 hb)
    clear hb HN HC
    go_wp2_with fail
    refine HCC.out.mono ?_
    rintro en w2 ⟨rfl, hb2, hs2⟩
    have HR := Lib.hid (And.intro (HB.out.trans hb2) hs2)
    clear hb2 hs2
    go_wp2
    go_ret
    exact ⟨rfl, HR.out.1, HR.out.2⟩
  rw [if_neg (fun e => hS2 (hS.trans e))] at hX
  by_cases hS3 : S = [116, 114, 117, 101]
  · clear hS1 hS2
    rw [hS3] at HN
    have hlt := nx_lt (ts := ts) (i := i) (by rw [← hS, hS3]; simp)
    have HNX := HN
    have HC := Lib.hid (fun (w1 : World) (hb : Below w.heap.size w w1) => rvleaf_any B r w1 A c ts i nv ns e0 s (HH.out.below hb) hlt hts 3 0 [] 0 0 0 ⟨#[]⟩ rfl)
    have HXE := Lib.hid (show X = .ok ((tks ts).drop (i + 1)) .tt from by rw [hX, ← hS, hS3]; simp)
    clear hS hS3 hX hlt hts HLV HBR HN HF
    have HN := HNX
    clear HNX
    go_enter Tryz.func120, Tryz.ntmps120
    go_wp2_with fail
    refine HN.out.mono ?_
    rintro en w1 ⟨rfl, hb⟩
    have HB := Lib.hid (HH.out.bw (Below.refl _ _) hb)
    have HCC := Lib.hid (HC.out w1 hb)
    clear hb HN HC
    go_wp2_with fail
    refine HCC.out.mono ?_
    rintro en w2 ⟨rfl, hb2, nv2, h2⟩
    have HR := Lib.hid (And.intro (HB.out.trans hb2) h2)
    clear hb2 h2
    go_wp2
    go_ret
    rw [HXE.out]
    exact ⟨rfl, HR.out.1, nv2, i + 1, rfl, HR.out.2⟩
  rw [if_neg (fun e => hS3 (hS.trans e))] at hX
  by_cases hS4 : S = [102, 97, 108, 115, 101]
  · clear hS1 hS2 hS3
    rw [hS4] at HN
    have hlt := nx_lt (ts := ts) (i := i) (by rw [← hS, hS4]; simp)
    have HNX := HN
    have HC := Lib.hid (fun (w1 : World) (hb : Below w.heap.size w w1) => rvleaf_any B r w1 A c ts i nv ns e0 s (HH.out.below hb) hlt hts 4 0 [] 0 0 0 ⟨#[]⟩ rfl)
    have HXE := Lib.hid (show X = .ok ((tks ts).drop (i + 1)) .ff from by rw [hX, ← hS, hS4]; simp)
    clear hS hS4 hX hlt hts HLV HBR HN HF
    have HN := HNX
    clear HNX
    go_enter Tryz.func120, Tryz.ntmps120
    go_wp2_with fail
    refine HN.out.mono ?_
    rintro en w1 ⟨rfl, hb⟩
    have HB := Lib.hid (HH.out.bw (Below.refl _ _) hb)
    have HCC := Lib.hid (HC.out w1 hb)
    clear hb HN HC
    go_wp2_with fail
    refine HCC.out.mono ?_
    rintro en w2 ⟨rfl, hb2, nv2, h2⟩
    have HR := Lib.hid (And.intro (HB.out.trans hb2) h2)
    clear hb2 h2
    go_wp2
    go_ret
    rw [HXE.out]
    exact ⟨rfl, HR.out.1, nv2, i + 1, rfl, HR.out.2⟩
  rw [if_neg (fun e => hS4 (hS.trans e))] at hX
  obtain ⟨T, hT⟩ : ∃ T : ByteArray, T = ⟨S.toArray⟩ := ⟨_, rfl⟩
  rw [← hT] at HN
  have hTS : T.toList = S := by rw [Lib.toList_data, hT]
  have p1 : (T.toList == [40]) = false := beq_eq_false_iff_ne.2 (by rw [hTS]; exact hS1)
  have p2 : (T.toList == [105, 102]) = false := beq_eq_false_iff_ne.2 (by rw [hTS]; exact hS2)
  have p3 : (T.toList == [116, 114, 117, 101]) = false := beq_eq_false_iff_ne.2 (by rw [hTS]; exact hS3)
  have p4 : (T.toList == [102, 97, 108, 115, 101]) = false := beq_eq_false_iff_ne.2 (by rw [hTS]; exact hS4)
  clear hS1 hS2 hS3 hS4 HLV HBR
  by_cases hS0 : S = []
  · have HXE := Lib.hid (show X = .bad ((tks ts).drop i).length 80 from by rw [hX, if_neg (fun q => q.1 (hS.symm.trans hS0)), if_neg (fun q => q.1 (hS.symm.trans hS0))])
    have p5 : (T.toList != []) = false := by rw [hTS, hS0]; rfl
    have p6 : T.toList.isEmpty = true := by rw [hTS, hS0]; rfl
    clear hS hS0 hX hT hTS
    go_enter Tryz.func120, Tryz.ntmps120
    go_wp2_with fail
    refine HN.out.mono ?_
    rintro en w1 ⟨rfl, hb⟩
    have HB := Lib.hid (HH.out.bw (Below.refl _ _) hb)
    have h1 := HH.out.below hb
    have HS := Lib.hid (fun (n : Nat) => (h1.below (below_drewN (Below.refl _ _) n)).sete 80)
    have HBN := Lib.hid (fun (n : Nat) => HH.out.bw (Below.refl _ _) (below_drewN hb n))
    have d3 := h1.cells.2.2.2
    have f3 : w1.frozen? ⟨r, 3, none⟩ = false := h1.blk.fz 3
    have HQ := Lib.hid (show ((tks ts).drop i).length = ts.length - i ∧ i ≤ ts.length from ⟨drop_len ts i, h1.le⟩)
    clear hb HN h1
    go_wp2_with fail
    go_quiet (fail)
    go_wp2_with fail
    go_quiet (fail)
    go_wp2_with fail
    go_wp2
    go_ret
    rw [HXE.out]
    refine ⟨rfl, ?_, nv, ns, ?_⟩
    · first | exact (HBN.out _).trans (HS.out _).2 | (rw [World.drewN_drewN]; exact (HBN.out _).trans (HS.out _).2)
    · rw [HQ.out.1, show ts.length - (ts.length - i) = i from by have := HQ.out.2; omega]
      exact ((HS.out _).1).less (Nat.zero_le _)
  · have hne : nx ((tks ts).drop i) ≠ [] := by rw [← hS]; exact hS0
    have hlt := nx_lt hne
    have p5 : (T.toList != []) = true := by rw [hTS]; simpa using hS0
    have p6 : T.toList.isEmpty = false := by rw [hTS]; simpa using hS0
    have hil : (i : Int) < (ts.length : Int) := by omega
    have hcc : (ts.length : Int) ≤ (c : Int) := by have := HF.out.1; omega
    have hkd : kd ((tks ts).drop i) = ts[i].1 := by rw [tks_drop hlt]; rfl
    have hnx := nx_at hlt
    rw [← hS] at hnx
    have hxs := HF.out.2.2 _ (List.getElem_mem hlt)
    have hIS : Lx.is ts[i].2.1.data.toList = ts[i].1 ∧ S = ts[i].2.1.data.toList := by
      by_cases q : Lx.is ts[i].2.1.data.toList = ts[i].1
      · rw [if_pos q] at hnx; exact ⟨q, hnx⟩
      · rw [if_neg q] at hnx; exact absurd hnx hS0
    obtain ⟨g, o, hA, hg, t0, t1⟩ := HH.out.tcells hlt
    have hTX : T = ts[i].2.1 := by rw [hT, hIS.2]
    rw [← hTX] at hIS hxs
    rw [hkd, ← hS] at hX
    generalize ts[i].1 = K at *
    subst hA
    have HTC := Lib.hid (fun (w1 : World) (hb : Below w.heap.size w w1) => (hb.cell (p := ⟨g, o + i * 3, none⟩) hg).trans t0)
    have HT := Lib.hid (show T = ⟨S.toArray⟩ from hT)
    by_cases hK1 : K = 1
    · subst hK1
      have hdg := is_1 hIS.1
      have hZ : Zr T T := ⟨⟨by
        have : T.size ≠ 0 := fun e => hS0 (by rw [hIS.2]; exact List.length_eq_zero_iff.1 (by rw [← Lib.size_eq]; exact e))
        omega, hxs⟩, hdg.1, rfl⟩
      have HC := Lib.hid (fun (w1 : World) (hb : Below w.heap.size w w1) => rvnumber_any B r w1 _ c ts i nv ns e0 s (HH.out.below hb) hlt hts T hZ)
      rw [if_pos ⟨hS0, rfl⟩, tail_drop] at hX
      have hSS : S = T.data.toList := hIS.2
      rw [hSS] at hX
      have k1 : ((1 : Int) == 1) = true := rfl
      have HX := Lib.hid hX
      obtain ⟨V, hV⟩ : ∃ V, V = numv T.data.toList := ⟨_, rfl⟩
      rw [← hV] at HX HC
      have HQ := Lib.hid (show ((tks ts).drop i).length = ts.length - i ∧ i ≤ ts.length from ⟨drop_len ts i, by omega⟩)
      clear hX hS hS0 hT hTS hTX hIS hnx hkd hne hdg hZ hSS hV hxs t0 t1 HT
      go_enter Tryz.func120, Tryz.ntmps120
      go_wp2_with fail
      refine HN.out.mono ?_
      rintro en w1 ⟨rfl, hb⟩
      have HB := Lib.hid (HH.out.bw (Below.refl _ _) hb)
      have h1 := HH.out.below hb
      have t0 := HTC.out w1 hb
      have d0 := h1.cells.1
      have d1 := h1.cells.2.1
      have HCC := Lib.hid (fun (n : Nat) => HC.out (w1.drewN n) (below_drewN hb n))
      have HBN := Lib.hid (fun (n : Nat) => HH.out.bw (Below.refl _ _) (below_drewN hb n))
      clear hb HN h1 HC hlt
      go_wp2_with fail
      go_quiet (fail)
      cases V with
      | none =>
        go_wp2_with fail
        refine (HCC.out _).mono ?_
        rintro en w2 ⟨hb2, rfl, h2⟩
        have HR := Lib.hid (And.intro ((HBN.out _).trans hb2) (h2.less (s' := 0) (Nat.zero_le _)))
        clear hb2 h2
        go_wp2
        go_ret
        rw [HX.out]
        exact ⟨rfl, HR.out.1, nv, _, by rw [HQ.out.1, show ts.length - (ts.length - i) = i from by have := HQ.out.2; omega]; exact HR.out.2⟩
      | some v =>
        go_wp2_with fail
        refine (HCC.out _).mono ?_
        rintro en w2 ⟨hb2, rfl, nv2, h2⟩
        have HR := Lib.hid (And.intro ((HBN.out _).trans hb2) h2)
        clear hb2 h2
        go_wp2
        go_ret
        rw [HX.out]
        exact ⟨rfl, HR.out.1, nv2, i + 1, rfl, HR.out.2⟩
    · have hK1' : (K == 1) = false := beq_eq_false_iff_ne.2 hK1
      rw [if_neg (fun q => hK1 q.2)] at hX
      by_cases hK2 : K = 2
      · subst hK2
        have HC := Lib.hid (fun (w1 : World) (hb : Below w.heap.size w w1) => rvleaf_any B r w1 _ c ts i nv ns e0 s (HH.out.below hb) hlt hts 2 0 S 0 0 0 T hT)
        rw [if_pos ⟨hS0, rfl⟩, tail_drop] at hX
        have HX := Lib.hid hX
        clear hX hS hS0 hT hTS hTX hIS hnx hkd hne hxs t0 t1 HT hK1
        go_enter Tryz.func120, Tryz.ntmps120
        go_wp2_with fail
        refine HN.out.mono ?_
        rintro en w1 ⟨rfl, hb⟩
        have HB := Lib.hid (HH.out.bw (Below.refl _ _) hb)
        have h1 := HH.out.below hb
        have t0 := HTC.out w1 hb
        have d0 := h1.cells.1
        have d1 := h1.cells.2.1
        have HCC := Lib.hid (fun (n : Nat) => HC.out (w1.drewN n) (below_drewN hb n))
        have HBN := Lib.hid (fun (n : Nat) => HH.out.bw (Below.refl _ _) (below_drewN hb n))
        clear hb HN h1 HC hlt
        go_wp2_with fail
        go_quiet (fail)
        go_wp2_with fail
        go_quiet (fail)
        go_wp2_with fail
        refine (HCC.out _).mono ?_
        rintro en w2 ⟨rfl, hb2, nv2, h2⟩
        have HR := Lib.hid (And.intro ((HBN.out _).trans hb2) h2)
        clear hb2 h2
        go_wp2
        go_ret
        rw [HX.out]
        exact ⟨rfl, HR.out.1, nv2, i + 1, rfl, HR.out.2⟩
      · have hK2' : (K == 2) = false := beq_eq_false_iff_ne.2 hK2
        have HXE := Lib.hid (show X = .bad ((tks ts).drop i).length 80 from by rw [hX, if_neg (fun q => hK2 q.2)])
        clear hX hS hS0 hT hTS hTX hIS hnx hkd hne hxs t0 t1 HT hK1 hK2
        go_enter Tryz.func120, Tryz.ntmps120
        go_wp2_with fail
        refine HN.out.mono ?_
        rintro en w1 ⟨rfl, hb⟩
        have HB := Lib.hid (HH.out.bw (Below.refl _ _) hb)
        have h1 := HH.out.below hb
        have t0 := HTC.out w1 hb
        have d0 := h1.cells.1
        have d1 := h1.cells.2.1
        have d3 := h1.cells.2.2.2
        have f3 : w1.frozen? ⟨r, 3, none⟩ = false := h1.blk.fz 3
        have HS := Lib.hid (fun (n : Nat) => (h1.below (below_drewN (Below.refl _ _) n)).sete 80)
        have HQ := Lib.hid (show ((tks ts).drop i).length = ts.length - i ∧ i ≤ ts.length from ⟨drop_len ts i, h1.le⟩)
        have HBN := Lib.hid (fun (n : Nat) => HH.out.bw (Below.refl _ _) (below_drewN hb n))
        clear hb HN h1 hlt
        go_wp2_with fail
        go_quiet (fail)
        go_wp2_with fail
        go_quiet (fail)
        go_wp2_with fail
        go_wp2
        go_ret
        rw [HXE.out]
        refine ⟨rfl, ?_, nv, ns, ?_⟩
        · first | exact (HBN.out _).trans (HS.out _).2 | (rw [World.drewN_drewN]; exact (HBN.out _).trans (HS.out _).2)
        · rw [HQ.out.1, show ts.length - (ts.length - i) = i from by have := HQ.out.2; omega]
          exact ((HS.out _).1).less (Nat.zero_le _)
end Go.Proofs.YtmmdigeciphglaaGreatDoor
namespace Go.Proofs.YtmmdigeciphglaaGreatDoor
open Go.RowKit Ex
set_option maxHeartbeats 8000000 in
set_option maxRecDepth 100000 in
theorem rvbra_any (B r : Nat) (A : Option Addr) (c : Nat) (ts : List MTok) (hf : RvF c ts) (k : Nat) (IH : RvK B r A c ts k) (w : World) (i0 : Nat) (nv : Value) (ns : List Nd) (e0 : Int) (s : Nat) (h : RvB B r w A c ts i0 nv ns e0 s) (hi : i0 < ts.length) (hk : need .bra ((tks ts).drop i0) < k + 1) : Calls Tryz.prog 154 #[.pointer (some ⟨r, 0, none⟩)] w (RvA B r A c ts (R .bra ((tks ts).drop i0)) ns e0 s w) := by
  have HF := Lib.hid hf
  obtain ⟨X, hX⟩ : ∃ X, X = R .bra ((tks ts).drop i0) := ⟨_, rfl⟩
  rw [← hX]
  have hX0 := R_bra (ts := (tks ts).drop i0) (fun e => by have := drop_len ts i0; rw [e] at this; simp at this; omega)
  rw [← hX, tail_drop] at hX0
  have HX0 := Lib.hid hX0
  have HLV := Lib.hid (fun (w1 : World) (j : Nat) nv1 ns1 e1 s1 (h1 : RvB B r w1 A c ts j nv1 ns1 e1 s1) (hj : i0 + 1 ≤ j) => IH.lev 1 (by decide) 1 rfl w1 j nv1 ns1 e1 s1 h1 (by
    simp only [need, rank] at hk ⊢
    rw [drop_len] at hk ⊢
    omega))
  have HLA := Lib.hid (fun (w1 : World) (j : Nat) nv1 ns1 e1 s1 (h1 : RvB B r w1 A c ts j nv1 ns1 e1 s1) => rvlast_any B r w1 A c ts j nv1 ns1 e1 s1 h1 hf.2.1)
  have HPU := Lib.hid (fun (w1 : World) (j : Nat) nv1 ns1 e1 s1 (h1 : RvB B r w1 A c ts j nv1 ns1 e1 (s1 + 1)) nd => rvput_any B r w1 A c ts j nv1 ns1 e1 s1 h1 hf.2.1 nd)
  have d1 := h.cells.2.1
  have f1 : w.frozen? ⟨r, 1, none⟩ = false := h.blk.fz 1
  have hil : (i0 : Int) < 800000 := by have := hf.2.1; omega
  have hsi := h.seti hi
  have HB0 := Lib.hid hsi.2
  have HC0 := Lib.hid (HLV.out _ (i0 + 1) nv ns e0 (s + 1) hsi.1 (Nat.le_refl _))
  obtain ⟨i, hii⟩ : ∃ i, i = i0 + 1 := ⟨_, rfl⟩
  rw [← hii] at HC0 HLV hX0 HX0
  obtain ⟨X1, hX1⟩ : ∃ X1, X1 = R (.lev 1) ((tks ts).drop i) := ⟨_, rfl⟩
  rw [← hX1] at HX0 HC0
  have HLS := Lib.hid (fun (rr : List Tk) (x : E) (e : X1 = .ok rr x) => R_less (hX1.symm.trans e))
  have HII := Lib.hid hii
  clear hf hX hX0 IH hk h hi hsi hX1 hii
  go_enter Tryz.func154, Tryz.ntmps154
  go_wp2_with fail
  cases X1 with
  | bad l e =>
    have HXE := Lib.hid (show X = .bad l e from HX0.out)
    refine HC0.out.mono ?_
    rintro en w1 ⟨rfl, hb, hs⟩
    have HR := Lib.hid (And.intro (HB0.out.trans hb) hs)
    clear hb hs
    simp only [okb]
    go_wp2
    go_ret
    rw [HXE.out]
    exact ⟨rfl, HR.out.1, HR.out.2⟩
  | ok r1 a =>
    have h := HX0.out
    rw [then2_r] at h
    have HX1 := Lib.hid h
    clear h
    have HLS1 := Lib.hid (HLS.out r1 a rfl)
    clear HX0 HLS
    refine HC0.out.mono ?_
    rintro en w1 ⟨rfl, hb, nv1, i1, hr1, h1⟩
    have HB1 := Lib.hid (HB0.out.trans hb)
    clear hb HC0
    simp only [okb]
    by_cases hn1 : nx r1 = [116, 104, 101, 110]
    · have HIP := Lib.hid (Nat.le_refl i)
      have hnn : nx ((tks ts).drop i1) = (⟨#[116, 104, 101, 110]⟩ : ByteArray).data.toList := by rw [← hr1]; exact hn1
      have HLT := Lib.hid (nx_lt (ts := ts) (i := i1) (by rw [← hr1, hn1]; simp))
      have HE := Lib.hid (rveats_yes B r w1 A c ts i1 nv1 _ e0 _ h1 HF.out ⟨#[116, 104, 101, 110]⟩ hnn (by simp))
      have HY := Lib.hid (HX1.out.trans (eat_yes hn1))
      have HIJ := Lib.hid (show i ≤ i1 from by
        have h9 := HLS1.out
        have := h1.le
        rw [hr1, drop_len, drop_len] at h9
        simp only [one] at h9
        by_cases hi : i ≤ i1
        · exact hi
        · exfalso; omega)
      have HRJ := Lib.hid hr1
      clear hnn h1 hr1 hn1 HX1
      go_wp2_with fail
      refine HE.out.mono ?_
      rintro en w2 ⟨rfl, hb, hs⟩
      have HS2 := Lib.hid hs
      have HB2 := Lib.hid (HB1.out.trans hb)
      clear hb hs HE
      have q := HY.out
      try dsimp only at q
      rw [HRJ.out, tail_drop] at q
      have HXP := Lib.hid q
      clear q
      clear HY HRJ
      have HA := Lib.hid (HLA.out w2 (i1 + 1) nv1 _ e0 _ HS2.out)
      obtain ⟨z1, hz1⟩ : ∃ z : Int, z = ((ns ++ flat a ns.length).length : Int) - 1 := ⟨_, rfl⟩
      rw [← hz1] at HA
      have HZ1 := Lib.hid hz1
      clear hz1
      go_wp2_with fail
      refine HA.out.mono ?_
      rintro en wz ⟨rfl, rfl⟩
      clear HA
      have HC2 := Lib.hid (HLV.out w2 (i1 + 1) nv1 _ e0 _ HS2.out (by have h1 := HIJ.out; have h2 := HII.out; omega))
      obtain ⟨X2, hX2⟩ : ∃ X2, X2 = R (.lev 1) ((tks ts).drop (i1 + 1)) := ⟨_, rfl⟩
      rw [← hX2] at HXP HC2
      have HLS := Lib.hid (fun (rr : List Tk) (x : E) (e : X2 = .ok rr x) => R_less (hX2.symm.trans e))
      clear hX2
      cases X2 with
      | bad l e =>
        have HXE := Lib.hid (show X = .bad l e from HXP.out)
        go_wp2_with fail
        refine HC2.out.mono ?_
        rintro en w3 ⟨rfl, hb, hs⟩
        have HR := Lib.hid (And.intro (HB2.out.trans hb) hs)
        clear hb hs
        simp only [okb]
        go_wp2
        go_ret
        rw [HXE.out]
        exact ⟨rfl, HR.out.1, HR.out.2⟩
      | ok r3 b =>
        have h := HXP.out
        rw [then2_r] at h
        have HX3 := Lib.hid h
        clear h
        have HLS3 := Lib.hid (HLS.out r3 b rfl)
        have HIJ1 := Lib.hid (show i ≤ i1 from HIJ.out)
        clear HXP HLS HLS1 HIJ
        obtain ⟨p3, hp3⟩ : ∃ p3, p3 = i1 + 1 := ⟨_, rfl⟩
        rw [← hp3] at HLS3
        go_wp2_with fail
        refine HC2.out.mono ?_
        rintro en w3 ⟨rfl, hb, nv3, i3, hr3, h3⟩
        have HB3 := Lib.hid (HB2.out.trans hb)
        have HP3 := Lib.hid hp3
        clear hb HC2 hp3
        simp only [okb]
        by_cases hn3 : nx r3 = [101, 108, 115, 101]
        · have ip3 := 0
          have hnn : nx ((tks ts).drop i3) = (⟨#[101, 108, 115, 101]⟩ : ByteArray).data.toList := by rw [← hr3]; exact hn3
          have HLT := Lib.hid (nx_lt (ts := ts) (i := i3) (by rw [← hr3, hn3]; simp))
          have HE := Lib.hid (rveats_yes B r w3 A c ts i3 nv3 _ e0 _ h3 HF.out ⟨#[101, 108, 115, 101]⟩ hnn (by simp))
          have HY := Lib.hid (HX3.out.trans (eat_yes hn3))
          have HIJ := Lib.hid (show p3 ≤ i3 from by
            have h9 := HLS3.out
            have := h3.le
            rw [hr3, drop_len, drop_len] at h9
            simp only [one] at h9
            by_cases hi : p3 ≤ i3
            · exact hi
            · exfalso; omega)
          have HRJ := Lib.hid hr3
          clear hnn h3 hr3 hn3 HX3
          go_wp2_with fail
          refine HE.out.mono ?_
          rintro en w4 ⟨rfl, hb, hs⟩
          have HS4 := Lib.hid hs
          have HB4 := Lib.hid (HB3.out.trans hb)
          clear hb hs HE
          have q := HY.out
          try dsimp only at q
          rw [HRJ.out, tail_drop] at q
          have HXP := Lib.hid q
          clear q
          clear HY HRJ
          have HA := Lib.hid (HLA.out w4 (i3 + 1) nv3 _ e0 _ HS4.out)
          obtain ⟨z2, hz2⟩ : ∃ z : Int, z = ((ns ++ flat a ns.length ++ flat b (ns ++ flat a ns.length).length).length : Int) - 1 := ⟨_, rfl⟩
          rw [← hz2] at HA
          have HZ2 := Lib.hid hz2
          clear hz2
          go_wp2_with fail
          refine HA.out.mono ?_
          rintro en wz ⟨rfl, rfl⟩
          clear HA
          have HC4 := Lib.hid (HLV.out w4 (i3 + 1) nv3 _ e0 _ HS4.out (by have h1 := HIJ1.out; have h2 := HII.out; have h3 := HIJ.out; have h4 := HP3.out; omega))
          obtain ⟨X4, hX4⟩ : ∃ X4, X4 = R (.lev 1) ((tks ts).drop (i3 + 1)) := ⟨_, rfl⟩
          rw [← hX4] at HXP HC4
          clear hX4
          cases X4 with
          | bad l e =>
            have HXE := Lib.hid (show X = .bad l e from HXP.out)
            go_wp2_with fail
            refine HC4.out.mono ?_
            rintro en w5 ⟨rfl, hb, hs⟩
            have HR := Lib.hid (And.intro (HB4.out.trans hb) hs)
            clear hb hs
            simp only [okb]
            go_wp2
            go_ret
            rw [HXE.out]
            exact ⟨rfl, HR.out.1, HR.out.2⟩
          | ok r5 d =>
            have HX5 := Lib.hid (show X = eat [101, 110, 100, 105, 102] r5 (fun rr => .ok rr (.ite a b d)) from HXP.out)
            clear HXP
            go_wp2_with fail
            refine HC4.out.mono ?_
            rintro en w5 ⟨rfl, hb, nv5, i5, hr5, h5⟩
            have HB5 := Lib.hid (HB4.out.trans hb)
            clear hb HC4
            simp only [okb]
            by_cases hn5 : nx r5 = [101, 110, 100, 105, 102]
            · have hnn : nx ((tks ts).drop i5) = (⟨#[101, 110, 100, 105, 102]⟩ : ByteArray).data.toList := by rw [← hr5]; exact hn5
              have HE := Lib.hid (rveats_yes B r w5 A c ts i5 nv5 _ e0 _ h5 HF.out ⟨#[101, 110, 100, 105, 102]⟩ hnn (by simp))
              have HXE := Lib.hid (show X = .ok ((tks ts).drop (i5 + 1)) (.ite a b d) from by rw [HX5.out, eat_yes hn5, hr5, tail_drop])
              clear hnn h5 hr5 hn5 HX5
              go_wp2_with fail
              refine HE.out.mono ?_
              rintro en w6 ⟨rfl, hb, hs⟩
              have HB6 := Lib.hid (HB5.out.trans hb)
              have HS6 := Lib.hid (hs.less (s' := s + 1) (by omega))
              clear hb hs HE
              have HA := Lib.hid (HLA.out w6 (i5 + 1) nv5 _ e0 _ HS6.out)
              have HP := Lib.hid (HPU.out w6 (i5 + 1) nv5 _ e0 s HS6.out ⟨22, 0, [], ((ns ++ flat a ns.length).length : Int) - 1, ((ns ++ flat a ns.length ++ flat b (ns ++ flat a ns.length).length).length : Int) - 1, ((ns ++ flat a ns.length ++ flat b (ns ++ flat a ns.length).length ++ flat d (ns ++ flat a ns.length ++ flat b (ns ++ flat a ns.length).length).length).length : Int) - 1⟩)
              rw [flat_ite] at HP
              simp only at HP
              rw [← HZ2.out, ← HZ1.out] at HP
              generalize ((ns ++ flat a ns.length ++ flat b (ns ++ flat a ns.length).length ++ flat d (ns ++ flat a ns.length ++ flat b (ns ++ flat a ns.length).length).length).length : Int) - 1 = z3 at *
              go_wp2_with fail
              refine HA.out.mono ?_
              rintro en w7 ⟨rfl, rfl⟩
              go_wp2_with fail
              refine HP.out.mono ?_
              rintro en w8 ⟨rfl, hb8, nv8, h8⟩
              have HR := Lib.hid (And.intro (HB6.out.trans hb8) h8)
              clear hb8 h8
              go_wp2
              go_ret
              rw [HXE.out]
              exact ⟨rfl, HR.out.1, nv8, i5 + 1, rfl, HR.out.2⟩
            ·
              have hnn : nx ((tks ts).drop i5) ≠ (⟨#[101, 110, 100, 105, 102]⟩ : ByteArray).data.toList := by rw [← hr5]; exact hn5
              have HE := Lib.hid (rveats_no B r w5 A c ts i5 nv5 _ e0 _ h5 HF.out ⟨#[101, 110, 100, 105, 102]⟩ hnn)
              have HXE := Lib.hid (show X = .bad r5.length 80 from HX5.out.trans (eat_not hn5))
              have HQ := Lib.hid (show r5.length = ts.length - i5 ∧ i5 ≤ ts.length from ⟨by rw [hr5, drop_len], h5.le⟩)
              clear hnn h5 hr5 hn5
              go_wp2_with fail
              refine HE.out.mono ?_
              rintro en w9 ⟨rfl, hb, hs⟩
              have HR := Lib.hid (And.intro (HB5.out.trans hb) (hs.less (Nat.zero_le _)))
              clear hb hs
              go_wp2
              go_ret
              rw [HXE.out]
              exact ⟨rfl, HR.out.1, nv5, _, by rw [HQ.out.1, show ts.length - (ts.length - i5) = i5 from by have := HQ.out.2; omega]; exact HR.out.2⟩
        ·
          have hnn : nx ((tks ts).drop i3) ≠ (⟨#[101, 108, 115, 101]⟩ : ByteArray).data.toList := by rw [← hr3]; exact hn3
          have HE := Lib.hid (rveats_no B r w3 A c ts i3 nv3 _ e0 _ h3 HF.out ⟨#[101, 108, 115, 101]⟩ hnn)
          have HXE := Lib.hid (show X = .bad r3.length 80 from HX3.out.trans (eat_not hn3))
          have HQ := Lib.hid (show r3.length = ts.length - i3 ∧ i3 ≤ ts.length from ⟨by rw [hr3, drop_len], h3.le⟩)
          clear hnn h3 hr3 hn3
          go_wp2_with fail
          refine HE.out.mono ?_
          rintro en w9 ⟨rfl, hb, hs⟩
          have HR := Lib.hid (And.intro (HB3.out.trans hb) (hs.less (Nat.zero_le _)))
          clear hb hs
          go_wp2
          go_ret
          rw [HXE.out]
          exact ⟨rfl, HR.out.1, nv3, _, by rw [HQ.out.1, show ts.length - (ts.length - i3) = i3 from by have := HQ.out.2; omega]; exact HR.out.2⟩
    ·
      have hnn : nx ((tks ts).drop i1) ≠ (⟨#[116, 104, 101, 110]⟩ : ByteArray).data.toList := by rw [← hr1]; exact hn1
      have HE := Lib.hid (rveats_no B r w1 A c ts i1 nv1 _ e0 _ h1 HF.out ⟨#[116, 104, 101, 110]⟩ hnn)
      have HXE := Lib.hid (show X = .bad r1.length 80 from HX1.out.trans (eat_not hn1))
      have HQ := Lib.hid (show r1.length = ts.length - i1 ∧ i1 ≤ ts.length from ⟨by rw [hr1, drop_len], h1.le⟩)
      clear hnn h1 hr1 hn1
      go_wp2_with fail
      refine HE.out.mono ?_
      rintro en w9 ⟨rfl, hb, hs⟩
      have HR := Lib.hid (And.intro (HB1.out.trans hb) (hs.less (Nat.zero_le _)))
      clear hb hs
      go_wp2
      go_ret
      rw [HXE.out]
      exact ⟨rfl, HR.out.1, nv1, _, by rw [HQ.out.1, show ts.length - (ts.length - i1) = i1 from by have := HQ.out.2; omega]; exact HR.out.2⟩
end Go.Proofs.YtmmdigeciphglaaGreatDoor
namespace Go.Proofs.YtmmdigeciphglaaGreatDoor
open Go.RowKit Ex
theorem rv_all (B r : Nat) (A : Option Addr) (c : Nat) (ts : List MTok) (hf : RvF c ts) : ∀ k, RvK B r A c ts k
  | 0 => ⟨fun _ _ _ _ _ _ _ _ _ _ _ h => absurd h (Nat.not_lt_zero _), fun _ _ _ _ _ _ _ h => absurd h (Nat.not_lt_zero _), fun _ _ _ _ _ _ _ h => absurd h (Nat.not_lt_zero _), fun _ _ _ _ _ _ _ _ h => absurd h (Nat.not_lt_zero _)⟩
  | k + 1 => by
    have IH := rv_all B r A c ts hf k
    refine ⟨fun n hn z hz => ?_, rvuna_any B r A c ts hf k IH, rvpri_any B r A c ts hf k IH, fun w i nv ns e0 s h hi hk => rvbra_any B r A c ts hf k IH w i nv ns e0 s h hi hk⟩
    subst hz
    by_cases h8 : n ≤ 8
    · exact rvlev_any B r A c ts hf k IH n h8
    · by_cases h9 : n = 9
      · subst h9
        exact rvlev9_any B r A c ts k IH
      · obtain rfl : n = 10 := by omega
        exact rvlev10_any B r A c ts k IH
theorem own_rnd {w : World} {B n c : Nat} {A : Option Addr} {l : List Nd} (h : w.ownsRow B 104 6 (.slice A n c) n (l.flatMap ndV)) (hn : n = l.length) : NdR w w.heap.size A l ∧ n ≤ c ∧ c ≤ maxLen := by
  obtain ⟨A', c', e, h1, h2, h3⟩ := own_sliced h
  injection e with e1 _ e3
  subst e1 e3
  refine ⟨fun j hj => ?_, h1, h2⟩
  obtain ⟨g, rfl, _, hg⟩ := h3 (by omega)
  have q := fun (k : Nat) (u : Value) (hk : k < 6) (hu : (ndV l[j])[k]? = some u) => own_cell h ((fl_at (f := ndV) (k := 6) (fun _ => rfl) l j k hj hk).trans hu)
  refine ⟨g, 0, rfl, hg, ?_, ?_, ?_, ?_, ?_, ?_⟩
  · simpa using q 0 _ (by omega) rfl
  · simpa using q 1 _ (by omega) rfl
  · simpa using q 2 _ (by omega) rfl
  · simpa using q 3 _ (by omega) rfl
  · simpa using q 4 _ (by omega) rfl
  · simpa using q 5 _ (by omega) rfl
def RfrP (X : List Nd × Nat × Int) (w : World) (e : Ending) (w' : World) : Prop :=
  ∃ A c, w'.ownsRow w.heap.size 104 6 (.slice A X.1.length c) X.1.length (X.1.flatMap ndV) ∧ e = .returned (.tuple #[.slice A X.1.length c, .int .i64 (X.2.1 : Nat), .int .i64 X.2.2]) ∧ Below w.heap.size w w'
theorem RfrP.none_ {w w' : World} {X : List Nd × Nat × Int} {n : Nat} {e : Int} (hX : X = ([], n, e)) (hb : Below w.heap.size w w') : RfrP X w (.returned (.tuple #[.slice none 0 0, .int .i64 (n : Int), .int .i64 e])) w' := by
  subst hX; exact ⟨none, 0, World.ownsRow_nil _ _ _ _, rfl, hb⟩
theorem read_fit {ts r : List Tk} {x : E} (h : R (.lev 1) ts = .ok r x) : wr x ∧ small x ∧ Ex.sz x ≤ ts.length := by
  have h4 : Fine (.lev 1) x := rd_fine _ _ _ _ _ h
  have h5 : (pr x 1).length + r.length ≤ ts.length := rd_long _ (.lev 1) _ _ _ (by simp [okm]) h
  have h6 := sz_pr x 1
  exact ⟨h4.1, h4.2, by omega⟩
set_option maxHeartbeats 4000000 in
set_option maxRecDepth 100000 in
theorem rfrom_any (w : World) (A : Option Addr) (c : Nat) (ts : List MTok) (ht : ToR w w.heap.size A ts) (hf : RvF c ts) :
    Calls Tryz.prog 66 #[.slice A ts.length c] w (RfrP (frm (tks ts)) w) := by
  obtain ⟨W1, hW1⟩ : ∃ W1, W1 = w.alloc (.cells #[.slice A ts.length c, .int .i64 0, .slice none 0 0, .int .i64 0] 184) := ⟨_, rfl⟩
  have hb1 : Below w.heap.size w W1 := by rw [hW1]; exact (Below.refl _ _).alloc (Nat.le_refl _) _
  have h1 : RvB w.heap.size w.heap.size W1 A c ts 0 (.slice none 0 0) [] 0 0 := ⟨Nat.le_refl _, by rw [hW1]; exact IsBlk.new _ _ _, World.ownsRow_nil _ _ _ _, ht.below hb1, Nat.zero_le _, Nat.le_refl _⟩
  have HL := Lib.hid ((rv_all w.heap.size w.heap.size A c ts hf (need (.lev 1) (tks ts) + 1)).lev 1 (by decide) 1 rfl W1 0 _ [] 0 0 h1 (by rw [List.drop_zero]; exact Nat.lt_succ_self _))
  rw [List.drop_zero] at HL
  obtain ⟨X, hX⟩ : ∃ X, X = frm (tks ts) := ⟨_, rfl⟩
  rw [← hX]
  unfold frm at hX
  have HRF := Lib.hid (fun r x => read_fit (ts := tks ts) (r := r) (x := x))
  have hlen := tks_len ts
  have hts := hf.2.1
  generalize R (.lev 1) (tks ts) = Y at *
  rw [hlen] at hX
  have HB1 := Lib.hid hb1
  have HW1 := Lib.hid hW1
  clear hb1 hW1 h1 ht hf hlen
  cases Y with
  | bad l e =>
    have HX := Lib.hid (show X = ([], ts.length - l, e) from hX)
    clear hX
    go_enter Tryz.func66, Tryz.ntmps66
    go_wp2_with fail
    rw [← HW1.out]
    refine HL.out.mono ?_
    rintro en w2 ⟨rfl, hb, nv, ns, hs⟩
    have d1 := hs.cells.2.1
    have d3 := hs.cells.2.2.2
    have HB2 := Lib.hid (HB1.out.trans hb)
    clear hb hs
    simp only [okb]
    generalize ts.length - l = p at *
    go_wp2_with fail
    go_quiet (fail)
    go_wp2
    go_ret3
    exact RfrP.none_ HX.out (below_drewN HB2.out _)
  | ok r x =>
    obtain ⟨f1, f2, f3⟩ := HRF.out r x rfl
    have hfl := flat_fine x 0 f1 f2
    have HFT := Lib.hid (show FitR (flat x 0) from ⟨by rw [flat_len]; have := tks_len ts; omega, fun n hn => ⟨by have := (hfl n hn).1.1; omega, (hfl n hn).1.2⟩⟩)
    have HDP := Lib.hid (dep_flat f1)
    have HX0 := Lib.hid (show X = if 64 < dp x then ([], 0, 3) else (flat x 0, ts.length - r.length, 0) from hX)
    clear f1 f2 f3 hfl HRF hX
    go_enter Tryz.func66, Tryz.ntmps66
    go_wp2_with fail
    rw [← HW1.out]
    refine HL.out.mono ?_
    rintro en w2 ⟨rfl, hb, nv, i2, hr2, hs⟩
    have hs : RvB w.heap.size w.heap.size w2 A c ts i2 nv (flat x 0) 0 0 := by simpa using hs
    obtain ⟨A2, c2, rfl, _, _, _⟩ := own_sliced hs.own
    have ho := own_rnd hs.own rfl
    have HD := Lib.hid (rDepth_any A2 c2 (flat x 0) ho.2.1 HFT.out w2 ho.1)
    rw [HDP.out] at HD
    have HS := Lib.hid hs
    have d2 := hs.cells.2.2.1
    have HB2 := Lib.hid (HB1.out.trans hb)
    have HR2 := Lib.hid (show ts.length - r.length = i2 from by rw [hr2, drop_len]; have := hs.le; omega)
    have hX := HX0.out
    rw [HR2.out] at hX
    have HX := Lib.hid hX
    clear hb hs hr2 ho hX HL HX0
    simp only [okb]
    obtain ⟨m, hm⟩ : ∃ m, m = (flat x 0).length := ⟨_, rfl⟩
    have HM := Lib.hid hm
    rw [← hm] at HD d2
    clear hm
    go_wp2_with fail
    refine HD.out.mono ?_
    rintro en w3 ⟨rfl, hb3⟩
    have H3 := Lib.hid (HS.out.below hb3)
    have HB3 := Lib.hid (HS.out.bw HB2.out hb3)
    clear hb3 HD d2
    by_cases h64 : 64 < dp x
    · have h64' : (dp x : Int) > 64 := by omega
      have HXE := Lib.hid (HX.out.trans (if_pos h64))
      generalize dp x = D at *
      clear h64
      go_wp2
      go_ret3
      exact RfrP.none_ HXE.out HB3.out
    · have h64' : ¬ (dp x : Int) > 64 := by omega
      have HXE := Lib.hid (HX.out.trans (if_neg h64))
      have d2 := H3.out.cells.2.2.1
      have d1 := H3.out.cells.2.1
      rw [← HM.out] at d2
      generalize dp x = D at *
      clear h64
      go_wp2_with fail
      go_quiet (fail)
      go_wp2
      go_ret3
      rw [HXE.out]
      refine ⟨A2, c2, ?_, ?_, below_drewN HB3.out _⟩
      · exact own_below H3.out.own (below_drewN (Below.refl _ _) _)
      · rw [HM.out]; rfl
theorem own_tor7 {w : World} {B n c : Nat} {A : Option Addr} {l : List Lx.T} (h : w.ownsRow B 88 3 (.slice A n c) n (l.flatMap tkV)) (hn : n = l.length) : ToR w w.heap.size A (l.map mtk) ∧ n ≤ c := by
  obtain ⟨h1, h2, h3⟩ := own_rd h hn
  refine ⟨fun j hj => ?_, h2⟩
  rw [List.length_map] at hj
  obtain ⟨g, o, hA, hg, hc⟩ := h1 (by omega)
  obtain ⟨c0, c1, c2⟩ := hc j hj
  refine ⟨g, o, hA, hg, ?_⟩
  rw [List.getElem_map]
  exact ⟨c0, c1, c2⟩
end Go.Proofs.YtmmdigeciphglaaGreatDoor
