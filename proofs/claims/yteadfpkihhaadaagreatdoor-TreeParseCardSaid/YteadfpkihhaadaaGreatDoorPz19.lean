/- Facts and walks for the statement. -/
import Derived.Test.YteadfpkihhaadaaGreatDoorPz18
namespace Go.Proofs.YteadfpkihhaadaaGreatDoor
open Go.RowKit
structure GC (w : World) (r : Nat) (m : Gm) (An : Option Addr) (cn : Nat) (Ao : Option Addr) (co : Nat) : Prop where
 nv : m.nv = .slice An m.ns.length cn
 ov : m.ov = .slice Ao m.es.length co
 c0 : w.cell? ⟨r, 0, none⟩ = some (.slice An m.ns.length cn)
 c1 : w.cell? ⟨r, 1, none⟩ = some (.slice Ao m.es.length co)
 ln : m.ns.length ≤ cn
 lo : m.es.length ≤ co
 mn : cn ≤ maxLen
 mo : co ≤ maxLen
 an : 0 < m.ns.length → ∃ g, An = some ⟨g, 0, none⟩
 ao : 0 < m.es.length → ∃ g, Ao = some ⟨g, 0, none⟩
theorem GS.cells {B : Nat} {w : World} {r : Nat} {m : Gm} (h : GS B w r m) : ∃ An cn Ao co, GC w r m An cn Ao co := by
 have h0 : w.cell? ⟨r, 0, none⟩ = some m.nv := h.blk.at_ 0
 have h1 : w.cell? ⟨r, 1, none⟩ = some m.ov := h.blk.at_ 1
 rcases own_form h.nown with ⟨e1, e2⟩ | ⟨g, c, e1, _, _, e4, e5⟩
 ·rcases own_form h.oown with ⟨f1, f2⟩ | ⟨g', c', f1, _, _, f4, f5⟩
  ·refine ⟨none, 0, none, 0, ?_, ?_, ?_, ?_, by omega, by omega, Nat.zero_le _, Nat.zero_le _, by omega, by omega⟩
   ·rw [e1, e2]
   ·rw [f1, f2]
   ·rw [h0, e1, e2]
   ·rw [h1, f1, f2]
  ·refine ⟨none, 0, _, _, ?_, f1, ?_, by rw [h1, f1], by omega, f4, Nat.zero_le _, f5, by omega, fun _ => ⟨_, rfl⟩⟩
   ·rw [e1, e2]
   ·rw [h0, e1, e2]
 ·rcases own_form h.oown with ⟨f1, f2⟩ | ⟨g', c', f1, _, _, f4, f5⟩
  ·refine ⟨_, _, none, 0, e1, ?_, by rw [h0, e1], ?_, e4, by omega, e5, Nat.zero_le _, fun _ => ⟨_, rfl⟩, by omega⟩
   ·rw [f1, f2]
   ·rw [h1, f1, f2]
  ·exact ⟨_, _, _, _, e1, f1, by rw [h0, e1], by rw [h1, f1], e4, f4, e5, f5, fun _ => ⟨_, rfl⟩, fun _ => ⟨_, rfl⟩⟩
theorem isEmpty_int {α : Type} (l : List α) : ((l.length : Int) == 0) = l.isEmpty := by
 cases l with
 | nil => rfl
 | cons a l => apply beq_eq_false_iff_ne.2; simp only [List.length_cons]; omega
set_option maxHeartbeats 2000000 in
theorem outside_any (B : Nat) (w : World) (r : Nat) (m : Gm) (h : GS B w r m) :
  Calls Tryz.prog 67 #[.pointer (some ⟨r, 0, none⟩)] w fun e w' => e = .returned (.bool m.es.isEmpty) ∧ Below w.heap.size w w' := by
 obtain ⟨An, cn, Ao, co, hc⟩ := h.cells
 have c1 := hc.c1
 have hE := isEmpty_int m.es
 have HE := Lib.hid hE
 clear h hc hE
 go_enter Tryz.func67, Tryz.ntmps67
 go_wp2
 go_ret
 exact ⟨by rw [← HE.out]; rfl, Below.refl _ _⟩
set_option maxHeartbeats 2000000 in
theorem deep_any (B : Nat) (w : World) (r : Nat) (m : Gm) (h : GS B w r m) :
  Calls Tryz.prog 34 #[.pointer (some ⟨r, 0, none⟩)] w fun e w' => e = .returned (.bool (decide (64 ≤ m.es.length))) ∧ Below w.heap.size w w' := by
 obtain ⟨An, cn, Ao, co, hc⟩ := h.cells
 have c1 := hc.c1
 clear h hc
 by_cases hd : 64 ≤ m.es.length
 ·have hd' : (64 : Int) ≤ (m.es.length : Int) := by omega
  rw [decide_eq_true hd]
  clear hd
  go_enter Tryz.func34, Tryz.ntmps34
  go_wp2
  go_ret
  exact ⟨rfl, Below.refl _ _⟩
 ·have hd' : ¬ (64 : Int) ≤ (m.es.length : Int) := by omega
  rw [decide_eq_false hd]
  clear hd
  go_enter Tryz.func34, Tryz.ntmps34
  go_wp2
  go_ret
  exact ⟨rfl, Below.refl _ _⟩
set_option maxHeartbeats 2000000 in
theorem full_any (w : World) (A : Option Addr) (n c : Nat) :
  Calls Tryz.prog 33 #[.agg #[.slice A n c]] w fun e w' => e = .returned (.bool (decide (4096 ≤ n))) ∧ Below w.heap.size w w' := by
 have hb : Below w.heap.size w (w.alloc (.cells #[.slice A n c] 71)) := (Below.refl _ _).alloc (Nat.le_refl _) _
 have HB := Lib.hid hb
 clear hb
 by_cases hd : 4096 ≤ n
 ·have hd' : (4096 : Int) ≤ (n : Int) := by omega
  rw [decide_eq_true hd]
  clear hd
  go_enter Tryz.func33, Tryz.ntmps33
  go_wp2
  go_ret
  exact ⟨rfl, HB.out⟩
 ·have hd' : ¬ (4096 : Int) ≤ (n : Int) := by omega
  rw [decide_eq_false hd]
  clear hd
  go_enter Tryz.func33, Tryz.ntmps33
  go_wp2
  go_ret
  exact ⟨rfl, HB.out⟩
set_option maxHeartbeats 2000000 in
theorem has_any (w : World) (A : Option Addr) (n c : Nat) (i : Int) :
  Calls Tryz.prog 43 #[.agg #[.slice A n c], .int .i64 i] w fun e w' => e = .returned (.bool (decide (0 ≤ i ∧ i < n))) ∧ Below w.heap.size w w' := by
 have hb : Below w.heap.size w (w.alloc (.cells #[.slice A n c] 71)) := (Below.refl _ _).alloc (Nat.le_refl _) _
 have HB := Lib.hid hb
 clear hb
 by_cases h0 : 0 ≤ i
 ·by_cases h1 : i < (n : Int)
  ·rw [decide_eq_true ⟨h0, h1⟩]
   go_enter Tryz.func43, Tryz.ntmps43
   go_wp2
   go_ret
   exact ⟨rfl, HB.out⟩
  ·rw [decide_eq_false (fun h => h1 h.2)]
   go_enter Tryz.func43, Tryz.ntmps43
   go_wp2
   go_ret
   exact ⟨rfl, HB.out⟩
 ·rw [decide_eq_false (fun h => h0 h.1)]
  go_enter Tryz.func43, Tryz.ntmps43
  go_wp2
  go_ret
  exact ⟨rfl, HB.out⟩
set_option maxHeartbeats 2000000 in
theorem behind_any (B : Nat) (w : World) (r : Nat) (m : Gm) (h : GS B w r m) :
  Calls Tryz.prog 30 #[.pointer (some ⟨r, 0, none⟩)] w fun e w' => e = .returned (.bool (Tr.behind m.g)) ∧ Below w.heap.size w w' := by
 obtain ⟨An, cn, Ao, co, hc⟩ := h.cells
 have c0 := hc.c0
 have HC := Lib.hid (fun w' (hb : Below w.heap.size w w') => (hb.cell (p := ⟨r, 0, none⟩) h.blk.lt).trans c0)
 have HO := Lib.hid (outside_any B w r m h)
 have HH := Lib.hid (fun w' => has_any w' An m.ns.length cn 0)
 have HR := Lib.hid (show Tr.behind m.g = (m.es.isEmpty && !m.ns.isEmpty) from by unfold Tr.behind Gm.g; simp [List.isEmpty_map])
 have HD := Lib.hid (show decide ((0 : Int) ≤ 0 ∧ (0 : Int) < (m.ns.length : Int)) = !m.ns.isEmpty from by cases m.ns <;> simp <;> omega)
 obtain ⟨R, hR⟩ : ∃ R, R = Tr.behind m.g := ⟨_, rfl⟩
 rw [← hR] at HR ⊢
 rw [HD.out] at HH
 clear h hc c0 hR
 generalize m.es.isEmpty = b at *
 go_enter Tryz.func30, Tryz.ntmps30
 go_wp2_with fail
 refine HO.out.mono ?_
 rintro e w1 ⟨rfl, h1⟩
 have c0 := HC.out w1 h1
 have B1 := Lib.hid h1
 clear h1
 cases b with
 | true =>
  go_wp2_with fail
  refine (HH.out w1).mono ?_
  rintro e w2 ⟨rfl, h2⟩
  have B2 := Lib.hid (B1.out.trans (h2.mono B1.out.size))
  clear h2
  go_wp2
  go_ret
  exact ⟨by rw [HR.out]; rfl, B2.out⟩
 | false =>
  go_wp2
  go_ret
  exact ⟨by rw [HR.out]; rfl, B1.out⟩
end Go.Proofs.YteadfpkihhaadaaGreatDoor
namespace Go.Proofs.YteadfpkihhaadaaGreatDoor
open Go.RowKit
set_option maxHeartbeats 2000000 in
theorem inner_none (B : Nat) (w : World) (r : Nat) (m : Gm) (h : GS B w r m) (he : m.es = []) :
  Calls Tryz.prog 64 #[.pointer (some ⟨r, 0, none⟩)] w fun e w' => ∃ p, e = .returned (.pointer (some ⟨p, 0, none⟩)) ∧ w.heap.size ≤ p ∧ IsBlk w' p 120 #[.int .i64 (-1), .int .i64 (-1), .slice none 0 0] ∧ Below w.heap.size w w' := by
 have HO := Lib.hid (outside_any B w r m h)
 rw [he] at HO
 clear h he
 go_enter Tryz.func64, Tryz.ntmps64
 go_wp2_with fail
 refine HO.out.mono ?_
 rintro e w1 ⟨rfl, h1⟩
 have B1 := Lib.hid h1
 clear h1
 go_wp2
 go_ret
 exact ⟨_, rfl, B1.out.size, IsBlk.new _ _ _, B1.out.alloc B1.out.size _⟩
set_option maxHeartbeats 2000000 in
theorem inner_some (B : Nat) (w : World) (r : Nat) (m : Gm) (h : GS B w r m) {l : List (Tr.E × Value)} {x : Tr.E × Value} {og n cap : Nat} (he : m.es = l ++ [x]) (hv : m.ov = .slice (some ⟨og, 0, none⟩) n cap) :
  Calls Tryz.prog 64 #[.pointer (some ⟨r, 0, none⟩)] w fun e w' => e = .returned (.pointer (some ⟨og, l.length * 3, none⟩)) ∧ Below w.heap.size w w' := by
 have HO := Lib.hid (outside_any B w r m h)
 have hb : (l ++ [x]).isEmpty = false := by simp
 rw [he, hb] at HO
 have hrow := h.oown
 rw [hv, he] at hrow
 have hln : n = l.length + 1 := by
  rcases own_form hrow with ⟨e1, _⟩ | ⟨g, c, e1, _⟩
  ·cases e1
  ·injection e1 with _ e2 _
   simp at e2; omega
 subst hln
 have hcap : l.length + 1 ≤ cap ∧ cap ≤ maxLen := by
  rcases own_form hrow with ⟨e1, _⟩ | ⟨g, c, e1, _, _, e4, e5⟩
  ·cases e1
  ·injection e1 with _ e2 e3
   simp at e4; subst e3; exact ⟨e4, e5⟩
 have c1 : w.cell? ⟨r, 1, none⟩ = some (.slice (some ⟨og, 0, none⟩) (l.length + 1) cap) := by rw [← hv]; exact h.blk.at_ 1
 have HC := Lib.hid (fun w' (hb : Below w.heap.size w w') => (hb.cell (p := ⟨r, 1, none⟩) h.blk.lt).trans c1)
 have hm := hcap.2
 have hi1 : (0 : Int) ≤ ((l.length + 1 : Nat) : Int) - 1 := by omega
 have hi2 : ((l.length + 1 : Nat) : Int) - 1 < ((l.length + 1 : Nat) : Int) := by omega
 have hi3 : IntKind.i64.wrap (((l.length + 1 : Nat) : Int) - 1) = ((l.length + 1 : Nat) : Int) - 1 := by unfold maxLen at hm; rw [IntKind.wrap_i64]; omega
 have hi4 : (((l.length + 1 : Nat) : Int) - 1).toNat = l.length := by omega
 obtain ⟨N, hN⟩ : ∃ N, N = l.length + 1 := ⟨_, rfl⟩
 rw [← hN] at hi1 hi2 hi3 hi4 HC
 clear h he hrow hcap c1 hm hN hb
 go_enter Tryz.func64, Tryz.ntmps64
 go_wp2_with fail
 refine HO.out.mono ?_
 rintro e w1 ⟨rfl, h1⟩
 have c1 := HC.out w1 h1
 have B1 := Lib.hid h1
 clear h1
 go_wp2_with fail
 go_quiet (fail)
 go_wp2
 go_ret
 exact ⟨rfl, below_drewN B1.out _⟩
set_option maxHeartbeats 2000000 in
theorem close_any (B : Nat) (w : World) (r : Nat) (m : Gm) (h : GS B w r m) {l : List (Tr.E × Value)} {x : Tr.E × Value} {og n cap : Nat} (he : m.es = l ++ [x]) (hv : m.ov = .slice (some ⟨og, 0, none⟩) n cap) :
  Calls Tryz.prog 65 #[.pointer (some ⟨r, 0, none⟩)] w fun e w' => e = .returned (.tuple #[]) ∧ GTo B r w m w' { m with ov := .slice (some ⟨og, 0, none⟩) l.length cap, es := l } := by
 have hrow := h.oown
 rw [hv, he] at hrow
 have hln : n = l.length + 1 := by
  rcases own_form hrow with ⟨e1, _⟩ | ⟨g, c, e1, _⟩
  ·cases e1
  ·injection e1 with _ e2 _
   simp at e2; omega
 subst hln
 have hcap : l.length + 1 ≤ cap ∧ cap ≤ maxLen := by
  rcases own_form hrow with ⟨e1, _⟩ | ⟨g, c, e1, _, _, e4, e5⟩
  ·cases e1
  ·injection e1 with _ e2 e3
   simp at e4; subst e3; exact ⟨e4, e5⟩
 have c1 : w.cell? ⟨r, 1, none⟩ = some (.slice (some ⟨og, 0, none⟩) (l.length + 1) cap) := by rw [← hv]; exact h.blk.at_ 1
 have f1 : w.frozen? ⟨r, 1, none⟩ = false := h.blk.fz 1
 have HG := Lib.hid (GTo.pop h hv he)
 have hm := hcap.2
 have hi1 : (0 : Int) ≤ ((l.length + 1 : Nat) : Int) - 1 := by omega
 have hi2 : ((l.length + 1 : Nat) : Int) - 1 ≤ (cap : Int) := by omega
 have hi3 : IntKind.i64.wrap (((l.length + 1 : Nat) : Int) - 1) = ((l.length + 1 : Nat) : Int) - 1 := by unfold maxLen at hm; rw [IntKind.wrap_i64]; omega
 have hi4 : (((l.length + 1 : Nat) : Int) - 1).toNat = l.length := by omega
 obtain ⟨N, hN⟩ : ∃ N, N = l.length + 1 := ⟨_, rfl⟩
 rw [← hN] at hi1 hi2 hi3 hi4 c1
 clear h he hrow hcap hm hN hv
 go_enter Tryz.func65, Tryz.ntmps65
 go_wp2_with fail
 go_region
 go_wp2
 go_end0
 exact ⟨rfl, HG.out.on (by first | exact (Below.refl _ _).drew | exact below_drewN (Below.refl _ _) _ | exact Below.refl _ _)⟩
end Go.Proofs.YteadfpkihhaadaaGreatDoor
