/- Layer 7's program: the closures of package lex that either hands back, over two or three others. Conditions: what was captured stands. -/
import Derived.Test.YtdcjpinbflmikaaGreatDoorLxWalk1
namespace Go.Proofs.YtdcjpinbflmikaaGreatDoor
open Go.RowKit

abbrev fBt (b1 b2 : Nat) : Value := .func (.func 214) #[] #[.pointer (some ⟨b1, 0, none⟩), .pointer (some ⟨b2, 0, none⟩)]
abbrev fAm (b : Nat) : Value := .func (.func 211) #[] #[.pointer (some ⟨b, 0, none⟩)]
abbrev fEi (b : Nat) : Value := .func (.func 215) #[] #[.pointer (some ⟨b, 0, none⟩)]
/-- What the closure for a row of bytes captured. -/
def IsBt (w : World) (b1 b2 : Nat) (x y : Int) : Prop := w.cell? ⟨b1, 0, none⟩ = some (.int .u8 x) ∧ w.cell? ⟨b2, 0, none⟩ = some (.int .u8 y)
theorem IsBt.below {w w' : World} {b1 b2 : Nat} {x y : Int} (h : IsBt w b1 b2 x y) (hb : Below w.heap.size w w') : IsBt w' b1 b2 x y := ⟨cell_below hb (Nat.le_refl _) h.1, cell_below hb (Nat.le_refl _) h.2⟩
/-- What the closure for letters captured. -/
structure IsLet (w : World) (b g p1 p2 q1 q2 a : Nat) : Prop where
  c : w.cell? ⟨b, 0, none⟩ = some (.slice (some ⟨g, 0, none⟩) 3 3)
  c0 : w.cell? ⟨g, 0, none⟩ = some (fBt p1 p2)
  c1 : w.cell? ⟨g, 1, none⟩ = some (fBt q1 q2)
  c2 : w.cell? ⟨g, 2, none⟩ = some (fAm a)
  p : IsBt w p1 p2 65 90
  q : IsBt w q1 q2 97 122
  a : w.cell? ⟨a, 0, none⟩ = some (.string ⟨#[95]⟩)
theorem IsLet.below {w w' : World} {b g p1 p2 q1 q2 a : Nat} (h : IsLet w b g p1 p2 q1 q2 a) (hb : Below w.heap.size w w') : IsLet w' b g p1 p2 q1 q2 a :=
  ⟨cell_below hb (Nat.le_refl _) h.c, cell_below hb (Nat.le_refl _) h.c0, cell_below hb (Nat.le_refl _) h.c1, cell_below hb (Nat.le_refl _) h.c2, h.p.below hb, h.q.below hb, cell_below hb (Nat.le_refl _) h.a⟩
/-- What the closure for letters and digits captured. -/
structure IsLd (w : World) (b' g' d1 d2 b g p1 p2 q1 q2 a : Nat) : Prop where
  c : w.cell? ⟨b', 0, none⟩ = some (.slice (some ⟨g', 0, none⟩) 2 2)
  c0 : w.cell? ⟨g', 0, none⟩ = some (fEi b)
  c1 : w.cell? ⟨g', 1, none⟩ = some (fBt d1 d2)
  l : IsLet w b g p1 p2 q1 q2 a
  d : IsBt w d1 d2 48 57
theorem IsLd.below {w w' : World} {b' g' d1 d2 b g p1 p2 q1 q2 a : Nat} (h : IsLd w b' g' d1 d2 b g p1 p2 q1 q2 a) (hb : Below w.heap.size w w') : IsLd w' b' g' d1 d2 b g p1 p2 q1 q2 a :=
  ⟨cell_below hb (Nat.le_refl _) h.c, cell_below hb (Nat.le_refl _) h.c0, cell_below hb (Nat.le_refl _) h.c1, h.l.below hb, h.d.below hb⟩

def bt (x y : Int) (c : UInt8) : Bool := decide (x ≤ (c.toNat : Int) ∧ (c.toNat : Int) ≤ y)
theorem bt_any (b1 b2 : Nat) (x y : Int) (c : UInt8) (w : World) (h : IsBt w b1 b2 x y) : Calls Tryz.prog 214 #[.int .u8 (c.toNat : Int), .pointer (some ⟨b1, 0, none⟩), .pointer (some ⟨b2, 0, none⟩)] w fun e w' => e = .returned (.bool (bt x y c)) ∧ Below w.heap.size w w' :=
  between_fits b1 b2 x y (bt x y) (fun c => by unfold bt; rw [decide_eq_true_iff]) c w h
theorem am95_any (a : Nat) (c : UInt8) (w : World) (h : w.cell? ⟨a, 0, none⟩ = some (.string ⟨#[95]⟩)) : Calls Tryz.prog 211 #[.int .u8 (c.toNat : Int), .pointer (some ⟨a, 0, none⟩)] w fun e w' => e = .returned (.bool (decide (c = 95))) ∧ Below w.heap.size w w' :=
  among_fits a ⟨#[95]⟩ (fun c => decide (c = 95)) (fun c => by rw [decide_eq_true_iff]; simp) c w h
theorem isL_bt (c : UInt8) : Lx.isL c = (bt 65 90 c || (bt 97 122 c || decide (c = 95))) := by
  have h : c = 95 ↔ c.toNat = 95 := ⟨fun h => by rw [h]; rfl, fun h => UInt8.toNat_inj.1 h⟩
  rw [Bool.eq_iff_iff, Bool.or_eq_true, Bool.or_eq_true]
  unfold Lx.isL bt
  rw [decide_eq_true_iff, decide_eq_true_iff, decide_eq_true_iff, decide_eq_true_iff, h]
  omega
theorem isD_bt (c : UInt8) : Lx.isD c = bt 48 57 c := by
  rw [Bool.eq_iff_iff]
  unfold Lx.isD bt
  rw [decide_eq_true_iff, decide_eq_true_iff]
  omega
set_option maxHeartbeats 2000000 in
set_option maxRecDepth 100000 in
theorem let_fits (b g p1 p2 q1 q2 a : Nat) : Fits (fun w => IsLet w b g p1 p2 q1 q2 a) 215 #[.pointer (some ⟨b, 0, none⟩)] Lx.isL := by
  intro c w h
  have h : IsLet w b g p1 p2 q1 q2 a := h
  show Calls Tryz.prog 215 #[.int .u8 (c.toNat : Int), .pointer (some ⟨b, 0, none⟩)] w _
  have H1 := Lib.hid (fun w0 h0 => bt_any p1 p2 65 90 c w0 h0)
  have H2 := Lib.hid (fun w0 h0 => bt_any q1 q2 97 122 c w0 h0)
  have H3 := Lib.hid (fun w0 h0 => am95_any a c w0 h0)
  rw [isL_bt]
  generalize bt 65 90 c = r1 at *
  generalize bt 97 122 c = r2 at *
  generalize decide (c = 95) = r3 at *
  generalize (c.toNat : Int) = z at *
  have HC := Lib.hid h
  have e1 := h.c
  have e2 := h.c0
  clear h
  go_enter Tryz.func215, Tryz.ntmps215
  go_wp2
  refine wp_loop_rounds 5 ?_
  rw [rounds_succ]
  go_wp2_with fail
  refine (H1.out _ HC.out.p).mono ?_
  rintro e w1 ⟨rfl, b1⟩
  have HC1 := Lib.hid (And.intro b1 (HC.out.below b1))
  cases r1 with
  | true =>
    go_wp2
    go_ret
    exact ⟨rfl, HC1.out.1⟩
  | false =>
    replace e1 := HC1.out.2.c
    replace e2 := HC1.out.2.c1
    clear b1
    go_wp2
    rw [rounds_succ]
    go_wp2_with fail
    refine (H2.out _ HC1.out.2.q).mono ?_
    rintro e w2 ⟨rfl, b1⟩
    have HC2 := Lib.hid (And.intro (HC1.out.1.trans (b1.mono HC1.out.1.size)) (HC1.out.2.below b1))
    cases r2 with
    | true =>
      go_wp2
      go_ret
      exact ⟨rfl, HC2.out.1⟩
    | false =>
      replace e1 := HC2.out.2.c
      replace e2 := HC2.out.2.c2
      clear b1
      go_wp2
      rw [rounds_succ]
      go_wp2_with fail
      refine (H3.out _ HC2.out.2.a).mono ?_
      rintro e w3 ⟨rfl, b1⟩
      have HC3 := Lib.hid (HC2.out.1.trans (b1.mono HC2.out.1.size))
      cases r3 with
      | true =>
        go_wp2
        go_ret
        exact ⟨rfl, HC3.out⟩
      | false =>
        clear b1
        go_wp2
        rw [rounds_succ]
        go_wp2
        go_ret
        exact ⟨rfl, HC3.out⟩
set_option maxHeartbeats 2000000 in
set_option maxRecDepth 100000 in
theorem ld_fits (b' g' d1 d2 b g p1 p2 q1 q2 a : Nat) : Fits (fun w => IsLd w b' g' d1 d2 b g p1 p2 q1 q2 a) 215 #[.pointer (some ⟨b', 0, none⟩)] Lx.isN := by
  intro c w h
  have h : IsLd w b' g' d1 d2 b g p1 p2 q1 q2 a := h
  show Calls Tryz.prog 215 #[.int .u8 (c.toNat : Int), .pointer (some ⟨b', 0, none⟩)] w _
  have H1 := Lib.hid (fun w0 (h0 : IsLet w0 b g p1 p2 q1 q2 a) => (show Calls Tryz.prog 215 #[.int .u8 (c.toNat : Int), .pointer (some ⟨b, 0, none⟩)] w0 fun e w' => e = .returned (.bool (Lx.isL c)) ∧ Below w0.heap.size w0 w' from let_fits b g p1 p2 q1 q2 a c w0 h0))
  have H2 := Lib.hid (fun w0 h0 => bt_any d1 d2 48 57 c w0 h0)
  rw [show Lx.isN c = (Lx.isL c || Lx.isD c) from rfl, isD_bt]
  generalize bt 48 57 c = r2 at *
  generalize Lx.isL c = r1 at *
  generalize (c.toNat : Int) = z at *
  have HC := Lib.hid h
  have e1 := h.c
  have e2 := h.c0
  clear h
  go_enter Tryz.func215, Tryz.ntmps215
  go_wp2
  refine wp_loop_rounds 5 ?_
  rw [rounds_succ]
  go_wp2_with fail
  refine (H1.out _ HC.out.l).mono ?_
  rintro e w1 ⟨rfl, b1⟩
  have HC1 := Lib.hid (And.intro b1 (HC.out.below b1))
  cases r1 with
  | true =>
    go_wp2
    go_ret
    exact ⟨rfl, HC1.out.1⟩
  | false =>
    replace e1 := HC1.out.2.c
    replace e2 := HC1.out.2.c1
    clear b1
    go_wp2
    rw [rounds_succ]
    go_wp2_with fail
    refine (H2.out _ HC1.out.2.d).mono ?_
    rintro e w2 ⟨rfl, b1⟩
    have HC2 := Lib.hid (HC1.out.1.trans (b1.mono HC1.out.1.size))
    cases r2 with
    | true =>
      go_wp2
      go_ret
      exact ⟨rfl, HC2.out⟩
    | false =>
      clear b1
      go_wp2
      rw [rounds_succ]
      go_wp2
      go_ret
      exact ⟨rfl, HC2.out⟩
end Go.Proofs.YtdcjpinbflmikaaGreatDoor
