/- Facts and walks for the statement. -/
import Derived.Test.YtmmdigeciphglaaGreatDoorChecked
import Derived.Test.YtmmdigeciphglaaGreatDoorPzB03
import Derived.Test.YtmmdigeciphglaaGreatDoorPzB19
import Derived.Handy
import Derived.Outline
import Derived.Deep.QuietTactic
import Derived.Deep.RegionLaw
import Derived.Deep.RegionHeld3
import Derived.Test.YtmmdigeciphglaaGreatDoorPzB13
import Derived.Maps.OwnSet
import Derived.Deep.CutRange
namespace Go.Proofs.YtmmdigeciphglaaGreatDoor
open Go.RowKit Ex
def KiR (w : World) (Bx : Nat) (A : Option Addr) (l : List Nat) : Prop := ∀ j (hj : j < l.length), ∃ g o, A = some ⟨g, o, none⟩ ∧ g < Bx ∧ w.cell? ⟨g, o + j, none⟩ = some (.int .u8 (l[j] : Nat))
theorem KiR.below {w w' : World} {B : Nat} {A : Option Addr} {l : List Nat} (h : KiR w B A l) (hb : Below B w w') : KiR w' B A l := fun j hj => by
  obtain ⟨g, o, e, hg, c0⟩ := h j hj
  exact ⟨g, o, e, hg, (hb.cell (p := ⟨g, _, none⟩) hg).trans c0⟩
theorem KiR.more {w : World} {B B' : Nat} {A : Option Addr} {l : List Nat} (h : KiR w B A l) (hB : B ≤ B') : KiR w B' A l := fun j hj => by
  obtain ⟨g, o, e, hg, q⟩ := h j hj
  exact ⟨g, o, e, Nat.lt_of_lt_of_le hg hB, q⟩
theorem KiR.on {w w' : World} {A : Option Addr} {l : List Nat} (h : KiR w w.heap.size A l) (hb : Below w.heap.size w w') : KiR w' w'.heap.size A l := (h.below hb).more hb.size
theorem kindAt_any (w : World) (Bx : Nat) (A : Option Addr) (c : Nat) (K : List Nat) (h : KiR w Bx A K) (hc : K.length ≤ c) (p : Int) (hp : p < K.length) :
    Calls Tryz.prog 177 #[.slice A K.length c, .int .i64 p] w fun e w' => e = .returned (.int .u8 (Ty.kat K p : Nat)) ∧ w = w' := by
  by_cases h0 : p < 0
  · rw [show Ty.kat K p = 0 from if_pos h0]
    clear h hp
    go_enter Tryz.func177, Tryz.ntmps177
    go_wp2
    go_ret
    exact ⟨rfl, rfl⟩
  · obtain ⟨j, rfl⟩ : ∃ j : Nat, p = j := ⟨p.toNat, by omega⟩
    have hj : j < K.length := by omega
    obtain ⟨g, o, rfl, hg, c0⟩ := h j hj
    have e : Ty.kat K (j : Int) = K[j] := by
      show (if (j : Int) < 0 then 0 else K.getD (j : Int).toNat 0) = _
      rw [if_neg h0, List.getD_eq_getElem?_getD, Int.toNat_natCast, List.getElem?_eq_getElem hj]; rfl
    rw [e]
    have hc' : (K.length : Int) ≤ (c : Int) := by omega
    generalize K[j] = k at *
    clear h hg hj e
    go_enter Tryz.func177, Tryz.ntmps177
    go_wp2
    go_ret
    exact ⟨rfl, rfl⟩
theorem with1_any (w : World) (b : Nat) (k x : Nat) (h : w.cell? ⟨b, 0, none⟩ = some (.int .u8 (k : Nat))) :
    Calls Tryz.prog 191 #[.int .u8 (x : Nat), .pointer (some ⟨b, 0, none⟩)] w fun e w' => e = .returned (.int .u8 (Ty.pt k x : Nat)) ∧ w = w' := by
  by_cases hx : x = 3
  · subst hx
    rw [show Ty.pt k 3 = k from if_pos rfl]
    go_enter Tryz.func191, Tryz.ntmps191
    go_wp2
    go_ret
    exact ⟨rfl, rfl⟩
  · rw [show Ty.pt k x = x from if_neg hx]
    have hx' : ((x : Int) == 3) = false := beq_eq_false_iff_ne.2 (by omega)
    clear hx
    go_enter Tryz.func191, Tryz.ntmps191
    go_wp2
    go_ret
    exact ⟨rfl, rfl⟩
def rlA (a b c i : Nat) : Value := .agg #[.int .u8 (a : Nat), .int .u8 (b : Nat), .int .u8 (c : Nat), .int .u8 (i : Nat)]
set_option maxHeartbeats 4000000 in
set_option maxRecDepth 100000 in
theorem with_any (w : World) (a b c i k : Nat) :
    Calls Tryz.prog 178 #[rlA a b c i, .int .u8 (k : Nat)] w fun e w' => e = .returned (rlA (Ty.pt k a) (Ty.pt k b) (Ty.pt k c) (Ty.pt k i)) ∧ Below w.heap.size w w' := by
  obtain ⟨W3, hW3⟩ : ∃ W3, W3 = ((w.alloc (.cells #[.int .u8 (a : Nat), .int .u8 (b : Nat), .int .u8 (c : Nat), .int .u8 (i : Nat)] 271)).alloc (.cells #[.int .u8 (k : Nat)] 5)).alloc (.cells #[.int .u8 0, .int .u8 0, .int .u8 0, .int .u8 0] 271) := ⟨_, rfl⟩
  have s1 : (w.alloc (.cells #[.int .u8 (a : Nat), .int .u8 (b : Nat), .int .u8 (c : Nat), .int .u8 (i : Nat)] 271)).heap.size = w.heap.size + 1 := by simp
  have s2 : ((w.alloc (.cells #[.int .u8 (a : Nat), .int .u8 (b : Nat), .int .u8 (c : Nat), .int .u8 (i : Nat)] 271)).alloc (.cells #[.int .u8 (k : Nat)] 5)).heap.size = w.heap.size + 1 + 1 := by simp
  have n1 : ∀ (v : World) (o : Obj), Below v.heap.size v (v.alloc o) := fun v o => (Below.refl _ _).alloc (Nat.le_refl _) o
  have B3 : Below w.heap.size w W3 := by rw [hW3]; exact ((n1 _ _).alloc (by rw [s1]; omega) _).alloc (by rw [s2]; omega) _
  have K1 : IsBlk W3 w.heap.size 271 #[.int .u8 (a : Nat), .int .u8 (b : Nat), .int .u8 (c : Nat), .int .u8 (i : Nat)] := by rw [hW3]; exact ((IsBlk.new _ _ _).below (n1 _ _) (by rw [s1]; omega)).below (n1 _ _) (by rw [s2]; omega)
  have K2 : IsBlk W3 (w.heap.size + 1) 5 #[.int .u8 (k : Nat)] := by rw [hW3]; refine IsBlk.below ?_ (n1 _ _) (by rw [s2]; omega); rw [← s1]; exact IsBlk.new _ _ _
  have K3 : IsBlk W3 (w.heap.size + 1 + 1) 271 #[.int .u8 0, .int .u8 0, .int .u8 0, .int .u8 0] := by rw [hW3, ← s2]; exact IsBlk.new _ _ _
  have H1 := Lib.hid (fun w0 x0 h0 => with1_any w0 (w.heap.size + 1) k x0 h0)
  have HW3 := Lib.hid hW3
  have y0 := K1.at_ 0
  have y1 := K1.at_ 1
  have y2 := K1.at_ 2
  have y3 := K1.at_ 3
  have z0 := K2.at_ 0
  have r0 := K3.at_ 0
  have r1 := K3.at_ 1
  have r2 := K3.at_ 2
  have r3 := K3.at_ 3
  have f0 := K3.fz 0
  have f1 := K3.fz 1
  have f2 := K3.fz 2
  have f3 := K3.fz 3
  simp only [List.getElem?_toArray, List.getElem?_cons_zero, List.getElem?_cons_succ] at y0 y1 y2 y3 z0 r0 r1 r2 r3
  have HX := Lib.hid (fun (u0 u1 u2 u3 : Value) => show ((((W3.setCell ⟨w.heap.size + 1 + 1, 0, none⟩ u0).setCell ⟨w.heap.size + 1 + 1, 1, none⟩ u1).setCell ⟨w.heap.size + 1 + 1, 2, none⟩ u2).setCell ⟨w.heap.size + 1 + 1, 3, none⟩ u3).drew.cell? ⟨w.heap.size, 0, none⟩ = some (.int .u8 (a : Nat)) ∧ ((((W3.setCell ⟨w.heap.size + 1 + 1, 0, none⟩ u0).setCell ⟨w.heap.size + 1 + 1, 1, none⟩ u1).setCell ⟨w.heap.size + 1 + 1, 2, none⟩ u2).setCell ⟨w.heap.size + 1 + 1, 3, none⟩ u3).drew.cell? ⟨w.heap.size, 1, none⟩ = some (.int .u8 (b : Nat)) ∧ ((((W3.setCell ⟨w.heap.size + 1 + 1, 0, none⟩ u0).setCell ⟨w.heap.size + 1 + 1, 1, none⟩ u1).setCell ⟨w.heap.size + 1 + 1, 2, none⟩ u2).setCell ⟨w.heap.size + 1 + 1, 3, none⟩ u3).drew.cell? ⟨w.heap.size, 2, none⟩ = some (.int .u8 (c : Nat)) ∧ ((((W3.setCell ⟨w.heap.size + 1 + 1, 0, none⟩ u0).setCell ⟨w.heap.size + 1 + 1, 1, none⟩ u1).setCell ⟨w.heap.size + 1 + 1, 2, none⟩ u2).setCell ⟨w.heap.size + 1 + 1, 3, none⟩ u3).drew.cell? ⟨w.heap.size, 3, none⟩ = some (.int .u8 (i : Nat)) ∧ ((((W3.setCell ⟨w.heap.size + 1 + 1, 0, none⟩ u0).setCell ⟨w.heap.size + 1 + 1, 1, none⟩ u1).setCell ⟨w.heap.size + 1 + 1, 2, none⟩ u2).setCell ⟨w.heap.size + 1 + 1, 3, none⟩ u3).drew.cell? ⟨w.heap.size + 1, 0, none⟩ = some (.int .u8 (k : Nat)) from by
    have k1 := (((K1.far (p := ⟨w.heap.size + 1 + 1, 0, none⟩) (by simp only; omega) u0).far (p := ⟨w.heap.size + 1 + 1, 1, none⟩) (by simp only; omega) u1).far (p := ⟨w.heap.size + 1 + 1, 2, none⟩) (by simp only; omega) u2).far (p := ⟨w.heap.size + 1 + 1, 3, none⟩) (by simp only; omega) u3
    have k2 := (((K2.far (p := ⟨w.heap.size + 1 + 1, 0, none⟩) (by simp only; omega) u0).far (p := ⟨w.heap.size + 1 + 1, 1, none⟩) (by simp only; omega) u1).far (p := ⟨w.heap.size + 1 + 1, 2, none⟩) (by simp only; omega) u2).far (p := ⟨w.heap.size + 1 + 1, 3, none⟩) (by simp only; omega) u3
    have k1 := k1.below (Below.refl _ _).drew k1.lt
    have k2 := k2.below (Below.refl _ _).drew k2.lt
    exact ⟨k1.at_ 0, k1.at_ 1, k1.at_ 2, k1.at_ 3, k2.at_ 0⟩)
  have HY := Lib.hid (show W3.drew.cell? ⟨w.heap.size, 0, none⟩ = some (.int .u8 (a : Nat)) ∧ W3.drew.cell? ⟨w.heap.size, 1, none⟩ = some (.int .u8 (b : Nat)) ∧ W3.drew.cell? ⟨w.heap.size, 2, none⟩ = some (.int .u8 (c : Nat)) ∧ W3.drew.cell? ⟨w.heap.size, 3, none⟩ = some (.int .u8 (i : Nat)) ∧ W3.drew.cell? ⟨w.heap.size + 1, 0, none⟩ = some (.int .u8 (k : Nat)) from by
    have k1 := K1.below (Below.refl _ _).drew K1.lt
    have k2 := K2.below (Below.refl _ _).drew K2.lt
    exact ⟨k1.at_ 0, k1.at_ 1, k1.at_ 2, k1.at_ 3, k2.at_ 0⟩)
  have HB4 := Lib.hid (fun (u0 u1 u2 u3 : Value) => (((B3.setCell (p := ⟨w.heap.size + 1 + 1, 0, none⟩) (by simp only; omega) u0).setCell (p := ⟨w.heap.size + 1 + 1, 1, none⟩) (by simp only; omega) u1).setCell (p := ⟨w.heap.size + 1 + 1, 2, none⟩) (by simp only; omega) u2).setCell (p := ⟨w.heap.size + 1 + 1, 3, none⟩) (by simp only; omega) u3)
  have HR4 := Lib.hid (fun (u0 u1 u2 u3 : Value) => (((K3.set 0 u0).set 1 u1).set 2 u2).set 3 u3)
  clear hW3 s1 s2 n1 B3 K1 K2 K3
  unfold rlA
  go_enter Tryz.func178, Tryz.ntmps178
  go_wp2_with fail
  rw [← HW3.out]
  go_region_held3 (fun w' => w'.cell? ⟨w.heap.size, 0, none⟩ = some (.int .u8 (a : Nat)) ∧ w'.cell? ⟨w.heap.size, 1, none⟩ = some (.int .u8 (b : Nat)) ∧ w'.cell? ⟨w.heap.size, 2, none⟩ = some (.int .u8 (c : Nat)) ∧ w'.cell? ⟨w.heap.size, 3, none⟩ = some (.int .u8 (i : Nat)) ∧ w'.cell? ⟨w.heap.size + 1, 0, none⟩ = some (.int .u8 (k : Nat))) (first | with_reducible exact HY.out | with_reducible exact HX.out _ _ _ _) (first | (go_at_call 191; refine (H1.out _ _ HY.out.2.2.2.2).mono ?_; rintro e w4 ⟨rfl, rfl⟩))
  have k4 := HR4.out (.int .u8 (Ty.pt k a : Nat)) (.int .u8 (Ty.pt k b : Nat)) (.int .u8 (Ty.pt k c : Nat)) (.int .u8 (Ty.pt k i : Nat))
  have x0 := k4.at_ 0
  have x1 := k4.at_ 1
  have x2 := k4.at_ 2
  have x3 := k4.at_ 3
  clear k4 y0 y1 y2 y3 z0 r0 r1 r2 r3 f0 f1 f2 f3
  go_wp2
  refine bodyPost_ret (v := rlA (Ty.pt k a) (Ty.pt k b) (Ty.pt k c) (Ty.pt k i)) (by simp [results, Tryz.results178, go_sem, rlA, x0, x1, x2, x3]) rfl ?_
  exact ⟨rfl, (HB4.out _ _ _ _).drew⟩
end Go.Proofs.YtmmdigeciphglaaGreatDoor
namespace Go.Proofs.YtmmdigeciphglaaGreatDoor
open Go.RowKit Ex Go.Maps
def Rl (w : World) : Prop := ∀ o : Nat, o < 23 → w.cell? ⟨3, o * 4, none⟩ = some (.int .u8 ((Ty.rl o).1 : Nat)) ∧ w.cell? ⟨3, o * 4 + 1, none⟩ = some (.int .u8 ((Ty.rl o).2.1 : Nat)) ∧ w.cell? ⟨3, o * 4 + 2, none⟩ = some (.int .u8 ((Ty.rl o).2.2.1 : Nat)) ∧ w.cell? ⟨3, o * 4 + 3, none⟩ = some (.int .u8 ((Ty.rl o).2.2.2 : Nat))
theorem Rl.below {B : Nat} {w w' : World} (h : Rl w) (hb : Below B w w') (hB : w.heap.size ≤ B) : Rl w' := fun o ho =>
  ⟨cell_below hb hB (h o ho).1, cell_below hb hB (h o ho).2.1, cell_below hb hB (h o ho).2.2.1, cell_below hb hB (h o ho).2.2.2⟩
def KnM (w : World) (b : Nat) (m : Nat) (ns : List Ty.Nm) : Prop := ∃ D : DataW Unit, w.ownsMap Tryz.prog 9 unitElem b m D ∧ IsMap D ∧ ∀ q : Ty.Nm, Maps.has D (.string q) = decide (q ∈ ns)
theorem lawS : Keyed Tryz.prog 9 := string_keyed Tryz.underlying9
theorem zeroU (w : World) : (zeroValue 162).run Tryz.prog w = .ok (.agg #[]) w := by kernel_rfl
theorem KnM.below {w w' : World} {b m : Nat} {ns : List Ty.Nm} (h : KnM w b m ns) (hb : Below w.heap.size w w') : KnM w' b m ns := by
  obtain ⟨D, h1, h2, h3⟩ := h
  have hlt := h1.lt
  obtain ⟨es, clock, e1, e2⟩ := h1
  exact ⟨D, ⟨es, clock, (hb.block b hlt).trans e1, e2⟩, h2, h3⟩
theorem KnM.lt {w : World} {b m : Nat} {ns : List Ty.Nm} (h : KnM w b m ns) : b < w.heap.size := by
  obtain ⟨D, h1, _⟩ := h
  exact h1.lt
theorem KnM.made (w : World) : KnM (w.alloc (.map #[] 0)) w.heap.size 0 [] :=
  ⟨.map [], World.ownsMap_made _ _ _ _, ⟨[], rfl⟩, fun q => by simp [Maps.has]⟩
theorem has_put {D : DataW Unit} (hD : IsMap D) {ns : List Ty.Nm} (h : ∀ q : Ty.Nm, Maps.has D (.string q) = decide (q ∈ ns)) (x : Ty.Nm) (q : Ty.Nm) : Maps.has (D.put (.string x) (.agg [])) (.string q) = decide (q ∈ ns ++ [x]) := by
  by_cases e : q = x
  · subst e
    rw [has_put_same hD (show WideAt.IsKeyLit (.string q) from True.intro)]
    exact (decide_eq_true (List.mem_append_right _ List.mem_cons_self)).symm
  · rw [has_put_other (fun h => e (by injection h)), h q]
    exact decide_eq_decide.2 ⟨fun h => List.mem_append_left _ h, fun h => by
      rcases List.mem_append.1 h with h | h
      · exact h
      · exact absurd (List.mem_singleton.1 h) e⟩
set_option maxHeartbeats 4000000 in
set_option maxRecDepth 100000 in
theorem kindOf_any (w : World) (T : Rl w) (n : Nd) (hop : 1 ≤ n.op ∧ n.op ≤ 22) (hnm : n.nm.length ≤ 1000000) (A : Option Addr) (c : Nat) (K : List Nat) (hK : KiR w w.heap.size A K) (hc : K.length ≤ c) (hin : n.a < K.length ∧ n.b < K.length ∧ n.c < K.length) (mb m : Nat) (ns : List Ty.Nm) (hm : KnM w mb m ns) :
    Calls Tryz.prog 164 #[ndA n, .slice A K.length c, .map (some mb)] w fun e w' => e = .returned (.int .u8 (Ty.kd n K ns : Nat)) ∧ Below w.heap.size w w' := by
  obtain ⟨op, num, nm, na, nb, nc⟩ := n
  unfold ndA
  simp only at hop hnm hin ⊢
  obtain ⟨o, rfl⟩ : ∃ o : Nat, op = o := ⟨op.toNat, by omega⟩
  obtain ⟨N, hN⟩ : ∃ N : ByteArray, N = ⟨nm.toArray⟩ := ⟨_, rfl⟩
  rw [← hN]
  obtain ⟨W1, hW1⟩ : ∃ W1, W1 = w.alloc (.cells #[.int .u8 (o : Int), .int .i64 num, .string N, .int .i64 na, .int .i64 nb, .int .i64 nc] 105) := ⟨_, rfl⟩
  have hb1 : Below w.heap.size w W1 := by rw [hW1]; exact (Below.refl _ _).alloc (Nat.le_refl _) _
  have k1 : IsBlk W1 w.heap.size 105 #[.int .u8 (o : Int), .int .i64 num, .string N, .int .i64 na, .int .i64 nb, .int .i64 nc] := by rw [hW1]; exact IsBlk.new _ _ _
  obtain ⟨D, hown, hD, hhas⟩ := hm.below hb1
  have hkey : keyOf Tryz.prog 9 (.string N) = some (.string nm) := by
    rw [Go.WideMaps.keyOf_string_mk Tryz.underlying9 (show N.size ≤ maxLen by rw [Lib.size_eq, hN]; unfold maxLen; simp only; omega), hN]
  have hok := hhas nm
  obtain ⟨kn, hkn⟩ : ∃ kn, kn = decide (nm ∈ ns) := ⟨_, rfl⟩
  rw [← hkn] at hok
  have y0 := k1.at_ 0
  have y2 := k1.at_ 2
  simp only [List.getElem?_toArray, List.getElem?_cons_zero, List.getElem?_cons_succ] at y0 y2
  have y3 := k1.at_ 3
  have y4 := k1.at_ 4
  have y5 := k1.at_ 5
  simp only [List.getElem?_toArray, List.getElem?_cons_zero, List.getElem?_cons_succ] at y3 y4 y5
  have HW1 := Lib.hid hW1
  have HNN := Lib.hid hN
  have HB1 := Lib.hid hb1
  obtain ⟨R, hR⟩ : ∃ R, R = Ty.kd ⟨(o : Int), num, nm, na, nb, nc⟩ K ns := ⟨_, rfl⟩
  rw [← hR]
  have HR := Lib.hid hR
  have HKN := Lib.hid hkn
  clear hN hW1 hR hkn
  by_cases hu : o = 2 ∧ kn = false
  · obtain ⟨ho2, rfl⟩ := hu
    have hg2 : ((o : Int) == 2) = true := by simp [ho2]
    have HE := Lib.hid (show R = 0 from by
      rw [HR.out]
      exact if_pos ⟨by simp only; omega, of_decide_eq_false HKN.out.symm⟩)
    clear hop hin hK T hm hb1 k1 ho2
    go_enter Tryz.func164, Tryz.ntmps164
    go_wp2_with (first | (at_lookup; refine wpList_lookup_own_unit _ rfl _ _ 109 rfl 9 162 lawS Tryz.underlying109 (zeroU _) mb m D rfl (by first | exact hown | (rw [← HW1.out]; exact hown)) _ _ rfl hkey ?_; rw [hok]) | fail)
    go_ret
    rw [← HW1.out]
    exact ⟨by rw [HE.out]; rfl, HB1.out.alloc HB1.out.size _⟩
  · have HRR := Lib.hid (show R = if Ty.kat K na = Ty.pt (Ty.kat K nb) (Ty.rl o).1 ∧ Ty.kat K nb = Ty.pt (Ty.kat K nb) (Ty.rl o).2.1 ∧ Ty.kat K nc = Ty.pt (Ty.kat K nb) (Ty.rl o).2.2.1 then Ty.pt (Ty.kat K nb) (Ty.rl o).2.2.2 else 0 from by
      rw [HR.out]
      refine if_neg ?_
      rintro ⟨h1, h2⟩
      refine hu ⟨by simp only at h1; omega, ?_⟩
      rw [HKN.out]; exact decide_eq_false h2)
    have HKA := Lib.hid (fun w0 (hb : Below w.heap.size w w0) (p : Int) (hp : p < K.length) => kindAt_any w0 w.heap.size A c K (hK.below hb) hc p hp)
    have HT := Lib.hid (fun w0 (hb : Below w.heap.size w w0) => (T.below hb (Nat.le_refl _)) o (by omega))
    obtain ⟨W2, hW2⟩ : ∃ W2, W2 = W1.alloc (.cells #[] 162) := ⟨_, rfl⟩
    have hb2 : Below w.heap.size w W2 := by rw [hW2]; exact hb1.alloc hb1.size _
    have k2 : IsBlk W2 w.heap.size 105 #[.int .u8 (o : Int), .int .i64 num, .string N, .int .i64 na, .int .i64 nb, .int .i64 nc] := by rw [hW2]; exact k1.below ((Below.refl _ _).alloc (Nat.le_refl _) _) k1.lt
    have HW2 := Lib.hid hW2
    have HB2 := Lib.hid hb2
    have HK2 := Lib.hid k2
    have z0 := k2.at_ 0
    have z3 := k2.at_ 3
    have z4 := k2.at_ 4
    have z5 := k2.at_ 5
    simp only [List.getElem?_toArray, List.getElem?_cons_zero, List.getElem?_cons_succ] at z0 z3 z4 z5
    obtain ⟨hi1, hi2, hi3⟩ := hin
    have ho1 : (o : Int) < 23 := by omega
    have hguard : ((o : Int) == 2) = false ∨ ((o : Int) == 2) = true ∧ kn = true := by
      by_cases h2 : o = 2
      · right
        refine ⟨by simp [h2], ?_⟩
        cases kn with
        | true => rfl
        | false => exact absurd ⟨h2, rfl⟩ hu
      · left; exact beq_eq_false_iff_ne.2 (by omega)
    have HS2 := Lib.hid (fun w0 (hb : Below W2.heap.size W2 w0) => (show w0.cell? ⟨w.heap.size, 3, none⟩ = some (.int .i64 na) ∧ w0.cell? ⟨w.heap.size, 4, none⟩ = some (.int .i64 nb) ∧ w0.cell? ⟨w.heap.size, 5, none⟩ = some (.int .i64 nc) from by
      have q := k2.below hb k2.lt
      exact ⟨q.at_ 3, q.at_ 4, q.at_ 5⟩))
    have HY2 := Lib.hid (HS2.out W2.drew (Below.refl _ _).drew)
    clear hop hK T hm hb1 k1 hW2 hb2 k2 hu
    obtain ⟨ka, hka⟩ : ∃ k, k = Ty.kat K na := ⟨_, rfl⟩
    obtain ⟨kb, hkb⟩ : ∃ k, k = Ty.kat K nb := ⟨_, rfl⟩
    obtain ⟨kc, hkc⟩ : ∃ k, k = Ty.kat K nc := ⟨_, rfl⟩
    have HA := Lib.hid (fun w0 hb => HKA.out w0 hb na hi1)
    have HB := Lib.hid (fun w0 hb => HKA.out w0 hb nb hi2)
    have HC := Lib.hid (fun w0 hb => HKA.out w0 hb nc hi3)
    rw [← hka] at HA HRR
    rw [← hkb] at HB HRR
    rw [← hkc] at HC HRR
    clear hka hkb hkc HKA hi1 hi2 hi3
    go_enter Tryz.func164, Tryz.ntmps164
    rcases hguard with hg | ⟨hg, rfl⟩
    all_goals
      go_upto_region 4 with (first | (at_lookup; refine wpList_lookup_own_unit _ rfl _ _ 109 rfl 9 162 lawS Tryz.underlying109 (zeroU _) mb m D rfl (by first | exact hown | (rw [← HW1.out]; exact hown)) _ _ rfl hkey ?_; rw [hok]) | fail)
      rw [← HW1.out, ← HW2.out]
      clear y0 y2 y3 y4 y5 hown hhas hkey hok hD
      go_cut [9] from 25 to 50 (fun s9 wx => ∃ p9 : Nat, s9 = .pointer (some ⟨p9, 0, none⟩) ∧ Hid (Below W2.heap.size W2 wx ∧ IsBlk wx p9 269 #[.int .u8 (ka : Nat), .int .u8 (kb : Nat), .int .u8 (kc : Nat)]))
      case first =>
        go_region_held3 (fun w' => w'.cell? ⟨w.heap.size, 3, none⟩ = some (.int .i64 na) ∧ w'.cell? ⟨w.heap.size, 4, none⟩ = some (.int .i64 nb) ∧ w'.cell? ⟨w.heap.size, 5, none⟩ = some (.int .i64 nc)) (first | with_reducible exact HY2.out | with_reducible exact HS2.out _ ((Below.refl _ _).alloc (Nat.le_refl _) _).drew | with_reducible exact HS2.out _ ((((((Below.refl _ _).alloc (Nat.le_refl _) _).setCell (Nat.le_refl _) _).setCell (Nat.le_refl _) _).setCell (Nat.le_refl _) _)).drew) (first | (go_at_call 177; refine (HA.out _ (by first | with_reducible exact HB2.out.drew | with_reducible exact (HB2.out.alloc HB2.out.size _).drew | with_reducible exact HB2.out.drew.alloc HB2.out.size _)).mono ?_; rintro e w3 ⟨rfl, rfl⟩; clear HA) | (go_at_call 177; refine (HB.out _ (by first | with_reducible exact HB2.out.drew | with_reducible exact (HB2.out.alloc HB2.out.size _).drew | with_reducible exact HB2.out.drew.alloc HB2.out.size _)).mono ?_; rintro e w3 ⟨rfl, rfl⟩; clear HB) | (go_at_call 177; refine (HC.out _ (by first | with_reducible exact HB2.out.drew | with_reducible exact (HB2.out.alloc HB2.out.size _).drew | with_reducible exact HB2.out.drew.alloc HB2.out.size _)).mono ?_; rintro e w3 ⟨rfl, rfl⟩; clear HC))
        all_goals
          go_wp2_with fail
          go_meet
          exact ⟨_, rfl, Lib.hid ⟨((Below.refl _ _).alloc (Nat.le_refl _) _).drew, (IsBlk.new W2 269 #[.int .u8 (ka : Nat), .int .u8 (kb : Nat), .int .u8 (kc : Nat)]).below (Below.refl _ _).drew (IsBlk.new W2 269 #[.int .u8 (ka : Nat), .int .u8 (kb : Nat), .int .u8 (kc : Nat)]).lt⟩⟩
      case rest =>
        obtain ⟨p9, rfl, hq⟩ := hcut
        have HQ9 := Lib.hid hq.out
        have n0 : wc.cell? ⟨w.heap.size, 0, none⟩ = some (.int .u8 (o : Int)) := (HK2.out.below HQ9.out.1 HK2.out.lt).at_ 0
        have v0 : wc.cell? ⟨p9, 0, none⟩ = some (.int .u8 (ka : Nat)) := HQ9.out.2.at_ 0
        have v1 : wc.cell? ⟨p9, 1, none⟩ = some (.int .u8 (kb : Nat)) := HQ9.out.2.at_ 1
        have v2 : wc.cell? ⟨p9, 2, none⟩ = some (.int .u8 (kc : Nat)) := HQ9.out.2.at_ 2
        obtain ⟨u0, u1, u2, u3⟩ := HT.out wc (HB2.out.trans (HQ9.out.1.mono HB2.out.size))
        have HTG := Lib.hid (show 3 < wc.heap.size from block_lt u0)
        have HBC := Lib.hid (HB2.out.trans (HQ9.out.1.mono HB2.out.size))
        have HWI := Lib.hid (fun w0 => with_any w0 (Ty.rl o).1 (Ty.rl o).2.1 (Ty.rl o).2.2.1 (Ty.rl o).2.2.2 kb)
        simp only [rlA] at HWI
        generalize (Ty.rl o).1 = m1 at *
        generalize (Ty.rl o).2.1 = m2 at *
        generalize (Ty.rl o).2.2.1 = m3 at *
        generalize (Ty.rl o).2.2.2 = m4 at *
        generalize Ty.pt kb m1 = x1 at *
        generalize Ty.pt kb m2 = x2 at *
        generalize Ty.pt kb m3 = x3 at *
        generalize Ty.pt kb m4 = x4 at *
        have HS5 := Lib.hid (fun w0 (hb : Below wc.heap.size wc w0) => (show w0.cell? ⟨w.heap.size, 0, none⟩ = some (.int .u8 (o : Int)) ∧ w0.cell? ⟨p9, 1, none⟩ = some (.int .u8 (kb : Nat)) ∧ w0.cell? ⟨3, o * 4, none⟩ = some (.int .u8 (m1 : Nat)) ∧ w0.cell? ⟨3, o * 4 + 1, none⟩ = some (.int .u8 (m2 : Nat)) ∧ w0.cell? ⟨3, o * 4 + 2, none⟩ = some (.int .u8 (m3 : Nat)) ∧ w0.cell? ⟨3, o * 4 + 3, none⟩ = some (.int .u8 (m4 : Nat)) from
          ⟨(hb.cell (p := ⟨_, _, none⟩) (block_lt n0)).trans n0, (hb.cell (p := ⟨_, _, none⟩) (block_lt v1)).trans v1, (hb.cell (p := ⟨_, _, none⟩) HTG.out).trans u0, (hb.cell (p := ⟨_, _, none⟩) HTG.out).trans u1, (hb.cell (p := ⟨_, _, none⟩) HTG.out).trans u2, (hb.cell (p := ⟨_, _, none⟩) HTG.out).trans u3⟩))
        have HY5 := Lib.hid (HS5.out wc.drew (Below.refl _ _).drew)
        have HD5 := Lib.hid (fun w5 (hb : Below wc.drew.heap.size wc.drew w5) => (show Below wc.heap.size wc w5 from (Below.refl wc.heap.size wc).drew.trans hb))
        have HQ5 := Lib.hid (Below.refl wc.heap.size wc)
        have HQ6 := Lib.hid (Below.refl wc.heap.size wc)
        have HK5 := Lib.hid (Below.refl wc.heap.size wc)
        have HNEW := Lib.hid (And.intro HQ5.out (And.intro ((Below.refl wc.heap.size wc).alloc (Nat.le_refl _) (.cells #[.int .u8 0, .int .u8 0, .int .u8 0, .int .u8 0] 271)).drew ((IsBlk.new wc 271 #[.int .u8 0, .int .u8 0, .int .u8 0, .int .u8 0]).below (Below.refl _ _).drew (IsBlk.new wc 271 #[.int .u8 0, .int .u8 0, .int .u8 0, .int .u8 0]).lt)))
        clear z0 z3 z4 z5 HS2 HY2 hq
        go_upto_region 5 with fail
        go_cut [10] from 38 to 50 (fun s10 wx => ∃ p10 : Nat, s10 = .pointer (some ⟨p10, 0, none⟩) ∧ Hid (Below wc.heap.size wc wx ∧ IsBlk wx p10 271 #[.int .u8 (x1 : Nat), .int .u8 (x2 : Nat), .int .u8 (x3 : Nat), .int .u8 (x4 : Nat)]))
        case first =>
          go_region_held3 (fun w' => w'.cell? ⟨w.heap.size, 0, none⟩ = some (.int .u8 (o : Int)) ∧ w'.cell? ⟨p9, 1, none⟩ = some (.int .u8 (kb : Nat)) ∧ w'.cell? ⟨3, o * 4, none⟩ = some (.int .u8 (m1 : Nat)) ∧ w'.cell? ⟨3, o * 4 + 1, none⟩ = some (.int .u8 (m2 : Nat)) ∧ w'.cell? ⟨3, o * 4 + 2, none⟩ = some (.int .u8 (m3 : Nat)) ∧ w'.cell? ⟨3, o * 4 + 3, none⟩ = some (.int .u8 (m4 : Nat))) (first | with_reducible exact HY5.out | with_reducible exact HS5.out _ ((Below.refl _ _).alloc (Nat.le_refl _) _).drew | with_reducible exact HS5.out _ HQ5.out | with_reducible exact HS5.out _ HQ6.out | with_reducible exact HS5.out _ (HQ5.out.alloc HQ5.out.size _) | with_reducible exact HS5.out _ ((((HQ6.out.setCell (Nat.le_refl _) _).setCell (Nat.le_refl _) _).setCell (Nat.le_refl _) _).setCell (Nat.le_refl _) _)) (first | (go_at_call 178; refine (HWI.out _).mono ?_; rintro e w5 ⟨rfl, hb5⟩; clear HWI; first | (have HQ5 := Lib.hid (HD5.out w5 hb5); clear hb5) | (have HQ6 := Lib.hid (HNEW.out.2.1.trans (hb5.mono HNEW.out.2.1.size)); have hk5 := HNEW.out.2.2.below hb5 HNEW.out.2.2.lt; have HK5 := Lib.hid hk5; have e0 := hk5.at_ 0; have e1 := hk5.at_ 1; have e2 := hk5.at_ 2; have e3 := hk5.at_ 3; have e4 := hk5.fz 0; have e5 := hk5.fz 1; have e6 := hk5.fz 2; have e7 := hk5.fz 3; clear hb5 hk5)))
          all_goals
            go_wp2_with fail
            go_meet
            first
            | exact ⟨_, rfl, Lib.hid ⟨HQ5.out.alloc HQ5.out.size _, IsBlk.new _ _ _⟩⟩
            | exact ⟨_, rfl, Lib.hid ⟨(((HQ6.out.setCell (p := ⟨wc.heap.size, 0, none⟩) (Nat.le_refl _) _).setCell (p := ⟨wc.heap.size, 1, none⟩) (Nat.le_refl _) _).setCell (p := ⟨wc.heap.size, 2, none⟩) (Nat.le_refl _) _).setCell (p := ⟨wc.heap.size, 3, none⟩) (Nat.le_refl _) _, (((HK5.out.set 0 _).set 1 _).set 2 _).set 3 _⟩⟩
        case rest =>
          obtain ⟨p10, rfl, hq10⟩ := hcut
          have HQ10 := Lib.hid hq10.out
          have HB10 := Lib.hid (HBC.out.trans (HQ10.out.1.mono HBC.out.size))
          have hk9 := HQ9.out.2.below HQ10.out.1 HQ9.out.2.lt
          have c0 := HQ10.out.2.at_ 0
          have c1 := HQ10.out.2.at_ 1
          have c2 := HQ10.out.2.at_ 2
          have c3 := HQ10.out.2.at_ 3
          have d0 := hk9.at_ 0
          have d1 := hk9.at_ 1
          have d2 := hk9.at_ 2
          simp only [List.getElem?_toArray, List.getElem?_cons_zero, List.getElem?_cons_succ] at c0 c1 c2 c3 d0 d1 d2
          clear n0 v0 v1 v2 u0 u1 u2 u3 hk9 HS5 HY5 HTG HT
          by_cases e0 : ka = x1
          · by_cases e1 : kb = x2
            · by_cases e2 : kc = x3
              · subst e0 e1 e2
                have HE := Lib.hid (show R = x4 from by rw [HRR.out]; exact if_pos ⟨rfl, rfl, rfl⟩)
                go_wp2
                go_ret
                exact ⟨by rw [HE.out]; rfl, HB10.out⟩
              · have e2' : ((kc : Int) == (x3 : Int)) = false := beq_eq_false_iff_ne.2 (by omega)
                subst e0 e1
                have HE := Lib.hid (show R = 0 from by rw [HRR.out]; exact if_neg (fun h => e2 h.2.2))
                go_wp2
                go_ret
                exact ⟨by rw [HE.out]; rfl, HB10.out⟩
            · have e1' : ((kb : Int) == (x2 : Int)) = false := beq_eq_false_iff_ne.2 (by omega)
              subst e0
              have HE := Lib.hid (show R = 0 from by rw [HRR.out]; exact if_neg (fun h => e1 h.2.1))
              go_wp2
              go_ret
              exact ⟨by rw [HE.out]; rfl, HB10.out⟩
          · have e0' : ((ka : Int) == (x1 : Int)) = false := beq_eq_false_iff_ne.2 (by omega)
            have HE := Lib.hid (show R = 0 from by rw [HRR.out]; exact if_neg (fun h => e0 h.1))
            go_wp2
            go_ret
            exact ⟨by rw [HE.out]; rfl, HB10.out⟩
end Go.Proofs.YtmmdigeciphglaaGreatDoor
namespace Go.Proofs.YtmmdigeciphglaaGreatDoor
open Go.RowKit Ex Go.Maps
structure Tyx (w : World) : Prop where
  tx : Tx w
  rl : Rl w
theorem Tyx.below {w w' : World} (h : Tyx w) (hb : Below w.heap.size w w') : Tyx w' := ⟨h.tx.below hb, h.rl.below hb (Nat.le_refl _)⟩
def NsR (w : World) (Bx : Nat) (A : Option Addr) (ns : List Ty.Nm) : Prop := ∀ j (hj : j < ns.length), ∃ g o, A = some ⟨g, o, none⟩ ∧ g < Bx ∧ w.cell? ⟨g, o + j, none⟩ = some (.string ⟨ns[j].toArray⟩)
theorem NsR.below {w w' : World} {B : Nat} {A : Option Addr} {ns : List Ty.Nm} (h : NsR w B A ns) (hb : Below B w w') : NsR w' B A ns := fun j hj => by
  obtain ⟨g, o, e, hg, c0⟩ := h j hj
  exact ⟨g, o, e, hg, (hb.cell (p := ⟨g, _, none⟩) hg).trans c0⟩
theorem NsR.more {w : World} {B B' : Nat} {A : Option Addr} {ns : List Ty.Nm} (h : NsR w B A ns) (hB : B ≤ B') : NsR w B' A ns := fun j hj => by
  obtain ⟨g, o, e, hg, q⟩ := h j hj
  exact ⟨g, o, e, Nat.lt_of_lt_of_le hg hB, q⟩
theorem NsR.on {w w' : World} {A : Option Addr} {ns : List Ty.Nm} (h : NsR w w.heap.size A ns) (hb : Below w.heap.size w w') : NsR w' w'.heap.size A ns := (h.below hb).more hb.size
def FitN (ns : List Ty.Nm) : Prop := ns.length ≤ 1000000 ∧ ∀ q ∈ ns, q.length ≤ 1000000
def kiV (k : Nat) : Value := .int .u8 (k : Nat)
theorem infoU8 : (Tryz.prog.info? 5).map (fun i => (i.zero, i.size, i.bytes)) = some (some (.int .u8 0), 1, 1) := by kernel_rfl
def kds (l : List Nd) (ns : List Ty.Nm) : List Nat × Nat × Int := if chk l ≠ 0 then ([], 0, chk l) else Ty.kgo ns l []
def KiP (X : List Nat × Nat × Int) (w : World) (e : Ending) (w' : World) : Prop :=
  ∃ v, w'.ownsRow w.heap.size 5 1 v X.1.length (X.1.map kiV) ∧ e = .returned (.tuple #[v, .int .i64 (X.2.1 : Nat), .int .i64 X.2.2]) ∧ Below w.heap.size w w'
theorem own_kir {w : World} {B n c : Nat} {A : Option Addr} {K : List Nat} (h : w.ownsRow B 5 1 (.slice A n c) n (K.map kiV)) (hn : n = K.length) : KiR w w.heap.size A K ∧ n ≤ c ∧ c ≤ maxLen := by
  obtain ⟨A', c', e, h1, h2, h3⟩ := own_sliced h
  injection e with e1 _ e3
  subst e1 e3
  refine ⟨fun j hj => ?_, h1, h2⟩
  obtain ⟨g, rfl, _, hg⟩ := h3 (by omega)
  refine ⟨g, 0, rfl, hg, ?_⟩
  have := own_cell h (j := j) (u := kiV K[j]) (by rw [List.getElem?_map, List.getElem?_eq_getElem hj]; rfl)
  simpa [kiV] using this
theorem flat_ops : ∀ (x : E) (p : Nat), wr x → ∀ n ∈ flat x p, 1 ≤ n.op ∧ n.op ≤ 22
  | .num v, p, _, n, hn => by rw [List.mem_singleton.1 hn]; exact ⟨by simp, by simp⟩
  | .name v, p, _, n, hn => by rw [List.mem_singleton.1 hn]; exact ⟨by simp, by simp⟩
  | .tt, p, _, n, hn => by rw [List.mem_singleton.1 hn]; exact ⟨by simp, by simp⟩
  | .ff, p, _, n, hn => by rw [List.mem_singleton.1 hn]; exact ⟨by simp, by simp⟩
  | .un op a, p, hw, n, hn => by
    rcases List.mem_append.1 hn with h | h
    · exact flat_ops a p hw.2 n h
    · rw [List.mem_singleton.1 h]; have := hw.1; exact ⟨by simp only; omega, by simp only; omega⟩
  | .bin op a b, p, hw, n, hn => by
    rcases List.mem_append.1 hn with h | h
    · rcases List.mem_append.1 h with h | h
      · exact flat_ops a p hw.2.2.1 n h
      · exact flat_ops b _ hw.2.2.2 n h
    · rw [List.mem_singleton.1 h]; have := hw.1; have := hw.2.1; exact ⟨by simp only; omega, by simp only; omega⟩
  | .ite a b c, p, hw, n, hn => by
    rcases List.mem_append.1 hn with h | h
    · rcases List.mem_append.1 h with h | h
      · rcases List.mem_append.1 h with h | h
        · exact flat_ops a p hw.1 n h
        · exact flat_ops b _ hw.2.1 n h
      · exact flat_ops c _ hw.2.2 n h
    · rw [List.mem_singleton.1 h]; exact ⟨by simp, by simp⟩
theorem row_nodes {l : List Nd} (h : dep l ≠ 0) {i : Nat} (hi : i < l.length) : (1 ≤ l[i].op ∧ l[i].op ≤ 22) ∧ l[i].a < i ∧ l[i].b < i ∧ l[i].c < i := by
  obtain ⟨x, h1, h2, _⟩ := dep_row h
  have hm : l[i] ∈ flat x 0 := by rw [← h2]; exact List.getElem_mem hi
  have hq := Ty.flat_in x 0 i l[i] (by rw [← h2]; exact List.getElem?_eq_getElem hi)
  have q : ∀ p : Int, Ty.In 0 (0 + i) p → p < i := fun p hp => by
    rcases hp with rfl | ⟨_, h⟩ <;> omega
  exact ⟨flat_ops x 0 h1 _ hm, q _ hq.1, q _ hq.2.1, q _ hq.2.2⟩
theorem KnM.grown {w w' : World} {b m : Nat} {ns : List Ty.Nm} {row : Option Nat} (h : KnM w b m ns) (hg : w.grownBy w' row) (hne : some b ≠ row) : KnM w' b m ns := by
  obtain ⟨D, h1, h2⟩ := h
  exact ⟨D, h1.kept hg hne, h2⟩
structure KdI (w1 : World) (l : List Nd) (ns : List Ty.Nm) (mb m : Nat) (R : List Nat × Nat × Int) (wr : World) (i : Nat) (v : Value) (K : List Nat) : Prop where
  below : Below w1.heap.size w1 wr
  set : KnM wr mb m ns
  own : wr.ownsRow w1.heap.size 5 1 v K.length (K.map kiV)
  len : K.length = i
  eq : R = Ty.kgo ns (l.drop i) K
set_option maxHeartbeats 8000000 in
set_option maxRecDepth 100000 in
theorem kinds_any (w : World) (T : Tyx w) (A : Option Addr) (c : Nat) (l : List Nd) (hl : NdR w w.heap.size A l) (hc : l.length ≤ c) (hf : Fit l) (A2 : Option Addr) (c2 : Nat) (ns : List Ty.Nm) (hn : NsR w w.heap.size A2 ns) (hc2 : ns.length ≤ c2) (hfn : FitN ns) :
    Calls Tryz.prog 138 #[.agg #[.slice A l.length c], .slice A2 ns.length c2] w (KiP (kds l ns) w) := by
  obtain ⟨W0, hW0⟩ : ∃ W0, W0 = w.alloc (.cells #[.slice A l.length c] 78) := ⟨_, rfl⟩
  have hb0 : Below w.heap.size w W0 := by rw [hW0]; exact (Below.refl _ _).alloc (Nat.le_refl _) _
  have k0 : IsBlk W0 w.heap.size 78 #[.slice A l.length c] := by rw [hW0]; exact IsBlk.new _ _ _
  have HCK := Lib.hid (check_any W0 (T.below hb0).tx A c l ((hl.below hb0).more hb0.size) hc hf)
  obtain ⟨R, hR⟩ : ∃ R, R = kds l ns := ⟨_, rfl⟩
  rw [← hR]
  obtain ⟨z, hz⟩ : ∃ z, z = chk l := ⟨_, rfl⟩
  unfold kds at hR
  rw [← hz] at HCK hR
  have HW0 := Lib.hid hW0
  have HB0 := Lib.hid hb0
  have K0 := Lib.hid k0
  have hcI : (l.length : Int) ≤ (c : Int) := by omega
  have hc2I : (ns.length : Int) ≤ (c2 : Int) := by omega
  have hlN : (l.length : Int) ≤ 800000 := by have := hf.1; omega
  have hnN : (ns.length : Int) ≤ 1000000 := by have := hfn.1; omega
  by_cases hz0 : z = 0
  · have hz1 : (z == 0) = true := by simp [hz0]
    rw [if_neg (fun h => h hz0)] at hR
    have HR := Lib.hid hR
    have HG := Lib.hid (And.intro hl (And.intro hn (And.intro hf (And.intro hfn T))))
    have HD := Lib.hid (show dep l ≠ 0 from fun h => by
      rw [hz] at hz0
      unfold chk at hz0
      rw [if_pos h] at hz0
      cases hz0)
    subst hz0
    clear hW0 hb0 hR hl hn hf hfn T k0 hz
    obtain ⟨n, hnl⟩ : ∃ n, n = l.length := ⟨_, rfl⟩
    obtain ⟨m, hml⟩ : ∃ m, m = ns.length := ⟨_, rfl⟩
    rw [← hnl] at HCK HW0 hcI hlN K0
    rw [← hml] at hc2I hnN
    rw [← hnl, ← hml]
    have HN := Lib.hid (And.intro hnl hml)
    have hmm := @run_makeMap Tryz.prog
    obtain ⟨i0, hi, hy0, hy1, hy2⟩ := info_parts infoU8
    clear hnl hml hc hc2
    go_enter Tryz.func138, Tryz.ntmps138
    go_wp2_with fail
    rw [← HW0.out]
    refine HCK.out.mono ?_
    rintro e w1 ⟨rfl, hb1⟩
    have HB1 := Lib.hid (HB0.out.trans (hb1.mono HB0.out.size))
    have K1 := Lib.hid (K0.out.below hb1 K0.out.lt)
    clear hb1
    go_wp2
    go_loopw [21] (fun iv wr => ∃ i : Nat, iv = .int .i64 i ∧ i ≤ m ∧ Hid (KnM wr w1.heap.size i (ns.take i) ∧ Below w1.heap.size w1 wr)) (fun iv _ => m - (intOf iv).toNat)
    case atStart => exact ⟨0, rfl, Nat.zero_le _, Lib.hid ⟨KnM.made w1, (Below.refl _ _).alloc (Nat.le_refl _) _⟩⟩
    case round =>
      obtain ⟨i, rfl, hi1, HI⟩ := hrel
      by_cases him : i < m
      · have him' : (i : Int) < (m : Int) := by omega
        have hin : i < ns.length := by rw [← HN.out.2]; exact him
        obtain ⟨g, o, hA2, hg, q0⟩ := HG.out.2.1 i hin
        subst hA2
        have q1 : wr.cell? ⟨g, o + i, none⟩ = some (.string ⟨ns[i].toArray⟩) := ((HB1.out.trans (HI.out.2.mono HB1.out.size)).cell (p := ⟨g, _, none⟩) hg).trans q0
        have HSZ := Lib.hid (HG.out.2.2.2.1.2 _ (List.getElem_mem hin))
        have HTK := Lib.hid (show ns.take (i + 1) = ns.take i ++ [ns[i]] from List.take_succ_eq_append_getElem hin)
        generalize ns[i] = q at *
        obtain ⟨N, hN⟩ : ∃ N : ByteArray, N = ⟨q.toArray⟩ := ⟨_, rfl⟩
        rw [← hN] at q1
        have HKEY := Lib.hid (show keyOf Tryz.prog 9 (.string N) = some (.string q) from by
          rw [Go.WideMaps.keyOf_string_mk Tryz.underlying9 (show N.size ≤ maxLen by rw [Lib.size_eq, hN]; have := HSZ.out; unfold maxLen; simp only; omega), hN])
        obtain ⟨D, hown, hD, hhas⟩ := HI.out.1
        have HDD := Lib.hid (And.intro hD (And.intro hhas HI.out.2))
        have HIM := Lib.hid him
        have HI6 := Lib.hid (show i < maxLen by have := HG.out.2.2.2.1.1; unfold maxLen; omega)
        clear q0 hN hD hhas HI him
        go_wp2_with (first | (at_mapUpdate; refine wpList_mapUpdate_own _ rfl _ _ _ 109 rfl 9 162 lawS Tryz.underlying109 unitElem w1.heap.size i D rfl hown HI6.out _ _ _ rfl rfl HKEY.out (.agg []) [] unitElem_mk ?_; intro w3 hown3 hgr3; have HO3 := Lib.hid (And.intro hown3 hgr3); clear hown3 hgr3 hown) | go_in)
        go_roundw
        case rel => exact ⟨i + 1, by go_num, HIM.out, Lib.hid ⟨⟨_, HO3.out.1, HDD.out.1.put _ _, fun x => by rw [HTK.out]; exact has_put HDD.out.1 HDD.out.2.1 q x⟩, HDD.out.2.2.grown HO3.out.2 HDD.out.2.2.size (fun k hk => by cases hk; exact Nat.le_refl _)⟩⟩
        case measure => have := HIM.out; simp [intOf]; omega
      · obtain rfl : i = m := by omega
        have him' : ¬ (i : Int) < (i : Int) := by omega
        have HST := Lib.hid (show KnM wr w1.heap.size i ns ∧ Below w1.heap.size w1 wr from by
          have q := HI.out
          rw [List.take_of_length_le (by rw [← HN.out.2]; exact Nat.le_refl _)] at q
          exact q)
        have HBW := Lib.hid (HB1.out.trans (HI.out.2.mono HB1.out.size))
        have e0 : wr.cell? ⟨w.heap.size, 0, none⟩ = some (.slice A n c) := (K1.out.below HI.out.2 K1.out.lt).at_ 0
        clear him HI
        go_wp2
        generalize wr = wa at *
        go_loopw [4, 32] (fun lv iv wx => ∃ (v : Value) (j : Nat) (K : List Nat), lv = v ∧ iv = .int .i64 j ∧ j ≤ n ∧ Hid (KdI wa l ns w1.heap.size i R wx j v K)) (fun _ iv _ => n - (intOf iv).toNat)
        case atStart => exact ⟨_, 0, [], rfl, rfl, Nat.zero_le _, Lib.hid ⟨Below.refl _ _, HST.out.1, World.ownsRow_nil _ _ _ _, rfl, HR.out⟩⟩
        case round =>
          obtain ⟨v, j, K, rfl, rfl, hj, HI⟩ := hrel
          have HBX := Lib.hid (HBW.out.trans (HI.out.below.mono HBW.out.size))
          have hws := HBX.out.size
          by_cases hjn : j < n
          · have hjn' : (j : Int) < (n : Int) := by omega
            have hjl : j < l.length := by rw [← HN.out.1]; exact hjn
            obtain ⟨g, o, hA, hg, q0, q1, q2, q3, q4, q5⟩ := (HG.out.1.below HBX.out) j hjl
            subst hA
            have HNO := Lib.hid (row_nodes HD.out hjl)
            have HNM := Lib.hid (HG.out.2.2.1.2 _ (List.getElem_mem hjl))
            have HEQ := Lib.hid (show R = if Ty.kd l[j] K ns = 0 then ([], K.length, 90) else Ty.kgo ns (l.drop (j + 1)) (K ++ [Ty.kd l[j] K ns]) from by rw [HI.out.eq, List.drop_eq_getElem_cons hjl]; rfl)
            obtain ⟨A3, c3, hv, _, _, _, hcm⟩ := own_slice HI.out.own
            subst hv
            have hkr := own_kir HI.out.own rfl
            obtain ⟨W2, hW2⟩ : ∃ W2, W2 = wr.alloc (.cells (ndV l[j]).toArray 105) := ⟨_, rfl⟩
            have hb2 : Below wr.heap.size wr W2 := by rw [hW2]; exact (Below.refl _ _).alloc (Nat.le_refl _) _
            have k2 : IsBlk W2 wr.heap.size 105 (ndV l[j]).toArray := by rw [hW2]; exact IsBlk.new _ _ _
            have HB2 := Lib.hid (HBX.out.trans (hb2.mono HBX.out.size))
            have hlen := HI.out.len
            have HKO := Lib.hid (kindOf_any W2 (HG.out.2.2.2.2.below HB2.out).rl l[j] HNO.out.1 HNM.out.1 A3 c3 K (hkr.1.on hb2) hkr.2.1 (by rw [hlen]; exact HNO.out.2) w1.heap.size i ns (HI.out.set.below hb2))
            have HO2 := Lib.hid (own_below HI.out.own hb2)
            have HS2 := Lib.hid (HI.out.set.below hb2)
            have HBL := Lib.hid (HI.out.below.trans (hb2.mono HI.out.below.size))
            have HW2 := Lib.hid hW2
            have y0 := k2.at_ 0
            have y1 := k2.at_ 1
            have y2 := k2.at_ 2
            have y3 := k2.at_ 3
            have y4 := k2.at_ 4
            have y5 := k2.at_ 5
            generalize l[j] = X at *
            obtain ⟨kk, hkk⟩ : ∃ kk, kk = Ty.kd X K ns := ⟨_, rfl⟩
            rw [← hkk] at HKO HEQ
            obtain ⟨op, num, nm, na, nb, nc⟩ := X
            simp only [ndV, ndA, List.getElem?_toArray, List.getElem?_cons_zero, List.getElem?_cons_succ] at q0 q1 q2 q3 q4 q5 y0 y1 y2 y3 y4 y5 HKO HW2
            generalize (⟨nm.toArray⟩ : ByteArray) = N at *
            have HJ := Lib.hid hjn
            clear hW2 hb2 k2 hkr hkk hjl
            obtain ⟨N3, hN3⟩ : ∃ N3, N3 = K.length := ⟨_, rfl⟩
            rw [← hN3] at HKO hlen
            rw [← hN3]
            have HN3 := Lib.hid hN3
            have HLN := Lib.hid hlen
            clear hN3 hlen
            go_wp2_with fail
            rw [← HW2.out]
            go_wp2_with fail
            refine HKO.out.mono ?_
            rintro e w3 ⟨rfl, hb3⟩
            have HB3 := Lib.hid (HB2.out.trans (hb3.mono HB2.out.size))
            have HO3 := Lib.hid (own_below HO2.out hb3)
            have HS3 := Lib.hid (HS2.out.below hb3)
            have HL3 := Lib.hid (HBL.out.trans (hb3.mono HBL.out.size))
            clear hb3 y0 y1 y2 y3 y4 y5 q0 q1 q2 q3 q4 q5
            by_cases hk0 : kk = 0
            · have HE := Lib.hid (show R = ([], j, 90) from by rw [HEQ.out, if_pos hk0, ← HN3.out, HLN.out])
              subst hk0
              go_wp2
              go_ret3
              exact ⟨.slice none 0 0, by rw [HE.out]; exact World.ownsRow_nil _ _ _ _, by rw [HE.out]; rfl, HB3.out⟩
            · have hk0' : ((kk : Int) == 0) = false := beq_eq_false_iff_ne.2 (by omega)
              have HE := Lib.hid (show R = Ty.kgo ns (l.drop (j + 1)) (K ++ [kk]) from by rw [HEQ.out, if_neg hk0])
              have hsz3 := HB3.out.size
              have hN3j : N3 ≤ j := Nat.le_of_eq HLN.out
              have hbig : N3 + 1 ≤ maxLen := by unfold maxLen; omega
              have HO3 := Lib.hid (show w3.ownsRow wa.heap.size 5 1 (.slice A3 N3 c3) N3 (K.map kiV) from by have h := HO3.out; rw [← HN3.out] at h; exact h)
              have hbw := Lib.hid (show ∀ k, (Value.slice A3 N3 c3).ownBlock = some k → wa.heap.size ≤ k from fun k hk => (HO3.out.lt k hk).1)
              have hsa := HL3.out.size
              have HMB := Lib.hid HST.out.1.lt
              clear hk0
              go_wp2_with (at_builtin; (refine wpList_append_own _ rfl _ _ _ rfl wa.heap.size 5 i0 _ 1 1 Tryz.underlying152 hi hy0 hy1 hy2 rfl (by omega) (.slice A3 N3 c3) N3 (K.map kiV) (by rfl) (by exact World.ownsRow.alloc HO3.out _) _ 1 _ [.int .u8 (kk : Nat)] (by rfl) rfl (by intro j u hu; exact news_at _ _ _ _ (by simp) j u hu) (by intro u hu; simp at hu; subst hu; rfl) hbig (by omega) (by simp; omega) ?_); intro v9 w9 hown9 hgr9 _; have HR9 := Lib.hid (And.intro hown9 (And.intro (show Below wa.heap.size wa w9 from Below.grown (HL3.out.alloc hsa _) hgr9 (by simp; omega) hbw.out) (show KnM w9 w1.heap.size i ns from (HS3.out.below ((Below.refl _ _).alloc (Nat.le_refl _) _)).grown hgr9 (fun e => by have h1 := hbw.out _ e.symm; have h2 := HMB.out; omega)))); clear hown9 hgr9)
              go_roundw
              case rel => exact ⟨v9, j + 1, K ++ [kk], rfl, by go_num, HJ.out, Lib.hid ⟨HR9.out.2.1, HR9.out.2.2, by
                rw [List.length_append, List.map_append, ← HN3.out]; exact HR9.out.1, by rw [List.length_append, ← HN3.out, HLN.out]; rfl, HE.out⟩⟩
              case measure => have := HJ.out; simp [intOf]; omega
          · obtain rfl : j = n := by omega
            have hjn' : ¬ (j : Int) < (j : Int) := by omega
            have HE := Lib.hid (show R = (K, 0, 0) from by
              have h := HI.out.eq
              rw [List.drop_of_length_le (by rw [← HN.out.1]; exact Nat.le_refl _)] at h
              exact h)
            clear hjn
            go_wp2
            go_ret3
            exact ⟨_, by rw [HE.out]; exact own_less HI.out.own HBW.out.size, by rw [HE.out]; rfl, HBX.out⟩
  · have hz1 : (z == 0) = false := by simpa using hz0
    have hz2 : (z != 0) = true := by simp [bne, hz1]
    rw [if_pos hz0] at hR
    have HE := Lib.hid hR
    clear hW0 hb0 hR hl hn hf hfn T k0 hz hz0
    go_enter Tryz.func138, Tryz.ntmps138
    go_wp2_with fail
    rw [← HW0.out]
    refine HCK.out.mono ?_
    rintro e w1 ⟨rfl, hb1⟩
    have HB1 := Lib.hid (HB0.out.trans (hb1.mono HB0.out.size))
    clear hb1
    go_wp2
    go_ret3
    exact ⟨.slice none 0 0, by rw [HE.out]; exact World.ownsRow_nil _ _ _ _, by rw [HE.out]; rfl, HB1.out⟩
def ofs (X : List Nat × Nat × Int) : Nat × Nat × Int := if X.2.2 ≠ 0 then (0, X.2.1, X.2.2) else (X.1.getLastD 0, 0, 0)
theorem kds_ok {l : List Nd} {ns : List Ty.Nm} (h : (kds l ns).2.2 = 0) : chk l = 0 ∧ (kds l ns).2.1 = 0 ∧ (kds l ns).1.length = l.length ∧ 1 ≤ l.length ∧ (∀ k ∈ (kds l ns).1, k = 1 ∨ k = 2) ∧ kds l ns = Ty.kgo ns l [] := by
  unfold kds at h
  by_cases hc : chk l = 0
  · have e : kds l ns = Ty.kgo ns l [] := if_neg (fun q => q hc)
    rw [if_neg (fun q => q hc)] at h
    obtain ⟨h1, l', h2, h3, h4⟩ := Ty.kgo_kinds l [] (fun k hk => nomatch hk) h
    rw [List.nil_append] at h2 h4
    have hl : 1 ≤ l.length := by
      have hd : dep l ≠ 0 := fun q => by unfold chk at hc; rw [if_pos q] at hc; cases hc
      obtain ⟨x, _, hx, _⟩ := dep_row hd
      rw [hx, flat_len]; exact sz_pos x
    exact ⟨hc, by rw [e, h1], by rw [e, h2, h3], hl, by rw [e, h2]; exact h4, e⟩
  · rw [if_pos hc] at h; exact absurd h hc
set_option maxHeartbeats 4000000 in
set_option maxRecDepth 100000 in
theorem of_any (w : World) (T : Tyx w) (A : Option Addr) (c : Nat) (l : List Nd) (hl : NdR w w.heap.size A l) (hc : l.length ≤ c) (hf : Fit l) (A2 : Option Addr) (c2 : Nat) (ns : List Ty.Nm) (hn : NsR w w.heap.size A2 ns) (hc2 : ns.length ≤ c2) (hfn : FitN ns) :
    Calls Tryz.prog 113 #[.agg #[.slice A l.length c], .slice A2 ns.length c2] w fun e w' => e = .returned (.tuple #[.int .u8 ((ofs (kds l ns)).1 : Nat), .int .i64 ((ofs (kds l ns)).2.1 : Nat), .int .i64 (ofs (kds l ns)).2.2]) ∧ Below w.heap.size w w' := by
  obtain ⟨W0, hW0⟩ : ∃ W0, W0 = w.alloc (.cells #[.slice A l.length c] 78) := ⟨_, rfl⟩
  have hb0 : Below w.heap.size w W0 := by rw [hW0]; exact (Below.refl _ _).alloc (Nat.le_refl _) _
  have HKI := Lib.hid (kinds_any W0 (T.below hb0) A c l ((hl.below hb0).more hb0.size) hc hf A2 c2 ns (hn.on hb0) hc2 hfn)
  have HOK := Lib.hid (@kds_ok l ns)
  have HW0 := Lib.hid hW0
  have HB0 := Lib.hid hb0
  have hl8 := hf.1
  generalize kds l ns = X at *
  obtain ⟨K, a, z⟩ := X
  simp only at HOK
  clear hW0 hb0 T hl hn hfn hf
  by_cases hz : z = 0
  · subst hz
    obtain ⟨_, h1, h2, h3, _⟩ := HOK.out rfl
    subst h1
    have e : ofs (K, 0, 0) = (K.getLastD 0, 0, 0) := rfl
    rw [e]
    obtain ⟨kk, hgl, HKK⟩ : ∃ kk, K.getLastD 0 = kk ∧ Hid (K[K.length - 1]? = some kk) := ⟨K[K.length - 1]'(by omega), by
      rw [List.getLastD_eq_getLast?, List.getLast?_eq_getElem?, List.getElem?_eq_getElem (by omega)]; rfl, Lib.hid (List.getElem?_eq_getElem (by omega))⟩
    have hK1 : 1 ≤ K.length := by omega
    have hK8 : K.length ≤ 800000 := by omega
    simp only
    rw [hgl]
    clear HOK h3 hc hc2 e h2 hl8 hgl
    go_enter Tryz.func113, Tryz.ntmps113
    go_wp2_with fail
    rw [← HW0.out]
    refine HKI.out.mono ?_
    rintro e w1 ⟨v, ho, rfl, hb⟩
    simp only at ho
    obtain ⟨A3, c3, hv, h0, _, h5, h6⟩ := own_slice ho
    subst hv
    have hkr := own_kir ho rfl
    obtain ⟨g, o, hA, hg, q0⟩ := hkr.1 (K.length - 1) (by omega)
    subst hA
    have HB := Lib.hid (HB0.out.trans (hb.mono HB0.out.size))
    have hc3 : (K.length : Int) ≤ (c3 : Int) := by omega
    have hkk : K[K.length - 1]'(by omega) = kk := by
      have h := HKK.out
      rw [List.getElem?_eq_getElem (by omega)] at h
      injection h
    rw [hkk] at q0
    clear hkk HKK
    obtain ⟨N, hN⟩ : ∃ N, N + 1 = K.length := ⟨K.length - 1, by omega⟩
    rw [show K.length - 1 = N by omega] at q0
    have hN1 : IntKind.i64.wrap ((K.length : Int) - 1) = (N : Int) := by rw [IntWalk.i64_in _ (by omega)]; omega
    have hN2 : ((K.length : Int) - 1) = (N : Int) := by omega
    have hN3 : (N : Int) < (K.length : Int) := by omega
    generalize K.length = M at *
    clear ho hb hkr h0 h5 h6
    go_wp2
    go_ret3
    exact ⟨rfl, HB.out⟩
  · have hz1 : (z == 0) = false := by simpa using hz
    have hz2 : (z != 0) = true := by simp [bne, hz1]
    have e : ofs (K, a, z) = (0, a, z) := if_pos hz
    rw [e]
    clear HOK hz e
    go_enter Tryz.func113, Tryz.ntmps113
    go_wp2_with fail
    rw [← HW0.out]
    refine HKI.out.mono ?_
    rintro e w1 ⟨v, ho, rfl, hb⟩
    have HB := Lib.hid (HB0.out.trans (hb.mono HB0.out.size))
    clear ho hb
    go_wp2
    go_ret3
    exact ⟨rfl, HB.out⟩
end Go.Proofs.YtmmdigeciphglaaGreatDoor
