/- Facts and walks for the statement. -/
import Derived.Test.YtdcjpinbflmikaaGreatDoorChecked
import Derived.Test.YtdcjpinbflmikaaGreatDoorPzW03
import Derived.Handy
import Derived.Outline
import Derived.Deep.QuietTactic
import Derived.Deep.RegionLaw
import Derived.Deep.RegionHeld3
import Derived.Test.YtdcjpinbflmikaaGreatDoorPzW14
import Derived.Maps.OwnSet
import Derived.Deep.CutRange
import Derived.Test.YtdcjpinbflmikaaGreatDoorPzW04
import Derived.WalkLawsBesides
import Derived.Deep.DeepMust
namespace Go.Proofs.YtdcjpinbflmikaaGreatDoor
open Go.RowKit Ex
end Go.Proofs.YtdcjpinbflmikaaGreatDoor
namespace Go.Proofs.YtdcjpinbflmikaaGreatDoor
open Go.RowKit Ex Go.Maps
theorem lawS : Keyed Tryz.prog 9 := string_keyed Tryz.underlying9
end Go.Proofs.YtdcjpinbflmikaaGreatDoor
namespace Go.Proofs.YtdcjpinbflmikaaGreatDoor
open Go.RowKit Ex Go.Maps
end Go.Proofs.YtdcjpinbflmikaaGreatDoor
namespace Go.Proofs.YtdcjpinbflmikaaGreatDoor
open Go.RowKit Ex Go.Maps
def NmM (w : World) (b : Nat) (m : Nat) (bs : List Ev.Bd) : Prop := ∃ D : DataW Unit, w.ownsMap Tryz.prog 9 (plainElem Tryz.prog 2) b m D ∧ IsMap D ∧ ∀ q : Ty.Nm, Maps.has D (.string q) = (Ev.look bs q).isSome ∧ ∀ n, Ev.look bs q = some n → D.atKey (.string q) (.lit (.int .i64 0)) = .lit (.int .i64 n)
theorem zeroI (w : World) : (zeroValue 2).run Tryz.prog w = .ok (.int .i64 0) w := by kernel_rfl
theorem NmM.below {w w' : World} {b m : Nat} {bs : List Ev.Bd} (h : NmM w b m bs) (hb : Below w.heap.size w w') : NmM w' b m bs := by
  obtain ⟨D, h1, h2, h3⟩ := h
  have hlt := h1.lt
  obtain ⟨es, clock, e1, e2⟩ := h1
  exact ⟨D, ⟨es, clock, (hb.block b hlt).trans e1, e2⟩, h2, h3⟩
theorem NmM.lt {w : World} {b m : Nat} {bs : List Ev.Bd} (h : NmM w b m bs) : b < w.heap.size := by
  obtain ⟨D, h1, _⟩ := h
  exact h1.lt
theorem NmM.made (w : World) : NmM (w.alloc (.map #[] 0)) w.heap.size 0 [] :=
  ⟨.map [], World.ownsMap_made _ _ _ _, ⟨[], rfl⟩, fun q => ⟨by simp [Maps.has, Ev.look], fun n h => nomatch h⟩⟩
theorem NmM.up {w : World} {b m m' : Nat} {bs : List Ev.Bd} (h : NmM w b m bs) (hm : m ≤ m') : NmM w b m' bs := by
  obtain ⟨D, h1, h2⟩ := h
  exact ⟨D, h1.mono hm, h2⟩
theorem look_app : ∀ (bs : List Ev.Bd) (q : Ev.Bd) (s : Ty.Nm), Ev.look (bs ++ [q]) s = match Ev.look bs s with
    | some n => some n
    | none => if q.1 = s then some q.2 else none
  | [], q, s => rfl
  | p :: r, q, s => by
    show (if p.1 = s then some p.2 else Ev.look (r ++ [q]) s) = match (if p.1 = s then some p.2 else Ev.look r s) with
      | some n => some n
      | none => if q.1 = s then some q.2 else none
    by_cases h : p.1 = s
    · rw [if_pos h, if_pos h]
    · rw [if_neg h, if_neg h, look_app r q s]
theorem NmM.skip {w : World} {b m : Nat} {bs : List Ev.Bd} {q : Ev.Bd} (h : NmM w b m bs) (hq : (Ev.look bs q.1).isSome = true) : NmM w b m (bs ++ [q]) := by
  obtain ⟨D, h1, h2, h3⟩ := h
  have e : ∀ s, Ev.look (bs ++ [q]) s = Ev.look bs s := fun s => by
    rw [look_app]
    cases hs : Ev.look bs s with
    | some n => rfl
    | none =>
      show (if q.1 = s then some q.2 else none) = none
      rw [if_neg (fun e => by rw [e, hs] at hq; cases hq)]
  exact ⟨D, h1, h2, fun s => by rw [e s]; exact h3 s⟩
theorem look_put {D : DataW Unit} (hD : IsMap D) {bs : List Ev.Bd} (h : ∀ q : Ty.Nm, Maps.has D (.string q) = (Ev.look bs q).isSome ∧ ∀ n, Ev.look bs q = some n → D.atKey (.string q) (.lit (.int .i64 0)) = .lit (.int .i64 n)) (q : Ev.Bd) (hq : Ev.look bs q.1 = none) (s : Ty.Nm) :
    Maps.has (D.put (.string q.1) (.lit (.int .i64 q.2))) (.string s) = (Ev.look (bs ++ [q]) s).isSome ∧ ∀ n, Ev.look (bs ++ [q]) s = some n → (D.put (.string q.1) (.lit (.int .i64 q.2))).atKey (.string s) (.lit (.int .i64 0)) = .lit (.int .i64 n) := by
  by_cases e : s = q.1
  · subst e
    have e2 : Ev.look (bs ++ [q]) q.1 = some q.2 := by rw [look_app, hq]; exact if_pos rfl
    rw [e2, has_put_same hD (show WideAt.IsKeyLit (.string q.1) from True.intro)]
    refine ⟨rfl, fun n hn => ?_⟩
    injection hn with hn
    subst hn
    exact atKey_put_same hD (show WideAt.IsKeyLit (.string q.1) from True.intro) _ _
  · have e2 : Ev.look (bs ++ [q]) s = Ev.look bs s := by
      rw [look_app]
      cases hs : Ev.look bs s with
      | some n => rfl
      | none => exact if_neg (fun h => e h.symm)
    have hne : Lit.string s ≠ Lit.string q.1 := fun h => e (by injection h)
    rw [e2, has_put_other hne]
    refine ⟨(h s).1, fun n hn => ?_⟩
    rw [atKey_put_other hne]
    exact (h s).2 n hn
end Go.Proofs.YtdcjpinbflmikaaGreatDoor
namespace Go.Proofs.YtdcjpinbflmikaaGreatDoor
open Go.RowKit Ex
set_option maxRecDepth 100000 in
theorem ofInt_any (n : Int) (w : World) : Calls Tryz.prog 188 #[.int .i64 n] w fun e w' => e = .returned (vlA (Ev.vi n)) ∧ Below w.heap.size w w' := by
  go_enter Tryz.func188, Tryz.ntmps188
  go_wp2
  refine bodyPost_ret (v := vlA (Ev.vi n)) (by simp [results, Tryz.results188, go_sem, vlA, Ev.vi]) rfl ?_
  exact ⟨rfl, (Below.refl _ _).alloc (Nat.le_refl _) _⟩
set_option maxRecDepth 100000 in
theorem ofBool_any (n : Bool) (w : World) : Calls Tryz.prog 134 #[.bool n] w fun e w' => e = .returned (vlA (Ev.vb n)) ∧ Below w.heap.size w w' := by
  go_enter Tryz.func134, Tryz.ntmps134
  go_wp2
  refine bodyPost_ret (v := vlA (Ev.vb n)) (by simp [results, Tryz.results134, go_sem, vlA, Ev.vb]) rfl ?_
  exact ⟨rfl, (Below.refl _ _).alloc (Nat.le_refl _) _⟩
set_option maxRecDepth 100000 in
theorem reckoned_any (n z : Int) (w : World) : Calls Tryz.prog 123 #[.int .i64 n, .int .i64 z] w fun e w' => e = endZ (Ev.rk (n, z)) ∧ Below w.heap.size w w' := by
  by_cases hz : z = 0
  · subst hz
    have HO := Lib.hid (fun w0 => ofInt_any n w0)
    unfold Ev.rk
    rw [if_pos rfl]
    unfold vlA Ev.vi at HO
    go_enter Tryz.func123, Tryz.ntmps123
    go_wp2_with fail
    refine (HO.out _).mono ?_
    rintro e w1 ⟨rfl, hb⟩
    have kz := (IsBlk.new w 67 #[.int .u8 0, .int .i64 0, .bool false]).below hb (IsBlk.new w 67 #[.int .u8 0, .int .i64 0, .bool false]).lt
    have k0 := kz.at_ 0
    have k1 := kz.at_ 1
    have k2 := kz.at_ 2
    have f0 := kz.fz 0
    have f1 := kz.fz 1
    have f2 := kz.fz 2
    simp only [List.getElem?_toArray, List.getElem?_cons_zero, List.getElem?_cons_succ] at k0 k1 k2
    have HB := Lib.hid (((((Below.refl w.heap.size w).alloc (Nat.le_refl _) _).trans (hb.mono (by simp))).setCell (p := ⟨w.heap.size, 0, none⟩) (Nat.le_refl _) (.int .u8 1)).setCell (p := ⟨w.heap.size, 1, none⟩) (Nat.le_refl _) (.int .i64 n) |>.setCell (p := ⟨w.heap.size, 2, none⟩) (Nat.le_refl _) (.bool false))
    go_wp2
    refine bodyPost_ret (v := vlA (Ev.vi n)) (by simp [results, Tryz.results123, go_sem, vlA, Ev.vi, k0, k1, k2]) rfl ?_
    exact ⟨rfl, HB.out⟩
  · have hz1 : (z == 0) = false := by simpa using hz
    unfold Ev.rk
    rw [if_neg hz]
    unfold endZ pan
    go_enter Tryz.func123, Tryz.ntmps123
    go_wp2
    exact ⟨rfl, rfl, (Below.refl _ _).alloc (Nat.le_refl _) _⟩
set_option maxRecDepth 100000 in
theorem pair1_any (a b : Int) (w : World) (ha : Nu.fits a) (hb : Nu.fits b) : Calls Tryz.prog 122 #[.int .i64 a, .int .i64 b] w fun e w' => e = endZ (Ev.pair 7 a b) ∧ Below w.heap.size w w' := by
  have HM := Lib.hid (fun w0 => mul_any a b w0 ha hb)
  have e0 : Ev.pair 7 a b = Ev.rk (Nu.tell (a * b)) := rfl
  rw [e0]
  have HR0 := Lib.hid (fun x z w0 => reckoned_any x z w0)
  generalize Nu.tell (a * b) = p at *
  obtain ⟨x, z⟩ := p
  have HR := Lib.hid (HR0.out x z)
  clear HR0
  generalize Ev.rk (x, z) = R at *
  unfold tv at HM
  clear ha hb e0
  go_enter Tryz.func122, Tryz.ntmps122
  go_wp2_with fail
  refine (HM.out _).mono ?_
  rintro e w0 ⟨rfl, rfl⟩
  cases R with
  | ok v =>
    obtain ⟨vk, vn, vb⟩ := v
    simp only [endZ, vlA] at HR
    go_wp2_with fail
    refine (HR.out _).mono ?_
    rintro e w1 ⟨rfl, hb⟩
    have kz := (IsBlk.new w 67 #[.int .u8 0, .int .i64 0, .bool false]).below hb (IsBlk.new w 67 #[.int .u8 0, .int .i64 0, .bool false]).lt
    have k0 := kz.at_ 0
    have k1 := kz.at_ 1
    have k2 := kz.at_ 2
    have f0 := kz.fz 0
    have f1 := kz.fz 1
    have f2 := kz.fz 2
    simp only [List.getElem?_toArray, List.getElem?_cons_zero, List.getElem?_cons_succ] at k0 k1 k2
    have HB := Lib.hid (((((Below.refl w.heap.size w).alloc (Nat.le_refl _) _).trans (hb.mono (by simp))).setCell (p := ⟨w.heap.size, 0, none⟩) (Nat.le_refl _) (.int .u8 (vk : Nat))).setCell (p := ⟨w.heap.size, 1, none⟩) (Nat.le_refl _) (.int .i64 vn) |>.setCell (p := ⟨w.heap.size, 2, none⟩) (Nat.le_refl _) (.bool vb))
    clear hb
    go_wp2
    refine bodyPost_ret (v := vlA ⟨vk, vn, vb⟩) (by simp [results, Tryz.results122, go_sem, vlA, k0, k1, k2]) rfl ?_
    exact ⟨rfl, HB.out⟩
  | er y =>
    simp only [endZ, pan] at HR
    go_wp2_with fail
    refine (HR.out _).mono ?_
    rintro e w1 ⟨rfl, hb⟩
    have HB := Lib.hid (((Below.refl w.heap.size w).alloc (Nat.le_refl _) (.cells #[.int .u8 0, .int .i64 0, .bool false] 67)).trans (hb.mono (by simp)))
    clear hb
    go_simp
    exact ⟨rfl, rfl, HB.out⟩
set_option maxRecDepth 100000 in
theorem pair2_any (a b : Int) (w : World) (ha : Nu.fits a) (hb : Nu.fits b) : Calls Tryz.prog 125 #[.int .i64 a, .int .i64 b] w fun e w' => e = endZ (Ev.pair 8 a b) ∧ Below w.heap.size w w' := by
  have HM := Lib.hid (fun w0 => div_any a b w0 ha hb)
  have e0 : Ev.pair 8 a b = Ev.rk (Nu.div a b) := rfl
  rw [e0]
  have HR0 := Lib.hid (fun x z w0 => reckoned_any x z w0)
  generalize Nu.div a b = p at *
  obtain ⟨x, z⟩ := p
  have HR := Lib.hid (HR0.out x z)
  clear HR0
  generalize Ev.rk (x, z) = R at *
  unfold tv at HM
  clear ha hb e0
  go_enter Tryz.func125, Tryz.ntmps125
  go_wp2_with fail
  refine (HM.out _).mono ?_
  rintro e w0 ⟨rfl, rfl⟩
  cases R with
  | ok v =>
    obtain ⟨vk, vn, vb⟩ := v
    simp only [endZ, vlA] at HR
    go_wp2_with fail
    refine (HR.out _).mono ?_
    rintro e w1 ⟨rfl, hb⟩
    have kz := (IsBlk.new w 67 #[.int .u8 0, .int .i64 0, .bool false]).below hb (IsBlk.new w 67 #[.int .u8 0, .int .i64 0, .bool false]).lt
    have k0 := kz.at_ 0
    have k1 := kz.at_ 1
    have k2 := kz.at_ 2
    have f0 := kz.fz 0
    have f1 := kz.fz 1
    have f2 := kz.fz 2
    simp only [List.getElem?_toArray, List.getElem?_cons_zero, List.getElem?_cons_succ] at k0 k1 k2
    have HB := Lib.hid (((((Below.refl w.heap.size w).alloc (Nat.le_refl _) _).trans (hb.mono (by simp))).setCell (p := ⟨w.heap.size, 0, none⟩) (Nat.le_refl _) (.int .u8 (vk : Nat))).setCell (p := ⟨w.heap.size, 1, none⟩) (Nat.le_refl _) (.int .i64 vn) |>.setCell (p := ⟨w.heap.size, 2, none⟩) (Nat.le_refl _) (.bool vb))
    clear hb
    go_wp2
    refine bodyPost_ret (v := vlA ⟨vk, vn, vb⟩) (by simp [results, Tryz.results125, go_sem, vlA, k0, k1, k2]) rfl ?_
    exact ⟨rfl, HB.out⟩
  | er y =>
    simp only [endZ, pan] at HR
    go_wp2_with fail
    refine (HR.out _).mono ?_
    rintro e w1 ⟨rfl, hb⟩
    have HB := Lib.hid (((Below.refl w.heap.size w).alloc (Nat.le_refl _) (.cells #[.int .u8 0, .int .i64 0, .bool false] 67)).trans (hb.mono (by simp)))
    clear hb
    go_simp
    exact ⟨rfl, rfl, HB.out⟩
set_option maxRecDepth 100000 in
theorem pair3_any (a b : Int) (w : World) (_ha : Nu.fits a) (hb : Nu.fits b) : Calls Tryz.prog 127 #[.int .i64 a, .int .i64 b] w fun e w' => e = endZ (Ev.pair 9 a b) ∧ Below w.heap.size w w' := by
  have HM := Lib.hid (fun w0 => mod_any a b w0 hb)
  have e0 : Ev.pair 9 a b = Ev.rk (Nu.mod a b) := rfl
  rw [e0]
  have HR0 := Lib.hid (fun x z w0 => reckoned_any x z w0)
  generalize Nu.mod a b = p at *
  obtain ⟨x, z⟩ := p
  have HR := Lib.hid (HR0.out x z)
  clear HR0
  generalize Ev.rk (x, z) = R at *
  unfold tv at HM
  clear _ha hb e0
  go_enter Tryz.func127, Tryz.ntmps127
  go_wp2_with fail
  refine (HM.out _).mono ?_
  rintro e w0 ⟨rfl, rfl⟩
  cases R with
  | ok v =>
    obtain ⟨vk, vn, vb⟩ := v
    simp only [endZ, vlA] at HR
    go_wp2_with fail
    refine (HR.out _).mono ?_
    rintro e w1 ⟨rfl, hb⟩
    have kz := (IsBlk.new w 67 #[.int .u8 0, .int .i64 0, .bool false]).below hb (IsBlk.new w 67 #[.int .u8 0, .int .i64 0, .bool false]).lt
    have k0 := kz.at_ 0
    have k1 := kz.at_ 1
    have k2 := kz.at_ 2
    have f0 := kz.fz 0
    have f1 := kz.fz 1
    have f2 := kz.fz 2
    simp only [List.getElem?_toArray, List.getElem?_cons_zero, List.getElem?_cons_succ] at k0 k1 k2
    have HB := Lib.hid (((((Below.refl w.heap.size w).alloc (Nat.le_refl _) _).trans (hb.mono (by simp))).setCell (p := ⟨w.heap.size, 0, none⟩) (Nat.le_refl _) (.int .u8 (vk : Nat))).setCell (p := ⟨w.heap.size, 1, none⟩) (Nat.le_refl _) (.int .i64 vn) |>.setCell (p := ⟨w.heap.size, 2, none⟩) (Nat.le_refl _) (.bool vb))
    clear hb
    go_wp2
    refine bodyPost_ret (v := vlA ⟨vk, vn, vb⟩) (by simp [results, Tryz.results127, go_sem, vlA, k0, k1, k2]) rfl ?_
    exact ⟨rfl, HB.out⟩
  | er y =>
    simp only [endZ, pan] at HR
    go_wp2_with fail
    refine (HR.out _).mono ?_
    rintro e w1 ⟨rfl, hb⟩
    have HB := Lib.hid (((Below.refl w.heap.size w).alloc (Nat.le_refl _) (.cells #[.int .u8 0, .int .i64 0, .bool false] 67)).trans (hb.mono (by simp)))
    clear hb
    go_simp
    exact ⟨rfl, rfl, HB.out⟩
set_option maxRecDepth 100000 in
theorem pair4_any (a b : Int) (w : World) (ha : Nu.fits a) (hb : Nu.fits b) : Calls Tryz.prog 129 #[.int .i64 a, .int .i64 b] w fun e w' => e = endZ (Ev.pair 10 a b) ∧ Below w.heap.size w w' := by
  have HM := Lib.hid (fun w0 => add_any a b w0 ha hb)
  have e0 : Ev.pair 10 a b = Ev.rk (Nu.tell (a + b)) := rfl
  rw [e0]
  have HR0 := Lib.hid (fun x z w0 => reckoned_any x z w0)
  generalize Nu.tell (a + b) = p at *
  obtain ⟨x, z⟩ := p
  have HR := Lib.hid (HR0.out x z)
  clear HR0
  generalize Ev.rk (x, z) = R at *
  unfold tv at HM
  clear ha hb e0
  go_enter Tryz.func129, Tryz.ntmps129
  go_wp2_with fail
  refine (HM.out _).mono ?_
  rintro e w0 ⟨rfl, rfl⟩
  cases R with
  | ok v =>
    obtain ⟨vk, vn, vb⟩ := v
    simp only [endZ, vlA] at HR
    go_wp2_with fail
    refine (HR.out _).mono ?_
    rintro e w1 ⟨rfl, hb⟩
    have kz := (IsBlk.new w 67 #[.int .u8 0, .int .i64 0, .bool false]).below hb (IsBlk.new w 67 #[.int .u8 0, .int .i64 0, .bool false]).lt
    have k0 := kz.at_ 0
    have k1 := kz.at_ 1
    have k2 := kz.at_ 2
    have f0 := kz.fz 0
    have f1 := kz.fz 1
    have f2 := kz.fz 2
    simp only [List.getElem?_toArray, List.getElem?_cons_zero, List.getElem?_cons_succ] at k0 k1 k2
    have HB := Lib.hid (((((Below.refl w.heap.size w).alloc (Nat.le_refl _) _).trans (hb.mono (by simp))).setCell (p := ⟨w.heap.size, 0, none⟩) (Nat.le_refl _) (.int .u8 (vk : Nat))).setCell (p := ⟨w.heap.size, 1, none⟩) (Nat.le_refl _) (.int .i64 vn) |>.setCell (p := ⟨w.heap.size, 2, none⟩) (Nat.le_refl _) (.bool vb))
    clear hb
    go_wp2
    refine bodyPost_ret (v := vlA ⟨vk, vn, vb⟩) (by simp [results, Tryz.results129, go_sem, vlA, k0, k1, k2]) rfl ?_
    exact ⟨rfl, HB.out⟩
  | er y =>
    simp only [endZ, pan] at HR
    go_wp2_with fail
    refine (HR.out _).mono ?_
    rintro e w1 ⟨rfl, hb⟩
    have HB := Lib.hid (((Below.refl w.heap.size w).alloc (Nat.le_refl _) (.cells #[.int .u8 0, .int .i64 0, .bool false] 67)).trans (hb.mono (by simp)))
    clear hb
    go_simp
    exact ⟨rfl, rfl, HB.out⟩
set_option maxRecDepth 100000 in
theorem pair5_any (a b : Int) (w : World) (ha : Nu.fits a) (hb : Nu.fits b) : Calls Tryz.prog 131 #[.int .i64 a, .int .i64 b] w fun e w' => e = endZ (Ev.pair 11 a b) ∧ Below w.heap.size w w' := by
  have HM := Lib.hid (fun w0 => sub_any a b w0 ha hb)
  have e0 : Ev.pair 11 a b = Ev.rk (Nu.tell (a - b)) := rfl
  rw [e0]
  have HR0 := Lib.hid (fun x z w0 => reckoned_any x z w0)
  generalize Nu.tell (a - b) = p at *
  obtain ⟨x, z⟩ := p
  have HR := Lib.hid (HR0.out x z)
  clear HR0
  generalize Ev.rk (x, z) = R at *
  unfold tv at HM
  clear ha hb e0
  go_enter Tryz.func131, Tryz.ntmps131
  go_wp2_with fail
  refine (HM.out _).mono ?_
  rintro e w0 ⟨rfl, rfl⟩
  cases R with
  | ok v =>
    obtain ⟨vk, vn, vb⟩ := v
    simp only [endZ, vlA] at HR
    go_wp2_with fail
    refine (HR.out _).mono ?_
    rintro e w1 ⟨rfl, hb⟩
    have kz := (IsBlk.new w 67 #[.int .u8 0, .int .i64 0, .bool false]).below hb (IsBlk.new w 67 #[.int .u8 0, .int .i64 0, .bool false]).lt
    have k0 := kz.at_ 0
    have k1 := kz.at_ 1
    have k2 := kz.at_ 2
    have f0 := kz.fz 0
    have f1 := kz.fz 1
    have f2 := kz.fz 2
    simp only [List.getElem?_toArray, List.getElem?_cons_zero, List.getElem?_cons_succ] at k0 k1 k2
    have HB := Lib.hid (((((Below.refl w.heap.size w).alloc (Nat.le_refl _) _).trans (hb.mono (by simp))).setCell (p := ⟨w.heap.size, 0, none⟩) (Nat.le_refl _) (.int .u8 (vk : Nat))).setCell (p := ⟨w.heap.size, 1, none⟩) (Nat.le_refl _) (.int .i64 vn) |>.setCell (p := ⟨w.heap.size, 2, none⟩) (Nat.le_refl _) (.bool vb))
    clear hb
    go_wp2
    refine bodyPost_ret (v := vlA ⟨vk, vn, vb⟩) (by simp [results, Tryz.results131, go_sem, vlA, k0, k1, k2]) rfl ?_
    exact ⟨rfl, HB.out⟩
  | er y =>
    simp only [endZ, pan] at HR
    go_wp2_with fail
    refine (HR.out _).mono ?_
    rintro e w1 ⟨rfl, hb⟩
    have HB := Lib.hid (((Below.refl w.heap.size w).alloc (Nat.le_refl _) (.cells #[.int .u8 0, .int .i64 0, .bool false] 67)).trans (hb.mono (by simp)))
    clear hb
    go_simp
    exact ⟨rfl, rfl, HB.out⟩
set_option maxRecDepth 100000 in
theorem pair6_any (a b : Int) (w : World) : Calls Tryz.prog 133 #[.int .i64 a, .int .i64 b] w fun e w' => e = endZ (Ev.pair 12 a b) ∧ Below w.heap.size w w' := by
  have e0 : Ev.pair 12 a b = .ok (Ev.vb (decide (a < b))) := rfl
  rw [e0]
  have HR := Lib.hid (fun w0 => ofBool_any (decide (a < b)) w0)
  clear e0
  unfold vlA Ev.vb at HR
  unfold Ev.vb
  go_enter Tryz.func133, Tryz.ntmps133
  go_wp2_with fail
  refine (HR.out _).mono ?_
  rintro e w1 ⟨rfl, hb⟩
  have kz := (IsBlk.new w 67 #[.int .u8 0, .int .i64 0, .bool false]).below hb (IsBlk.new w 67 #[.int .u8 0, .int .i64 0, .bool false]).lt
  have k0 := kz.at_ 0
  have k1 := kz.at_ 1
  have k2 := kz.at_ 2
  have f0 := kz.fz 0
  have f1 := kz.fz 1
  have f2 := kz.fz 2
  simp only [List.getElem?_toArray, List.getElem?_cons_zero, List.getElem?_cons_succ] at k0 k1 k2
  have HB := Lib.hid (((((Below.refl w.heap.size w).alloc (Nat.le_refl _) _).trans (hb.mono (by simp))).setCell (p := ⟨w.heap.size, 0, none⟩) (Nat.le_refl _) (.int .u8 2)).setCell (p := ⟨w.heap.size, 1, none⟩) (Nat.le_refl _) (.int .i64 0) |>.setCell (p := ⟨w.heap.size, 2, none⟩) (Nat.le_refl _) (.bool (decide (a < b))))
  clear hb
  go_wp2
  refine bodyPost_ret (v := vlA ⟨2, 0, decide (a < b)⟩) (by simp [results, Tryz.results133, go_sem, vlA, k0, k1, k2]) rfl ?_
  exact ⟨rfl, HB.out⟩
set_option maxRecDepth 100000 in
theorem pair7_any (a b : Int) (w : World) : Calls Tryz.prog 135 #[.int .i64 a, .int .i64 b] w fun e w' => e = endZ (Ev.pair 13 a b) ∧ Below w.heap.size w w' := by
  have e0 : Ev.pair 13 a b = .ok (Ev.vb (decide (a ≤ b))) := rfl
  rw [e0]
  have HR := Lib.hid (fun w0 => ofBool_any (decide (a ≤ b)) w0)
  clear e0
  unfold vlA Ev.vb at HR
  unfold Ev.vb
  go_enter Tryz.func135, Tryz.ntmps135
  go_wp2_with fail
  refine (HR.out _).mono ?_
  rintro e w1 ⟨rfl, hb⟩
  have kz := (IsBlk.new w 67 #[.int .u8 0, .int .i64 0, .bool false]).below hb (IsBlk.new w 67 #[.int .u8 0, .int .i64 0, .bool false]).lt
  have k0 := kz.at_ 0
  have k1 := kz.at_ 1
  have k2 := kz.at_ 2
  have f0 := kz.fz 0
  have f1 := kz.fz 1
  have f2 := kz.fz 2
  simp only [List.getElem?_toArray, List.getElem?_cons_zero, List.getElem?_cons_succ] at k0 k1 k2
  have HB := Lib.hid (((((Below.refl w.heap.size w).alloc (Nat.le_refl _) _).trans (hb.mono (by simp))).setCell (p := ⟨w.heap.size, 0, none⟩) (Nat.le_refl _) (.int .u8 2)).setCell (p := ⟨w.heap.size, 1, none⟩) (Nat.le_refl _) (.int .i64 0) |>.setCell (p := ⟨w.heap.size, 2, none⟩) (Nat.le_refl _) (.bool (decide (a ≤ b))))
  clear hb
  go_wp2
  refine bodyPost_ret (v := vlA ⟨2, 0, decide (a ≤ b)⟩) (by simp [results, Tryz.results135, go_sem, vlA, k0, k1, k2]) rfl ?_
  exact ⟨rfl, HB.out⟩
set_option maxRecDepth 100000 in
theorem pair8_any (a b : Int) (w : World) : Calls Tryz.prog 136 #[.int .i64 a, .int .i64 b] w fun e w' => e = endZ (Ev.pair 14 a b) ∧ Below w.heap.size w w' := by
  have e0 : Ev.pair 14 a b = .ok (Ev.vb (decide (a > b))) := rfl
  rw [e0]
  have HR := Lib.hid (fun w0 => ofBool_any (decide (a > b)) w0)
  clear e0
  unfold vlA Ev.vb at HR
  unfold Ev.vb
  go_enter Tryz.func136, Tryz.ntmps136
  go_wp2_with fail
  refine (HR.out _).mono ?_
  rintro e w1 ⟨rfl, hb⟩
  have kz := (IsBlk.new w 67 #[.int .u8 0, .int .i64 0, .bool false]).below hb (IsBlk.new w 67 #[.int .u8 0, .int .i64 0, .bool false]).lt
  have k0 := kz.at_ 0
  have k1 := kz.at_ 1
  have k2 := kz.at_ 2
  have f0 := kz.fz 0
  have f1 := kz.fz 1
  have f2 := kz.fz 2
  simp only [List.getElem?_toArray, List.getElem?_cons_zero, List.getElem?_cons_succ] at k0 k1 k2
  have HB := Lib.hid (((((Below.refl w.heap.size w).alloc (Nat.le_refl _) _).trans (hb.mono (by simp))).setCell (p := ⟨w.heap.size, 0, none⟩) (Nat.le_refl _) (.int .u8 2)).setCell (p := ⟨w.heap.size, 1, none⟩) (Nat.le_refl _) (.int .i64 0) |>.setCell (p := ⟨w.heap.size, 2, none⟩) (Nat.le_refl _) (.bool (decide (a > b))))
  clear hb
  go_wp2
  refine bodyPost_ret (v := vlA ⟨2, 0, decide (a > b)⟩) (by simp [results, Tryz.results136, go_sem, vlA, k0, k1, k2]) rfl ?_
  exact ⟨rfl, HB.out⟩
set_option maxRecDepth 100000 in
theorem pair9_any (a b : Int) (w : World) : Calls Tryz.prog 137 #[.int .i64 a, .int .i64 b] w fun e w' => e = endZ (Ev.pair 15 a b) ∧ Below w.heap.size w w' := by
  have e0 : Ev.pair 15 a b = .ok (Ev.vb (decide (a ≥ b))) := rfl
  rw [e0]
  have HR := Lib.hid (fun w0 => ofBool_any (decide (a ≥ b)) w0)
  clear e0
  unfold vlA Ev.vb at HR
  unfold Ev.vb
  go_enter Tryz.func137, Tryz.ntmps137
  go_wp2_with fail
  refine (HR.out _).mono ?_
  rintro e w1 ⟨rfl, hb⟩
  have kz := (IsBlk.new w 67 #[.int .u8 0, .int .i64 0, .bool false]).below hb (IsBlk.new w 67 #[.int .u8 0, .int .i64 0, .bool false]).lt
  have k0 := kz.at_ 0
  have k1 := kz.at_ 1
  have k2 := kz.at_ 2
  have f0 := kz.fz 0
  have f1 := kz.fz 1
  have f2 := kz.fz 2
  simp only [List.getElem?_toArray, List.getElem?_cons_zero, List.getElem?_cons_succ] at k0 k1 k2
  have HB := Lib.hid (((((Below.refl w.heap.size w).alloc (Nat.le_refl _) _).trans (hb.mono (by simp))).setCell (p := ⟨w.heap.size, 0, none⟩) (Nat.le_refl _) (.int .u8 2)).setCell (p := ⟨w.heap.size, 1, none⟩) (Nat.le_refl _) (.int .i64 0) |>.setCell (p := ⟨w.heap.size, 2, none⟩) (Nat.le_refl _) (.bool (decide (a ≥ b))))
  clear hb
  go_wp2
  refine bodyPost_ret (v := vlA ⟨2, 0, decide (a ≥ b)⟩) (by simp [results, Tryz.results137, go_sem, vlA, k0, k1, k2]) rfl ?_
  exact ⟨rfl, HB.out⟩
end Go.Proofs.YtdcjpinbflmikaaGreatDoor
namespace Go.Proofs.YtdcjpinbflmikaaGreatDoor
open Go.RowKit Ex
theorem prt_ok (v : Ev.Vl) (k : Nat) : Ev.prt (.ok v) k = if v.k = k then .ok v else .er 90 := rfl
theorem prt_er (z : Int) (k : Nat) : Ev.prt (.er z) k = .er z := rfl
theorem thn_ok (v : Ev.Vl) (f : Ev.Vl → Ev.Rz) : Ev.thn (.ok v) f = f v := rfl
theorem thn_er (z : Int) (f : Ev.Vl → Ev.Rz) : Ev.thn (.er z) f = .er z := rfl
def WoC (rv : Value) (w : World) (p : Int) (R : Ev.Rz) : Prop := ∀ w', Below w.heap.size w w' →
    Calls Tryz.prog 139 #[rv, .int .i64 p] w' fun e w'' => e = endZ R ∧ Below w'.heap.size w' w''
def rkA (A : Option Addr) (n c mb pb : Nat) : Value := .agg #[.slice A n c, .map (some mb), .map (some pb)]
set_option maxRecDepth 100000 in
theorem evpart_any (A : Option Addr) (n c mb pb : Nat) (w : World) (p : Int) (R : Ev.Rz) (h : WoC (rkA A n c mb pb) w p R) (k : Nat) (w' : World) (hb' : Below w.heap.size w w') :
    Calls Tryz.prog 220 #[rkA A n c mb pb, .int .i64 p, .int .u8 (k : Nat)] w' fun e w'' => e = endZ (Ev.prt R k) ∧ Below w'.heap.size w' w'' := by
  obtain ⟨W2, hW2⟩ : ∃ W2, W2 = (w'.alloc (.cells #[.slice A n c, .map (some mb), .map (some pb)] 152)).alloc (.cells #[.int .u8 0, .int .i64 0, .bool false] 67) := ⟨_, rfl⟩
  have hb2 : Below w'.heap.size w' W2 := by rw [hW2]; exact ((Below.refl _ _).alloc (Nat.le_refl _) _).alloc (by simp) _
  have HC := Lib.hid (h W2 (hb'.trans (hb2.mono hb'.size)))
  have kz : IsBlk W2 (w'.heap.size + 1) 67 #[.int .u8 0, .int .i64 0, .bool false] := by
    rw [hW2, show w'.heap.size + 1 = (w'.alloc (.cells #[.slice A n c, .map (some mb), .map (some pb)] 152)).heap.size by simp]; exact IsBlk.new _ _ _
  have HB2 := Lib.hid hb2
  have HK := Lib.hid kz
  have HW2 := Lib.hid hW2
  unfold rkA at HC ⊢
  clear hW2 hb2 kz h hb'
  cases R with
  | er z =>
    simp only [endZ, pan] at HC
    rw [prt_er]
    simp only [endZ, pan]
    go_enter Tryz.func220, Tryz.ntmps220
    go_wp2_with fail
    rw [← HW2.out]
    refine HC.out.mono ?_
    rintro e w1 ⟨rfl, hb⟩
    have HB := Lib.hid (HB2.out.trans (hb.mono HB2.out.size))
    clear hb
    go_simp
    exact ⟨rfl, rfl, HB.out⟩
  | ok v =>
    obtain ⟨vk, vn, vb⟩ := v
    simp only [endZ, vlA] at HC
    rw [prt_ok]
    by_cases hk : vk = k
    · subst hk
      rw [if_pos rfl]
      have hk1 : ((vk : Int) == (vk : Int)) = true := beq_self_eq_true _
      have hk2 : ((vk : Int) != (vk : Int)) = false := by simp [bne]
      go_enter Tryz.func220, Tryz.ntmps220
      go_wp2_with fail
      rw [← HW2.out]
      refine HC.out.mono ?_
      rintro e w1 ⟨rfl, hb⟩
      have kz := (HK.out.below hb HK.out.lt).below ((Below.refl _ _).alloc (Nat.le_refl _) (.cells #[.int .u8 (vk : Nat), .int .i64 vn, .bool vb] 67)) (HK.out.below hb HK.out.lt).lt
      have k0 := kz.at_ 0
      have k1 := kz.at_ 1
      have k2 := kz.at_ 2
      have f0 := kz.fz 0
      have f1 := kz.fz 1
      have f2 := kz.fz 2
      simp only [List.getElem?_toArray, List.getElem?_cons_zero, List.getElem?_cons_succ] at k0 k1 k2
      have HB := Lib.hid (HB2.out.trans (hb.mono HB2.out.size))
      have HBA := Lib.hid (HB.out.alloc HB.out.size (.cells #[.int .u8 (vk : Nat), .int .i64 vn, .bool vb] 67))
      clear hb kz
      go_wp2
      refine bodyPost_ret (v := vlA ⟨vk, vn, vb⟩) (by simp [results, Tryz.results220, go_sem, vlA, k0, k1, k2]) rfl ?_
      exact ⟨rfl, (((HBA.out.setCell (p := ⟨w'.heap.size + 1, 0, none⟩) (Nat.le_succ _) _).setCell (p := ⟨w'.heap.size + 1, 1, none⟩) (Nat.le_succ _) _).setCell (p := ⟨w'.heap.size + 1, 2, none⟩) (Nat.le_succ _) _)⟩
    · have hk1 : ((vk : Int) == (k : Int)) = false := beq_eq_false_iff_ne.2 (by omega)
      rw [if_neg hk]
      simp only [endZ, pan]
      go_enter Tryz.func220, Tryz.ntmps220
      go_wp2_with fail
      rw [← HW2.out]
      refine HC.out.mono ?_
      rintro e w1 ⟨rfl, hb⟩
      have kz := (HK.out.below hb HK.out.lt).below ((Below.refl _ _).alloc (Nat.le_refl _) (.cells #[.int .u8 (vk : Nat), .int .i64 vn, .bool vb] 67)) (HK.out.below hb HK.out.lt).lt
      have k0 := kz.at_ 0
      have k1 := kz.at_ 1
      have k2 := kz.at_ 2
      have f0 := kz.fz 0
      have f1 := kz.fz 1
      have f2 := kz.fz 2
      simp only [List.getElem?_toArray, List.getElem?_cons_zero, List.getElem?_cons_succ] at k0 k1 k2
      have HB := Lib.hid (HB2.out.trans (hb.mono HB2.out.size))
      have HBA := Lib.hid (HB.out.alloc HB.out.size (.cells #[.int .u8 (vk : Nat), .int .i64 vn, .bool vb] 67))
      clear hb kz
      go_wp2
      exact ⟨rfl, rfl, HBA.out⟩
theorem run_field1 (k : Nat) (n : Int) (b : Bool) (w : World) : (Instr.field 67 (.agg #[.int .u8 (k : Nat), .int .i64 n, .bool b]) 1).run Tryz.prog w = .ok (.int .i64 n) w := by kernel_rfl
theorem run_field2 (k : Nat) (n : Int) (b : Bool) (w : World) : (Instr.field 67 (.agg #[.int .u8 (k : Nat), .int .i64 n, .bool b]) 2).run Tryz.prog w = .ok (.bool b) w := by kernel_rfl
set_option maxRecDepth 100000 in
theorem evnumber_any (A : Option Addr) (n c mb pb : Nat) (w : World) (p : Int) (R : Ev.Rz) (h : WoC (rkA A n c mb pb) w p R) (w' : World) (hb' : Below w.heap.size w w') :
    Calls Tryz.prog 191 #[rkA A n c mb pb, .int .i64 p] w' fun e w'' => e = endN (Ev.prt R 1) ∧ Below w'.heap.size w' w'' := by
  obtain ⟨W2, hW2⟩ : ∃ W2, W2 = w'.alloc (.cells #[.slice A n c, .map (some mb), .map (some pb)] 152) := ⟨_, rfl⟩
  have hb2 : Below w'.heap.size w' W2 := by rw [hW2]; exact (Below.refl _ _).alloc (Nat.le_refl _) _
  have HC := Lib.hid (evpart_any A n c mb pb w p R h 1 W2 (hb'.trans (hb2.mono hb'.size)))
  have HB2 := Lib.hid hb2
  have HW2 := Lib.hid hW2
  generalize Ev.prt R 1 = Q at *
  unfold rkA at HC ⊢
  clear hW2 hb2 h hb'
  cases Q with
  | er z =>
    simp only [endZ, pan] at HC
    simp only [endN, pan]
    go_enter Tryz.func191, Tryz.ntmps191
    go_wp2_with fail
    rw [← HW2.out]
    refine HC.out.mono ?_
    rintro e w1 ⟨rfl, hb⟩
    have HB := Lib.hid (HB2.out.trans (hb.mono HB2.out.size))
    clear hb
    go_simp
    exact ⟨rfl, rfl, HB.out⟩
  | ok v =>
    obtain ⟨vk, vn, vb⟩ := v
    simp only [endZ, vlA] at HC
    simp only [endN]
    have hfl := run_field1 vk vn vb
    go_enter Tryz.func191, Tryz.ntmps191
    go_wp2_with fail
    rw [← HW2.out]
    refine HC.out.mono ?_
    rintro e w1 ⟨rfl, hb⟩
    have HB := Lib.hid (HB2.out.trans (hb.mono HB2.out.size))
    clear hb
    go_wp2
    go_ret
    exact ⟨rfl, HB.out⟩
set_option maxRecDepth 100000 in
theorem evtruth_any (A : Option Addr) (n c mb pb : Nat) (w : World) (p : Int) (R : Ev.Rz) (h : WoC (rkA A n c mb pb) w p R) (w' : World) (hb' : Below w.heap.size w w') :
    Calls Tryz.prog 192 #[rkA A n c mb pb, .int .i64 p] w' fun e w'' => e = endB (Ev.prt R 2) ∧ Below w'.heap.size w' w'' := by
  obtain ⟨W2, hW2⟩ : ∃ W2, W2 = w'.alloc (.cells #[.slice A n c, .map (some mb), .map (some pb)] 152) := ⟨_, rfl⟩
  have hb2 : Below w'.heap.size w' W2 := by rw [hW2]; exact (Below.refl _ _).alloc (Nat.le_refl _) _
  have HC := Lib.hid (evpart_any A n c mb pb w p R h 2 W2 (hb'.trans (hb2.mono hb'.size)))
  have HB2 := Lib.hid hb2
  have HW2 := Lib.hid hW2
  generalize Ev.prt R 2 = Q at *
  unfold rkA at HC ⊢
  clear hW2 hb2 h hb'
  cases Q with
  | er z =>
    simp only [endZ, pan] at HC
    simp only [endB, pan]
    go_enter Tryz.func192, Tryz.ntmps192
    go_wp2_with fail
    rw [← HW2.out]
    refine HC.out.mono ?_
    rintro e w1 ⟨rfl, hb⟩
    have HB := Lib.hid (HB2.out.trans (hb.mono HB2.out.size))
    clear hb
    go_simp
    exact ⟨rfl, rfl, HB.out⟩
  | ok v =>
    obtain ⟨vk, vn, vb⟩ := v
    simp only [endZ, vlA] at HC
    simp only [endB]
    have hfl := run_field2 vk vn vb
    go_enter Tryz.func192, Tryz.ntmps192
    go_wp2_with fail
    rw [← HW2.out]
    refine HC.out.mono ?_
    rintro e w1 ⟨rfl, hb⟩
    have HB := Lib.hid (HB2.out.trans (hb.mono HB2.out.size))
    clear hb
    go_wp2
    go_ret
    exact ⟨rfl, HB.out⟩
end Go.Proofs.YtdcjpinbflmikaaGreatDoor
