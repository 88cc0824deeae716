/- Facts and walks for the statement. -/
import Derived.Test.YteadfpkihhaadaaGreatDoorPz06
import Derived.Test.YteadfpkihhaadaaGreatDoorPz08
import Derived.Test.YteadfpkihhaadaaGreatDoorPz04
namespace Go.Proofs.YteadfpkihhaadaaGreatDoor
open Go.RowKit
theorem flat_at {α : Type} (f : α → List Value) (n : Nat) (hf : ∀ a, (f a).length = n) : ∀ (l : List α) (k j : Nat) (hk : k < l.length), j < n → (l.flatMap f)[k * n + j]? = (f l[k])[j]?
 | [], k, j, hk, _ => by cases hk
 | a :: l, 0, j, _, hj => by
  rw [List.flatMap_cons, Nat.zero_mul, Nat.zero_add, List.getElem?_append_left (by rw [hf]; exact hj)]; rfl
 | a :: l, k + 1, j, hk, hj => by
  rw [List.flatMap_cons, show (k + 1) * n + j = n + (k * n + j) by rw [Nat.succ_mul]; omega, List.getElem?_append_right (by rw [hf]; omega), hf, Nat.add_sub_cancel_left]
  exact flat_at f n hf l k j (by simpa using hk) hj
def attrV (al : List (List UInt8 × List UInt8)) : List Value := al.flatMap fun a => [.string ⟨a.1.toArray⟩, .string ⟨a.2.toArray⟩]
theorem attrV_snoc (al : List (List UInt8 × List UInt8)) (a : List UInt8 × List UInt8) : attrV (al ++ [a]) = attrV al ++ [.string ⟨a.1.toArray⟩, .string ⟨a.2.toArray⟩] := by
 unfold attrV; rw [List.flatMap_append]; simp
theorem infoAttr : (Tryz.prog.info? 51).map (fun i => (i.zero, i.size, i.bytes)) = some (some (.agg #[.string ⟨#[]⟩, .string ⟨#[]⟩]), 2, 32) := by kernel_rfl
def OwnT (B : Nat) (w : World) (v : Value) (al : List (List UInt8 × List UInt8)) : Prop := w.ownsRow B 51 2 v al.length (attrV al)
theorem own_below {w w' : World} {B : Nat} {e : TypeId} {size n : Nat} {v : Value} {xs : List Value} (h : w.ownsRow B e size v n xs) (hb : Below w.heap.size w w') : w'.ownsRow B e size v n xs := h.kept (grown_below hb none) (by cases hv : v.ownBlock <;> simp)
theorem below_drewN {B : Nat} {w w' : World} (h : Below B w w') (n : Nat) : Below B w (w'.drewN n) := ⟨h.os, h.tape, h.output, h.size, h.block⟩
def DecP (al : List Tk.A) (w : World) (e : Ending) (w' : World) : Prop :=
 ((Tk.rdA al []).2.2 ≠ 0 ∧ e = .returned (.tuple #[.slice none 0 0, .int .i64 (Tk.rdA al []).2.1, .int .i64 (Tk.rdA al []).2.2]) ∧ Below w.heap.size w w') ∨
 ((Tk.rdA al []).2.2 = 0 ∧ ∃ v, e = .returned (.tuple #[v, .int .i64 0, .int .i64 0]) ∧ OwnT w.heap.size w' v (Tk.rdA al []).1 ∧ Below w.heap.size w w')
structure DecR (al : List Tk.A) (w : World) (v : Value) (wr : World) (k : Nat) (acc : List (List UInt8 × List UInt8)) : Prop where
 hl : acc.length = k
 below : Below w.heap.size w wr
 own : OwnT w.heap.size wr v acc
 eq : Tk.rdA al [] = Tk.rdA (al.drop k) acc
theorem rdA_step {al : List Tk.A} {k : Nat} (hk : k < al.length) (acc : List (List UInt8 × List UInt8)) :
  Tk.rdA (al.drop k) acc = if (En.rep En.dF al[k].vl).2.2 ≠ 0 then ([], al[k].p + (En.rep En.dF al[k].vl).2.1, (En.rep En.dF al[k].vl).2.2) else Tk.rdA (al.drop (k + 1)) (acc ++ [(al[k].nm, (En.rep En.dF al[k].vl).1)]) := by
 rw [List.drop_eq_getElem_cons hk]
 conv => lhs; unfold Tk.rdA
theorem rdA_end {al : List Tk.A} {k : Nat} (hk : al.length ≤ k) (acc : List (List UInt8 × List UInt8)) : Tk.rdA (al.drop k) acc = (acc, 0, 0) := by
 rw [List.drop_of_length_le hk]; rfl
set_option maxHeartbeats 4000000 in
set_option maxRecDepth 100000 in
theorem decoded_any (B : Nat) (v : Value) (al : List Tk.A) (w : World) (T : Tb w) (hrow : OwnA B w v al) (hn : al.length ≤ 1000000) (hall : ∀ a ∈ al, a.p + a.vl.length ≤ 1000000) :
  Calls Tryz.prog 133 #[v] w (DecP al w) := by
 have HT := Lib.hid T
 have HRW := Lib.hid hrow
 obtain ⟨A, cap, hv, hcells⟩ : ∃ A cap, v = .slice A al.length cap ∧ (0 < al.length → ∃ g, A = some ⟨g, 0, none⟩ ∧ g < w.heap.size ∧ ∀ j u, (rowV al)[j]? = some u → w.cell? ⟨g, j, none⟩ = some u) := by
  rcases hrow.2 with ⟨h1, h2⟩ | ⟨g, cap, cur, h1, h2, h3, h4, h5, h6, h7⟩
  ·exact ⟨none, 0, by rw [h1, h2], fun h => by omega⟩
  ·refine ⟨some ⟨g, 0, none⟩, cap, h1, fun _ => ⟨g, rfl, (Array.getElem?_eq_some_iff.1 h3).1, fun j u hu => ?_⟩⟩
   subst h1
   have := hrow.cells (g := g) rfl j u hu
   have hadd : (⟨g, 0, none⟩ : Addr).add j = ⟨g, j, none⟩ := by unfold Addr.add; split <;> simp_all
   rwa [hadd] at this
 have HC := Lib.hid hcells
 have HAL := Lib.hid hall
 clear hcells hrow T hall
 subst hv
 go_enter Tryz.func133, Tryz.ntmps133
 go_wp2
 go_loopw [5, 13] (fun v i wr => ∃ k : Nat, ∃ acc, k ≤ al.length ∧ i = .int .i64 k ∧ Hid (DecR al w v wr k acc)) (fun _ i _ => al.length - (intOf i).toNat)
 case atStart => exact ⟨0, [], Nat.zero_le _, rfl, Lib.hid ⟨rfl, Below.refl _ _, World.ownsRow_nil _ _ _ _, rfl⟩⟩
 case round =>
  obtain ⟨k, acc, hk, rfl, HR⟩ := hrel
  by_cases hlt : k < al.length
  ·obtain ⟨g, hA, hgl, hcell⟩ := HC.out (by omega)
   subst hA
   have hb := HR.out.below
   have hat := fun j hj => flat_at (fun a : Tk.A => [.string ⟨a.nm.toArray⟩, .string ⟨a.vl.toArray⟩, .int .i64 a.p]) 3 (fun _ => rfl) al k j hlt hj
   have c0 : wr.cell? ⟨g, k * 3, none⟩ = some (.string ⟨al[k].nm.toArray⟩) := (hb.cell (p := ⟨g, k * 3, none⟩) hgl).trans (hcell _ _ (hat 0 (by omega)))
   have c1 : wr.cell? ⟨g, k * 3 + 1, none⟩ = some (.string ⟨al[k].vl.toArray⟩) := (hb.cell (p := ⟨g, k * 3 + 1, none⟩) hgl).trans (hcell _ _ (hat 1 (by omega)))
   have c2 : wr.cell? ⟨g, k * 3 + 2, none⟩ = some (.int .i64 al[k].p) := (hb.cell (p := ⟨g, k * 3 + 2, none⟩) hgl).trans (hcell _ _ (hat 2 (by omega)))
   have hstep := rdA_step hlt acc
   have hfit := HAL.out al[k] (List.getElem_mem hlt)
   have hsz : (⟨al[k].vl.toArray⟩ : ByteArray).size ≤ 1000000000 := by rw [size_mk]; omega
   have hplace := Tk.rep_place En.moves_dF al[k].vl
   have HD := Lib.hid (fun w0 (T0 : Tb w0) => decode_ent ⟨al[k].vl.toArray⟩ hsz w0 T0)
   unfold tup3 at HD
   rw [show (⟨al[k].vl.toArray⟩ : ByteArray).data.toList = al[k].vl from rfl] at HD
   have heq := HR.out.eq
   rw [hstep] at heq
   obtain ⟨N, hN⟩ : ∃ N : ByteArray, N = ⟨al[k].nm.toArray⟩ := ⟨_, rfl⟩
   obtain ⟨V, hV⟩ : ∃ V : ByteArray, V = ⟨al[k].vl.toArray⟩ := ⟨_, rfl⟩
   obtain ⟨P, hP⟩ : ∃ P, P = al[k].p := ⟨_, rfl⟩
   rw [← hV] at HD c1
   rw [← hN] at c0
   rw [← hP] at c2 heq hfit
   generalize En.rep En.dF al[k].vl = X at *
   obtain ⟨x, z, E⟩ := X
   simp only at heq HD hplace
   have hlt' : (k : Int) < (al.length : Int) := by omega
   have TA := Lib.hid ((HT.out.below hb (Nat.le_refl _)).below ((Below.refl _ _).alloc (Nat.le_refl _) (.cells #[.string N, .string V, .int .i64 P] 216)) (Nat.le_refl _))
   have hzP : (P : Int) + (z : Int) ≤ 2000000 := by omega
   clear hstep hcell hat hsz hV hP
   by_cases hE : E = 0
   ·subst hE
    rw [if_neg (by simp)] at heq
    have HE := Lib.hid heq
    have HNN := Lib.hid hN
    clear heq hN
    have hl0 := HR.out.hl
    obtain ⟨i0, hi, hz0, hz1, hz2⟩ := info_parts infoAttr
    have hbig : acc.length + 1 ≤ maxLen := by unfold maxLen; omega
    go_wp2_with fail
    refine (HD.out _ TA.out).mono ?_
    rintro e w1 ⟨rfl, h1⟩
    have k0 : w1.cell? ⟨wr.heap.size, 0, none⟩ = some (.string N) := (h1.cell (p := ⟨wr.heap.size, 0, none⟩) (by simp)).trans (by rw [(IsBlk.new wr _ _).at_]; rfl)
    have h1' : Below wr.heap.size wr w1 := ((Below.refl _ _).alloc (Nat.le_refl _) _).trans (h1.mono (by simp))
    have B1 := Lib.hid (hb.trans (h1'.mono hb.size))
    have hown : w1.ownsRow w.heap.size 51 2 _ acc.length (attrV acc) := own_below HR.out.own h1'
    have hsz1 := B1.out.size
    clear h1 h1' hb
    go_wp2_with (at_builtin; refine wpList_append_own _ rfl _ _ _ rfl w.heap.size 51 i0 _ 2 32 Tryz.underlying47 hi hz0 hz1 hz2 rfl (by omega) _ acc.length (attrV acc) (by rfl) (by exact hown.alloc _) _ 1 _ [.string N, .string ⟨x.toArray⟩] (by rfl) rfl (by intro j u hu; exact news_at _ _ _ _ (by simp) j u hu) (by intro u hu; simp at hu; rcases hu with rfl | rfl <;> rfl) hbig (by omega) (by simp; omega) ?_; intro v3 w3 hown3 hgr3 _)
    have B3 := Lib.hid ((B1.out.alloc hsz1 _).grown hgr3 (by simp; omega) (fun k hk => (hown.lt k hk).1))
    go_roundw
    case rel => exact ⟨k + 1, acc ++ [(al[k].nm, x)], by omega, by go_num, Lib.hid ⟨by rw [List.length_append, hl0]; rfl, B3.out, by
     unfold OwnT
     rw [attrV_snoc, List.length_append, ← HNN.out]
     exact hown3, HE.out⟩⟩
    case measure => simp [intOf]; omega
   ·rw [if_pos hE] at heq
    have HE := Lib.hid heq
    have HEN := Lib.hid hE
    have hE' : (E == 0) = false := beq_eq_false_iff_ne.2 hE
    clear heq hN
    go_wp2_with fail
    refine (HD.out _ TA.out).mono ?_
    rintro e w1 ⟨rfl, h1⟩
    have k2 : w1.cell? ⟨wr.heap.size, 2, none⟩ = some (.int .i64 P) := (h1.cell (p := ⟨wr.heap.size, 2, none⟩) (by simp)).trans (by rw [(IsBlk.new wr _ _).at_]; rfl)
    have B1 := Lib.hid (hb.trans ((((Below.refl _ _).alloc (Nat.le_refl _) _).trans (h1.mono (by simp))).mono hb.size))
    clear h1 hb
    go_wp2_with fail
    go_quiet (fail)
    go_wp2
    go_ret3
    exact Or.inl ⟨by rw [HE.out]; exact HEN.out, by rw [HE.out]; simp only [Int.natCast_add]; rfl, below_drewN B1.out nq⟩
  ·have HE := Lib.hid (show Tk.rdA al [] = (acc, 0, 0) by rw [HR.out.eq, rdA_end (by omega)])
   go_wp2
   go_ret3
   exact Or.inr ⟨by rw [HE.out], _, rfl, by rw [HE.out]; exact HR.out.own, HR.out.below⟩
end Go.Proofs.YteadfpkihhaadaaGreatDoor
namespace Go.Proofs.YteadfpkihhaadaaGreatDoor
open Go.RowKit
abbrev zT : Array Value := #[.int .u8 0, .string ⟨#[]⟩, .slice none 0 0, .string ⟨#[]⟩, .int .i64 0]
def tokC (t : Tk.T) (av : Value) (at_ : Int) : Array Value := #[.int .u8 t.k, .string ⟨t.nm.toArray⟩, av, .string ⟨t.tx.toArray⟩, .int .i64 at_]
def StepP (S : Tk.S) (w : World) (e : Ending) (w' : World) : Prop :=
 (S.e ≠ 0 ∧ e = .returned (.tuple #[.agg zT, .int .i64 S.n, .int .i64 S.e]) ∧ Below w.heap.size w w') ∨
 (S.e = 0 ∧ ∃ t av, S.t = some t ∧ OwnT w.heap.size w' av t.as ∧ e = .returned (.tuple #[.agg (tokC t av 0), .int .i64 S.n, .int .i64 0]) ∧ Below w.heap.size w w')
theorem below_five {B : Nat} {w w' : World} {r : Nat} (h : Below B w w') (hr : B ≤ r) (a b c d e : Value) : Below B w (((((w'.setCell ⟨r, 0, none⟩ a).setCell ⟨r, 1, none⟩ b).setCell ⟨r, 2, none⟩ c).setCell ⟨r, 3, none⟩ d).setCell ⟨r, 4, none⟩ e) :=
 ((((h.setCell (p := ⟨r, 0, none⟩) hr a).setCell (p := ⟨r, 1, none⟩) hr b).setCell (p := ⟨r, 2, none⟩) hr c).setCell (p := ⟨r, 3, none⟩) hr d).setCell (p := ⟨r, 4, none⟩) hr e
theorem own_five {B : Nat} {w' : World} {r : Nat} {cs : Array Value} {v : Value} {al : List (List UInt8 × List UInt8)} (h : OwnT B w' v al) (hb : IsBlk w' r 76 cs) (a b c d e : Value) :
  OwnT B (((((w'.setCell ⟨r, 0, none⟩ a).setCell ⟨r, 1, none⟩ b).setCell ⟨r, 2, none⟩ c).setCell ⟨r, 3, none⟩ d).setCell ⟨r, 4, none⟩ e) v al := by
 have hne : v.ownBlock = none ∨ v.ownBlock ≠ some r := by
  rcases h.2 with ⟨rfl, _⟩ | ⟨g, cap, cur, rfl, _, hg, _⟩
  ·exact Or.inl rfl
  ·right
   intro e
   have e1 : g = r := Option.some.inj e
   subst e1
   unfold IsBlk at hb
   rw [hg] at hb
   injection hb with hb
   injection hb with _ ht
   exact absurd ht (by decide)
 have st : ∀ (w1 : World) (i : Nat) (u : Value), w1.grownBy (w1.setCell ⟨r, i, none⟩ u) (some r) := fun w1 i u => grown_set w1 r i u
 exact ((((World.ownsRow.kept h (st _ 0 a) hne).kept (st _ 1 b) hne).kept (st _ 2 c) hne).kept (st _ 3 d) hne).kept (st _ 4 e) hne
set_option maxHeartbeats 4000000 in
set_option maxRecDepth 100000 in
theorem text_any (s : ByteArray) (hs : s.size ≤ 1000000) (w : World) (T : Tb w) :
  Calls Tryz.prog 90 #[.string s] w (StepP (Tk.txt s.data.toList) w) := by
 obtain ⟨l, hl⟩ : ∃ l, l = s.data.toList := ⟨_, rfl⟩
 obtain ⟨U, hU, hC⟩ : ∃ U : ByteArray, U.data.toList = l.take (Tk.upto l) ∧ ∀ w0, Calls Tryz.prog 126 #[.string s, .string ⟨#[60]⟩] w0 fun e w' => (∃ x b, e = .returned (.tuple #[.string U, .string x, .bool b])) ∧ Below w0.heap.size w0 w' := by
  rcases En.idx_cases l 60 with h | ⟨j, h⟩
  ·refine ⟨s, ?_, fun w0 => (cut1_miss s 60 w0 (by rw [← hl]; exact h)).mono fun e w' he => ⟨⟨_, _, he.1⟩, by rw [← he.2]; exact Below.refl _ _⟩⟩
   unfold Tk.upto; rw [if_pos h, List.take_length, hl]
  ·have hj := En.idx_lt h
   refine ⟨s.extract 0 j, ?_, fun w0 => (cut1_hit s 60 w0 j (by rw [← hl]; exact h) (by rw [hl, ← Lib.size_eq] at hj; omega) (by unfold maxLen; omega)).mono fun e w' he => ⟨⟨_, _, he.1⟩, he.2⟩⟩
   unfold Tk.upto; rw [if_neg (by omega), h, take_data, hl]; simp
 have hUs : U.size = Tk.upto l := by rw [Lib.size_eq, hU, List.length_take]; have := Tk.upto_le l; omega
 have hUl : U.size ≤ 1000000 := by rw [hUs]; have := Tk.upto_le l; rw [hl, ← Lib.size_eq] at this; rw [hl]; omega
 have HD := Lib.hid (fun w0 (T0 : Tb w0) => decode_ent U (by omega) w0 T0)
 unfold tup3 at HD
 rw [hU] at HD
 have HC := Lib.hid hC
 have T0 := T.below ((Below.refl _ _).alloc (Nat.le_refl _) (.cells zT 76)) (Nat.le_refl _)
 have HT := Lib.hid T0
 have HB0 := Lib.hid (IsBlk.new w 76 zT)
 rw [← hl]
 obtain ⟨S, hS⟩ : ∃ S, S = Tk.txt l := ⟨_, rfl⟩
 rw [← hS]
 unfold Tk.txt at hS
 rw [← hUs] at hS HD
 generalize En.rep En.dF (l.take U.size) = X at *
 obtain ⟨x, z, E⟩ := X
 simp only at hS HD
 by_cases hE : E = 0
 ·subst hE
  rw [if_neg (by simp)] at hS
  have HS := Lib.hid hS
  clear hS hl hU hUs hC T0 T
  go_enter Tryz.func90, Tryz.ntmps90
  go_wp2_with fail
  refine (HC.out _).mono ?_
  rintro e w1 ⟨⟨y, b, rfl⟩, h1⟩
  have T1 := HT.out.below h1 (Nat.le_refl _)
  go_wp2_with fail
  refine (HD.out _ T1).mono ?_
  rintro e w2 ⟨rfl, h2⟩
  have b2 := h1.trans (h2.mono h1.size)
  have kb := HB0.out.below b2 (by simp)
  have B2 := Lib.hid (show Below w.heap.size w w2 from ((Below.refl _ _).alloc (Nat.le_refl _) _).trans (b2.mono (by simp)))
  have KB := Lib.hid kb
  clear T1 h1 h2 b2
  have k0 : w2.cell? ⟨w.heap.size, 0, none⟩ = some (.int .u8 0) := kb.at_ 0
  have k1 : w2.cell? ⟨w.heap.size, 1, none⟩ = some (.string ⟨#[]⟩) := kb.at_ 1
  have k2 : w2.cell? ⟨w.heap.size, 2, none⟩ = some (.slice none 0 0) := kb.at_ 2
  have k3 : w2.cell? ⟨w.heap.size, 3, none⟩ = some (.string ⟨#[]⟩) := kb.at_ 3
  have k4 : w2.cell? ⟨w.heap.size, 4, none⟩ = some (.int .i64 0) := kb.at_ 4
  have f0 := kb.fz 0
  have f1 := kb.fz 1
  have f2 := kb.fz 2
  have f3 := kb.fz 3
  have f4 := kb.fz 4
  clear kb
  go_wp2
  exact bodyPost_ret (v := .tuple #[.agg #[.int .u8 4, .string ⟨#[]⟩, .slice none 0 0, .string ⟨x.toArray⟩, .int .i64 0], .int .i64 (U.size : Int), .int .i64 0]) (by simp [results, Tryz.results90, go_sem, k0, k1, k2, k3, k4]) rfl (Or.inr ⟨by rw [HS.out], ⟨4, [], [], x, 0⟩, .slice none 0 0, by rw [HS.out], World.ownsRow_nil _ _ _ _, by rw [HS.out]; rfl, below_five B2.out (Nat.le_refl _) _ _ _ _ _⟩)
 ·rw [if_pos hE] at hS
  have HS := Lib.hid hS
  have HEN := Lib.hid hE
  have hE' : (E == 0) = false := beq_eq_false_iff_ne.2 hE
  clear hS hl hU hUs hC T0 T hE
  go_enter Tryz.func90, Tryz.ntmps90
  go_wp2_with fail
  refine (HC.out _).mono ?_
  rintro e w1 ⟨⟨y, b, rfl⟩, h1⟩
  have T1 := HT.out.below h1 (Nat.le_refl _)
  go_wp2_with fail
  refine (HD.out _ T1).mono ?_
  rintro e w2 ⟨rfl, h2⟩
  have b2 := h1.trans (h2.mono h1.size)
  have kb := HB0.out.below b2 (by simp)
  have B2 := Lib.hid (show Below w.heap.size w w2 from ((Below.refl _ _).alloc (Nat.le_refl _) _).trans (b2.mono (by simp)))
  clear T1 h1 h2 b2
  have k0 : w2.cell? ⟨w.heap.size, 0, none⟩ = some (.int .u8 0) := kb.at_ 0
  have k1 : w2.cell? ⟨w.heap.size, 1, none⟩ = some (.string ⟨#[]⟩) := kb.at_ 1
  have k2 : w2.cell? ⟨w.heap.size, 2, none⟩ = some (.slice none 0 0) := kb.at_ 2
  have k3 : w2.cell? ⟨w.heap.size, 3, none⟩ = some (.string ⟨#[]⟩) := kb.at_ 3
  have k4 : w2.cell? ⟨w.heap.size, 4, none⟩ = some (.int .i64 0) := kb.at_ 4
  have f0 := kb.fz 0
  have f1 := kb.fz 1
  have f2 := kb.fz 2
  have f3 := kb.fz 3
  have f4 := kb.fz 4
  clear kb
  go_wp2
  exact bodyPost_ret (v := .tuple #[.agg zT, .int .i64 (z : Int), .int .i64 E]) (by simp [results, Tryz.results90, go_sem, k0, k1, k2, k3, k4]) rfl (Or.inl ⟨by rw [HS.out]; exact HEN.out, by rw [HS.out]; rfl, below_five B2.out (Nat.le_refl _) _ _ _ _ _⟩)
end Go.Proofs.YteadfpkihhaadaaGreatDoor
