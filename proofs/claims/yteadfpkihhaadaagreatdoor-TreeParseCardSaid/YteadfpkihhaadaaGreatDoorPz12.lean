/- Facts and walks for the statement. -/
import Derived.Test.YteadfpkihhaadaaGreatDoorPz10
import Derived.Test.YteadfpkihhaadaaGreatDoorPz11
import Derived.Test.YteadfpkihhaadaaGreatDoorPz06
namespace Go.Proofs.YteadfpkihhaadaaGreatDoor
open Go.RowKit
def tokV (x : Tk.T × Value) : List Value := [.int .u8 x.1.k, .string ⟨x.1.nm.toArray⟩, x.2, .string ⟨x.1.tx.toArray⟩, .int .i64 x.1.p]
theorem infoTok : (Tryz.prog.info? 76).map (fun i => (i.zero, i.size, i.bytes)) = some (some (.agg zT), 5, 72) := by kernel_rfl
structure TokRow (B : Nat) (w : World) (v : Value) (ps : List (Tk.T × Value)) : Prop where
 own : w.ownsRow B 76 5 v ps.length (ps.flatMap tokV)
 att : ∀ x ∈ ps, OwnT B w x.2 (Tk.T.as x.1)
 apart : ps.Pairwise (fun x y => ∀ g h, x.2.ownBlock = some g → y.2.ownBlock = some h → g ≠ h)
theorem TokRow.nil (B : Nat) (w : World) : TokRow B w (.slice none 0 0) [] := ⟨World.ownsRow_nil _ _ _ _, fun _ h => (by cases h), List.Pairwise.nil⟩
theorem TokRow.below {B : Nat} {w w' : World} {v : Value} {ps : List (Tk.T × Value)} (h : TokRow B w v ps) (hb : Below w.heap.size w w') : TokRow B w' v ps :=
 ⟨own_below h.own hb, fun x hx => own_below (h.att x hx) hb, h.apart⟩
theorem TokRow.set {B : Nat} {w : World} {v : Value} {ps : List (Tk.T × Value)} (h : TokRow B w v ps) {r : Nat} (hr : r < B) (i : Nat) (u : Value) : TokRow B (w.setCell ⟨r, i, none⟩ u) v ps :=
 ⟨ownsRow_setCell_below h.own hr u, fun x hx => ownsRow_setCell_below (h.att x hx) hr u, h.apart⟩
theorem own_less {B B' : Nat} {w : World} {e : TypeId} {size n : Nat} {v : Value} {xs : List Value} (h : w.ownsRow B e size v n xs) (hB : B' ≤ B) : w.ownsRow B' e size v n xs :=
 ⟨h.1, h.2.imp id fun ⟨g, cap, cur, e1, e2, e3⟩ => ⟨g, cap, cur, e1, Nat.le_trans hB e2, e3⟩⟩
theorem TokRow.less {B B' : Nat} {w : World} {v : Value} {ps : List (Tk.T × Value)} (h : TokRow B w v ps) (hB : B' ≤ B) : TokRow B' w v ps := ⟨own_less h.own hB, fun x hx => own_less (h.att x hx) hB, h.apart⟩
theorem own_types {B B' : Nat} {w : World} {e e' : TypeId} {size size' n n' : Nat} {v v' : Value} {xs xs' : List Value} (h : w.ownsRow B e size v n xs) (h' : w.ownsRow B' e' size' v' n' xs') (hne : e ≠ e') : v.ownBlock = none ∨ v.ownBlock ≠ v'.ownBlock := by
 rcases h.2 with ⟨rfl, _⟩ | ⟨g, cap, cur, rfl, _, hg, _⟩
 ·exact Or.inl rfl
 ·right
  rcases h'.2 with ⟨rfl, _⟩ | ⟨g', cap', cur', rfl, _, hg', _⟩
  ·intro e; cases e
  ·intro e
   have e1 : g = g' := Option.some.inj e
   subst e1
   rw [hg] at hg'
   injection hg' with hg'
   injection hg' with _ ht
   exact hne ht
theorem TokRow.snoc {B : Nat} {w1 w2 : World} {v v' av : Value} {ps : List (Tk.T × Value)} {t : Tk.T} (h : TokRow B w1 v ps) (hav : OwnT B w1 av (Tk.T.as t))
  (hsep : ∀ x ∈ ps, ∀ g h, x.2.ownBlock = some g → av.ownBlock = some h → g ≠ h) (hgr : w1.grownBy w2 v.ownBlock)
  (hown : w2.ownsRow B 76 5 v' (ps.length + 1) (ps.flatMap tokV ++ tokV (t, av))) : TokRow B w2 v' (ps ++ [(t, av)]) := by
 have hk : ∀ (x : Value) (al : List (List UInt8 × List UInt8)), OwnT B w1 x al → OwnT B w2 x al := fun x al hx => World.ownsRow.kept hx hgr (own_types hx h.own (by decide))
 refine ⟨?_, ?_, ?_⟩
 ·rw [List.length_append, List.flatMap_append]
  simpa using hown
 ·intro x hx
  rw [List.mem_append] at hx
  rcases hx with hx | hx
  ·exact hk _ _ (h.att x hx)
  ·simp only [List.mem_singleton] at hx
   subst hx
   exact hk _ _ hav
 ·rw [List.pairwise_append]
  refine ⟨h.apart, by simp, fun x hx y hy => ?_⟩
  simp only [List.mem_singleton] at hy
  subst hy
  exact hsep x hx
def CutP (R : List Tk.T × Nat × Int) (w : World) (e : Ending) (w' : World) : Prop :=
 ∃ v ps, ps.map (·.1) = R.1 ∧ TokRow w.heap.size w' v ps ∧ e = .returned (.tuple #[v, .int .i64 R.2.1, .int .i64 R.2.2]) ∧ Below w.heap.size w w'
structure CutR (s : ByteArray) (w : World) (v : Value) (wr : World) (p : Nat) (ps : List (Tk.T × Value)) : Prop where
 hp : p ≤ s.size
 hl : ps.length ≤ p
 below : Below w.heap.size w wr
 blk : ∃ c0 c1 c2 c3 c4, IsBlk wr w.heap.size 76 #[c0, c1, c2, c3, c4]
 row : TokRow (w.heap.size + 1) wr v ps
 eq : Tk.cutT s.data.toList = Tk.goT s.data.toList.length (s.data.toList.drop p) p (ps.map (·.1))
def frm (s : ByteArray) (r : Nat) (v : Value) (at_ n : Nat) (u : Nat → Value) : Act :=
 { tmps := #[.string s, undef, .slice none 0 0, .int .i64 0, .int .i64 0, v, .pointer (some ⟨r, 0, none⟩), u 7, .int .i64 at_, .int .i64 n, u 10, u 11, u 12, u 13, u 14, u 15, u 16, u 17, u 18, u 19, u 20, u 21, u 22, u 23, u 24, u 25, u 26, u 27, u 28, u 29, u 30, u 31, u 32, u 33, u 34, u 35, u 36, u 37, u 38, u 39, u 40, u 41, u 42, u 43, u 44, u 45, u 46, u 47, u 48, u 49, u 50, u 51, u 52, u 53, u 54, u 55, u 56, u 57, u 58, u 59, u 60, u 61, u 62, u 63, u 64, u 65, u 66, u 67], defers := [] }
def IsFrm (s : ByteArray) (r : Nat) (v : Value) (at_ n : Nat) (a : Act) : Prop :=
 a.defers = [] ∧ a.tmps.size = 68 ∧ a.tmps.getD 0 undef = .string s ∧ a.tmps.getD 1 undef = undef ∧ a.tmps.getD 2 undef = .slice none 0 0 ∧ a.tmps.getD 3 undef = .int .i64 0 ∧ a.tmps.getD 4 undef = .int .i64 0 ∧
 a.tmps.getD 5 undef = v ∧ a.tmps.getD 6 undef = .pointer (some ⟨r, 0, none⟩) ∧ a.tmps.getD 8 undef = .int .i64 at_ ∧ a.tmps.getD 9 undef = .int .i64 n
theorem frm_of {s : ByteArray} {r : Nat} {v : Value} {at_ n : Nat} {a : Act} (h : IsFrm s r v at_ n a) : a = frm s r v at_ n (fun i => a.tmps.getD i undef) := by
 obtain ⟨⟨l⟩, d⟩ := a
 obtain ⟨h1, h2, h3⟩ := h
 simp only at h1 h2 h3
 subst h1
 have h2 : l.length = 68 := h2
 iterate 68
  rcases l with _ | ⟨x, l⟩
  ·exact absurd h2 (by simp)
 rcases l with _ | ⟨x, l⟩
 ·obtain ⟨rfl, rfl, rfl, rfl, rfl, rfl, rfl, rfl, rfl⟩ := h3
  rfl
 ·exact absurd h2 (by simp)
def CutI (s : ByteArray) (w : World) (a : Act) (wr : World) : Prop := ∃ (v : Value) (at_ n : Nat) (ps : List (Tk.T × Value)), IsFrm s w.heap.size v at_ n a ∧ Hid (CutR s w v wr (at_ + n) ps)
def cutMu (s : ByteArray) (a : Act) (_ : World) : Nat := s.size + 1 - ((intOf (a.tmps.getD 8 undef)).toNat + (intOf (a.tmps.getD 9 undef)).toNat)
theorem mu_frm (s : ByteArray) (r : Nat) (v : Value) (at_ n : Nat) (u : Nat → Value) (w : World) : cutMu s (frm s r v at_ n u) w = s.size + 1 - (at_ + n) := by
 unfold cutMu frm; simp [intOf]
set_option maxHeartbeats 4000000 in
set_option maxRecDepth 100000 in
theorem cut_any4 (s : ByteArray) (hs : s.size ≤ 65536) (w : World) (T : Tb w) (hmx : Mx w) :
  Calls Tryz.prog 54 #[.string s] w (CutP (Tk.cutT s.data.toList) w) := by
 have HT := Lib.hid T
 have HM := Lib.hid hmx
 have HS := Lib.hid hs
 clear T hmx
 go_enter Tryz.func54, Tryz.ntmps54
 go_wp2
 refine scope_inl 2 (CutI s w) (cutMu s) (s.size + 1) _ rfl ?_ ?_
 ·intro F
  have HF := Lib.hid F
  clear F
  go_wp2
  go_step3
  rename_i hK
  have F1 := HF.out (frm s w.heap.size (.slice none 0 0) 0 0 (fun i => (#[undef, undef, undef, undef, undef, undef, undef, .string ⟨#[]⟩, undef, undef, .int .i64 0] : Array Value).getD i undef)) (w.alloc (.cells zT 76))
   ⟨_, 0, 0, [], ⟨rfl, rfl, rfl, rfl, rfl, rfl, rfl, rfl, rfl, rfl, rfl⟩, Lib.hid ⟨Nat.zero_le _, Nat.zero_le _, (Below.refl _ _).alloc (Nat.le_refl _) _, ⟨_, _, _, _, _, IsBlk.new _ _ _⟩, TokRow.nil _ _, rfl⟩⟩ (by rw [mu_frm]; rfl)
  exact hK _ _ F1
 ·rintro a wr ⟨v, at_, n, ps, hfrm, HR⟩
  rw [frm_of hfrm, mu_frm]
  clear hfrm
  generalize (fun i => a.tmps.getD i undef) = u
  unfold frm
  have hs := HS.out
  have hp := HR.out.hp
  obtain ⟨c0, c1, c2, c3, c4, hblk⟩ := HR.out.blk
  have HBK := Lib.hid hblk
  obtain ⟨X, hX⟩ : ∃ X, s.extract (at_ + n) s.size = X := ⟨_, rfl⟩
  obtain ⟨L, hL⟩ : ∃ L, L = s.data.toList.drop (at_ + n) := ⟨_, rfl⟩
  have hXL : X.data.toList = L := by rw [← hX, drop_ext, hL]
  have hXs : X.size + (at_ + n) = s.size := by rw [Lib.size_eq, hXL, hL, List.length_drop, ← Lib.size_eq]; omega
  have hfuel : L.length ≤ s.data.toList.length := by rw [hL, List.length_drop]; omega
  have hLl : L.length = X.size := by rw [← hXL, ← Lib.size_eq]
  have heq := HR.out.eq
  rw [← hL] at heq
  have hp' : (at_ : Int) + (n : Int) ≤ (s.size : Int) := by omega
  have hp2 : (s.size : Int) ≤ 65536 := by omega
  have hp3 : (0 : Int) ≤ (at_ : Int) + (n : Int) := by omega
  clear hblk hL
  by_cases hend : X.size = 0
  ·have hXe : X = ⟨#[]⟩ := by
    apply ba_eq
    rw [hXL]
    exact List.eq_nil_of_length_eq_zero (by omega)
   have hLe : L = [] := List.eq_nil_of_length_eq_zero (by omega)
   rw [hLe, Tk.goT_nil] at heq
   have HE := Lib.hid heq
   subst hXe
   clear heq hXL hXs hfuel hLl hLe hend
   go_wp2
   simp only [jumpsTo]
   go_ret3
   exact ⟨v, ps, by rw [HE.out], HR.out.row.less (by omega), by rw [HE.out]; rfl, HR.out.below⟩
  ·have hX0 : 0 < X.size := by omega
   have hX0' : (0 : Int) < (X.size : Int) := by omega
   have hne : L ≠ [] := by intro e; rw [e] at hLl; simp at hLl; omega
   have hXe : X.toList.isEmpty = false := by
    rw [Lib.toList_data, hXL]
    cases L with
    | nil => exact absurd rfl hne
    | cons _ _ => rfl
   have hXe2 : X.toList ≠ [] := by intro e; rw [e] at hXe; cases hXe
   have h0 : L.head? = some X[0] := by rw [← hXL, List.head?_eq_getElem?, Lib.data_getElem? X 0 hX0]
   obtain ⟨S, hS⟩ : ∃ S, S = Tk.step L := ⟨_, rfl⟩
   have HBD := Lib.hid (show S.e ≠ 0 → Tk.cutT s.data.toList = ([], at_ + n + S.n, S.e) from fun h => by rw [heq, Tk.goT_bad hfuel hne (by rw [← hS]; exact h), ← hS])
   have HGD := Lib.hid (show S.e = 0 → (Tk.cutT s.data.toList = Tk.goT s.data.toList.length (s.data.toList.drop (at_ + n + S.n)) (at_ + n + S.n) (Tk.put1 S.t (at_ + n) (ps.map (·.1)))) ∧ 1 ≤ S.n ∧ at_ + n + S.n ≤ s.size from fun h => by
    have h1 := Tk.goT_good (at_ := at_ + n) (acc := ps.map (·.1)) hfuel hne (by rw [← hS]; exact h)
    have h2 := Tk.step_le hne (by rw [← hS]; exact h)
    rw [← hS] at h1 h2
    refine ⟨?_, h2.1, by omega⟩
    rw [heq, h1, show L.drop S.n = s.data.toList.drop (at_ + n + S.n) by rw [← hXL, ← hX, drop_ext, List.drop_drop]])
   have hSn : (S.n : Int) ≤ 65536 := by
    by_cases h : S.e = 0
    ·have := (HGD.out h).2.2; omega
    ·have := Tk.step_place (l := L) (by rw [← hS]; exact h); rw [← hS] at this; omega
   have TR := Lib.hid (HT.out.below HR.out.below (Nat.le_refl _))
   have MR := Lib.hid (HM.out.below HR.out.below)
   by_cases h60 : X[0] = 60
   ·have ht : ((X[0].toNat : Int) == 60) = true := by rw [h60]; rfl
    have ht2 : ((X[0].toNat : Int) != 60) = false := by rw [h60]; rfl
    have hh : L.head? = some 60 := by rw [h0, h60]
    have HP2 := Lib.hid (fun w0 => Tryz.strings_HasPrefix X ⟨#[60, 47]⟩ w0)
    have HP3 := Lib.hid (fun w0 => Tryz.strings_HasPrefix X ⟨#[60, 33]⟩ w0)
    have HP4 := Lib.hid (fun w0 => Tryz.strings_HasPrefix X ⟨#[60, 63]⟩ w0)
    rw [hXL] at HP2 HP3 HP4
    cases hy2 : Lib.hasPrefix L [60, 47] with
    | true =>
     have hl2 : 2 ≤ X.size := by have := Tk.hp_len hy2; rw [hLl] at this; exact this
     have hr0 : Tk.rem L = 0 := by
      rcases Nat.eq_zero_or_pos (Tk.rem L) with h | h
      ·exact h
      ·have h1 := Tk.rem_second (l := L) (by omega)
       rw [Tk.hp2_second hy2] at h1
       rcases h1 with h1 | h1 <;> cases h1
     have hSt : Tk.step L = Tk.cls L := by unfold Tk.step; rw [if_neg (by rw [hh]; simp), hr0, if_neg (by omega), if_pos hy2]
     have HTX := Lib.hid (fun w0 => closing_any X (by omega) w0 hl2)
     rw [hXL, ← hSt, ← hS] at HTX
     rw [show (⟨#[60, 47]⟩ : ByteArray).data.toList = [60, 47] from rfl, hy2] at HP2
     clear hS hSt h60 h0 hne heq hfuel hXL hLl hend hh hr0 hl2 hy2
     go_wp2_with fail
     refine (HP2.out _).mono ?_
     rintro e w1 ⟨rfl, rfl⟩
     go_wp2
     go_step3
     change inl _ _ _ _ _ 2 _ _
     refine inl.on _ (by decide) rfl ?_
     go_wp2_with fail
     refine (HTX.out _).mono ?_
     rintro e w2 hpost
     rcases hpost with ⟨hE, rfl, h2⟩ | ⟨hE, t, av, ht, hav, rfl, h2⟩
     ·have kb := HBK.out.below h2 HBK.out.lt
      have B2 := Lib.hid (HR.out.below.trans (h2.mono HR.out.below.size))
      have hE' : (S.e == 0) = false := beq_eq_false_iff_ne.2 hE
      have HEN := Lib.hid (HBD.out hE)
      clear h2 hE
      have k0 : w2.cell? ⟨w.heap.size, 0, none⟩ = some c0 := kb.at_ 0
      have k1 : w2.cell? ⟨w.heap.size, 1, none⟩ = some c1 := kb.at_ 1
      have k2 : w2.cell? ⟨w.heap.size, 2, none⟩ = some c2 := kb.at_ 2
      have k3 : w2.cell? ⟨w.heap.size, 3, none⟩ = some c3 := kb.at_ 3
      have k4 : w2.cell? ⟨w.heap.size, 4, none⟩ = some c4 := kb.at_ 4
      have f0 := kb.fz 0
      have f1 := kb.fz 1
      have f2 := kb.fz 2
      have f3 := kb.fz 3
      have f4 := kb.fz 4
      clear kb
      go_wp2
      go_step3
      change inl _ _ _ _ _ 5 _ _
      refine inl.on _ (by decide) rfl ?_
      go_wp2
      simp only [jumpsTo]
      go_ret3
      exact ⟨.slice none 0 0, [], by rw [HEN.out]; rfl, TokRow.nil _ _, by rw [HEN.out]; simp only [Int.natCast_add]; rfl, below_five B2.out (Nat.le_refl _) _ _ _ _ _⟩
     ·obtain ⟨A, cap, hAv⟩ : ∃ A cap, av = .slice A (Tk.T.as t).length cap := by
       rcases hav.2 with ⟨e1, e2⟩ | ⟨g, cap, cur, e1, _⟩
       ·exact ⟨none, 0, by rw [e1, e2]⟩
       ·exact ⟨_, _, e1⟩
      have kb := HBK.out.below h2 HBK.out.lt
      have B2 := Lib.hid (HR.out.below.trans (h2.mono HR.out.below.size))
      have HGO := Lib.hid (HGD.out hE)
      have HTT := Lib.hid ht
      have HRW := Lib.hid (HR.out.row.below h2)
      have hwr := HBK.out.lt
      have HAV := Lib.hid (And.intro (show OwnT (w.heap.size + 1) w2 av (Tk.T.as t) from own_less hav (by omega)) (show ∀ x ∈ ps, ∀ g h, x.2.ownBlock = some g → av.ownBlock = some h → g ≠ h from fun x hx g h e1 e2 => by
       have h1 := (World.ownsRow.lt (HR.out.row.att x hx) g e1).2
       have h2 := (World.ownsRow.lt hav h e2).1
       omega))
      have hszw := h2.size
      have hps := HR.out.hl
      have hbig : ps.length + 1 ≤ maxLen := by unfold maxLen; omega
      have hn1 := HGO.out.2.1
      have hn2 := HGO.out.2.2
      have HE := Lib.hid hE
      unfold tokC
      subst hAv
      clear hE ht hav h2
      obtain ⟨i0, hi, hz0, hz1, hz2⟩ := info_parts infoTok
      obtain ⟨W5, hW5⟩ : ∃ W5 : World, W5 = (((((w2.setCell ⟨w.heap.size, 0, none⟩ (.int .u8 t.k)).setCell ⟨w.heap.size, 1, none⟩ (.string ⟨t.nm.toArray⟩)).setCell ⟨w.heap.size, 2, none⟩ (.slice A (Tk.T.as t).length cap)).setCell ⟨w.heap.size, 3, none⟩ (.string ⟨t.tx.toArray⟩)).setCell ⟨w.heap.size, 4, none⟩ (.int .i64 0)) := ⟨_, rfl⟩
      have kb5 : IsBlk W5 w.heap.size 76 #[.int .u8 t.k, .string ⟨t.nm.toArray⟩, .slice A (Tk.T.as t).length cap, .string ⟨t.tx.toArray⟩, .int .i64 0] := by
       rw [hW5]
       exact ((((kb.set 0 _).set 1 _).set 2 _).set 3 _).set 4 _
      have H5 := Lib.hid (show TokRow (w.heap.size + 1) W5 v ps ∧ OwnT (w.heap.size + 1) W5 (.slice A (Tk.T.as t).length cap) (Tk.T.as t) ∧ Below w.heap.size w W5 ∧ w.heap.size < W5.heap.size from by
       refine ⟨?_, ?_, ?_, kb5.lt⟩
       ·rw [hW5]
        exact ((((HRW.out.set (by omega) 0 _).set (by omega) 1 _).set (by omega) 2 _).set (by omega) 3 _).set (by omega) 4 _
       ·rw [hW5]
        exact ownsRow_setCell_below (ownsRow_setCell_below (ownsRow_setCell_below (ownsRow_setCell_below (ownsRow_setCell_below HAV.out.1 (Nat.lt_succ_self _) _) (Nat.lt_succ_self _) _) (Nat.lt_succ_self _) _) (Nat.lt_succ_self _) _) (Nat.lt_succ_self _) _
       ·rw [hW5]
        exact below_five B2.out (Nat.le_refl _) _ _ _ _ _)
      have HKB5 := Lib.hid kb5
      have HW5 := Lib.hid hW5
      clear hW5 kb5
      have k0 : w2.cell? ⟨w.heap.size, 0, none⟩ = some c0 := kb.at_ 0
      have k1 : w2.cell? ⟨w.heap.size, 1, none⟩ = some c1 := kb.at_ 1
      have k2 : w2.cell? ⟨w.heap.size, 2, none⟩ = some c2 := kb.at_ 2
      have k3 : w2.cell? ⟨w.heap.size, 3, none⟩ = some c3 := kb.at_ 3
      have k4 : w2.cell? ⟨w.heap.size, 4, none⟩ = some c4 := kb.at_ 4
      have f0 := kb.fz 0
      have f1 := kb.fz 1
      have f2 := kb.fz 2
      have f3 := kb.fz 3
      have f4 := kb.fz 4
      clear kb
      go_wp2
      go_step3
      change inl _ _ _ _ _ 5 _ _
      rw [← HW5.out]
      clear k0 k1 k2 k3 k4 f0 f1 f2 f3 f4
      refine inl.on _ (by decide) rfl ?_
      have k0 : W5.cell? ⟨w.heap.size, 0, none⟩ = some (.int .u8 t.k) := HKB5.out.at_ 0
      have k1 : W5.cell? ⟨w.heap.size, 1, none⟩ = some (.string ⟨t.nm.toArray⟩) := HKB5.out.at_ 1
      have k2 : W5.cell? ⟨w.heap.size, 2, none⟩ = some (.slice A (Tk.T.as t).length cap) := HKB5.out.at_ 2
      have k3 : W5.cell? ⟨w.heap.size, 3, none⟩ = some (.string ⟨t.tx.toArray⟩) := HKB5.out.at_ 3
      have k4 : W5.cell? ⟨w.heap.size, 4, none⟩ = some (.int .i64 0) := HKB5.out.at_ 4
      have f4 := HKB5.out.fz 4
      have hsz5 := H5.out.2.2.2
      go_wp2_with (at_builtin; (refine wpList_append_own _ rfl _ _ _ rfl (w.heap.size + 1) 76 i0 _ 5 72 Tryz.underlying67 hi hz0 hz1 hz2 rfl (by omega) v ps.length (ps.flatMap tokV) (by rfl) (by (repeat' first | with_reducible exact H5.out.1.own | with_reducible refine World.ownsRow.alloc ?_ _ | with_reducible refine ownsRow_setCell_below ?_ (by simp) _)) _ 1 _ [.int .u8 t.k, .string ⟨t.nm.toArray⟩, .slice A (Tk.T.as t).length cap, .string ⟨t.tx.toArray⟩, .int .i64 ((at_ : Int) + (n : Int))] (by rfl) rfl (by intro j u hu; exact news_at _ _ _ _ (by simp) j u hu) (by intro u hu; simp at hu; rcases hu with rfl | rfl | rfl | rfl | rfl <;> rfl) hbig (by omega) (by simp; omega) ?_); intro v3 w3 hown3 hgr3 _)
      have HRF := Lib.hid (show CutR s w v3 w3 (at_ + n + S.n) (ps ++ [(⟨t.k, t.nm, Tk.T.as t, t.tx, at_ + n⟩, .slice A (Tk.T.as t).length cap)]) from by
       have hbase : ∀ k, v.ownBlock = some k → w.heap.size + 1 ≤ k := fun k hk => (World.ownsRow.lt H5.out.1.own k hk).1
       refine ⟨hn2, by rw [List.length_append]; simp; omega, ?_, ?_, ?_, ?_⟩
       ·exact ((H5.out.2.2.1.setCell (p := ⟨w.heap.size, 4, none⟩) (Nat.le_refl _) _).alloc (by simp [World.setCell]; omega) _).grown hgr3 (by simp [World.setCell]; omega) (fun k hk => by have := hbase k hk; omega)
       ·exact ⟨_, _, _, _, _, ((HKB5.out.set 4 _).below ((Below.refl _ _).alloc (Nat.le_refl _) _) (by simp [World.setCell]; omega)).grown hgr3 (fun e => by have := hbase _ e.symm; omega)⟩
       ·refine TokRow.snoc ((H5.out.1.set (Nat.lt_succ_self _) 4 _).below ((Below.refl _ _).alloc (Nat.le_refl _) _)) (own_below (ownsRow_setCell_below H5.out.2.1 (Nat.lt_succ_self _) _) ((Below.refl _ _).alloc (Nat.le_refl _) _)) HAV.out.2 hgr3 ?_
        unfold tokV at hown3 ⊢
        simp only [Int.natCast_add]
        exact hown3
       ·rw [HGO.out.1, HTT.out, List.map_append]; rfl)
      clear hown3 hgr3
      go_step3
      change inl _ _ _ _ _ 0 _ _
      refine inl.back _ ⟨⟨v3, at_ + n, S.n, _, ⟨rfl, rfl, rfl, rfl, rfl, rfl, rfl, rfl, rfl, ?_, rfl⟩, HRF⟩, ?_⟩
      ·show Value.int .i64 ((at_ : Int) + (n : Int)) = _
       rw [Int.natCast_add]
      ·show s.size + 1 - (((at_ : Int) + (n : Int)).toNat + ((S.n : Nat) : Int).toNat) < _
       omega
    | false =>
     rw [show (⟨#[60, 47]⟩ : ByteArray).data.toList = [60, 47] from rfl, hy2] at HP2
     rw [show (⟨#[60, 33]⟩ : ByteArray).data.toList = [60, 33] from rfl] at HP3
     rw [show (⟨#[60, 63]⟩ : ByteArray).data.toList = [60, 63] from rfl] at HP4
     have hrem : Lib.hasPrefix L [60, 33] = true ∨ Lib.hasPrefix L [60, 63] = true → Hid (Tk.rem L = 0 → S = ⟨none, 0, 40⟩) ∧ Hid (Tk.rem L ≠ 0 → S = ⟨none, Tk.rem L, 0⟩) := by
      intro h
      refine ⟨Lib.hid fun h0 => ?_, Lib.hid fun h0 => ?_⟩
      ·have hb : Nm.bg (L.drop 1) = 0 := by
        rcases Nat.eq_zero_or_pos (Nm.bg (L.drop 1)) with h1 | h1
        ·exact h1
        ·obtain ⟨c, hc, hz⟩ := Tk.bg_second (l := L) (by omega)
         have hn := Tk.let_ne hz
         rcases h with h | h
         ·rw [Tk.hp2_second h] at hc; exact absurd (Option.some.inj hc).symm hn.2.2.1
         ·rw [Tk.hp2_second h] at hc; exact absurd (Option.some.inj hc).symm hn.2.2.2.1
       rw [hS]; unfold Tk.step
       rw [if_neg (by rw [hh]; simp), h0, if_neg (by omega), if_neg (by rw [hy2]; decide), opn_bad (by rw [tagO_zero hb])]
      ·rw [hS]; unfold Tk.step
       rw [if_neg (by rw [hh]; simp), if_pos (by omega)]
     have HRM := Lib.hid (fun w0 (k : Mx w0) => remark_any X (by omega) w0 k)
     rw [hXL] at HRM
     cases hy3 : Lib.hasPrefix L [60, 33] with
     | true =>
      have hr := hrem (Or.inl hy3)
      rw [hy3] at HP3
      obtain ⟨m, hm⟩ : ∃ m, m = Tk.rem L := ⟨_, rfl⟩
      rw [← hm] at hr HRM
      have hmn : (m : Int) ≤ 65536 := by have := Tk.rem_le L; omega
      have hr1 := hr.1
      have hr2 := hr.2
      clear hr hS h60 h0 hne heq hfuel hXL hLl hend hh hy2 hy3 hrem hm
      by_cases hm0 : m = 0
      ·have HSS := Lib.hid (hr1.out hm0)
       have HEN := Lib.hid (HBD.out (by rw [HSS.out]; decide))
       rw [HSS.out] at HEN
       subst hm0
       clear hr1 hr2
       go_wp2_with fail
       refine (HP2.out _).mono ?_
       rintro e w1 ⟨rfl, rfl⟩
       go_wp2_with fail
       refine (HP3.out _).mono ?_
       rintro e w1 ⟨rfl, rfl⟩
       skip
       go_wp2
       go_step3
       change inl _ _ _ _ _ 3 _ _
       refine inl.on _ (by decide) rfl ?_
       go_wp2_with fail
       refine (HRM.out _ MR.out).mono ?_
       rintro e w2 ⟨rfl, h2⟩
       have B2 := Lib.hid (HR.out.below.trans (h2.mono HR.out.below.size))
       clear h2
       go_wp2
       simp only [jumpsTo]
       go_ret3
       exact ⟨.slice none 0 0, [], by rw [HEN.out]; rfl, TokRow.nil _ _, by rw [HEN.out]; simp only [Int.natCast_add]; rfl, B2.out⟩
      ·have HSS := Lib.hid (hr2.out hm0)
       have HGO := Lib.hid (HGD.out (by rw [HSS.out]))
       rw [HSS.out] at HGO
       have hm1 : ((m : Int) == 0) = false := by
        apply beq_eq_false_iff_ne.2
        omega
       have hn2 := HGO.out.2.2
       simp only at hn2
       clear hr1 hr2 hm0
       have hm2 : 0 < (m : Int) := by have := HGO.out.2.1; simp only at this; omega
       go_wp2_with fail
       refine (HP2.out _).mono ?_
       rintro e w1 ⟨rfl, rfl⟩
       go_wp2_with fail
       refine (HP3.out _).mono ?_
       rintro e w1 ⟨rfl, rfl⟩
       skip
       go_wp2
       go_step3
       change inl _ _ _ _ _ 3 _ _
       refine inl.on _ (by decide) rfl ?_
       go_wp2_with fail
       refine (HRM.out _ MR.out).mono ?_
       rintro e w2 ⟨rfl, h2⟩
       have HRF := Lib.hid (show CutR s w v w2 (at_ + n + m) ps from ⟨hn2, by have := HR.out.hl; omega, HR.out.below.trans (h2.mono HR.out.below.size), ⟨_, _, _, _, _, HBK.out.below h2 HBK.out.lt⟩, HR.out.row.below h2, HGO.out.1⟩)
       clear h2
       go_wp2
       go_step3
       change inl _ _ _ _ _ 0 _ _
       refine inl.back _ ⟨⟨v, at_ + n, m, _, ⟨rfl, rfl, rfl, rfl, rfl, rfl, rfl, rfl, rfl, ?_, rfl⟩, HRF⟩, ?_⟩
       ·show Value.int .i64 ((at_ : Int) + (n : Int)) = _
        rw [Int.natCast_add]
       ·show s.size + 1 - (((at_ : Int) + (n : Int)).toNat + ((m : Nat) : Int).toNat) < _
        omega
     | false =>
      cases hy4 : Lib.hasPrefix L [60, 63] with
      | true =>
       have hr := hrem (Or.inr hy4)
       rw [hy3] at HP3
       rw [hy4] at HP4
       obtain ⟨m, hm⟩ : ∃ m, m = Tk.rem L := ⟨_, rfl⟩
       rw [← hm] at hr HRM
       have hmn : (m : Int) ≤ 65536 := by have := Tk.rem_le L; omega
       have hr1 := hr.1
       have hr2 := hr.2
       clear hr hS h60 h0 hne heq hfuel hXL hLl hend hh hy2 hy3 hrem hm
       by_cases hm0 : m = 0
       ·have HSS := Lib.hid (hr1.out hm0)
        have HEN := Lib.hid (HBD.out (by rw [HSS.out]; decide))
        rw [HSS.out] at HEN
        subst hm0
        clear hr1 hr2
        go_wp2_with fail
        refine (HP2.out _).mono ?_
        rintro e w1 ⟨rfl, rfl⟩
        go_wp2_with fail
        refine (HP3.out _).mono ?_
        rintro e w1 ⟨rfl, rfl⟩
        (go_wp2_with fail; refine (HP4.out _).mono ?_; rintro e w1 ⟨rfl, rfl⟩)
        go_wp2
        go_step3
        change inl _ _ _ _ _ 3 _ _
        refine inl.on _ (by decide) rfl ?_
        go_wp2_with fail
        refine (HRM.out _ MR.out).mono ?_
        rintro e w2 ⟨rfl, h2⟩
        have B2 := Lib.hid (HR.out.below.trans (h2.mono HR.out.below.size))
        clear h2
        go_wp2
        simp only [jumpsTo]
        go_ret3
        exact ⟨.slice none 0 0, [], by rw [HEN.out]; rfl, TokRow.nil _ _, by rw [HEN.out]; simp only [Int.natCast_add]; rfl, B2.out⟩
       ·have HSS := Lib.hid (hr2.out hm0)
        have HGO := Lib.hid (HGD.out (by rw [HSS.out]))
        rw [HSS.out] at HGO
        have hm1 : ((m : Int) == 0) = false := by
         apply beq_eq_false_iff_ne.2
         omega
        have hn2 := HGO.out.2.2
        simp only at hn2
        clear hr1 hr2 hm0
        have hm2 : 0 < (m : Int) := by have := HGO.out.2.1; simp only at this; omega
        go_wp2_with fail
        refine (HP2.out _).mono ?_
        rintro e w1 ⟨rfl, rfl⟩
        go_wp2_with fail
        refine (HP3.out _).mono ?_
        rintro e w1 ⟨rfl, rfl⟩
        (go_wp2_with fail; refine (HP4.out _).mono ?_; rintro e w1 ⟨rfl, rfl⟩)
        go_wp2
        go_step3
        change inl _ _ _ _ _ 3 _ _
        refine inl.on _ (by decide) rfl ?_
        go_wp2_with fail
        refine (HRM.out _ MR.out).mono ?_
        rintro e w2 ⟨rfl, h2⟩
        have HRF := Lib.hid (show CutR s w v w2 (at_ + n + m) ps from ⟨hn2, by have := HR.out.hl; omega, HR.out.below.trans (h2.mono HR.out.below.size), ⟨_, _, _, _, _, HBK.out.below h2 HBK.out.lt⟩, HR.out.row.below h2, HGO.out.1⟩)
        clear h2
        go_wp2
        go_step3
        change inl _ _ _ _ _ 0 _ _
        refine inl.back _ ⟨⟨v, at_ + n, m, _, ⟨rfl, rfl, rfl, rfl, rfl, rfl, rfl, rfl, rfl, ?_, rfl⟩, HRF⟩, ?_⟩
        ·show Value.int .i64 ((at_ : Int) + (n : Int)) = _
         rw [Int.natCast_add]
        ·show s.size + 1 - (((at_ : Int) + (n : Int)).toNat + ((m : Nat) : Int).toNat) < _
         omega
      | false =>
       have hr0 : Tk.rem L = 0 := by
        unfold Tk.rem
        rw [if_neg, if_neg (by rw [hy4]; decide)]
        intro h
        rw [Tk.hp_iff] at h
        have : Lib.hasPrefix L [60, 33] = true := by
         rw [Tk.hp_iff]
         have h2 := congrArg (List.take 2) h
         rw [List.take_take] at h2
         exact h2
        rw [hy3] at this; cases this
       have hSt : Tk.step L = Tk.opn L := by unfold Tk.step; rw [if_neg (by rw [hh]; simp), hr0, if_neg (by omega), if_neg (by rw [hy2]; decide)]
       have HTX := Lib.hid (fun w0 (T0 : Tb w0) => opening_any X (by omega) w0 T0 hX0)
       rw [hXL, ← hSt, ← hS] at HTX
       rw [hy3] at HP3
       rw [hy4] at HP4
       clear hS hSt h60 h0 hne heq hfuel hXL hLl hend hh hr0 hy2 hy3 hy4 hrem HRM
       go_wp2_with fail
       refine (HP2.out _).mono ?_
       rintro e w1 ⟨rfl, rfl⟩
       go_wp2_with fail
       refine (HP3.out _).mono ?_
       rintro e w1 ⟨rfl, rfl⟩
       go_wp2_with fail
       refine (HP4.out _).mono ?_
       rintro e w1 ⟨rfl, rfl⟩
       go_wp2
       go_step3
       change inl _ _ _ _ _ 4 _ _
       refine inl.on _ (by decide) rfl ?_
       go_wp2_with fail
       refine (HTX.out _ TR.out).mono ?_
       rintro e w2 hpost
       rcases hpost with ⟨hE, rfl, h2⟩ | ⟨hE, t, av, ht, hav, rfl, h2⟩
       ·have kb := HBK.out.below h2 HBK.out.lt
        have B2 := Lib.hid (HR.out.below.trans (h2.mono HR.out.below.size))
        have hE' : (S.e == 0) = false := beq_eq_false_iff_ne.2 hE
        have HEN := Lib.hid (HBD.out hE)
        clear h2 hE
        have k0 : w2.cell? ⟨w.heap.size, 0, none⟩ = some c0 := kb.at_ 0
        have k1 : w2.cell? ⟨w.heap.size, 1, none⟩ = some c1 := kb.at_ 1
        have k2 : w2.cell? ⟨w.heap.size, 2, none⟩ = some c2 := kb.at_ 2
        have k3 : w2.cell? ⟨w.heap.size, 3, none⟩ = some c3 := kb.at_ 3
        have k4 : w2.cell? ⟨w.heap.size, 4, none⟩ = some c4 := kb.at_ 4
        have f0 := kb.fz 0
        have f1 := kb.fz 1
        have f2 := kb.fz 2
        have f3 := kb.fz 3
        have f4 := kb.fz 4
        clear kb
        go_wp2
        go_step3
        change inl _ _ _ _ _ 5 _ _
        refine inl.on _ (by decide) rfl ?_
        go_wp2
        simp only [jumpsTo]
        go_ret3
        exact ⟨.slice none 0 0, [], by rw [HEN.out]; rfl, TokRow.nil _ _, by rw [HEN.out]; simp only [Int.natCast_add]; rfl, below_five B2.out (Nat.le_refl _) _ _ _ _ _⟩
       ·obtain ⟨A, cap, hAv⟩ : ∃ A cap, av = .slice A (Tk.T.as t).length cap := by
         rcases hav.2 with ⟨e1, e2⟩ | ⟨g, cap, cur, e1, _⟩
         ·exact ⟨none, 0, by rw [e1, e2]⟩
         ·exact ⟨_, _, e1⟩
        have kb := HBK.out.below h2 HBK.out.lt
        have B2 := Lib.hid (HR.out.below.trans (h2.mono HR.out.below.size))
        have HGO := Lib.hid (HGD.out hE)
        have HTT := Lib.hid ht
        have HRW := Lib.hid (HR.out.row.below h2)
        have hwr := HBK.out.lt
        have HAV := Lib.hid (And.intro (show OwnT (w.heap.size + 1) w2 av (Tk.T.as t) from own_less hav (by omega)) (show ∀ x ∈ ps, ∀ g h, x.2.ownBlock = some g → av.ownBlock = some h → g ≠ h from fun x hx g h e1 e2 => by
         have h1 := (World.ownsRow.lt (HR.out.row.att x hx) g e1).2
         have h2 := (World.ownsRow.lt hav h e2).1
         omega))
        have hszw := h2.size
        have hps := HR.out.hl
        have hbig : ps.length + 1 ≤ maxLen := by unfold maxLen; omega
        have hn1 := HGO.out.2.1
        have hn2 := HGO.out.2.2
        have HE := Lib.hid hE
        unfold tokC
        subst hAv
        clear hE ht hav h2
        obtain ⟨i0, hi, hz0, hz1, hz2⟩ := info_parts infoTok
        obtain ⟨W5, hW5⟩ : ∃ W5 : World, W5 = (((((w2.setCell ⟨w.heap.size, 0, none⟩ (.int .u8 t.k)).setCell ⟨w.heap.size, 1, none⟩ (.string ⟨t.nm.toArray⟩)).setCell ⟨w.heap.size, 2, none⟩ (.slice A (Tk.T.as t).length cap)).setCell ⟨w.heap.size, 3, none⟩ (.string ⟨t.tx.toArray⟩)).setCell ⟨w.heap.size, 4, none⟩ (.int .i64 0)) := ⟨_, rfl⟩
        have kb5 : IsBlk W5 w.heap.size 76 #[.int .u8 t.k, .string ⟨t.nm.toArray⟩, .slice A (Tk.T.as t).length cap, .string ⟨t.tx.toArray⟩, .int .i64 0] := by
         rw [hW5]
         exact ((((kb.set 0 _).set 1 _).set 2 _).set 3 _).set 4 _
        have H5 := Lib.hid (show TokRow (w.heap.size + 1) W5 v ps ∧ OwnT (w.heap.size + 1) W5 (.slice A (Tk.T.as t).length cap) (Tk.T.as t) ∧ Below w.heap.size w W5 ∧ w.heap.size < W5.heap.size from by
         refine ⟨?_, ?_, ?_, kb5.lt⟩
         ·rw [hW5]
          exact ((((HRW.out.set (by omega) 0 _).set (by omega) 1 _).set (by omega) 2 _).set (by omega) 3 _).set (by omega) 4 _
         ·rw [hW5]
          exact ownsRow_setCell_below (ownsRow_setCell_below (ownsRow_setCell_below (ownsRow_setCell_below (ownsRow_setCell_below HAV.out.1 (Nat.lt_succ_self _) _) (Nat.lt_succ_self _) _) (Nat.lt_succ_self _) _) (Nat.lt_succ_self _) _) (Nat.lt_succ_self _) _
         ·rw [hW5]
          exact below_five B2.out (Nat.le_refl _) _ _ _ _ _)
        have HKB5 := Lib.hid kb5
        have HW5 := Lib.hid hW5
        clear hW5 kb5
        have k0 : w2.cell? ⟨w.heap.size, 0, none⟩ = some c0 := kb.at_ 0
        have k1 : w2.cell? ⟨w.heap.size, 1, none⟩ = some c1 := kb.at_ 1
        have k2 : w2.cell? ⟨w.heap.size, 2, none⟩ = some c2 := kb.at_ 2
        have k3 : w2.cell? ⟨w.heap.size, 3, none⟩ = some c3 := kb.at_ 3
        have k4 : w2.cell? ⟨w.heap.size, 4, none⟩ = some c4 := kb.at_ 4
        have f0 := kb.fz 0
        have f1 := kb.fz 1
        have f2 := kb.fz 2
        have f3 := kb.fz 3
        have f4 := kb.fz 4
        clear kb
        go_wp2
        go_step3
        change inl _ _ _ _ _ 5 _ _
        rw [← HW5.out]
        clear k0 k1 k2 k3 k4 f0 f1 f2 f3 f4
        refine inl.on _ (by decide) rfl ?_
        have k0 : W5.cell? ⟨w.heap.size, 0, none⟩ = some (.int .u8 t.k) := HKB5.out.at_ 0
        have k1 : W5.cell? ⟨w.heap.size, 1, none⟩ = some (.string ⟨t.nm.toArray⟩) := HKB5.out.at_ 1
        have k2 : W5.cell? ⟨w.heap.size, 2, none⟩ = some (.slice A (Tk.T.as t).length cap) := HKB5.out.at_ 2
        have k3 : W5.cell? ⟨w.heap.size, 3, none⟩ = some (.string ⟨t.tx.toArray⟩) := HKB5.out.at_ 3
        have k4 : W5.cell? ⟨w.heap.size, 4, none⟩ = some (.int .i64 0) := HKB5.out.at_ 4
        have f4 := HKB5.out.fz 4
        have hsz5 := H5.out.2.2.2
        go_wp2_with (at_builtin; (refine wpList_append_own _ rfl _ _ _ rfl (w.heap.size + 1) 76 i0 _ 5 72 Tryz.underlying67 hi hz0 hz1 hz2 rfl (by omega) v ps.length (ps.flatMap tokV) (by rfl) (by (repeat' first | with_reducible exact H5.out.1.own | with_reducible refine World.ownsRow.alloc ?_ _ | with_reducible refine ownsRow_setCell_below ?_ (by simp) _)) _ 1 _ [.int .u8 t.k, .string ⟨t.nm.toArray⟩, .slice A (Tk.T.as t).length cap, .string ⟨t.tx.toArray⟩, .int .i64 ((at_ : Int) + (n : Int))] (by rfl) rfl (by intro j u hu; exact news_at _ _ _ _ (by simp) j u hu) (by intro u hu; simp at hu; rcases hu with rfl | rfl | rfl | rfl | rfl <;> rfl) hbig (by omega) (by simp; omega) ?_); intro v3 w3 hown3 hgr3 _)
        have HRF := Lib.hid (show CutR s w v3 w3 (at_ + n + S.n) (ps ++ [(⟨t.k, t.nm, Tk.T.as t, t.tx, at_ + n⟩, .slice A (Tk.T.as t).length cap)]) from by
         have hbase : ∀ k, v.ownBlock = some k → w.heap.size + 1 ≤ k := fun k hk => (World.ownsRow.lt H5.out.1.own k hk).1
         refine ⟨hn2, by rw [List.length_append]; simp; omega, ?_, ?_, ?_, ?_⟩
         ·exact ((H5.out.2.2.1.setCell (p := ⟨w.heap.size, 4, none⟩) (Nat.le_refl _) _).alloc (by simp [World.setCell]; omega) _).grown hgr3 (by simp [World.setCell]; omega) (fun k hk => by have := hbase k hk; omega)
         ·exact ⟨_, _, _, _, _, ((HKB5.out.set 4 _).below ((Below.refl _ _).alloc (Nat.le_refl _) _) (by simp [World.setCell]; omega)).grown hgr3 (fun e => by have := hbase _ e.symm; omega)⟩
         ·refine TokRow.snoc ((H5.out.1.set (Nat.lt_succ_self _) 4 _).below ((Below.refl _ _).alloc (Nat.le_refl _) _)) (own_below (ownsRow_setCell_below H5.out.2.1 (Nat.lt_succ_self _) _) ((Below.refl _ _).alloc (Nat.le_refl _) _)) HAV.out.2 hgr3 ?_
          unfold tokV at hown3 ⊢
          simp only [Int.natCast_add]
          exact hown3
         ·rw [HGO.out.1, HTT.out, List.map_append]; rfl)
        clear hown3 hgr3
        go_step3
        change inl _ _ _ _ _ 0 _ _
        refine inl.back _ ⟨⟨v3, at_ + n, S.n, _, ⟨rfl, rfl, rfl, rfl, rfl, rfl, rfl, rfl, rfl, ?_, rfl⟩, HRF⟩, ?_⟩
        ·show Value.int .i64 ((at_ : Int) + (n : Int)) = _
         rw [Int.natCast_add]
        ·show s.size + 1 - (((at_ : Int) + (n : Int)).toNat + ((S.n : Nat) : Int).toNat) < _
         omega
   ·have ht : ((X[0].toNat : Int) == 60) = false := by
     apply beq_eq_false_iff_ne.2
     intro e; apply h60; apply UInt8.toNat_inj.1
     show X[0].toNat = 60
     omega
    have ht2 : ((X[0].toNat : Int) != 60) = true := by simp [bne, ht]
    have hSt : Tk.step L = Tk.txt L := by unfold Tk.step; rw [if_pos (by rw [h0]; simpa using h60)]
    have HTX := Lib.hid (fun w0 (T0 : Tb w0) => text_any X (by omega) w0 T0)
    rw [hXL, ← hSt, ← hS] at HTX
    clear hS hSt h60 h0 hne heq hfuel hXL hLl hend
    go_wp2
    go_step3
    change inl _ _ _ _ _ 1 _ _
    refine inl.on _ (by decide) rfl ?_
    go_wp2_with fail
    refine (HTX.out _ TR.out).mono ?_
    rintro e w2 hpost
    rcases hpost with ⟨hE, rfl, h2⟩ | ⟨hE, t, av, ht, hav, rfl, h2⟩
    ·have kb := HBK.out.below h2 HBK.out.lt
     have B2 := Lib.hid (HR.out.below.trans (h2.mono HR.out.below.size))
     have hE' : (S.e == 0) = false := beq_eq_false_iff_ne.2 hE
     have HEN := Lib.hid (HBD.out hE)
     clear h2 hE
     have k0 : w2.cell? ⟨w.heap.size, 0, none⟩ = some c0 := kb.at_ 0
     have k1 : w2.cell? ⟨w.heap.size, 1, none⟩ = some c1 := kb.at_ 1
     have k2 : w2.cell? ⟨w.heap.size, 2, none⟩ = some c2 := kb.at_ 2
     have k3 : w2.cell? ⟨w.heap.size, 3, none⟩ = some c3 := kb.at_ 3
     have k4 : w2.cell? ⟨w.heap.size, 4, none⟩ = some c4 := kb.at_ 4
     have f0 := kb.fz 0
     have f1 := kb.fz 1
     have f2 := kb.fz 2
     have f3 := kb.fz 3
     have f4 := kb.fz 4
     clear kb
     go_wp2
     go_step3
     change inl _ _ _ _ _ 5 _ _
     refine inl.on _ (by decide) rfl ?_
     go_wp2
     simp only [jumpsTo]
     go_ret3
     exact ⟨.slice none 0 0, [], by rw [HEN.out]; rfl, TokRow.nil _ _, by rw [HEN.out]; simp only [Int.natCast_add]; rfl, below_five B2.out (Nat.le_refl _) _ _ _ _ _⟩
    ·obtain ⟨A, cap, hAv⟩ : ∃ A cap, av = .slice A (Tk.T.as t).length cap := by
      rcases hav.2 with ⟨e1, e2⟩ | ⟨g, cap, cur, e1, _⟩
      ·exact ⟨none, 0, by rw [e1, e2]⟩
      ·exact ⟨_, _, e1⟩
     have kb := HBK.out.below h2 HBK.out.lt
     have B2 := Lib.hid (HR.out.below.trans (h2.mono HR.out.below.size))
     have HGO := Lib.hid (HGD.out hE)
     have HTT := Lib.hid ht
     have HRW := Lib.hid (HR.out.row.below h2)
     have hwr := HBK.out.lt
     have HAV := Lib.hid (And.intro (show OwnT (w.heap.size + 1) w2 av (Tk.T.as t) from own_less hav (by omega)) (show ∀ x ∈ ps, ∀ g h, x.2.ownBlock = some g → av.ownBlock = some h → g ≠ h from fun x hx g h e1 e2 => by
      have h1 := (World.ownsRow.lt (HR.out.row.att x hx) g e1).2
      have h2 := (World.ownsRow.lt hav h e2).1
      omega))
     have hszw := h2.size
     have hps := HR.out.hl
     have hbig : ps.length + 1 ≤ maxLen := by unfold maxLen; omega
     have hn1 := HGO.out.2.1
     have hn2 := HGO.out.2.2
     have HE := Lib.hid hE
     unfold tokC
     subst hAv
     clear hE ht hav h2
     obtain ⟨i0, hi, hz0, hz1, hz2⟩ := info_parts infoTok
     obtain ⟨W5, hW5⟩ : ∃ W5 : World, W5 = (((((w2.setCell ⟨w.heap.size, 0, none⟩ (.int .u8 t.k)).setCell ⟨w.heap.size, 1, none⟩ (.string ⟨t.nm.toArray⟩)).setCell ⟨w.heap.size, 2, none⟩ (.slice A (Tk.T.as t).length cap)).setCell ⟨w.heap.size, 3, none⟩ (.string ⟨t.tx.toArray⟩)).setCell ⟨w.heap.size, 4, none⟩ (.int .i64 0)) := ⟨_, rfl⟩
     have kb5 : IsBlk W5 w.heap.size 76 #[.int .u8 t.k, .string ⟨t.nm.toArray⟩, .slice A (Tk.T.as t).length cap, .string ⟨t.tx.toArray⟩, .int .i64 0] := by
      rw [hW5]
      exact ((((kb.set 0 _).set 1 _).set 2 _).set 3 _).set 4 _
     have H5 := Lib.hid (show TokRow (w.heap.size + 1) W5 v ps ∧ OwnT (w.heap.size + 1) W5 (.slice A (Tk.T.as t).length cap) (Tk.T.as t) ∧ Below w.heap.size w W5 ∧ w.heap.size < W5.heap.size from by
      refine ⟨?_, ?_, ?_, kb5.lt⟩
      ·rw [hW5]
       exact ((((HRW.out.set (by omega) 0 _).set (by omega) 1 _).set (by omega) 2 _).set (by omega) 3 _).set (by omega) 4 _
      ·rw [hW5]
       exact ownsRow_setCell_below (ownsRow_setCell_below (ownsRow_setCell_below (ownsRow_setCell_below (ownsRow_setCell_below HAV.out.1 (Nat.lt_succ_self _) _) (Nat.lt_succ_self _) _) (Nat.lt_succ_self _) _) (Nat.lt_succ_self _) _) (Nat.lt_succ_self _) _
      ·rw [hW5]
       exact below_five B2.out (Nat.le_refl _) _ _ _ _ _)
     have HKB5 := Lib.hid kb5
     have HW5 := Lib.hid hW5
     clear hW5 kb5
     have k0 : w2.cell? ⟨w.heap.size, 0, none⟩ = some c0 := kb.at_ 0
     have k1 : w2.cell? ⟨w.heap.size, 1, none⟩ = some c1 := kb.at_ 1
     have k2 : w2.cell? ⟨w.heap.size, 2, none⟩ = some c2 := kb.at_ 2
     have k3 : w2.cell? ⟨w.heap.size, 3, none⟩ = some c3 := kb.at_ 3
     have k4 : w2.cell? ⟨w.heap.size, 4, none⟩ = some c4 := kb.at_ 4
     have f0 := kb.fz 0
     have f1 := kb.fz 1
     have f2 := kb.fz 2
     have f3 := kb.fz 3
     have f4 := kb.fz 4
     clear kb
     go_wp2
     go_step3
     change inl _ _ _ _ _ 5 _ _
     rw [← HW5.out]
     clear k0 k1 k2 k3 k4 f0 f1 f2 f3 f4
     refine inl.on _ (by decide) rfl ?_
     have k0 : W5.cell? ⟨w.heap.size, 0, none⟩ = some (.int .u8 t.k) := HKB5.out.at_ 0
     have k1 : W5.cell? ⟨w.heap.size, 1, none⟩ = some (.string ⟨t.nm.toArray⟩) := HKB5.out.at_ 1
     have k2 : W5.cell? ⟨w.heap.size, 2, none⟩ = some (.slice A (Tk.T.as t).length cap) := HKB5.out.at_ 2
     have k3 : W5.cell? ⟨w.heap.size, 3, none⟩ = some (.string ⟨t.tx.toArray⟩) := HKB5.out.at_ 3
     have k4 : W5.cell? ⟨w.heap.size, 4, none⟩ = some (.int .i64 0) := HKB5.out.at_ 4
     have f4 := HKB5.out.fz 4
     have hsz5 := H5.out.2.2.2
     go_wp2_with (at_builtin; (refine wpList_append_own _ rfl _ _ _ rfl (w.heap.size + 1) 76 i0 _ 5 72 Tryz.underlying67 hi hz0 hz1 hz2 rfl (by omega) v ps.length (ps.flatMap tokV) (by rfl) (by (repeat' first | with_reducible exact H5.out.1.own | with_reducible refine World.ownsRow.alloc ?_ _ | with_reducible refine ownsRow_setCell_below ?_ (by simp) _)) _ 1 _ [.int .u8 t.k, .string ⟨t.nm.toArray⟩, .slice A (Tk.T.as t).length cap, .string ⟨t.tx.toArray⟩, .int .i64 ((at_ : Int) + (n : Int))] (by rfl) rfl (by intro j u hu; exact news_at _ _ _ _ (by simp) j u hu) (by intro u hu; simp at hu; rcases hu with rfl | rfl | rfl | rfl | rfl <;> rfl) hbig (by omega) (by simp; omega) ?_); intro v3 w3 hown3 hgr3 _)
     have HRF := Lib.hid (show CutR s w v3 w3 (at_ + n + S.n) (ps ++ [(⟨t.k, t.nm, Tk.T.as t, t.tx, at_ + n⟩, .slice A (Tk.T.as t).length cap)]) from by
      have hbase : ∀ k, v.ownBlock = some k → w.heap.size + 1 ≤ k := fun k hk => (World.ownsRow.lt H5.out.1.own k hk).1
      refine ⟨hn2, by rw [List.length_append]; simp; omega, ?_, ?_, ?_, ?_⟩
      ·exact ((H5.out.2.2.1.setCell (p := ⟨w.heap.size, 4, none⟩) (Nat.le_refl _) _).alloc (by simp [World.setCell]; omega) _).grown hgr3 (by simp [World.setCell]; omega) (fun k hk => by have := hbase k hk; omega)
      ·exact ⟨_, _, _, _, _, ((HKB5.out.set 4 _).below ((Below.refl _ _).alloc (Nat.le_refl _) _) (by simp [World.setCell]; omega)).grown hgr3 (fun e => by have := hbase _ e.symm; omega)⟩
      ·refine TokRow.snoc ((H5.out.1.set (Nat.lt_succ_self _) 4 _).below ((Below.refl _ _).alloc (Nat.le_refl _) _)) (own_below (ownsRow_setCell_below H5.out.2.1 (Nat.lt_succ_self _) _) ((Below.refl _ _).alloc (Nat.le_refl _) _)) HAV.out.2 hgr3 ?_
       unfold tokV at hown3 ⊢
       simp only [Int.natCast_add]
       exact hown3
      ·rw [HGO.out.1, HTT.out, List.map_append]; rfl)
     clear hown3 hgr3
     go_step3
     change inl _ _ _ _ _ 0 _ _
     refine inl.back _ ⟨⟨v3, at_ + n, S.n, _, ⟨rfl, rfl, rfl, rfl, rfl, rfl, rfl, rfl, rfl, ?_, rfl⟩, HRF⟩, ?_⟩
     ·show Value.int .i64 ((at_ : Int) + (n : Int)) = _
      rw [Int.natCast_add]
     ·show s.size + 1 - (((at_ : Int) + (n : Int)).toNat + ((S.n : Nat) : Int).toNat) < _
      omega
end Go.Proofs.YteadfpkihhaadaaGreatDoor
namespace Go.Proofs.YteadfpkihhaadaaGreatDoor
open Go.RowKit
theorem CutP.from {R : List Tk.T × Nat × Int} {w w1 w' : World} {e : Ending} (hb : Below w.heap.size w w1) (h : CutP R w1 e w') : CutP R w e w' := by
 obtain ⟨v, ps, h1, h2, h3, h4⟩ := h
 exact ⟨v, ps, h1, h2.less hb.size, h3, hb.trans (h4.mono hb.size)⟩
set_option maxHeartbeats 1000000 in
theorem tokens_any (s : ByteArray) (hs : s.size ≤ maxLen) (w : World) (T : Tb w) (hmx : Mx w) :
  Calls Tryz.prog 25 #[.string s] w (CutP (Tk.toks s.data.toList) w) := by
 have hll : s.data.toList.length = s.size := (Lib.size_eq s).symm
 by_cases hbig : 65536 < s.size
 ·have hR : Tk.toks s.data.toList = ([], 0, 3) := by unfold Tk.toks; rw [if_pos (by omega)]
  rw [hR]
  have hb' : (65536 : Int) < (s.size : Int) := by omega
  clear hR
  go_enter Tryz.func25, Tryz.ntmps25
  go_wp2
  go_ret3
  exact ⟨_, [], rfl, TokRow.nil _ _, rfl, Below.refl _ _⟩
 ·have hb' : ¬ (65536 : Int) < (s.size : Int) := by omega
  have HV := Lib.hid (valid_any s w T.t hs)
  have hle := (U8.lead_le s.data.toList.length s.data.toList (Nat.le_refl _)).2
  by_cases hv : (U8.lead s.data.toList).2 = s.data.toList.length
  ·have hR : Tk.toks s.data.toList = Tk.cutT s.data.toList := Tk.toks_of (by omega) hv
   have hvl : vld s.data.toList = (0, 0) := by unfold vld; rw [if_neg (by omega)]
   rw [hR]
   rw [hvl] at HV
   have HT := Lib.hid T
   have HM := Lib.hid hmx
   have HC := Lib.hid (fun w0 (T0 : Tb w0) (M0 : Mx w0) => cut_any4 s (by omega) w0 T0 M0)
   clear hR hvl hv hle hll T hmx
   go_enter Tryz.func25, Tryz.ntmps25
   go_wp2_with fail
   refine HV.out.mono ?_
   rintro e w1 ⟨rfl, h1⟩
   have T1 := HT.out.below h1 (Nat.le_refl _)
   have M1 := HM.out.below h1
   go_wp2_with fail
   refine (HC.out _ T1 M1).mono ?_
   rintro e w2 h2
   obtain ⟨v, ps, hp1, hp2, rfl, hp3⟩ := h2.from h1
   have HP := Lib.hid (And.intro hp1 (And.intro hp2 hp3))
   clear hp1 hp2 hp3 h1 T1 M1 h2
   go_wp2
   go_ret3
   exact ⟨v, ps, HP.out.1, HP.out.2.1, rfl, HP.out.2.2⟩
  ·have hR : Tk.toks s.data.toList = ([], (U8.lead s.data.toList).2, 10) := by unfold Tk.toks; rw [if_neg (by omega), if_pos hv]
   have hvl : vld s.data.toList = (((U8.lead s.data.toList).2 : Int), 10) := by unfold vld; rw [if_pos (by omega)]
   rw [hR]
   rw [hvl] at HV
   clear hR hvl hv hle hll
   go_enter Tryz.func25, Tryz.ntmps25
   go_wp2_with fail
   refine HV.out.mono ?_
   rintro e w1 ⟨rfl, h1⟩
   go_wp2
   go_ret3
   exact ⟨_, [], rfl, TokRow.nil _ _, rfl, h1⟩
end Go.Proofs.YteadfpkihhaadaaGreatDoor
namespace Go.Proofs.YteadfpkihhaadaaGreatDoor
open Go.RowKit
theorem own_cell {w : World} {B : Nat} {e : TypeId} {size g n cap : Nat} {xs : List Value} (h : w.ownsRow B e size (.slice (some ⟨g, 0, none⟩) n cap) n xs) {j : Nat} {u : Value} (hu : xs[j]? = some u) : w.cell? ⟨g, j, none⟩ = some u := by
 have := h.cells (g := g) rfl j u hu
 have hadd : (⟨g, 0, none⟩ : Addr).add j = ⟨g, j, none⟩ := by unfold Addr.add; split <;> simp_all
 rwa [hadd] at this
end Go.Proofs.YteadfpkihhaadaaGreatDoor
namespace Go.Proofs.YteadfpkihhaadaaGreatDoor
open Go.RowKit
theorem own_slice {w : World} {B : Nat} {e : TypeId} {size n : Nat} {v : Value} {xs : List Value} (h : w.ownsRow B e size v n xs) :
  ∃ A cap, v = .slice A n cap ∧ (0 < n → ∃ g, A = some ⟨g, 0, none⟩ ∧ g < w.heap.size ∧ B ≤ g ∧ ∀ j u, xs[j]? = some u → w.cell? ⟨g, j, none⟩ = some u) ∧ (A = none → cap = 0 ∧ n = 0) ∧ n ≤ cap ∧ cap ≤ maxLen := by
 rcases h.2 with ⟨h1, h2⟩ | ⟨g, cap, cur, h1, h2, h3, h4, h5, _⟩
 ·exact ⟨none, 0, by rw [h1, h2], fun h => by omega, fun _ => ⟨rfl, h2⟩, by omega, Nat.zero_le _⟩
 ·subst h1
  exact ⟨some ⟨g, 0, none⟩, cap, rfl, fun _ => ⟨g, rfl, (Array.getElem?_eq_some_iff.1 h3).1, h2, fun j u hu => own_cell h hu⟩, fun h => (by cases h), h4, h5⟩
end Go.Proofs.YteadfpkihhaadaaGreatDoor
namespace Go.Proofs.YteadfpkihhaadaaGreatDoor
open Go.RowKit
end Go.Proofs.YteadfpkihhaadaaGreatDoor
