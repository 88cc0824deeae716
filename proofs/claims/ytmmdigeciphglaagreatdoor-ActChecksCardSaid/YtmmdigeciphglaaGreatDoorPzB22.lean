/- Facts and walks for the statement. -/
import Derived.Test.YtmmdigeciphglaaGreatDoorPzB18
import Derived.Test.YtmmdigeciphglaaGreatDoorPzB21
import Derived.Shelf.Strings.OnBuilder
namespace Go.Proofs.YtmmdigeciphglaaGreatDoor
open Go.RowKit Ex
theorem toks_goods (s : List UInt8) : ∀ t ∈ kxs (Lx.toks s).1, Lx.is t.2 = t.1 := by
  by_cases h : s.length ≤ 65536
  · exact Ac.good_kxs (by rw [Lx.toks_C h]; exact Lx.C_goods _ _ _ (Nat.le_refl _))
  · have e : (Lx.toks s).1 = [] := by unfold Lx.toks; rw [if_pos (by omega)]
    rw [e]
    exact fun t ht => by cases ht
def ApP (X : List Ac.St × Nat × Int) (w : World) (e : Ending) (w' : World) : Prop :=
  ∃ A c ps, ps.map (·.1) = X.1 ∧ e = .returned (.tuple #[.agg #[.slice A X.1.length c], .int .i64 (X.2.1 : Nat), .int .i64 X.2.2]) ∧ StO w.heap.size w' (.slice A X.1.length c) ps ∧ Below w.heap.size w w'
theorem StO.nil (B : Nat) (w : World) : StO B w (.slice none 0 0) [] := ⟨World.ownsRow_nil _ _ _ _, fun p hp => by cases hp⟩
theorem StO.less {B B' : Nat} {w : World} {sv : Value} {ps : List (Ac.St × Value)} (h : StO B w sv ps) (hB : B' ≤ B) : StO B' w sv ps := ⟨own_less h.row hB, fun p hp => own_less (h.nds p hp) hB⟩
theorem StO.set {B b k : Nat} {w : World} {t : TypeId} {cs : Array Value} {sv : Value} {ps : List (Ac.St × Value)} (h : StO B w sv ps) (hb : IsBlk w b t cs) (h1 : t ≠ 80) (h2 : t ≠ 105) (v : Value) : StO B (w.setCell ⟨b, k, none⟩ v) sv ps := ⟨own_set h.row hb h1 k v, fun p hp => own_set (h.nds p hp) hb h2 k v⟩
theorem tor_pl {w : World} {B n c : Nat} {A : Option Addr} {xs : List Value} (h : w.ownsRow B 143 3 (.slice A n c) n xs) : (A = none → c = 0) ∧ (A = none ∨ ∃ g o, A = some ⟨g, o, none⟩) ∧ c ≤ maxLen := by
  rcases h.2 with ⟨e, _⟩ | ⟨g, cap, cur, e, _, _, _, h5, _⟩
  · injection e with e1 _ e3
    exact ⟨fun _ => e3, Or.inl e1, by rw [e3]; exact Nat.zero_le _⟩
  · injection e with e1 _ e3
    exact ⟨(fun q => by rw [q] at e1; cases e1), Or.inr ⟨g, 0, e1⟩, by rw [e3]; exact h5⟩
set_option maxHeartbeats 8000000 in
set_option maxRecDepth 100000 in
theorem aparse_any (s : ByteArray) (w : World) (T : Tx w) (hs : s.size ≤ maxLen) :
    Calls Tryz.prog 13 #[.string s] w (ApP (Ac.act s.data.toList) w) := by
  obtain ⟨W1, hW1⟩ : ∃ W1, W1 = w.alloc (.cells #[.slice none 0 0] 29) := ⟨_, rfl⟩
  have hb1 : Below w.heap.size w W1 := by rw [hW1]; exact (Below.refl _ _).alloc (Nat.le_refl _) _
  have hk1 : IsBlk W1 w.heap.size 29 #[.slice none 0 0] := by rw [hW1]; exact IsBlk.new _ _ _
  have HTK := Lib.hid (ltoks_any s W1 hs (T.below hb1).sg)
  have HT := Lib.hid T
  have HFEW := Lib.hid (toks_few s.data.toList)
  have HGD := Lib.hid (toks_goods s.data.toList)
  obtain ⟨X, hX⟩ : ∃ X, X = Ac.act s.data.toList := ⟨_, rfl⟩
  rw [← hX]
  unfold Ac.act at hX
  obtain ⟨L, hL⟩ : ∃ L, L = Lx.toks s.data.toList := ⟨_, rfl⟩
  rw [← hL] at HTK HFEW HGD hX
  clear hL
  obtain ⟨ls, at_, er⟩ := L
  simp only at hX HTK
  have HX := Lib.hid hX
  have HK1 := Lib.hid hk1
  have HB1 := Lib.hid hb1
  have HW1 := Lib.hid hW1
  have HSZ := Lib.hid (show s.data.toList.length = s.size from (Lib.size_eq s).symm)
  clear hW1 hb1 hk1 hX T hs
  by_cases he : er = 0
  · subst he
    have HX := Lib.hid (HX.out.trans (if_neg (fun q => q rfl)))
    go_enter Tryz.func13, Tryz.ntmps13
    go_wp2_with fail
    rw [← HW1.out]
    refine HTK.out.mono ?_
    rintro en w2 ⟨A2, c2, ho2, rfl, hb2⟩
    simp only at ho2 ⊢
    have hto := own_tor ho2 rfl
    have hpl := tor_pl ho2
    obtain ⟨r, hr⟩ : ∃ r, r = w2.heap.size := ⟨_, rfl⟩
    obtain ⟨W3, hW3⟩ : ∃ W3, W3 = w2.alloc (.cells #[.slice A2 ls.length c2, .int .i64 0, .slice none 0 0] 100) := ⟨_, rfl⟩
    have hb3 : Below w2.heap.size w2 W3 := by rw [hW3]; exact (Below.refl _ _).alloc (Nat.le_refl _) _
    have HBW := Lib.hid (show Below w.heap.size w W3 from HB1.out.trans ((hb2.trans (hb3.mono hb2.size)).mono HB1.out.size))
    have hwr : w.heap.size ≤ r := by rw [hr]; exact Nat.le_trans HB1.out.size hb2.size
    have hcu : CuR r r W3 A2 c2 ls 0 (.slice none 0 0) := ⟨Nat.le_refl _, by rw [hr, hW3]; exact IsBlk.new _ _ _, by rw [hr]; exact hto.1.below hb3, Nat.zero_le _, hto.2, hpl.1, hpl.2.1⟩
    have HBD := Lib.hid (abody_any r r W3 A2 c2 ls 0 (.slice none 0 0) [] (Ac.B (kxs ls) []) ⟨hcu, Below.refl _ _, StO.nil _ _, by rw [List.drop_zero]; rfl, Nat.zero_le _⟩ (fun w' hb => HT.out.below (HBW.out.trans (hb.mono hwr))) HFEW.out.1 hpl.2.2 HFEW.out.2 HGD.out)
    have K3 := Lib.hid (show IsBlk W3 w.heap.size 29 #[.slice none 0 0] from (HK1.out.below (hb2.trans (hb3.mono hb2.size)) HK1.out.lt))
    have HWR := Lib.hid (show w.heap.size < r from by rw [hr]; exact Nat.lt_of_lt_of_le HK1.out.lt hb2.size)
    have HPL := Lib.hid hpl.2.2
    have HW3 := Lib.hid (And.intro hW3 hr)
    clear ho2 hto hpl hW3 hb3 hwr hcu hb2 HTK hr
    obtain ⟨Y, hY⟩ : ∃ Y, Y = Ac.B (kxs ls) [] := ⟨_, rfl⟩
    rw [← hY] at HBD HX
    have HY := Lib.hid hY.symm
    clear hY
    go_wp2_with fail
    rw [← HW3.out.1, ← HW3.out.2]
    refine HBD.out.mono ?_
    clear HBD
    cases Y with
    | bad left z =>
      rintro en w4 ⟨rfl, hb4, i4, sv4, hl4, hc4⟩
      have hz : z ≠ 0 := Ac.B_ne _ _ _ (Nat.le_refl _) HGD.out HY.out
      have hzb : (z != 0) = true := by simpa using hz
      have C4 := Lib.hid hc4
      have HB4 := Lib.hid (HBW.out.trans (hb4.mono (Nat.le_of_lt HWR.out)))
      have K4 := Lib.hid (show IsBlk w4 w.heap.size 29 #[.slice none 0 0] from (hb4.block _ HWR.out).trans K3.out)
      have HPC := Lib.hid (aplace_any r r w4 A2 c2 ls i4 sv4 hc4 (by have h := HFEW.out.1; show ls.length ≤ 800000; exact Nat.le_trans h (by decide)) s)
      have hpp : ((Ac.plc ls (ls.length - left) s.data.toList.length : Nat) : Int) = if i4 < ls.length then ((tkAt ls i4).2.2 : Int) else (s.size : Int) := by
        rw [show ls.length - left = i4 by omega, HSZ.out]
        unfold Ac.plc
        by_cases hi : i4 < ls.length
        · rw [if_pos hi, tkAt_lt hi, List.getElem?_eq_getElem hi]; rfl
        · rw [if_neg hi, List.getElem?_eq_none (by omega)]; rfl
      obtain ⟨P, hP⟩ : ∃ P : Nat, P = Ac.plc ls (ls.length - left) s.data.toList.length := ⟨_, rfl⟩
      rw [← hpp, ← hP] at HPC
      have HX := Lib.hid (show X = ([], P, z) from by rw [hP]; exact HX.out)
      clear hz hc4 hb4 hpp hP hl4
      go_wp2_with fail
      refine HPC.out.mono ?_
      rintro en w5 ⟨rfl, hb5⟩
      have K5 := K4.out.below hb5 K4.out.lt
      have k0 : w5.cell? ⟨w.heap.size, 0, none⟩ = some (.slice none 0 0) := K5.at_ 0
      have kf : w5.frozen? ⟨w.heap.size, 0, none⟩ = false := K5.fz 0
      have HB5 := Lib.hid (HB4.out.trans (hb5.mono HB4.out.size))
      clear K5 hb5
      go_wp2
      refine bodyPost_ret (v := .tuple #[.agg #[.slice none 0 0], .int .i64 (P : Int), .int .i64 z]) (by simp [results, Tryz.results13, go_sem, k0]) rfl ?_
      rw [HX.out]
      exact ⟨none, 0, [], rfl, rfl, StO.nil _ _, HB5.out.setCell (p := ⟨w.heap.size, 0, none⟩) (Nat.le_refl _) _⟩
    | ok ss =>
      rintro en w4 ⟨rfl, hb4, ps, i4, sv4, hps, hc4, hst, hle⟩
      obtain ⟨An, cn, hsv, -, -, -⟩ := own_sliced hst.row
      subst hsv
      have hln : ps.length = ss.length := by rw [← hps, List.length_map]
      rw [hln] at hst hc4
      have K4 := Lib.hid (show IsBlk w4 w.heap.size 29 #[.slice none 0 0] from (hb4.block _ HWR.out).trans K3.out)
      have d2 : w4.cell? ⟨r, 2, none⟩ = some (.slice An ss.length cn) := hc4.cells.2.2
      have HB4 := Lib.hid (HBW.out.trans (hb4.mono (Nat.le_of_lt HWR.out)))
      have HST := Lib.hid (hst.less (Nat.le_of_lt HWR.out))
      have HX := Lib.hid (show X = (ss, 0, 0) from HX.out)
      have k0 : w4.cell? ⟨w.heap.size, 0, none⟩ = some (.slice none 0 0) := K4.out.at_ 0
      have kf : w4.frozen? ⟨w.heap.size, 0, none⟩ = false := K4.out.fz 0
      have HPS := Lib.hid hps
      clear hb4 hps hc4 hst hle hln
      go_wp2
      refine bodyPost_ret (v := .tuple #[.agg #[.slice An ss.length cn], .int .i64 0, .int .i64 0]) (by simp [results, Tryz.results13, go_sem, k0]) rfl ?_
      rw [HX.out]
      exact ⟨An, cn, ps, HPS.out, rfl, HST.out.set K4.out (by decide) (by decide) _, HB4.out.setCell (p := ⟨w.heap.size, 0, none⟩) (Nat.le_refl _) _⟩
  · have he' : (er != 0) = true := by simpa using he
    have HX := Lib.hid (show X = ([], at_, er) from HX.out.trans (if_pos he))
    clear he
    go_enter Tryz.func13, Tryz.ntmps13
    go_wp2_with fail
    rw [← HW1.out]
    refine HTK.out.mono ?_
    rintro en w2 ⟨A2, c2, _, rfl, hb2⟩
    simp only
    have K2 := HK1.out.below hb2 HK1.out.lt
    have k0 : w2.cell? ⟨w.heap.size, 0, none⟩ = some (.slice none 0 0) := K2.at_ 0
    have kf : w2.frozen? ⟨w.heap.size, 0, none⟩ = false := K2.fz 0
    have HB2 := Lib.hid (HB1.out.trans (hb2.mono HB1.out.size))
    clear hb2 K2
    go_wp2
    refine bodyPost_ret (v := .tuple #[.agg #[.slice none 0 0], .int .i64 (at_ : Int), .int .i64 er]) (by simp [results, Tryz.results13, go_sem, k0]) rfl ?_
    rw [HX.out]
    exact ⟨none, 0, [], rfl, rfl, StO.nil _ _, HB2.out.setCell (p := ⟨w.heap.size, 0, none⟩) (Nat.le_refl _) _⟩
end Go.Proofs.YtmmdigeciphglaaGreatDoor
namespace Go.Proofs.YtmmdigeciphglaaGreatDoor
open Go.RowKit Ex
noncomputable def wrt (s : Ac.St) : List (List UInt8) :=
  if s.k = 2 ∧ s.x = [] then [[101, 109, 105, 116], s.nm, [40], [41], [59]]
  else if s.k = 2 then [[101, 109, 105, 116], s.nm, [40], Ex.prs (Ac.exo s.x) 0, [41], [59]]
  else [s.nm, [58, 61], Ex.prs (Ac.exo s.x) 0, [59]]
def AwrP (ts : List (List UInt8)) (w : World) (e : Ending) (w' : World) : Prop :=
  ∃ g, e = .returned (.slice (some ⟨g, 0, none⟩) ts.length ts.length) ∧ IsBlk w' g 9 (atxV ts).toArray ∧ w.heap.size ≤ g ∧ Below w.heap.size w w'
set_option maxHeartbeats 4000000 in
set_option maxRecDepth 100000 in
theorem awrit_any (w : World) (T : Tx w) (s : Ac.St) (hok : Ac.okS s) (A : Option Addr) (c : Nat) (hl : NdR w w.heap.size A s.x) (hc : s.x.length ≤ c) (hf : Fitn s.x) :
    Calls Tryz.prog 42 #[.agg #[.int .u8 s.k, .string ⟨s.nm.toArray⟩, .slice A s.x.length c]] w (AwrP (wrt s) w) := by
  obtain ⟨R, hR⟩ : ∃ R, R = wrt s := ⟨_, rfl⟩
  rw [← hR]
  unfold wrt at hR
  have HW := Lib.hid hR
  clear hR
  obtain ⟨k, nm, xs⟩ := s
  simp only at hl hc hf HW ⊢
  obtain ⟨hk, hnm, hx⟩ := hok
  simp only at hk hnm hx
  obtain ⟨N, hN⟩ : ∃ N : ByteArray, N = ⟨nm.toArray⟩ := ⟨_, rfl⟩
  rw [← hN]
  have HNN := Lib.hid hN
  obtain ⟨W1, hW1⟩ : ∃ W1, W1 = w.alloc (.cells #[.int .u8 k, .string N, .slice A xs.length c] 80) := ⟨_, rfl⟩
  have hb1 : Below w.heap.size w W1 := by rw [hW1]; exact (Below.refl _ _).alloc (Nat.le_refl _) _
  have k1 : IsBlk W1 w.heap.size 80 #[.int .u8 k, .string N, .slice A xs.length c] := by rw [hW1]; exact IsBlk.new _ _ _
  have HBR := Lib.hid (abare_any W1 k N A xs.length c)
  have HPR := Lib.hid (fun w' (hb : Below w.heap.size w w') => print_any w' (T.below hb) A c xs ((hl.below hb).more hb.size) hc hf)
  have HK1 := Lib.hid k1
  have HB1 := Lib.hid hb1
  have HW1 := Lib.hid hW1
  have HKK := Lib.hid hk
  have HX := Lib.hid hx
  have x0 : W1.cell? ⟨w.heap.size, 0, none⟩ = some (.int .u8 k) := k1.at_ 0
  have x1 : W1.cell? ⟨w.heap.size, 1, none⟩ = some (.string N) := k1.at_ 1
  have x2 : W1.cell? ⟨w.heap.size, 2, none⟩ = some (.slice A xs.length c) := k1.at_ 2
  rw [hW1] at x0 x1 x2
  clear hN hW1 hb1 k1 T hl hc hf hk hnm hx
  by_cases hbr : k = 2 ∧ xs = []
  · have hd : decide (k = 2 ∧ xs.length = 0) = true := decide_eq_true ⟨hbr.1, by rw [hbr.2]; rfl⟩
    have HW := Lib.hid (HW.out.trans (if_pos hbr))
    rw [hd] at HBR
    clear hd hbr HPR HX
    go_enter Tryz.func42, Tryz.ntmps42
    go_wp2_with fail
    rw [← HW1.out]
    refine HBR.out.mono ?_
    rintro e w2 ⟨rfl, hb2⟩
    have B2 := Lib.hid (HB1.out.trans (hb2.mono HB1.out.size))
    have k2 := HK1.out.below hb2 HK1.out.lt
    have y1 : w2.cell? ⟨w.heap.size, 1, none⟩ = some (.string N) := k2.at_ 1
    clear hb2 k2 x0 x1 x2
    go_wp2
    go_ret
    rw [HW.out]
    refine ⟨w2.heap.size, rfl, ?_, B2.out.size, B2.out.alloc B2.out.size _⟩
    rw [HNN.out]
    exact IsBlk.new _ _ _
  · have hd : decide (k = 2 ∧ xs.length = 0) = false := decide_eq_false (fun q => hbr ⟨q.1, List.length_eq_zero_iff.1 q.2⟩)
    have HCK := Lib.hid (show chk xs = 0 from HX.out.elim (fun q => absurd q hbr) id)
    have HW := Lib.hid (HW.out.trans (if_neg hbr))
    rw [hd] at HBR
    clear hd hbr
    go_enter Tryz.func42, Tryz.ntmps42
    go_wp2_with fail
    rw [← HW1.out]
    refine HBR.out.mono ?_
    rintro e w2 ⟨rfl, hb2⟩
    have B2 := Lib.hid (HB1.out.trans (hb2.mono HB1.out.size))
    have k2 := HK1.out.below hb2 HK1.out.lt
    have K2 := Lib.hid k2
    have y2 : w2.cell? ⟨w.heap.size, 2, none⟩ = some (.slice A xs.length c) := k2.at_ 2
    have HPC := Lib.hid (HPR.out w2 B2.out)
    clear hb2 k2 x0 x1 x2 HPR
    go_wp2_with fail
    refine HPC.out.mono ?_
    rintro e w3 ⟨t, er, hp, rfl, hb3⟩
    have HT := Lib.hid (show t = Ex.prs (Ac.exo xs) 0 from by
      rcases hp with ⟨h1, _, _⟩ | ⟨_, x, _, _, _, h4, h5⟩
      · exact absurd HCK.out h1
      · rw [h5, h4, Ac.exo_flat])
    rw [← HT.out] at HW
    obtain ⟨P, hP⟩ : ∃ P : ByteArray, P = ⟨t.toArray⟩ := ⟨_, rfl⟩
    rw [← hP]
    have HP := Lib.hid hP
    have B3 := Lib.hid (B2.out.trans (hb3.mono B2.out.size))
    have k3 := K2.out.below hb3 K2.out.lt
    have z0 : w3.cell? ⟨w.heap.size, 0, none⟩ = some (.int .u8 k) := k3.at_ 0
    have z1 : w3.cell? ⟨w.heap.size, 1, none⟩ = some (.string N) := k3.at_ 1
    clear hp hP hb3 k3 y2 HPC
    by_cases hk2 : k = 2
    · have hkb : (k == 2) = true := by rw [hk2]; rfl
      have HW := Lib.hid (HW.out.trans (if_pos hk2))
      clear hk2
      go_wp2
      go_ret
      rw [HW.out]
      refine ⟨w3.heap.size, rfl, ?_, B3.out.size, B3.out.alloc B3.out.size _⟩
      rw [HNN.out, HP.out]
      exact IsBlk.new _ _ _
    · have hkb : (k == 2) = false := beq_eq_false_iff_ne.2 hk2
      have HW := Lib.hid (HW.out.trans (if_neg hk2))
      clear hk2
      go_wp2
      go_ret
      rw [HW.out]
      refine ⟨w3.heap.size, rfl, ?_, B3.out.size, B3.out.alloc B3.out.size _⟩
      rw [HNN.out, HP.out]
      exact IsBlk.new _ _ _
end Go.Proofs.YtmmdigeciphglaaGreatDoor
namespace Go.Proofs.YtmmdigeciphglaaGreatDoor
open Go.RowKit Ex
theorem join_cons (a : List UInt8) {r : List (List UInt8)} (h : r ≠ []) : Lib.join (a :: r) [32] = a ++ 32 :: Lib.join r [32] := by
  unfold Lib.join
  cases r with
  | nil => exact absurd rfl h
  | cons b r => simp [List.intercalate, List.intersperse]
theorem join_one (a : List UInt8) : Lib.join [a] [32] = a := by simp [Lib.join, List.intercalate, List.intersperse]
theorem join_app : ∀ {A B : List (List UInt8)}, A ≠ [] → B ≠ [] → Lib.join (A ++ B) [32] = Lib.join A [32] ++ 32 :: Lib.join B [32]
  | [], _, h, _ => absurd rfl h
  | [t], B, _, hB => by rw [join_one]; exact join_cons t hB
  | t :: u :: r, B, _, hB => by
    have ih := join_app (A := u :: r) (B := B) (by simp) hB
    rw [join_cons t (by simp : u :: r ≠ []), List.cons_append, join_cons t (by simp : u :: r ++ B ≠ []), ih]
    simp
theorem wrt_ne (s : Ac.St) : wrt s ≠ [] := by
  unfold wrt
  split
  · simp
  · split <;> simp
theorem join_wrt {s : Ac.St} (h : Ac.okS s) : Lib.join (wrt s) [32] = Ex.jn (Ac.stT s) := by
  unfold wrt Ac.stT
  rcases h.1 with hk | hk
  · rw [if_neg (fun q => by have := q.1; omega), if_neg (by omega), if_pos hk]
    rw [join_cons _ (by simp), join_cons _ (by simp), join_cons _ (by simp), join_one, Ex.jn_cons (by simp), Ex.jn_cons (by simp), Ex.jn_app (Ex.pr_ne _ _) (by simp), Ex.jn_one, ← Ex.prs_jn]
  · by_cases hx : s.x = []
    · rw [if_pos ⟨hk, hx⟩, if_neg (by omega), if_pos hx]
      rw [join_cons _ (by simp), join_cons _ (by simp), join_cons _ (by simp), join_cons _ (by simp), join_one, Ex.jn_cons (by simp), Ex.jn_cons (by simp), Ex.jn_cons (by simp), Ex.jn_cons (by simp), Ex.jn_one]
    · rw [if_neg (fun q => hx q.2), if_pos hk, if_neg (by omega), if_neg hx]
      rw [join_cons _ (by simp), join_cons _ (by simp), join_cons _ (by simp), join_cons _ (by simp), join_cons _ (by simp), join_one, Ex.jn_cons (by simp), Ex.jn_cons (by simp), Ex.jn_cons (by simp), Ex.jn_app (Ex.pr_ne _ _) (by simp), Ex.jn_cons (by simp), Ex.jn_one, ← Ex.prs_jn]
theorem join_all : ∀ (b : List Ac.St), (∀ s ∈ b, Ac.okS s) → Lib.join (b.flatMap wrt) [32] = Ac.btx b
  | [], _ => rfl
  | [s], h => by
    show Lib.join (wrt s ++ []) [32] = Ex.jn (Ac.stT s ++ [])
    rw [List.append_nil, List.append_nil]
    exact join_wrt (h s (List.mem_cons_self ..))
  | s :: t :: r, h => by
    have ih := join_all (t :: r) (fun q hq => h q (List.mem_cons_of_mem _ hq))
    have e1 : (t :: r).flatMap wrt ≠ [] := by rw [List.flatMap_cons]; intro q; exact wrt_ne t (List.append_eq_nil_iff.1 q).1
    have e2 : (t :: r).flatMap Ac.stT ≠ [] := by rw [List.flatMap_cons]; intro q; exact Ac.stT_ne t (List.append_eq_nil_iff.1 q).1
    rw [List.flatMap_cons, join_app (wrt_ne s) e1, ih, join_wrt (h s (List.mem_cons_self ..))]
    show _ ++ 32 :: Ex.jn ((t :: r).flatMap Ac.stT) = Ex.jn ((s :: t :: r).flatMap Ac.stT)
    rw [List.flatMap_cons (x := s), Ex.jn_app (Ac.stT_ne s) e2]
theorem wrt_len (s : Ac.St) : (wrt s).length ≤ 6 := by
  unfold wrt
  split
  · simp
  · split <;> simp
theorem wrts_len : ∀ (b : List Ac.St), (b.flatMap wrt).length ≤ 6 * b.length
  | [] => Nat.zero_le _
  | s :: b => by
    rw [List.flatMap_cons, List.length_append, List.length_cons]
    have := wrt_len s
    have := wrts_len b
    omega
def FitP (ps : List (Ac.St × Value)) : Prop := ∀ p ∈ ps, Fitn p.1.x ∧ p.1.nm.length ≤ 1000000
theorem FitP.b {ps : List (Ac.St × Value)} (h : FitP ps) : FitAc ps := fun p hp => ⟨(h p hp).1.1, (h p hp).2⟩
theorem FitP.okn {ps : List (Ac.St × Value)} (h : FitP ps) : Ac.oknB (ps.map (·.1)) := fun s hs => by
  obtain ⟨p, hp, rfl⟩ := List.mem_map.1 hs
  exact fun n hn => ⟨((h p hp).1.1.2 n hn).2, (h p hp).1.2 n hn⟩
theorem vols_le : ∀ (ps : List (Ac.St × Value)), FitP ps → Ac.vols (ps.map (·.1)) ≤ 800005 * ps.length
  | [], _ => Nat.le_refl _
  | p :: ps, h => by
    have ih := vols_le ps (fun q hq => h q (List.mem_cons_of_mem _ hq))
    have h1 := (h p (List.mem_cons_self ..)).1.1.1
    have h2 : Ac.vol p.1 ≤ 800005 := by unfold Ac.vol; split <;> omega
    show Ac.vol p.1 + Ac.vols (ps.map (·.1)) ≤ 800005 * (ps.length + 1)
    omega
def PnP (ss : List Ac.St) (w : World) (e : Ending) (w' : World) : Prop :=
  ((Ac.okB ss ∧ e = .returned (.tuple #[.string ⟨(Ac.btx ss).toArray⟩, .int .i64 0])) ∨ (¬ Ac.okB ss ∧ e = .returned (.tuple #[.string ⟨#[]⟩, .int .i64 2]))) ∧ Below w.heap.size w w'
theorem atxV_app (a b : List (List UInt8)) : atxV (a ++ b) = atxV a ++ atxV b := by unfold atxV; rw [List.map_append]
theorem atxV_len (a : List (List UInt8)) : (atxV a).length = a.length := by unfold atxV; rw [List.length_map]
theorem ajoin_any (w : World) (B : Nat) (tx : List (List UInt8)) (A : Option Addr) (c : Nat) (h : w.ownsRow B 9 1 (.slice A tx.length c) tx.length (atxV tx)) (hl : (Lib.join tx [32]).length ≤ 70368744177664) (hc : tx.length ≤ 100000) :
    Calls Tryz.prog 43 #[.slice A tx.length c, .string ⟨#[32]⟩] w fun e w' => e = .returned (.string ⟨(Lib.join tx [32]).toArray⟩) ∧ Below w.heap.size w w' := by
  rcases h.2 with ⟨e1, e2⟩ | ⟨g, cap, cur, e1, _, hg, h4, h5, _⟩
  · injection e1 with e3 _ e4
    subst e3 e4
    rw [e2]
    obtain rfl : tx = [] := List.eq_nil_of_length_eq_zero e2
    exact (Tryz.strings_Join_none none 0 ⟨#[32]⟩ w).mono fun e w' ⟨h1, h2⟩ => ⟨h1, by rw [h2]; exact Below.refl _ _⟩
  · injection e1 with e3 _ e4
    subst e3 e4
    have hj : (tx.map (fun t => (⟨t.toArray⟩ : ByteArray))).map (·.data.toList) = tx := by
      rw [List.map_map]
      conv => rhs; rw [← List.map_id tx]
      exact List.map_congr_left (fun t _ => by simp)
    have hgl := heap_lt hg
    have := Tryz.strings_Join g 0 c (tx.map (fun t => ⟨t.toArray⟩)) ⟨#[32]⟩ w (by
      intro j x hx
      rw [List.getElem?_map, Option.map_eq_some_iff] at hx
      obtain ⟨t, ht, rfl⟩ := hx
      rw [Nat.zero_add]
      have hj : j < tx.length := (List.getElem?_eq_some_iff.1 ht).1
      exact own_cell h (by unfold atxV; rw [List.getElem?_map, ht]; rfl)) hgl (by rw [List.length_map]; unfold maxLen at *; omega) (by rw [List.length_map]; exact h4) (by rw [hj]; exact Nat.le_trans hl (by decide))
    rw [hj, List.length_map] at this
    exact this
set_option maxHeartbeats 8000000 in
set_option maxRecDepth 100000 in
theorem aprint_any (w : World) (T : Tx w) (A : Option Addr) (c : Nat) (ps : List (Ac.St × Value)) (hl : ps.length ≤ c) (hc : c ≤ maxLen) (h : StR w w.heap.size A ps) (hf : FitP ps) :
    Calls Tryz.prog 19 #[.agg #[.slice A ps.length c]] w (PnP (ps.map (·.1)) w) := by
  obtain ⟨W1, hW1⟩ : ∃ W1, W1 = w.alloc (.cells #[.slice A ps.length c] 29) := ⟨_, rfl⟩
  have hb1 : Below w.heap.size w W1 := by rw [hW1]; exact (Below.refl _ _).alloc (Nat.le_refl _) _
  have k1 : IsBlk W1 w.heap.size 29 #[.slice A ps.length c] := by rw [hW1]; exact IsBlk.new _ _ _
  have x0 : W1.cell? ⟨w.heap.size, 0, none⟩ = some (.slice A ps.length c) := k1.at_ 0
  have HCK := Lib.hid (acheck_any W1 (T.below hb1) A c ps hl hc (h.on hb1) hf.b)
  have HT := Lib.hid T
  have HST := Lib.hid h
  have HFP := Lib.hid hf
  have HK1 := Lib.hid k1
  have HB1 := Lib.hid hb1
  have HW1 := Lib.hid hW1
  have hlI : (ps.length : Int) ≤ (c : Int) := by omega
  obtain ⟨n, hn⟩ : ∃ n, n = ps.length := ⟨_, rfl⟩
  have HN := Lib.hid hn
  rw [← hn] at x0 HCK HW1 HK1 hlI ⊢
  rw [HW1.out] at x0
  clear hW1 hb1 k1 T hl hc h hf hn
  go_enter Tryz.func19, Tryz.ntmps19
  go_wp2_with fail
  rw [← HW1.out]
  refine HCK.out.mono ?_
  rintro e w2 ⟨hq, hb2⟩
  have B2 := Lib.hid (HB1.out.trans (hb2.mono HB1.out.size))
  have y0 : w2.cell? ⟨w.heap.size, 0, none⟩ = some (.slice A n c) := (HK1.out.below hb2 HK1.out.lt).at_ 0
  clear hb2 x0 HCK
  rcases hq with ⟨rfl, hok⟩ | ⟨rfl, hno⟩
  · have HOK := Lib.hid hok
    have hn5 : n ≤ 512 := by have := hok.1; rw [List.length_map, ← HN.out] at this; exact this
    have hn5I : (n : Int) ≤ 512 := by omega
    clear hok
    go_wp2
    go_loopw [4, 13] (fun lv iv wr => ∃ (v : Value) (k : Nat), lv = v ∧ iv = .int .i64 k ∧ k ≤ n ∧ Hid (Below w.heap.size w wr ∧ wr.ownsRow w.heap.size 9 1 v (((ps.take k).map (·.1)).flatMap wrt).length (atxV (((ps.take k).map (·.1)).flatMap wrt)))) (fun _ iv _ => n - (intOf iv).toNat)
    case atStart => exact ⟨_, 0, rfl, rfl, Nat.zero_le _, Lib.hid ⟨B2.out, World.ownsRow_nil _ _ _ _⟩⟩
    case round =>
      clear y0
      obtain ⟨v, k, hv, rfl, hk, HI⟩ := hrel
      have hv := hv.symm
      subst hv
      by_cases hlt : k < n
      · have hlt' : (k : Int) < (n : Int) := by omega
        have hkl : k < ps.length := by have := HN.out; omega
        obtain ⟨g, o, hA, hg, c0, c1, c2⟩ := (HST.out.below HI.out.1).cells k hkl
        subst hA
        obtain ⟨Ax, cx, hsx, hcx, hnd⟩ := HST.out.nds _ (List.getElem_mem hkl)
        have hfa := HFP.out _ (List.getElem_mem hkl)
        have hoks := HOK.out.2 _ (List.mem_map_of_mem (List.getElem_mem hkl))
        rw [hsx] at c2
        have HTK := Lib.hid (show ((ps.take (k + 1)).map (·.1)).flatMap wrt = ((ps.take k).map (·.1)).flatMap wrt ++ wrt ps[k].1 from by
          rw [List.take_succ_eq_append_getElem hkl, List.map_append, List.flatMap_append]; simp)
        have HWL := Lib.hid (wrt_len ps[k].1)
        have HML := Lib.hid (show (((ps.take k).map (·.1)).flatMap wrt).length ≤ 6 * k from by
          have := wrts_len ((ps.take k).map (·.1))
          rw [List.length_map, List.length_take] at this
          omega)
        obtain ⟨W3, hW3⟩ : ∃ W3, W3 = wr.alloc (.cells #[.int .u8 ps[k].1.k, .string ⟨ps[k].1.nm.toArray⟩, .slice Ax ps[k].1.x.length cx] 80) := ⟨_, rfl⟩
        have hb3 : Below wr.heap.size wr W3 := by rw [hW3]; exact (Below.refl _ _).alloc (Nat.le_refl _) _
        have k3 : IsBlk W3 wr.heap.size 80 #[.int .u8 ps[k].1.k, .string ⟨ps[k].1.nm.toArray⟩, .slice Ax ps[k].1.x.length cx] := by rw [hW3]; exact IsBlk.new _ _ _
        have B3 := Lib.hid (HI.out.1.trans (hb3.mono HI.out.1.size))
        have HWR := Lib.hid (awrit_any W3 (HT.out.below B3.out) ps[k].1 hoks Ax cx ((hnd.below B3.out).more B3.out.size) hcx hfa.1)
        have z0 : W3.cell? ⟨wr.heap.size, 0, none⟩ = some (.int .u8 ps[k].1.k) := k3.at_ 0
        have z1 : W3.cell? ⟨wr.heap.size, 1, none⟩ = some (.string ⟨ps[k].1.nm.toArray⟩) := k3.at_ 1
        have z2 : W3.cell? ⟨wr.heap.size, 2, none⟩ = some (.slice Ax ps[k].1.x.length cx) := k3.at_ 2
        have HO3 := Lib.hid (own_below HI.out.2 hb3)
        have HW3 := Lib.hid hW3
        rw [hW3] at z0 z1 z2
        clear hsx hcx hnd hfa hoks hW3 hb3 k3
        generalize ps[k] = a at *
        obtain ⟨⟨kk, nm, xs⟩, av⟩ := a
        simp only at c0 c1 c2 HWR HW3 z0 z1 z2 HTK HWL
        generalize (⟨nm.toArray⟩ : ByteArray) = N at *
        generalize wrt ⟨kk, nm, xs⟩ = ws at *
        obtain ⟨V, hV⟩ : ∃ V, V = ((ps.take k).map (·.1)).flatMap wrt := ⟨_, rfl⟩
        rw [← hV] at HTK HML HO3
        obtain ⟨m, hm⟩ : ∃ m, m = V.length := ⟨_, rfl⟩
        rw [← hm] at HML HO3
        obtain ⟨Av, cv, hv, hmc, hcm, -⟩ := own_sliced HO3.out
        subst hv
        have HM := Lib.hid hm
        have hmI : m ≤ 4000 := by have := HML.out; omega
        clear hV hm hlt HI HML
        go_wp2_with fail
        rw [← HW3.out]
        refine HWR.out.mono ?_
        rintro e w4 ⟨g4, rfl, hk4, hg4, hb4⟩
        have B4 := Lib.hid (B3.out.trans (hb4.mono B3.out.size))
        have HO4 := Lib.hid (own_below HO3.out hb4)
        have hwl : w.heap.size ≤ w4.heap.size := B4.out.size
        have hg4l : g4 < w4.heap.size := hk4.lt
        obtain ⟨i0, hi_, hz0, hz1, hz2⟩ := info_parts infoStr
        obtain ⟨q, hq⟩ : ∃ q, q = ws.length := ⟨_, rfl⟩
        have hq6 : q ≤ 6 := by have := HWL.out; omega
        have HQ := Lib.hid hq
        rw [← hq]
        clear hb4 c0 c1 c2 z0 z1 z2 hg4 hq
        go_wp2_with (at_builtin; go_must (refine wpList_append_own _ rfl _ _ _ rfl w.heap.size 9 i0 _ 1 16 Tryz.underlying36 hi_ hz0 hz1 hz2 rfl (by omega) (.slice Av m cv) m (atxV V) (by rfl) (by exact HO4.out) _ q _ (atxV ws) (by rfl) (by rw [atxV_len, HQ.out]; omega) (by intro j u hu; exact World.news_of_block hk4 j u (by simpa using hu)) (by intro u hu; obtain ⟨t, _, rfl⟩ := List.mem_map.1 hu; rfl) (by unfold maxLen; omega) (by first | omega | (simp; omega)) (by first | omega | (simp; omega)) ?_); go_must (intro v9 w9 hown9 hgr9 _; have H9 := Lib.hid (And.intro (show Below w.heap.size w w9 from Below.grown B4.out hgr9 B4.out.size (fun k hk => (HO4.out.lt k hk).1)) (show w9.ownsRow w.heap.size 9 1 v9 (m + q) (atxV V ++ atxV ws) from hown9)); clear hown9 hgr9))
        go_roundw
        case rel =>
          refine ⟨_, k + 1, rfl, by go_num, by omega, Lib.hid ⟨H9.out.1, ?_⟩⟩
          rw [HTK.out, atxV_app, List.length_append, ← HM.out, ← HQ.out]
          exact H9.out.2
        case measure => simp [intOf]; omega
      · obtain rfl : k = n := by omega
        have hlt' : ¬ ((k : Nat) : Int) < (k : Int) := by omega
        have HV := Lib.hid (show ((ps.take k).map (·.1)).flatMap wrt = (ps.map (·.1)).flatMap wrt from by rw [List.take_of_length_le (by rw [← HN.out]; exact Nat.le_refl _)])
        have HOW := Lib.hid HI.out.2
        have BB := Lib.hid HI.out.1
        rw [HV.out] at HOW
        obtain ⟨Av, cv, hv, _, _, -⟩ := own_sliced HOW.out
        subst hv
        have HJ := Lib.hid (ajoin_any wr w.heap.size _ Av cv HOW.out (by
          rw [join_all _ HOK.out.2]
          have h1 := Ac.btx_len HOK.out HFP.out.okn
          have h2 := vols_le ps HFP.out
          have := HN.out
          omega) (by have := wrts_len (ps.map (·.1)); rw [List.length_map, ← HN.out] at this; omega))
        rw [join_all _ HOK.out.2] at HJ
        generalize ((ps.map (·.1)).flatMap wrt).length = m at *
        clear HI HOW hlt hk
        go_wp2_with fail
        refine HJ.out.mono ?_
        rintro e w5 ⟨rfl, hb5⟩
        have B5 := Lib.hid (BB.out.trans (hb5.mono BB.out.size))
        clear hb5
        go_wp2
        refine bodyPost_ret (v := .tuple #[.string ⟨(Ac.btx (ps.map (·.1))).toArray⟩, .int .i64 0]) (by simp [results, Tryz.results19, go_sem]) rfl ?_
        exact ⟨Or.inl ⟨HOK.out, rfl⟩, B5.out⟩
  · have HNO := Lib.hid hno
    clear hno y0
    go_wp2
    refine bodyPost_ret (v := .tuple #[.string ⟨#[]⟩, .int .i64 2]) (by simp [results, Tryz.results19, go_sem]) rfl ?_
    exact ⟨Or.inr ⟨HNO.out, rfl⟩, B2.out⟩
end Go.Proofs.YtmmdigeciphglaaGreatDoor
