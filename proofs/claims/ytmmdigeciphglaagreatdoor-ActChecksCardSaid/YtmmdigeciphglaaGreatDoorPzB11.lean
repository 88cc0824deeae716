/- Facts and walks for the statement. -/
import Derived.Test.YtmmdigeciphglaaGreatDoorPzB10
import Derived.Test.YtmmdigeciphglaaGreatDoorPzB02
namespace Go.Proofs.YtmmdigeciphglaaGreatDoor
open Go.RowKit Ex
def RdE (B r : Nat) (w : World) (K : List (Fr × Nat)) (c : Option E) (b : Bool) (nv lv wv : Value) : Prop := RdM B r w K (flats (all K c) 0) (loo (all K c) 0) b nv lv wv
def volE (K : List (Fr × Nat)) (c : Option E) : Nat := szs (all K c) + K.length
theorem RdE.len {B r : Nat} {w : World} {K : List (Fr × Nat)} {c : Option E} {b : Bool} {nv lv wv : Value} (_ : RdE B r w K c b nv lv wv) {D : Nat} (hv : volE K c ≤ D) : (flats (all K c) 0).length ≤ D ∧ (loo (all K c) 0).length ≤ D ∧ K.length ≤ D ∧ ∀ p ∈ loo (all K c) 0, p.2 ≤ D := by
  unfold volE at hv
  have h1 := len_szs (all K c)
  refine ⟨by rw [flats_len]; omega, by rw [loo_len]; omega, by omega, fun p hp => ?_⟩
  have := loo_deep _ _ p hp
  omega
theorem RdM.top {B r : Nat} {w : World} {x : Fr × Nat} {K : List (Fr × Nat)} {ns : List Nd} {ls : List (Nat × Nat)} {b : Bool} {nv lv wv : Value} (h : RdM B r w (x :: K) ns ls b nv lv wv) :
    ∃ g c, wv = .slice (some ⟨g, 0, none⟩) (K.length + 1) c ∧ K.length + 1 ≤ c ∧ w.cell? ⟨g, K.length * 2, none⟩ = some (.int .u8 (frOp x.1 : Nat)) ∧ w.cell? ⟨g, K.length * 2 + 1, none⟩ = some (frW x) ∧ g < w.heap.size := by
  have hw := h.wown
  rw [List.length_cons] at hw
  obtain ⟨A, c, rfl, h1, h2, h3⟩ := own_sliced hw
  obtain ⟨g, rfl, _, hg⟩ := h3 (by omega)
  rw [wts_cons] at hw
  have hl : (wts K).length = K.length * 2 := by unfold wts; rw [fl_len (k := 2) (fun _ => rfl), List.length_reverse]
  refine ⟨g, c, rfl, h1, own_cell hw ?_, own_cell hw ?_, hg⟩
  · rw [List.getElem?_append_right (by omega), hl, Nat.sub_self]; rfl
  · rw [List.getElem?_append_right (by omega), hl, show K.length * 2 + 1 - K.length * 2 = 1 by omega]; rfl
theorem RdM.pop {B r : Nat} {w : World} {x : Fr × Nat} {K : List (Fr × Nat)} {ns : List Nd} {ls : List (Nat × Nat)} {b : Bool} {nv lv : Value} {A : Option Addr} {c : Nat} (h : RdM B r w (x :: K) ns ls b nv lv (.slice A (K.length + 1) c)) :
    RdM B r (w.setCell ⟨r, 2, none⟩ (.slice A K.length c)) K ns ls b nv lv (.slice A K.length c) := by
  have hk : Kt [254] w (w.setCell ⟨r, 2, none⟩ (.slice A K.length c)) := Kt.set (p := ⟨r, 2, none⟩) h.row.blk (by simp) _
  refine ⟨⟨h.row.base, h.row.blk.set 2 _, rfl, rfl, hk.own h.row.nown (by decide), hk.own h.row.lown (by decide)⟩, hk.own ?_ (by decide), fun y hy => (h.ok y (List.mem_cons_of_mem _ hy)).kt hk (by decide)⟩
  have q := own_short (m := K.length) h.wown (Nat.le_succ _)
  rw [wts_cons, List.take_left' (by unfold wts; rw [fl_len (k := 2) (fun _ => rfl), List.length_reverse])] at q
  exact q
theorem fr_cmb {f : Fr} (hf : okf f) {n : Nat} {K : List (Fr × Nat)} {g : Nat} {x : E} (hw : frW (f, g) = .slice none 0 0) : ∃ A l y, Cmb (frOp f) l y ∧ all ((f, g) :: K) (some x) = A ++ l ∧ all K (some y) = A ++ [y] ∧ lvl (frOp f) ≤ 10 ∧ frOp f ≠ 0 ∧ Ex.settle n ((f, g) :: K |>.map (·.1)) x = if lvl (frOp f) < n then (f :: K.map (·.1), x) else Ex.settle n (K.map (·.1)) y := by
  cases f with
  | un op =>
    refine ⟨trs (K.map (·.1)), [x], .un op x, .un op x hf, rfl, rfl, ?_, ?_, rfl⟩
    · show lvl op ≤ 10; rw [lvl_un hf]; omega
    · show op ≠ 0; rcases hf with rfl | rfl <;> decide
  | bin op a =>
    refine ⟨trs (K.map (·.1)), [a, x], .bin op a x, .bin op a x hf, ?_, rfl, ?_, ?_, rfl⟩
    · show (trs (K.map (·.1)) ++ [a]) ++ [x] = _; simp
    · show lvl op ≤ 10; have := lvl_bin hf; omega
    · show op ≠ 0; have := hf.1; omega
  | par => simp [frW] at hw
  | if0 => simp [frW] at hw
  | if1 a => simp [frW] at hw
  | if2 a b => simp [frW] at hw
structure SeI (B r : Nat) (w : World) (b : Bool) (n D : Nat) (S : List Fr × E) (wr : World) (K : List (Fr × Nat)) (x : E) (nv lv wv : Value) : Prop where
  rd : RdE B r wr K (some x) b nv lv wv
  below : Below B w wr
  kt : Kt LRow w wr
  eq : Ex.settle n (K.map (·.1)) x = S
  ok : ∀ f ∈ K, okf f.1
  vol : volE K (some x) ≤ D
def SeP (B r : Nat) (w : World) (b : Bool) (D : Nat) (S : List Fr × E) (w' : World) : Prop := ∃ K' nv lv wv, K'.map (·.1) = S.1 ∧ RdE B r w' K' (some S.2) b nv lv wv ∧ Below B w w' ∧ volE K' (some S.2) ≤ D ∧ Kt LRow w w'
theorem SeI.done {B r : Nat} {w : World} {b : Bool} {n D : Nat} {S : List Fr × E} {wr : World} {K : List (Fr × Nat)} {x : E} {nv lv wv : Value} (h : SeI B r w b n D S wr K x nv lv wv) (hs : Ex.settle n (K.map (·.1)) x = (K.map (·.1), x)) : SeP B r w b D S wr := by
  have e := h.eq
  rw [hs] at e
  subst e
  exact ⟨K, nv, lv, wv, rfl, h.rd, h.below, h.vol, h.kt⟩
theorem SeP.below {B r : Nat} {w : World} {b : Bool} {D : Nat} {S : List Fr × E} {w' w'' : World} (h : SeP B r w b D S w') (hb : Below w'.heap.size w' w'') : SeP B r w b D S w'' := by
  obtain ⟨K', nv, lv, wv, h1, h2, h3, h4, h5⟩ := h
  exact ⟨K', nv, lv, wv, h1, RdM.below h2 hb, h3.trans (hb.mono (by have := h2.row.base; have := h2.row.blk.lt; omega)), h4, h5.on hb⟩
theorem red_call {B r : Nat} {W2 : World} (HT : TxO B W2) {K : List (Fr × Nat)} {A l : List E} {y : E} {op : Nat} (hc : Cmb op l y) {b : Bool} {nv lv wv : Value} (h : RdM B r W2 K (flats (A ++ l) 0) (loo (A ++ l) 0) b nv lv wv) {D : Nat} (hD : D ≤ 900000) (hv : szs (A ++ l) ≤ D) :
    (∀ w0, Below W2.heap.size W2 w0 → Calls Tryz.prog 142 #[.pointer (some ⟨r, 0, none⟩), .int .u8 (op : Nat)] w0 fun e w' => ∃ A' c', e = .returned (.slice A' (fP op) c') ∧ (fP op ≤ c' ∧ Parts w' w'.heap.size A' c' ((loo (A ++ l) 0).drop ((loo (A ++ l) 0).length - fP op))) ∧ Below w0.heap.size w0 w') ∧
    (∀ w3 A3 c3, (fP op ≤ c3 ∧ Parts w3 w3.heap.size A3 c3 ((loo (A ++ l) 0).drop ((loo (A ++ l) 0).length - fP op))) → Below W2.heap.size W2 w3 → Calls Tryz.prog 141 #[.pointer (some ⟨r, 0, none⟩), .agg #[.int .u8 (op : Int), .int .i64 0, .string ⟨#[]⟩, .int .i64 0, .int .i64 0, .int .i64 0], .slice A3 (fP op) c3] w3 fun e w' => e = .returned (.tuple #[]) ∧ ∃ nv' lv', RdM B r w' K (flats (A ++ [y]) 0) (loo (A ++ [y]) 0) b nv' lv' wv ∧ Kt LRow w3 w' ∧ Below B w3 w') := by
  have hlen : (loo (A ++ l) 0).length ≤ D := by rw [loo_len]; have := len_szs (A ++ l); omega
  have hle : fP op ≤ (loo (A ++ l) 0).length := by rw [loo_len, List.length_append, hc.parts.1]; omega
  refine ⟨fun w0 hb => last_any B r _ _ w0 nv lv _ _ (h.row.below hb) (HT w0 (hb.mono (Nat.le_trans h.row.base (Nat.le_of_lt h.row.blk.lt)))).fm op hc.parts.2.1 hle (by omega), fun w3 A3 c3 hp hb => ?_⟩
  have hdl : ((loo (A ++ l) 0).drop ((loo (A ++ l) 0).length - fP op)).length = fP op := by rw [List.length_drop]; omega
  have hcb := comb hc A
  have q := put_any_ B r _ _ w3 nv lv _ _ (h.row.below hb) (Or.inl rfl) ⟨(op : Int), 0, [], 0, 0, 0⟩ A3 c3 _ hp.2 (by rw [hdl]; exact hc.parts.2.2) (by rw [hdl]; exact hle) (by rw [flats_len]; omega) (by omega) (fun p hp => by
    have := loo_deep _ _ p (List.mem_of_mem_drop hp); omega)
  rw [hdl, ← hcb.1, ← hcb.2] at q
  refine q.mono ?_
  rintro e w4 ⟨rfl, nv4, lv4, h4, hk, hb4⟩
  obtain ⟨nv5, lv5, h5⟩ := (h.below hb).put ⟨nv4, lv4, h4⟩ hk
  exact ⟨rfl, nv5, lv5, h5, hk, hb4⟩
set_option maxHeartbeats 4000000 in
set_option maxRecDepth 100000 in
theorem settle_any (B r : Nat) (w : World) (HT : TxO B w) (K : List (Fr × Nat)) (x : E) (b : Bool) (nv lv wv : Value) (h : RdE B r w K (some x) b nv lv wv) (n D : Nat) (hD : D ≤ 900000) (hv : volE K (some x) ≤ D) (hok : ∀ f ∈ K, okf f.1) :
    Calls Tryz.prog 212 #[.pointer (some ⟨r, 0, none⟩), .int .u8 (n : Nat)] w fun e w' => e = .returned (.tuple #[]) ∧ SeP B r w b D (Ex.settle n (K.map (·.1)) x) w' := by
  obtain ⟨S, hS⟩ : ∃ S, S = Ex.settle n (K.map (·.1)) x := ⟨_, rfl⟩
  rw [← hS]
  have H0 := Lib.hid (show SeI B r w b n D S w K x nv lv wv from ⟨h, Below.refl _ _, Kt.refl _ _, hS.symm, hok, hv⟩)
  have HHT := Lib.hid HT
  obtain ⟨Aw, cw, hwv, hw1, hw2, _⟩ := own_sliced h.wown
  subst hwv
  have c2 := h.cells.2.2.1
  have hkl := (h.len hv).2.2.1
  have s1 : IntKind.i64.wrap ((K.length : Int) - 1) = (K.length : Int) - 1 := IntWalk.i64_in _ (by omega)
  clear h hok hS hv hw1 hw2
  go_enter Tryz.func212, Tryz.ntmps212
  go_wp2
  go_loopw [4] (fun iv wr => ∃ (z : Int) (K' : List (Fr × Nat)) (x' : E) (nv lv wv : Value), iv = .int .i64 z ∧ z = (K'.length : Int) - 1 ∧ Hid (SeI B r w b n D S wr K' x' nv lv wv)) (fun iv _ => (intOf iv + 1).toNat)
  case atStart => exact ⟨_, K, x, _, _, _, rfl, rfl, H0⟩
  case round =>
    clear H0 c2 s1 hkl
    obtain ⟨z, K1, x1, nv1, lv1, wv1, rfl, hz, HI⟩ := hrel
    cases K1 with
    | nil =>
      have HF := Lib.hid (HI.out.done rfl)
      have h0 : ¬ (z ≥ 0) := by rw [hz]; simp
      clear hz
      go_wp2
      go_end0
      exact ⟨rfl, HF.out⟩
    | cons p K1 =>
      obtain ⟨f, g⟩ := p
      obtain ⟨gw, cw1, hwv, hcw, q0, q1, hgw⟩ := RdM.top HI.out.rd
      subst hwv
      obtain rfl : z = (K1.length : Int) := by rw [hz, List.length_cons]; omega
      have hkl : K1.length + 1 ≤ D := by have := HI.out.vol; unfold volE at this; rw [List.length_cons] at this; omega
      have c2 := HI.out.rd.cells.2.2.1
      have hrl : r < wr.heap.size := HI.out.rd.row.blk.lt
      have i0 : (K1.length : Int) ≥ 0 := by omega
      have i1 : (K1.length : Int) < ((K1.length + 1 : Nat) : Int) := by omega
      have i2 : ((K1.length + 1 : Nat) : Int) ≤ (cw1 : Int) := by omega
      have hokf := HI.out.ok _ List.mem_cons_self
      obtain ⟨k1, hk1⟩ : ∃ k1, k1 = K1.length := ⟨_, rfl⟩
      rw [← hk1] at q0 q1 c2 i0 i1 i2 hkl ⊢
      have HK1 := Lib.hid hk1
      by_cases hw : frW (f, g) = .slice none 0 0
      · obtain ⟨A, l, y, hcm, hal, hal2, hlv, hne, hse⟩ := fr_cmb hokf (n := n) (K := K1) (g := g) (x := x1) hw
        have hop := hcm.parts.2.1
        have HE := Lib.hid (HI.out.eq.symm.trans hse)
        have HV := Lib.hid HI.out.vol
        have hrd := HI.out.rd
        unfold RdE at hrd
        rw [hal] at hrd
        rw [hw] at q1
        have HRD := Lib.hid hrd
        have HAL := Lib.hid (And.intro hal hal2)
        have t1 := ((HHT.out.on HI.out.below).here.fm (frOp f) hop).2.1
        rw [show fL (frOp f) = lvl (frOp f) from if_neg hne] at t1
        have hg0 : 1 < wr.heap.size := block_lt t1
        have HCM := Lib.hid hcm
        obtain ⟨op, hopf⟩ : ∃ op, op = frOp f := ⟨_, rfl⟩
        have HOPF := Lib.hid hopf
        simp only [← hopf] at q0 t1 hop hlv HE HCM
        have hop' : (op : Int) < 23 := by omega
        have z0 : ¬ ((0 : Int) > 0) := by omega
        by_cases hlt : lvl op < n
        · have hlt' : (lvl op : Int) < (n : Int) := by omega
          have hSe := HE.out
          rw [if_pos hlt] at hSe
          have HF := Lib.hid (show SeP B r w b D S wr from HI.out.done (by rw [HI.out.eq, hSe]; rfl))
          clear hw hk1 hz hcw hse hal hal2 hrd hlt hSe hcm hopf
          go_wp2
          refine bodyPost_ret (results_none (fn := Tryz.f212) rfl _ _ _) rfl ?_
          exact ⟨rfl, HF.out.below ((Below.refl _ _).alloc (Nat.le_refl _) _)⟩
        · have hlt' : ¬ ((lvl op : Int) < (n : Int)) := by omega
          have hSe := HE.out
          rw [if_neg hlt] at hSe
          have HSE := Lib.hid hSe
          have f2 : wr.frozen? ⟨r, 2, none⟩ = false := hrd.row.blk.fz 2
          clear hw hk1 hz hse hal hal2 hlt hSe hcm hopf
          obtain ⟨W2, hW2⟩ : ∃ W2, W2 = (wr.setCell ⟨r, 2, none⟩ (.slice (some ⟨gw, 0, none⟩) k1 cw1)).alloc (.cells #[.int .u8 (op : Int), .slice none 0 0] 294) := ⟨_, rfl⟩
          have hsz : (wr.setCell ⟨r, 2, none⟩ (.slice (some ⟨gw, 0, none⟩) k1 cw1)).heap.size = wr.heap.size := by simp [World.setCell]
          have hb2 : Below (wr.setCell ⟨r, 2, none⟩ (.slice (some ⟨gw, 0, none⟩) k1 cw1)).heap.size (wr.setCell ⟨r, 2, none⟩ (.slice (some ⟨gw, 0, none⟩) k1 cw1)) W2 := by rw [hW2]; exact (Below.refl _ _).alloc (Nat.le_refl _) _
          have hB2 : Below B wr W2 := ((Below.refl B wr).setCell (p := ⟨r, 2, none⟩) HRD.out.row.base _).trans (hb2.mono (by rw [hsz]; have := HRD.out.row.base; omega))
          have hK2 : Kt LRow wr W2 := (Kt.set (p := ⟨r, 2, none⟩) HRD.out.row.blk (by decide) _).trans (Kt.of_below hb2)
          have hbx : IsBlk W2 wr.heap.size 294 #[.int .u8 (op : Int), .slice none 0 0] := by rw [hW2, ← hsz]; exact IsBlk.new _ _ _
          have hr2 : RdM B r W2 K1 (flats (A ++ l) 0) (loo (A ++ l) 0) b nv1 lv1 (.slice (some ⟨gw, 0, none⟩) k1 cw1) := by
            have q := HRD.out
            rw [← HK1.out] at q
            have q2 := RdM.pop (by rw [← HK1.out]; exact q)
            rw [← HK1.out] at q2
            exact q2.below hb2
          have hvol : szs (A ++ l) + K1.length + 1 ≤ D := by have h1 := HV.out; unfold volE at h1; rw [HAL.out.1, List.length_cons] at h1; omega
          have HRC := red_call ((HHT.out.on HI.out.below).on hB2) HCM.out hr2 hD (by omega : szs (A ++ l) ≤ D)
          have HLA := Lib.hid HRC.1
          have x0 : W2.cell? ⟨wr.heap.size, 0, none⟩ = some (.int .u8 (op : Int)) := hbx.at_ 0
          have HBX := Lib.hid hbx
          have HL3 := Lib.hid (fun w3 A3 c3 hp3 (hb3 : Below W2.heap.size W2 w3) => And.intro (HRC.2 w3 A3 c3 hp3 hb3) (And.intro hb3 (show w3.cell? ⟨wr.heap.size, 0, none⟩ = some (.int .u8 (op : Int)) from (hbx.below hb3 hbx.lt).at_ 0)))
          have HL4 := Lib.hid (fun w3 w4 nv4 lv4 (hb3 : Below W2.heap.size W2 w3) (hr4 : RdM B r w4 K1 (flats (A ++ [y]) 0) (loo (A ++ [y]) 0) b nv4 lv4 (.slice (some ⟨gw, 0, none⟩) k1 cw1)) (hk4 : Kt LRow w3 w4) (hb4 : Below B w3 w4) => (show SeI B r w b n D S w4 K1 y nv4 lv4 (.slice (some ⟨gw, 0, none⟩) k1 cw1) ∧ w4.cell? ⟨wr.heap.size, 0, none⟩ = some (.int .u8 (op : Int)) from by
            refine ⟨⟨?_, (HI.out.below.trans (hB2.trans (hb3.mono (Nat.le_trans hr2.row.base (Nat.le_of_lt hr2.row.blk.lt))))).trans hb4, (HI.out.kt.trans (hK2.on hb3)).trans hk4, HSE.out.symm, fun f hf => HI.out.ok f (List.mem_cons_of_mem _ hf), ?_⟩, (hk4.blk (hbx.below hb3 hbx.lt) (by decide)).at_ 0⟩
            · unfold RdE; rw [HAL.out.2]; exact hr4
            · unfold volE
              rw [HAL.out.2]
              have h1 : szs (A ++ [y]) = szs (A ++ l) + 1 := by
                have e1 := congrArg List.length (comb HCM.out A).1
                rw [flats_len, List.length_append, flats_len] at e1
                exact e1
              omega))
          have HW2 := Lib.hid hW2
          clear hW2 hsz hb2 hB2 hbx hr2 HRC hvol
          go_wp2_with fail
          rw [← HW2.out]
          go_region_held3 (fun w' => w'.cell? ⟨wr.heap.size, 0, none⟩ = some (.int .u8 (op : Int))) (first | exact x0 | exact HQ3.out.2.2 | exact HQ4.out.2) (first | (go_at_call 142; refine (HLA.out _ (by first | exact below_drewN (Below.refl _ _) _ | exact Below.refl _ _)).mono ?_; rintro e w3 ⟨A3, c3, rfl, hp3, hb3⟩; have HQ3 := Lib.hid (HL3.out w3 A3 c3 hp3 (by first | exact (below_drewN (Below.refl _ _) _).trans hb3 | exact hb3)); clear hp3 hb3) | (go_at_call 141; refine (HQ3.out.1).mono ?_; rintro e w4 ⟨rfl, nv4, lv4, hr4, hk4, hb4⟩; have HQ4 := Lib.hid (HL4.out w3 w4 nv4 lv4 HQ3.out.2.1 hr4 hk4 hb4); clear hr4 hk4 hb4))
          have s3 : IntKind.i64.wrap ((k1 : Int) - 1) = (k1 : Int) - 1 := IntWalk.i64_in _ (by omega)
          have HFI := Lib.hid HQ4.out.1
          clear HQ3 HQ4 HLA HL3 HL4 x0 HBX q0 q1 c2 t1 f2
          go_wp2
          go_roundw
          case rel => exact ⟨_, K1, y, _, _, _, rfl, by rw [HK1.out], HFI⟩
          case measure => simp [intOf]
      · obtain ⟨Af, nf, cf, hfw, hfn⟩ : ∃ A n c, frW (f, g) = .slice A n c ∧ 0 < n := by
          cases f with
          | un op => exact absurd rfl hw
          | bin op a => exact absurd rfl hw
          | par => exact ⟨_, _, _, rfl, by decide⟩
          | if0 => exact ⟨_, _, _, rfl, by decide⟩
          | if1 a => exact ⟨_, _, _, rfl, by decide⟩
          | if2 a b => exact ⟨_, _, _, rfl, by decide⟩
        have HF := Lib.hid (show SeP B r w b D S wr from HI.out.done (by
          cases f with
          | un op => exact absurd rfl hw
          | bin op a => exact absurd rfl hw
          | par => rfl
          | if0 => rfl
          | if1 a => rfl
          | if2 a b => rfl))
        rw [hfw] at q1
        have hfn' : (nf : Int) > 0 := by omega
        clear hw hfw hk1 hz hcw
        go_wp2
        refine bodyPost_ret (results_none (fn := Tryz.f212) rfl _ _ _) rfl ?_
        exact ⟨rfl, HF.out.below ((Below.refl _ _).alloc (Nat.le_refl _) _)⟩
end Go.Proofs.YtmmdigeciphglaaGreatDoor
namespace Go.Proofs.YtmmdigeciphglaaGreatDoor
open Go.RowKit Ex
theorem ops_one : ∀ a b : Fin 22, 7 ≤ a.1 → 7 ≤ b.1 → opS a.1 = opS b.1 → a = b := by decide
theorem infx_at {s : List UInt8} {k : Nat} (h : 7 ≤ k ∧ k ≤ 21) (hs : opS k = s) : infx s = k := by
  have hne : infx s ≠ 0 := fun h0 => infx_none h0 k h.1 h.2 hs
  obtain ⟨h1, h2, h3⟩ := infx_of hne
  have := ops_one ⟨infx s, by omega⟩ ⟨k, by omega⟩ h1 h.1 (h3.trans hs.symm)
  exact congrArg Fin.val this
theorem infx_nope {s : List UInt8} (h : ∀ o, 7 ≤ o → o < 22 → opS o ≠ s) : infx s = 0 := by
  by_cases h0 : infx s = 0
  · exact h0
  · obtain ⟨h1, h2, h3⟩ := infx_of h0
    exact absurd h3 (h _ h1 (by omega))
theorem fW_op {k : Nat} (h : 7 ≤ k ∧ k ≤ 21) : fW k = opS k := by
  unfold fW; rw [if_neg (by omega), if_neg (by omega), if_neg (by omega)]
set_option maxHeartbeats 2000000 in
set_option maxRecDepth 100000 in
theorem infix_any (s : ByteArray) (w : World) (T : Fm w) :
    Calls Tryz.prog 211 #[.string s] w fun e w' => e = .returned (.int .u8 (infx s.data.toList : Nat)) ∧ w = w' := by
  obtain ⟨R, hR⟩ : ∃ R, R = infx s.data.toList := ⟨_, rfl⟩
  rw [← hR]
  have HR := Lib.hid hR
  have HT := Lib.hid T
  clear hR T
  go_enter Tryz.func211, Tryz.ntmps211
  go_wp2
  go_loopw [3] (fun iv wr => ∃ k : Nat, iv = .int .u8 k ∧ 7 ≤ k ∧ k ≤ 22 ∧ w = wr ∧ Hid (∀ o, 7 ≤ o → o < k → opS o ≠ s.data.toList)) (fun iv _ => 22 - (intOf iv).toNat)
  case atStart => exact ⟨7, rfl, Nat.le_refl _, by omega, rfl, Lib.hid (fun o h1 h2 => by omega)⟩
  case round =>
    obtain ⟨k, rfl, hk7, hk, rfl, HN⟩ := hrel
    by_cases hlt : k < 22
    · have hlt' : (k : Int) ≤ 21 := by omega
      have hk23 : (k : Int) < 23 := by omega
      have t0 := (HT.out k (by omega)).1
      rw [fW_op ⟨hk7, by omega⟩] at t0
      obtain ⟨X, hX⟩ : ∃ X : ByteArray, X = ⟨(opS k).toArray⟩ := ⟨_, rfl⟩
      rw [← hX] at t0
      have s1 : IntKind.u8.wrap ((k : Int) + 1) = (k : Int) + 1 := IntWalk.u8_in _ (by omega)
      have HK := Lib.hid (And.intro hk7 hlt)
      by_cases he : X = s
      · have HE := Lib.hid (show R = k from by rw [HR.out]; exact infx_at ⟨hk7, by omega⟩ (by rw [← he, hX]))
        subst he
        clear hX hlt hk hk7
        go_wp2
        go_ret
        exact ⟨by rw [HE.out]; rfl, rfl⟩
      · have hne : ¬ X.toList = s.toList := fun e => he (ba_eq (by rw [← Lib.toList_data, e, Lib.toList_data]))
        have hne2 : (X.toList == s.toList) = false := beq_eq_false_iff_ne.2 hne
        have HN2 := Lib.hid (show ∀ o, 7 ≤ o → o < k + 1 → opS o ≠ s.data.toList from fun o h1 h2 => by
          rcases Nat.lt_or_ge o k with h | h
          · exact HN.out o h1 h
          · have : o = k := by omega
            subst this
            intro e
            exact he (by rw [hX]; apply ba_eq; simp [e]))
        clear hX hlt hk hk7 he
        go_wp2
        go_roundw
        case rel => exact ⟨k + 1, by go_num, by have := HK.out; omega, by have := HK.out; omega, trivial, HN2⟩
        case measure => have := HK.out; simp [intOf]; omega
    · obtain rfl : k = 22 := by omega
      have HE := Lib.hid (show R = 0 from by rw [HR.out]; exact infx_nope HN.out)
      clear hlt hk hk7
      go_wp2
      go_ret
      exact ⟨by rw [HE.out]; rfl, rfl⟩
set_option maxHeartbeats 2000000 in
set_option maxRecDepth 100000 in
theorem known_any (w : World) (T : Sg w) (K : Int) (X : ByteArray) (p : Int) (hX : X.size ≤ maxLen) :
    Calls Tryz.prog 175 #[.agg #[.int .u8 K, .string X, .int .i64 p]] w fun e w' => ∃ p', e = .returned (.agg #[.int .u8 (kt (K, X.data.toList)).1, .string ⟨(kt (K, X.data.toList)).2.toArray⟩, .int .i64 p']) ∧ Below w.heap.size w w' := by
  obtain ⟨W1, hW1⟩ : ∃ W1, W1 = (w.alloc (.cells #[.int .u8 K, .string X, .int .i64 p] 143)).alloc (.cells #[.int .u8 0, .string ⟨#[]⟩, .int .i64 0] 143) := ⟨_, rfl⟩
  have hb1 : Below w.heap.size w W1 := by rw [hW1]; exact ((Below.refl _ _).alloc (Nat.le_refl _) _).alloc (by simp) _
  have hk1 : IsBlk W1 w.heap.size 143 #[.int .u8 K, .string X, .int .i64 p] := by rw [hW1]; exact (IsBlk.new w _ _).below ((Below.refl _ _).alloc (Nat.le_refl _) _) (by simp)
  have hz : (w.alloc (.cells #[.int .u8 K, .string X, .int .i64 p] 143)).heap.size = w.heap.size + 1 := by simp
  have hk2 : IsBlk W1 (w.heap.size + 1) 143 #[.int .u8 0, .string ⟨#[]⟩, .int .i64 0] := by rw [hW1, ← hz]; exact IsBlk.new _ _ _
  have x0 : W1.cell? ⟨w.heap.size, 0, none⟩ = some (.int .u8 K) := hk1.at_ 0
  have x1 : W1.cell? ⟨w.heap.size, 1, none⟩ = some (.string X) := hk1.at_ 1
  have HIS := Lib.hid (fun w0 (hb : Below W1.heap.size W1 w0) => is_any X w0 hX ((T.below hb1 (Nat.le_refl _)).below hb (Nat.le_refl _)))
  have HX3 := Lib.hid (fun w3 w0 (hb : Below W1.heap.size W1 w0) (hb3 : Below w0.heap.size w0 w3) => (show Below W1.heap.size W1 w3 ∧ w3.cell? ⟨w.heap.size, 0, none⟩ = some (.int .u8 K) ∧ w3.cell? ⟨w.heap.size, 1, none⟩ = some (.string X) from by
    have b := hb.trans (hb3.mono hb.size)
    exact ⟨b, (hk1.below b hk1.lt).at_ 0, (hk1.below b hk1.lt).at_ 1⟩))
  have HB1 := Lib.hid hb1
  have HK1 := Lib.hid hk1
  have HK2 := Lib.hid hk2
  have HW1 := Lib.hid hW1
  obtain ⟨z, hz2⟩ : ∃ z, z = Lx.is X.data.toList := ⟨_, rfl⟩
  have HZ := Lib.hid hz2
  rw [← hz2] at HIS
  clear hW1 hb1 hk1 hk2 hz hz2 T hX
  by_cases hzk : z = K
  · have hne : (z != K) = false := by simp [hzk]
    have HR := Lib.hid (show kt (K, X.data.toList) = (K, X.data.toList) from if_pos (by rw [← HZ.out]; exact hzk))
    rw [HR.out]
    subst hzk
    go_enter Tryz.func175, Tryz.ntmps175
    go_wp2_with fail
    rw [← HW1.out]
    go_region_held3 (fun w' => w'.cell? ⟨w.heap.size, 0, none⟩ = some (.int .u8 z) ∧ w'.cell? ⟨w.heap.size, 1, none⟩ = some (.string X)) (first | exact ⟨x0, x1⟩ | exact HQ.out.2) (first | (go_at_call 83; refine (HIS.out _ (by first | exact below_drewN (Below.refl _ _) _ | exact Below.refl _ _)).mono ?_; rintro e w3 ⟨rfl, hb3⟩; have HQ := Lib.hid (HX3.out w3 _ (by first | exact below_drewN (Below.refl _ _) _ | exact Below.refl _ _) hb3); clear hb3))
    have q := HK1.out.below HQ.out.1 HK1.out.lt
    have q2 := HK2.out.below HQ.out.1 HK2.out.lt
    have y0 : w3.cell? ⟨w.heap.size, 0, none⟩ = some (.int .u8 z) := q.at_ 0
    have y1 : w3.cell? ⟨w.heap.size, 1, none⟩ = some (.string X) := q.at_ 1
    have y2 : w3.cell? ⟨w.heap.size, 2, none⟩ = some (.int .i64 p) := q.at_ 2
    have g0 : w3.cell? ⟨w.heap.size + 1, 0, none⟩ = some (.int .u8 0) := q2.at_ 0
    have g1 : w3.cell? ⟨w.heap.size + 1, 1, none⟩ = some (.string ⟨#[]⟩) := q2.at_ 1
    have g2 : w3.cell? ⟨w.heap.size + 1, 2, none⟩ = some (.int .i64 0) := q2.at_ 2
    have gf : ∀ i, w3.frozen? ⟨w.heap.size + 1, i, none⟩ = false := fun i => q2.fz i
    have HB3 := Lib.hid (HB1.out.trans (HQ.out.1.mono HB1.out.size))
    clear q q2 x0 x1 HQ
    go_wp2
    refine bodyPost_ret (v := .agg #[.int .u8 z, .string X, .int .i64 p]) (by simp [results, Tryz.results175, go_sem, g0, g1, g2]) rfl ?_
    exact ⟨p, rfl, ((HB3.out.setCell (p := ⟨w.heap.size + 1, 0, none⟩) (Nat.le_succ _) _).setCell (p := ⟨w.heap.size + 1, 1, none⟩) (Nat.le_succ _) _).setCell (p := ⟨w.heap.size + 1, 2, none⟩) (Nat.le_succ _) _⟩
  · have hne : (z != K) = true := by simp [hzk]
    have HR := Lib.hid (show kt (K, X.data.toList) = (0, []) from if_neg (by show Lx.is X.data.toList ≠ K; rw [← HZ.out]; exact hzk))
    rw [HR.out]
    clear hzk
    go_enter Tryz.func175, Tryz.ntmps175
    go_wp2_with fail
    rw [← HW1.out]
    go_region_held3 (fun w' => w'.cell? ⟨w.heap.size, 0, none⟩ = some (.int .u8 K) ∧ w'.cell? ⟨w.heap.size, 1, none⟩ = some (.string X)) (first | exact ⟨x0, x1⟩ | exact HQ.out.2) (first | (go_at_call 83; refine (HIS.out _ (by first | exact below_drewN (Below.refl _ _) _ | exact Below.refl _ _)).mono ?_; rintro e w3 ⟨rfl, hb3⟩; have HQ := Lib.hid (HX3.out w3 _ (by first | exact below_drewN (Below.refl _ _) _ | exact Below.refl _ _) hb3); clear hb3))
    have q := HK1.out.below HQ.out.1 HK1.out.lt
    have q2 := HK2.out.below HQ.out.1 HK2.out.lt
    have y0 : w3.cell? ⟨w.heap.size, 0, none⟩ = some (.int .u8 K) := q.at_ 0
    have y1 : w3.cell? ⟨w.heap.size, 1, none⟩ = some (.string X) := q.at_ 1
    have y2 : w3.cell? ⟨w.heap.size, 2, none⟩ = some (.int .i64 p) := q.at_ 2
    have g0 : w3.cell? ⟨w.heap.size + 1, 0, none⟩ = some (.int .u8 0) := q2.at_ 0
    have g1 : w3.cell? ⟨w.heap.size + 1, 1, none⟩ = some (.string ⟨#[]⟩) := q2.at_ 1
    have g2 : w3.cell? ⟨w.heap.size + 1, 2, none⟩ = some (.int .i64 0) := q2.at_ 2
    have gf : ∀ i, w3.frozen? ⟨w.heap.size + 1, i, none⟩ = false := fun i => q2.fz i
    have HB3 := Lib.hid (HB1.out.trans (HQ.out.1.mono HB1.out.size))
    clear q q2 x0 x1 HQ
    go_wp2
    refine bodyPost_ret (v := .agg #[.int .u8 0, .string ⟨#[]⟩, .int .i64 0]) (by simp [results, Tryz.results175, go_sem, g0, g1, g2]) rfl ?_
    exact ⟨0, rfl, ((HB3.out.setCell (p := ⟨w.heap.size + 1, 0, none⟩) (Nat.le_succ _) _).setCell (p := ⟨w.heap.size + 1, 1, none⟩) (Nat.le_succ _) _).setCell (p := ⟨w.heap.size + 1, 2, none⟩) (Nat.le_succ _) _⟩
def trz (l : List UInt8) : List UInt8 := if l.dropWhile (· == 48) = [] then [48] else l.dropWhile (· == 48)
theorem mag_noughts : ∀ l : List UInt8, Nu.magF 0 (l.dropWhile (· == 48)) = Nu.magF 0 l
  | [] => rfl
  | c :: l => by
    rw [List.dropWhile_cons]
    by_cases h : c = 48
    · subst h; rw [if_pos (by decide), mag_noughts l, Nu.magF_cons]; rfl
    · rw [if_neg (by simpa using h)]
theorem num_trz {l : List UInt8} (h : l.all Lx.isD = true) : Nu.prs (trz l) = match numv l with | some v => ((v : Int), 0) | none => (0, 60) := by
  have hm := mag_noughts l
  have hd : Nu.allDg (trz l) = true := by
    unfold trz
    split
    · decide
    · unfold Nu.allDg
      rw [List.all_eq_true] at h ⊢
      exact fun c hc => h c ((List.dropWhile_sublist _).mem hc)
  have hmag : Nu.magF 0 (trz l) = Nu.magF 0 l := by
    unfold trz
    split
    · rename_i he; rw [← hm, he]; rfl
    · exact hm
  have hb := Nu.below_dig hd
  have hst := Nu.strip_other hb
  have hw : Nu.isW (trz l) = true := by
    unfold Nu.isW
    rw [hst, hd]
    unfold trz
    split
    · rfl
    · rename_i hne
      have h1 : (l.dropWhile (· == 48)).head? ≠ some 48 := fun e => by
        have := List.head?_dropWhile_not (· == 48) l
        rw [e] at this
        simp at this
      simp [hne, h1]
  unfold Nu.prs
  rw [if_pos hw, Nu.worth_n hb, hst, hmag]
  have e : numv l = if Nu.magF 0 l ≤ 9223372036854775807 then some (Nu.magF 0 l) else none := rfl
  rw [e]
  by_cases hle : Nu.magF 0 l ≤ 9223372036854775807
  · rw [if_pos hle]; exact Nu.tell_in ⟨by omega, by omega⟩
  · rw [if_neg hle]; exact Nu.tell_out (fun h => by have := h.2; omega)
end Go.Proofs.YtmmdigeciphglaaGreatDoor
namespace Go.Proofs.YtmmdigeciphglaaGreatDoor
open Go.RowKit Ex
def StP (B r : Nat) (w : World) (D : Nat) (R : Int × List Fr × Option E) (e : Ending) (w' : World) : Prop :=
  e = .returned (.int .i64 R.1) ∧ ∃ K' nv lv wv, K'.map (·.1) = R.2.1 ∧ RdE B r w' K' R.2.2 R.2.2.isSome nv lv wv ∧ Below B w w' ∧ volE K' R.2.2 ≤ D
theorem leaf_all {x : E} {nd : Nd} (hs : sz x = 1) (hd : dp x = 1) (hf : ∀ p, flat x p = [nd]) (K : List (Fr × Nat)) : flats (all K (some x)) 0 = flats (all K none) 0 ++ [nd] ∧ loo (all K (some x)) 0 = loo (all K none) 0 ++ [((flats (all K none) 0).length, 1)] ∧ volE K (some x) = volE K none + 1 := by
  have e : all K (some x) = all K none ++ [x] := by unfold all cur; simp
  unfold volE
  rw [e, flats_app, loo_app, szs_app, flats_len]
  simp only [flats, loo, szs, hs, hd, hf, List.append_nil, Nat.zero_add, Nat.add_sub_cancel]
  exact ⟨trivial, trivial, by omega⟩
theorem leafE_any {B r : Nat} {w : World} {K : List (Fr × Nat)} {nv lv wv : Value} (h : RdE B r w K none false nv lv wv) {D : Nat} (hD : D ≤ 900000) (hv : volE K none ≤ D) {x : E} {n : Nd} (hs : sz x = 1) (hd : dp x = 1) (hf : ∀ p, flat x p = [{ n with a := -1, b := -1, c := -1 }]) :
    Calls Tryz.prog 185 #[.pointer (some ⟨r, 0, none⟩), .agg #[.int .u8 n.op, .int .i64 n.num, .string ⟨n.nm.toArray⟩, .int .i64 n.a, .int .i64 n.b, .int .i64 n.c]] w fun e w' => e = .returned (.tuple #[]) ∧ (∃ nv lv wv, RdE B r w' K (some x) true nv lv wv) ∧ Below B w w' ∧ volE K (some x) ≤ D + 1 := by
  have hl := h.len hv
  refine (leaf_any B r w K _ _ false nv lv wv h n (by omega) (by omega)).mono ?_
  rintro e w' ⟨rfl, h1, h2⟩
  obtain ⟨q1, q2, q3⟩ := leaf_all hs hd hf K
  rw [← q1, ← q2] at h1
  exact ⟨rfl, h1, h2, by omega⟩
def numR (K : List Fr) (l : List UInt8) : Int × List Fr × Option E := match numv l with
  | some v => (0, K, some (.num v))
  | none => (60, K, none)
set_option maxHeartbeats 2000000 in
set_option maxRecDepth 100000 in
theorem number_any (B r : Nat) (w : World) (T : TxO B w) (K : List (Fr × Nat)) (nv lv wv : Value) (h : RdE B r w K none false nv lv wv) (D : Nat) (hD : D ≤ 900000) (hv : volE K none ≤ D) (X : ByteArray) (hX : X.data.toList.all Lx.isD = true) (hs : X.size ≤ 1000) :
    Calls Tryz.prog 184 #[.pointer (some ⟨r, 0, none⟩), .string X] w (StP B r w (D + 1) (numR (K.map (·.1)) X.data.toList)) := by
  unfold numR
  have hB : B ≤ w.heap.size := Nat.le_trans h.row.base (Nat.le_of_lt h.row.blk.lt)
  have HTL := Lib.hid (Tryz.strings_TrimLeft_one X 48 (by decide) w)
  obtain ⟨Y, hY⟩ : ∃ Y : ByteArray, Y = ⟨(Lib.trimLeftB X.data.toList 48).toArray⟩ := ⟨_, rfl⟩
  rw [← hY] at HTL
  obtain ⟨Z, hZ⟩ : ∃ Z : ByteArray, Z = if Y = ⟨#[]⟩ then ⟨#[48]⟩ else Y := ⟨_, rfl⟩
  have hYd : Y.data.toList = X.data.toList.dropWhile (· == 48) := by rw [hY]; rfl
  have hZd : Z.data.toList = trz X.data.toList := by
    rw [hZ]
    unfold trz
    rw [← hYd]
    by_cases hy : Y = ⟨#[]⟩
    · rw [if_pos hy, if_pos (by rw [hy])]
    · rw [if_neg hy, if_neg (fun e => hy (ba_eq (by rw [e])))]
  have hYs : Y.size ≤ 1000 := by
    have h1 := (List.dropWhile_sublist (l := X.data.toList) (· == 48)).length_le
    rw [← hYd, ← Lib.size_eq, ← Lib.size_eq] at h1
    omega
  have hZs : Z.size ≤ 1000 := by
    rw [hZ]; split
    · decide
    · exact hYs
  have HPS := Lib.hid (parse_any Z w T.here.tb (by omega))
  rw [hZd, num_trz hX] at HPS
  have HLF := Lib.hid (fun (v : Nat) w1 (hb : Below w.heap.size w w1) => leafE_any (RdM.below h hb) hD hv (x := .num v) (n := ⟨1, (v : Int), [], 0, 0, 0⟩) rfl rfl (fun _ => rfl))
  have HH := Lib.hid h
  have HBB := Lib.hid hB
  have HV := Lib.hid hv
  obtain ⟨N, hN⟩ : ∃ N, N = numv X.data.toList := ⟨_, rfl⟩
  rw [← hN] at HPS ⊢
  clear hN hYd hZd hYs hZs h hv hB
  have HN0 := Lib.hid (fun (h : N = none) => (show Calls Tryz.prog 196 #[.string Z] w fun e w' => e = .returned (.tuple #[.int .i64 0, .int .i64 60]) ∧ Below w.heap.size w w' from by
    have q := HPS.out; rw [h] at q; exact q))
  have HN1 := Lib.hid (fun (v : Nat) (h : N = some v) => (show Calls Tryz.prog 196 #[.string Z] w fun e w' => e = .returned (.tuple #[.int .i64 (v : Int), .int .i64 0]) ∧ Below w.heap.size w w' from by
    have q := HPS.out; rw [h] at q; exact q))
  clear HPS
  by_cases hy : Y = ⟨#[]⟩
  · rw [if_pos hy] at hZ
    subst hZ
    clear hY
    subst hy
    cases N with
    | none =>
      have HPS := Lib.hid (HN0.out rfl)
      clear HN0 HN1 HLF
      go_enter Tryz.func184, Tryz.ntmps184
      go_wp2_with fail
      refine HTL.out.mono ?_
      rintro e w0 ⟨rfl, hw0⟩
      obtain rfl : w = w0 := hw0.symm
      go_wp2_with fail
      refine HPS.out.mono ?_
      rintro e w1 ⟨rfl, hb1⟩
      have HF := Lib.hid (show ∃ K' nv lv wv, K'.map (·.1) = K.map (·.1) ∧ RdE B r w1 K' none false nv lv wv ∧ Below B w w1 ∧ volE K' none ≤ D + 1 from ⟨K, _, _, _, rfl, RdM.below HH.out hb1, hb1.mono HBB.out, by have := HV.out; omega⟩)
      clear hb1
      go_wp2
      go_ret
      exact ⟨rfl, HF.out⟩
    | some v =>
      have HPS := Lib.hid (HN1.out v rfl)
      clear HN0 HN1
      go_enter Tryz.func184, Tryz.ntmps184
      go_wp2_with fail
      refine HTL.out.mono ?_
      rintro e w0 ⟨rfl, hw0⟩
      obtain rfl : w = w0 := hw0.symm
      go_wp2_with fail
      refine HPS.out.mono ?_
      rintro e w1 ⟨rfl, hb1⟩
      have HLC := Lib.hid (HLF.out v w1 hb1)
      have HB1 := Lib.hid (hb1.mono HBB.out)
      clear hb1
      go_wp2_with fail
      refine HLC.out.mono ?_
      rintro e w2 ⟨rfl, ⟨nv2, lv2, wv2, h2⟩, hb2, hv2⟩
      have HF := Lib.hid (show ∃ K' nv lv wv, K'.map (·.1) = K.map (·.1) ∧ RdE B r w2 K' (some (.num v)) true nv lv wv ∧ Below B w w2 ∧ volE K' (some (.num v)) ≤ D + 1 from ⟨K, _, _, _, rfl, h2, HB1.out.trans hb2, hv2⟩)
      clear h2 hb2 hv2
      go_wp2
      go_ret
      exact ⟨rfl, HF.out⟩
  · rw [if_neg hy] at hZ
    subst hZ
    have hyn : Z.toList ≠ [] := fun e => hy (ba_eq (by rw [← Lib.toList_data, e]))
    have hyy : Z.toList.isEmpty = false := by simpa using hyn
    clear hyn
    clear hY hy
    cases N with
    | none =>
      have HPS := Lib.hid (HN0.out rfl)
      clear HN0 HN1 HLF
      go_enter Tryz.func184, Tryz.ntmps184
      go_wp2_with fail
      refine HTL.out.mono ?_
      rintro e w0 ⟨rfl, hw0⟩
      obtain rfl : w = w0 := hw0.symm
      go_wp2_with fail
      refine HPS.out.mono ?_
      rintro e w1 ⟨rfl, hb1⟩
      have HF := Lib.hid (show ∃ K' nv lv wv, K'.map (·.1) = K.map (·.1) ∧ RdE B r w1 K' none false nv lv wv ∧ Below B w w1 ∧ volE K' none ≤ D + 1 from ⟨K, _, _, _, rfl, RdM.below HH.out hb1, hb1.mono HBB.out, by have := HV.out; omega⟩)
      clear hb1
      go_wp2
      go_ret
      exact ⟨rfl, HF.out⟩
    | some v =>
      have HPS := Lib.hid (HN1.out v rfl)
      clear HN0 HN1
      go_enter Tryz.func184, Tryz.ntmps184
      go_wp2_with fail
      refine HTL.out.mono ?_
      rintro e w0 ⟨rfl, hw0⟩
      obtain rfl : w = w0 := hw0.symm
      go_wp2_with fail
      refine HPS.out.mono ?_
      rintro e w1 ⟨rfl, hb1⟩
      have HLC := Lib.hid (HLF.out v w1 hb1)
      have HB1 := Lib.hid (hb1.mono HBB.out)
      clear hb1
      go_wp2_with fail
      refine HLC.out.mono ?_
      rintro e w2 ⟨rfl, ⟨nv2, lv2, wv2, h2⟩, hb2, hv2⟩
      have HF := Lib.hid (show ∃ K' nv lv wv, K'.map (·.1) = K.map (·.1) ∧ RdE B r w2 K' (some (.num v)) true nv lv wv ∧ Below B w w2 ∧ volE K' (some (.num v)) ≤ D + 1 from ⟨K, _, _, _, rfl, h2, HB1.out.trans hb2, hv2⟩)
      clear h2 hb2 hv2
      go_wp2
      go_ret
      exact ⟨rfl, HF.out⟩
end Go.Proofs.YtmmdigeciphglaaGreatDoor
namespace Go.Proofs.YtmmdigeciphglaaGreatDoor
open Go.RowKit Ex
theorem is_1 {l : List UInt8} (h : Lx.is l = 1) : l.all Lx.isD = true ∧ l.length ≤ 64 := by
  unfold Lx.is at h
  split at h
  · cases h
  · rename_i hl
    refine ⟨?_, by omega⟩
    unfold Lx.whole at h
    split at h
    · cases h
    · split at h
      · cases h
      · split at h
        · cases h
        · split at h
          · assumption
          · split at h <;> cases h
theorem is_len {l : List UInt8} (h : Lx.is l ≠ 0) : l.length ≤ 64 := by
  unfold Lx.is at h
  split at h
  · exact absurd rfl h
  · omega
theorem waitE_any {B r : Nat} {w : World} {K : List (Fr × Nat)} {nv lv wv : Value} {b : Bool} {c : Option E} (h : RdE B r w K c b nv lv wv) {D : Nat} (hD : D ≤ 900000) (hv : volE K c ≤ D) {f : Fr} {g : Nat} (hf : frOk B w (f, g)) (ha : all ((f, g) :: K) none = all K c) :
    Calls Tryz.prog 186 #[.pointer (some ⟨r, 0, none⟩), .int .u8 (frOp f : Nat), frW (f, g)] w fun e w' => e = .returned (.tuple #[]) ∧ (∃ nv lv wv, RdE B r w' ((f, g) :: K) none false nv lv wv) ∧ Below B w w' ∧ volE ((f, g) :: K) none ≤ D + 1 := by
  have hl := h.len hv
  refine (wait_any B r w K _ _ b nv lv wv h f g hf (by omega)).mono ?_
  rintro e w' ⟨rfl, h1, h2⟩
  rw [← ha] at h1
  refine ⟨rfl, h1, h2, ?_⟩
  unfold volE at hv ⊢
  rw [ha, List.length_cons]; omega
theorem StP.mk_ {B r : Nat} {w w' : World} {D : Nat} {R : Int × List Fr × Option E} {K : List (Fr × Nat)} {c : Option E} (hR : R = (0, K.map (·.1), c)) {b : Bool} (hb : b = c.isSome) (h1 : ∃ nv lv wv, RdE B r w' K c b nv lv wv) (h2 : Below B w w') (h3 : volE K c ≤ D) : StP B r w D R (.returned (.int .i64 0)) w' := by
  subst hR hb
  obtain ⟨nv, lv, wv, h⟩ := h1
  exact ⟨rfl, K, nv, lv, wv, rfl, h, h2, h3⟩
set_option maxHeartbeats 4000000 in
set_option maxRecDepth 100000 in
theorem begin_any (B r : Nat) (w : World) (T : TxO B w) (K : List (Fr × Nat)) (nv lv wv : Value) (h : RdE B r w K none false nv lv wv) (D : Nat) (hD : D ≤ 900000) (hv : volE K none ≤ D) (k : Int) (X : ByteArray) (p : Int) (hX : Lx.is X.data.toList = k) (hs : X.size ≤ 100000) :
    Calls Tryz.prog 174 #[.pointer (some ⟨r, 0, none⟩), .agg #[.int .u8 k, .string X, .int .i64 p]] w (StP B r w (D + 1) (beg (K.map (·.1)) (k, X.data.toList))) := by
  have hB : B ≤ w.heap.size := Nat.le_trans h.row.base (Nat.le_of_lt h.row.blk.lt)
  obtain ⟨W1, hW1⟩ : ∃ W1, W1 = w.alloc (.cells #[.int .u8 k, .string X, .int .i64 p] 143) := ⟨_, rfl⟩
  have hb1 : Below w.heap.size w W1 := by rw [hW1]; exact (Below.refl _ _).alloc (Nat.le_refl _) _
  have hk1 : IsBlk W1 w.heap.size 143 #[.int .u8 k, .string X, .int .i64 p] := by rw [hW1]; exact IsBlk.new _ _ _
  have x0 : W1.cell? ⟨w.heap.size, 0, none⟩ = some (.int .u8 k) := hk1.at_ 0
  have x1 : W1.cell? ⟨w.heap.size, 1, none⟩ = some (.string X) := hk1.at_ 1
  have h1 : RdE B r W1 K none false nv lv wv := RdM.below h hb1
  have HB1 := Lib.hid (hb1.mono hB)
  have HW1 := Lib.hid hW1
  have HH := Lib.hid h1
  have HT := Lib.hid (T.on (hb1.mono hB))
  have HV := Lib.hid hv
  have HXX := Lib.hid hX
  obtain ⟨R, hR⟩ : ∃ R, R = beg (K.map (·.1)) (k, X.data.toList) := ⟨_, rfl⟩
  rw [← hR]
  have HRR := Lib.hid hR
  rw [hW1] at x0 x1
  clear hW1 hb1 hk1 h1 h T hv hX hR hB
  by_cases k1 : k = 1
  · subst k1
    have hnum := number_any B r W1 HT.out K nv lv wv HH.out D hD HV.out X (is_1 HXX.out).1 (by have := (is_1 HXX.out).2; rw [← Lib.size_eq] at this; omega)
    rw [show numR (K.map (·.1)) X.data.toList = R from (HRR.out.trans ((if_pos rfl).trans rfl)).symm] at hnum
    have HLC := Lib.hid hnum
    clear hnum HRR
    go_enter Tryz.func174, Tryz.ntmps174
    go_wp2_with fail
    rw [← HW1.out]
    refine HLC.out.mono ?_
    rintro e w2 ⟨he, K', nv2, lv2, wv2, h2, h3, h4, h5⟩
    have HF := Lib.hid (And.intro h2 (And.intro h3 (And.intro (HB1.out.trans h4) h5)))
    clear h2 h3 h4 h5
    subst he
    go_wp2
    go_ret
    exact ⟨rfl, K', nv2, lv2, wv2, HF.out⟩
  · have k1' : (k == 1) = false := by simpa using k1
    by_cases k2 : k = 2
    · subst k2
      have hxs : X.size ≤ 64 := by have := is_len (l := X.data.toList) (by rw [HXX.out]; decide); rw [← Lib.size_eq] at this; exact this
      have HCL := Lib.hid (clone_any X W1 (by omega))
      have HLF := Lib.hid (fun w2 (hb : Below W1.heap.size W1 w2) => leafE_any (RdM.below HH.out hb) hD HV.out (x := .name X.data.toList) (n := ⟨2, 0, X.data.toList, 0, 0, 0⟩) rfl rfl (fun _ => rfl))
      have HR := Lib.hid (show R = (0, K.map (·.1), some (.name X.data.toList)) from HRR.out.trans ((if_neg (show ¬ ((2 : Int) = 1) by decide)).trans (if_pos rfl)))
      clear k1 k1' hxs
      go_enter Tryz.func174, Tryz.ntmps174
      go_wp2_with fail
      rw [← HW1.out]
      refine HCL.out.mono ?_
      rintro e w2 ⟨rfl, hb2⟩
      have HLC := Lib.hid (HLF.out w2 hb2)
      have HB2 := Lib.hid (HB1.out.trans (hb2.mono (by have := HH.out.row.base; have := HH.out.row.blk.lt; omega)))
      clear hb2
      go_wp2_with fail
      refine HLC.out.mono ?_
      rintro e w3 ⟨rfl, h3, hb3, hv3⟩
      have HF := Lib.hid (StP.mk_ (b := true) HR.out rfl h3 (HB2.out.trans hb3) hv3)
      clear h3 hb3 hv3
      go_wp2
      go_ret
      exact HF.out
    · have k2' : (k == 2) = false := by simpa using k2
      have HRK := Lib.hid (show R = _ from HRR.out.trans ((if_neg k1).trans (if_neg k2)))
      have HXD := Lib.hid (Lib.toList_data X)
      clear HRR k1 k2
      by_cases c3 : X = ⟨#[116, 114, 117, 101]⟩
      · subst c3
        have HLC := Lib.hid (leafE_any HH.out hD HV.out (x := .tt) (n := ⟨3, 0, [], 0, 0, 0⟩) rfl rfl (fun _ => rfl))
        have HR := Lib.hid (show R = (0, K.map (·.1), some .tt) from HRK.out.trans (if_pos rfl))
        go_enter Tryz.func174, Tryz.ntmps174
        go_wp2_with fail
        rw [← HW1.out]
        refine HLC.out.mono ?_
        rintro e w2 ⟨rfl, h2, hb2, hv2⟩
        have HF := Lib.hid (StP.mk_ (b := true) HR.out rfl h2 (HB1.out.trans hb2) hv2)
        clear h2 hb2 hv2
        go_wp2
        go_ret
        exact HF.out
      · have n3 : X.data.toList ≠ [116, 114, 117, 101] := fun e => c3 (ba_eq e)
        have m3 : (X.toList == [116, 114, 117, 101]) = false := beq_eq_false_iff_ne.2 (by rw [Lib.toList_data]; exact n3)
        have HRK := Lib.hid (HRK.out.trans (if_neg n3))
        clear c3 n3
        by_cases c4 : X = ⟨#[102, 97, 108, 115, 101]⟩
        · subst c4
          have HLC := Lib.hid (leafE_any HH.out hD HV.out (x := .ff) (n := ⟨4, 0, [], 0, 0, 0⟩) rfl rfl (fun _ => rfl))
          have HR := Lib.hid (show R = (0, K.map (·.1), some .ff) from HRK.out.trans (if_pos rfl))
          go_enter Tryz.func174, Tryz.ntmps174
          go_wp2_with fail
          rw [← HW1.out]
          refine HLC.out.mono ?_
          rintro e w2 ⟨rfl, h2, hb2, hv2⟩
          have HF := Lib.hid (StP.mk_ (b := true) HR.out rfl h2 (HB1.out.trans hb2) hv2)
          clear h2 hb2 hv2
          go_wp2
          go_ret
          exact HF.out
        · have n4 : X.data.toList ≠ [102, 97, 108, 115, 101] := fun e => c4 (ba_eq e)
          have m4 : (X.toList == [102, 97, 108, 115, 101]) = false := beq_eq_false_iff_ne.2 (by rw [Lib.toList_data]; exact n4)
          have HRK := Lib.hid (HRK.out.trans (if_neg n4))
          clear c4 n4
          by_cases c5 : X = ⟨#[45]⟩
          · subst c5
            have HLC := Lib.hid (waitE_any HH.out hD HV.out (f := .un 5) (g := 0) True.intro rfl)
            have HR := Lib.hid (show R = (0, (((Fr.un 5, 0) :: K : List (Fr × Nat)).map (·.1)), none) from HRK.out.trans (if_pos rfl))
            go_enter Tryz.func174, Tryz.ntmps174
            go_wp2_with fail
            rw [← HW1.out]
            refine HLC.out.mono ?_
            rintro e w2 ⟨rfl, h2, hb2, hv2⟩
            have HF := Lib.hid (StP.mk_ (b := false) HR.out rfl h2 (HB1.out.trans hb2) hv2)
            clear h2 hb2 hv2
            go_wp2
            go_ret
            exact HF.out
          · have n5 : X.data.toList ≠ [45] := fun e => c5 (ba_eq e)
            have m5 : (X.toList == [45]) = false := beq_eq_false_iff_ne.2 (by rw [Lib.toList_data]; exact n5)
            have HRK := Lib.hid (HRK.out.trans (if_neg n5))
            clear c5 n5
            by_cases c6 : X = ⟨#[110, 111, 116]⟩
            · subst c6
              have HLC := Lib.hid (waitE_any HH.out hD HV.out (f := .un 6) (g := 0) True.intro rfl)
              have HR := Lib.hid (show R = (0, (((Fr.un 6, 0) :: K : List (Fr × Nat)).map (·.1)), none) from HRK.out.trans (if_pos rfl))
              go_enter Tryz.func174, Tryz.ntmps174
              go_wp2_with fail
              rw [← HW1.out]
              refine HLC.out.mono ?_
              rintro e w2 ⟨rfl, h2, hb2, hv2⟩
              have HF := Lib.hid (StP.mk_ (b := false) HR.out rfl h2 (HB1.out.trans hb2) hv2)
              clear h2 hb2 hv2
              go_wp2
              go_ret
              exact HF.out
            · have n6 : X.data.toList ≠ [110, 111, 116] := fun e => c6 (ba_eq e)
              have m6 : (X.toList == [110, 111, 116]) = false := beq_eq_false_iff_ne.2 (by rw [Lib.toList_data]; exact n6)
              have HRK := Lib.hid (HRK.out.trans (if_neg n6))
              clear c6 n6
              have hsz : W1.heap.size = w.heap.size + 1 := by rw [HW1.out]; simp
              have hB1 : B ≤ W1.heap.size := by have := HH.out.row.base; have := HH.out.row.blk.lt; omega
              by_cases c7 : X = ⟨#[40]⟩
              · subst c7
                obtain ⟨W2, hW2⟩ : ∃ W2, W2 = W1.alloc (.cells #[.string ⟨#[41]⟩] 9) := ⟨_, rfl⟩
                have hb2 : Below W1.heap.size W1 W2 := by rw [hW2]; exact (Below.refl _ _).alloc (Nat.le_refl _) _
                have HLC := Lib.hid (waitE_any (RdM.below HH.out hb2) hD HV.out (f := .par) (g := w.heap.size + 1) ⟨by rw [hW2, ← hsz]; exact IsBlk.new _ _ _, by rw [← hsz]; exact hB1⟩ rfl)
                have HR := Lib.hid (show R = (0, (((Fr.par, w.heap.size + 1) :: K : List (Fr × Nat)).map (·.1)), none) from HRK.out.trans (if_pos rfl))
                have HW2 := Lib.hid hW2
                have HB2 := Lib.hid (HB1.out.trans (hb2.mono hB1))
                clear hW2 hb2 hsz hB1
                go_enter Tryz.func174, Tryz.ntmps174
                go_wp2_with fail
                rw [← HW1.out, ← HW2.out]
                refine HLC.out.mono ?_
                rintro e w2 ⟨rfl, h2, hb3, hv2⟩
                have HF := Lib.hid (StP.mk_ (b := false) HR.out rfl h2 (HB2.out.trans hb3) hv2)
                clear h2 hb3 hv2
                go_wp2
                go_ret
                exact HF.out
              · have n7 : X.data.toList ≠ [40] := fun e => c7 (ba_eq e)
                have m7 : (X.toList == [40]) = false := beq_eq_false_iff_ne.2 (by rw [Lib.toList_data]; exact n7)
                have HRK := Lib.hid (HRK.out.trans (if_neg n7))
                clear c7 n7
                by_cases c8 : X = ⟨#[105, 102]⟩
                · subst c8
                  obtain ⟨W2, hW2⟩ : ∃ W2, W2 = W1.alloc (.cells #[.string ⟨#[116, 104, 101, 110]⟩, .string ⟨#[101, 108, 115, 101]⟩, .string ⟨#[101, 110, 100, 105, 102]⟩] 9) := ⟨_, rfl⟩
                  have hb2 : Below W1.heap.size W1 W2 := by rw [hW2]; exact (Below.refl _ _).alloc (Nat.le_refl _) _
                  have HLC := Lib.hid (waitE_any (RdM.below HH.out hb2) hD HV.out (f := .if0) (g := w.heap.size + 1) ⟨by rw [hW2, ← hsz]; exact IsBlk.new _ _ _, by rw [← hsz]; exact hB1⟩ rfl)
                  have HR := Lib.hid (show R = (0, (((Fr.if0, w.heap.size + 1) :: K : List (Fr × Nat)).map (·.1)), none) from HRK.out.trans (if_pos rfl))
                  have HW2 := Lib.hid hW2
                  have HB2 := Lib.hid (HB1.out.trans (hb2.mono hB1))
                  clear hW2 hb2 hsz hB1
                  go_enter Tryz.func174, Tryz.ntmps174
                  go_wp2_with fail
                  rw [← HW1.out, ← HW2.out]
                  refine HLC.out.mono ?_
                  rintro e w2 ⟨rfl, h2, hb3, hv2⟩
                  have HF := Lib.hid (StP.mk_ (b := false) HR.out rfl h2 (HB2.out.trans hb3) hv2)
                  clear h2 hb3 hv2
                  go_wp2
                  go_ret
                  exact HF.out
                · have n8 : X.data.toList ≠ [105, 102] := fun e => c8 (ba_eq e)
                  have m8 : (X.toList == [105, 102]) = false := beq_eq_false_iff_ne.2 (by rw [Lib.toList_data]; exact n8)
                  have HR := Lib.hid (HRK.out.trans (if_neg n8))
                  have HF := Lib.hid (show StP B r w (D + 1) R (.returned (.int .i64 80)) W1 from by
                    rw [HR.out]; exact ⟨rfl, K, nv, lv, wv, rfl, HH.out, HB1.out, Nat.le_trans HV.out (Nat.le_succ _)⟩)
                  clear c8 n8
                  go_enter Tryz.func174, Tryz.ntmps174
                  go_wp2
                  rw [← HW1.out]
                  go_ret
                  exact HF.out
end Go.Proofs.YtmmdigeciphglaaGreatDoor
namespace Go.Proofs.YtmmdigeciphglaaGreatDoor
open Go.RowKit Ex
def wrdR (K : List Fr) (x : E) (s : List UInt8) : Int × List Fr × Option E := match wrd K x s with
  | some p => (0, p.1, p.2)
  | none => (80, K, some x)
theorem all_if0 (g : Nat) (K : List (Fr × Nat)) (x : E) : all ((.if1 x, g) :: K) none = all ((.if0, g) :: K) (some x) := by unfold all; simp [trs, cur]
theorem all_if1 (g : Nat) (K : List (Fr × Nat)) (a x : E) : all ((.if2 a x, g) :: K) none = all ((.if1 a, g) :: K) (some x) := by unfold all; simp [trs, cur]
theorem all_par (g : Nat) (K : List (Fr × Nat)) (x : E) : all K (some x) = all ((.par, g) :: K) (some x) := by unfold all; simp [trs, cur]
theorem all_if2 (g : Nat) (K : List (Fr × Nat)) (a b x : E) : all ((.if2 a b, g) :: K) (some x) = trs (K.map (·.1)) ++ [a, b, x] ∧ all K (some (.ite a b x)) = trs (K.map (·.1)) ++ [.ite a b x] := by unfold all; simp [trs, cur]
set_option maxHeartbeats 4000000 in
set_option maxRecDepth 100000 in
theorem word_any (B r : Nat) (w : World) (T : TxO B w) (K : List (Fr × Nat)) (x : E) (nv lv wv : Value) (h : RdE B r w K (some x) true nv lv wv) (D : Nat) (hD : D ≤ 900000) (hv : volE K (some x) ≤ D) (ht : topok 0 (K.map (·.1))) (X : ByteArray) :
    Calls Tryz.prog 213 #[.pointer (some ⟨r, 0, none⟩), .string X] w (StP B r w D (wrdR (K.map (·.1)) x X.data.toList)) := by
  obtain ⟨R, hR⟩ : ∃ R, R = wrdR (K.map (·.1)) x X.data.toList := ⟨_, rfl⟩
  rw [← hR]
  have hB : B ≤ w.heap.size := Nat.le_trans h.row.base (Nat.le_of_lt h.row.blk.lt)
  have HV := Lib.hid hv
  have hkl := (h.len hv).2.2.1
  cases K with
  | nil =>
    have HR := Lib.hid (show R = (80, [], some x) from hR)
    have HH := Lib.hid h
    obtain ⟨Aw, cw, rfl, hw1, hw2, _⟩ := own_sliced h.wown
    have c2 := h.cells.2.2.1
    have HF := Lib.hid (show StP B r w D R (.returned (.int .i64 80)) w from by
      rw [HR.out]; exact ⟨rfl, _, nv, lv, _, rfl, HH.out, Below.refl _ _, HV.out⟩)
    clear h hv ht hR HR
    go_enter Tryz.func213, Tryz.ntmps213
    go_wp2
    go_ret
    exact HF.out
  | cons p K =>
    obtain ⟨f, g⟩ := p
    obtain ⟨gw, cw, rfl, hcw, q0, q1, hgw⟩ := RdM.top h
    have c2 := h.cells.2.2.1
    have f2 : w.frozen? ⟨r, 2, none⟩ = false := h.row.blk.fz 2
    have hrl : r < w.heap.size := h.row.blk.lt
    have hok := h.ok _ List.mem_cons_self
    have HH := Lib.hid h
    rw [List.length_cons] at hkl
    obtain ⟨k1, hk1⟩ : ∃ k1, k1 = K.length := ⟨_, rfl⟩
    rw [← hk1] at q0 q1 c2 hkl hcw
    have HK1 := Lib.hid hk1
    have s1 : IntKind.i64.wrap (((k1 + 1 : Nat) : Int) - 1) = (k1 : Int) := by rw [IntWalk.i64_in _ (by omega)]; omega
    have i0 : ¬ ((k1 : Int) < 0) := by omega
    have i1 : (k1 : Int) < ((k1 + 1 : Nat) : Int) := by omega
    have i2 : ((k1 + 1 : Nat) : Int) ≤ (cw : Int) := by omega
    have HPOP := Lib.hid (show RdM B r (w.setCell ⟨r, 2, none⟩ (.slice (some ⟨gw, 0, none⟩) k1 cw)) K (flats (all ((f, g) :: K) (some x)) 0) (loo (all ((f, g) :: K) (some x)) 0) true nv lv (.slice (some ⟨gw, 0, none⟩) k1 cw) from by
      have q := RdM.pop h
      rw [← hk1] at q
      exact q)
    have HT := Lib.hid T
    have HBB := Lib.hid hB
    clear T hB
    cases f with
    | un op => exact absurd ht (by simp [topok])
    | bin op a => exact absurd ht (by simp [topok])
    | par =>
      have hw0 : w.cell? ⟨g, 0, none⟩ = some (.string ⟨#[41]⟩) := hok.1.at_ 0
      have hgl := hok.1.lt
      replace q0 : w.cell? ⟨gw, k1 * 2, none⟩ = some (.int .u8 0) := q0
      replace q1 : w.cell? ⟨gw, k1 * 2 + 1, none⟩ = some (.slice (some ⟨g, 0, none⟩) 1 1) := q1
      by_cases hx : X = ⟨#[41]⟩
      · subst hx
        have HR := Lib.hid (show R = (0, K.map (·.1), some x) from hR)
        obtain ⟨W2, hW2⟩ : ∃ W2, W2 = (w.setCell ⟨r, 2, none⟩ (.slice (some ⟨gw, 0, none⟩) k1 cw)).alloc (.cells #[.int .u8 (0 : Int), .slice (some ⟨g, 0, none⟩) 1 1] 294) := ⟨_, rfl⟩
        have hsz : (w.setCell ⟨r, 2, none⟩ (.slice (some ⟨gw, 0, none⟩) k1 cw)).heap.size = w.heap.size := by simp [World.setCell]
        have hb2 : Below (w.setCell ⟨r, 2, none⟩ (.slice (some ⟨gw, 0, none⟩) k1 cw)).heap.size (w.setCell ⟨r, 2, none⟩ (.slice (some ⟨gw, 0, none⟩) k1 cw)) W2 := by rw [hW2]; exact (Below.refl _ _).alloc (Nat.le_refl _) _
        have hB2 : Below B w W2 := ((Below.refl B w).setCell (p := ⟨r, 2, none⟩) HH.out.row.base _).trans (hb2.mono (by rw [hsz]; exact HBB.out))
        have hr2 := HPOP.out.below hb2
        have hk2 : Kt [254] w W2 := (Kt.set (p := ⟨r, 2, none⟩) HH.out.row.blk (by simp) _).trans (Kt.of_below hb2)
        have HW2 := Lib.hid hW2
        have HB2 := Lib.hid hB2
        have HF := Lib.hid (StP.mk_ (K := K) (c := some x) (b := true) HR.out rfl ⟨nv, lv, _, by rw [RdE, all_par g K x]; exact hr2⟩ hB2 (show volE K (some x) ≤ D from by
          have := HV.out; unfold volE at this ⊢; rw [all_par g K x]; rw [List.length_cons] at this; omega))
        clear h hv ht hR hk1 hok hW2 hsz hb2 hB2 hr2 hk2
        go_enter Tryz.func213, Tryz.ntmps213
        go_wp2
        rw [← HW2.out]
        go_ret
        exact HF.out
      · have hxd : X.data.toList ≠ [41] := fun e => hx (ba_eq e)
        have m1 : ([41] == X.toList) = false := beq_eq_false_iff_ne.2 (fun e => hxd (by rw [← Lib.toList_data, ← e]))
        have HR := Lib.hid (show R = (80, .par :: K.map (·.1), some x) from hR.trans (by simp [wrdR, wrd, hxd]))
        have HF := Lib.hid (show StP B r w D R (.returned (.int .i64 80)) w from by
          rw [HR.out]; exact ⟨rfl, _, nv, lv, _, rfl, HH.out, Below.refl _ _, HV.out⟩)
        clear h hv ht hR HR hk1 hx hxd hok
        go_enter Tryz.func213, Tryz.ntmps213
        go_wp2
        go_ret
        exact HF.out
    | if0 =>
      have hw0 : w.cell? ⟨g, 0, none⟩ = some (.string ⟨#[116, 104, 101, 110]⟩) := hok.1.at_ 0
      have hgl := hok.1.lt
      replace q0 : w.cell? ⟨gw, k1 * 2, none⟩ = some (.int .u8 22) := q0
      replace q1 : w.cell? ⟨gw, k1 * 2 + 1, none⟩ = some (.slice (some ⟨g, 0, none⟩) 3 3) := q1
      by_cases hx : X = ⟨#[116, 104, 101, 110]⟩
      · subst hx
        have HR := Lib.hid (show R = (0, .if1 x :: K.map (·.1), none) from hR)
        obtain ⟨W2, hW2⟩ : ∃ W2, W2 = (w.setCell ⟨r, 2, none⟩ (.slice (some ⟨gw, 0, none⟩) k1 cw)).alloc (.cells #[.int .u8 (22 : Int), .slice (some ⟨g, 0, none⟩) 3 3] 294) := ⟨_, rfl⟩
        have hsz : (w.setCell ⟨r, 2, none⟩ (.slice (some ⟨gw, 0, none⟩) k1 cw)).heap.size = w.heap.size := by simp [World.setCell]
        have hb2 : Below (w.setCell ⟨r, 2, none⟩ (.slice (some ⟨gw, 0, none⟩) k1 cw)).heap.size (w.setCell ⟨r, 2, none⟩ (.slice (some ⟨gw, 0, none⟩) k1 cw)) W2 := by rw [hW2]; exact (Below.refl _ _).alloc (Nat.le_refl _) _
        have hB2 : Below B w W2 := ((Below.refl B w).setCell (p := ⟨r, 2, none⟩) HH.out.row.base _).trans (hb2.mono (by rw [hsz]; exact HBB.out))
        have hr2 := HPOP.out.below hb2
        have hk2 : Kt [254] w W2 := (Kt.set (p := ⟨r, 2, none⟩) HH.out.row.blk (by simp) _).trans (Kt.of_below hb2)
        have HW2 := Lib.hid hW2
        have HB2 := Lib.hid hB2
        have HWT := Lib.hid (wait_any B r W2 K _ _ true nv lv _ hr2 (.if1 x) g ⟨hk2.blk hok.1 (by decide), hok.2⟩ (by rw [← HK1.out]; omega))
        have HVV := Lib.hid (show volE ((Fr.if1 x, g) :: K) none ≤ D from by
          have := HV.out; unfold volE at this ⊢; rw [all_if0]; rw [List.length_cons] at this ⊢; exact this)
        clear h hv ht hR hk1 hok hW2 hsz hb2 hB2 hr2 hk2
        go_enter Tryz.func213, Tryz.ntmps213
        go_wp2_with fail
        rw [← HW2.out]
        refine HWT.out.mono ?_
        rintro e w4 ⟨rfl, h4, hb4⟩
        rw [← all_if0] at h4
        have HF := Lib.hid (StP.mk_ (K := (Fr.if1 x, g) :: K) (c := none) (b := false) HR.out rfl h4 (HB2.out.trans hb4) HVV.out)
        clear h4 hb4
        go_wp2
        go_ret
        exact HF.out
      · have hxd : X.data.toList ≠ [116, 104, 101, 110] := fun e => hx (ba_eq e)
        have m1 : ([116, 104, 101, 110] == X.toList) = false := beq_eq_false_iff_ne.2 (fun e => hxd (by rw [← Lib.toList_data, ← e]))
        have HR := Lib.hid (show R = (80, .if0 :: K.map (·.1), some x) from hR.trans (by simp [wrdR, wrd, hxd]))
        have HF := Lib.hid (show StP B r w D R (.returned (.int .i64 80)) w from by
          rw [HR.out]; exact ⟨rfl, _, nv, lv, _, rfl, HH.out, Below.refl _ _, HV.out⟩)
        clear h hv ht hR HR hk1 hx hxd hok
        go_enter Tryz.func213, Tryz.ntmps213
        go_wp2
        go_ret
        exact HF.out
    | if1 a =>
      have hw0 : w.cell? ⟨g, 1, none⟩ = some (.string ⟨#[101, 108, 115, 101]⟩) := hok.1.at_ 1
      have hgl := hok.1.lt
      replace q0 : w.cell? ⟨gw, k1 * 2, none⟩ = some (.int .u8 22) := q0
      replace q1 : w.cell? ⟨gw, k1 * 2 + 1, none⟩ = some (.slice (some ⟨g, 1, none⟩) 2 2) := q1
      by_cases hx : X = ⟨#[101, 108, 115, 101]⟩
      · subst hx
        have HR := Lib.hid (show R = (0, .if2 a x :: K.map (·.1), none) from hR)
        obtain ⟨W2, hW2⟩ : ∃ W2, W2 = (w.setCell ⟨r, 2, none⟩ (.slice (some ⟨gw, 0, none⟩) k1 cw)).alloc (.cells #[.int .u8 (22 : Int), .slice (some ⟨g, 1, none⟩) 2 2] 294) := ⟨_, rfl⟩
        have hsz : (w.setCell ⟨r, 2, none⟩ (.slice (some ⟨gw, 0, none⟩) k1 cw)).heap.size = w.heap.size := by simp [World.setCell]
        have hb2 : Below (w.setCell ⟨r, 2, none⟩ (.slice (some ⟨gw, 0, none⟩) k1 cw)).heap.size (w.setCell ⟨r, 2, none⟩ (.slice (some ⟨gw, 0, none⟩) k1 cw)) W2 := by rw [hW2]; exact (Below.refl _ _).alloc (Nat.le_refl _) _
        have hB2 : Below B w W2 := ((Below.refl B w).setCell (p := ⟨r, 2, none⟩) HH.out.row.base _).trans (hb2.mono (by rw [hsz]; exact HBB.out))
        have hr2 := HPOP.out.below hb2
        have hk2 : Kt [254] w W2 := (Kt.set (p := ⟨r, 2, none⟩) HH.out.row.blk (by simp) _).trans (Kt.of_below hb2)
        have HW2 := Lib.hid hW2
        have HB2 := Lib.hid hB2
        have HWT := Lib.hid (wait_any B r W2 K _ _ true nv lv _ hr2 (.if2 a x) g ⟨hk2.blk hok.1 (by decide), hok.2⟩ (by rw [← HK1.out]; omega))
        have HVV := Lib.hid (show volE ((Fr.if2 a x, g) :: K) none ≤ D from by
          have := HV.out; unfold volE at this ⊢; rw [all_if1]; rw [List.length_cons] at this ⊢; exact this)
        clear h hv ht hR hk1 hok hW2 hsz hb2 hB2 hr2 hk2
        go_enter Tryz.func213, Tryz.ntmps213
        go_wp2_with fail
        rw [← HW2.out]
        refine HWT.out.mono ?_
        rintro e w4 ⟨rfl, h4, hb4⟩
        rw [← all_if1] at h4
        have HF := Lib.hid (StP.mk_ (K := (Fr.if2 a x, g) :: K) (c := none) (b := false) HR.out rfl h4 (HB2.out.trans hb4) HVV.out)
        clear h4 hb4
        go_wp2
        go_ret
        exact HF.out
      · have hxd : X.data.toList ≠ [101, 108, 115, 101] := fun e => hx (ba_eq e)
        have m1 : ([101, 108, 115, 101] == X.toList) = false := beq_eq_false_iff_ne.2 (fun e => hxd (by rw [← Lib.toList_data, ← e]))
        have HR := Lib.hid (show R = (80, .if1 a :: K.map (·.1), some x) from hR.trans (by simp [wrdR, wrd, hxd]))
        have HF := Lib.hid (show StP B r w D R (.returned (.int .i64 80)) w from by
          rw [HR.out]; exact ⟨rfl, _, nv, lv, _, rfl, HH.out, Below.refl _ _, HV.out⟩)
        clear h hv ht hR HR hk1 hx hxd hok
        go_enter Tryz.func213, Tryz.ntmps213
        go_wp2
        go_ret
        exact HF.out
    | if2 a b =>
      have hw0 : w.cell? ⟨g, 2, none⟩ = some (.string ⟨#[101, 110, 100, 105, 102]⟩) := hok.1.at_ 2
      have hgl := hok.1.lt
      replace q0 : w.cell? ⟨gw, k1 * 2, none⟩ = some (.int .u8 22) := q0
      replace q1 : w.cell? ⟨gw, k1 * 2 + 1, none⟩ = some (.slice (some ⟨g, 2, none⟩) 1 1) := q1
      by_cases hx : X = ⟨#[101, 110, 100, 105, 102]⟩
      · subst hx
        have HR := Lib.hid (show R = (0, K.map (·.1), some (.ite a b x)) from hR)
        obtain ⟨W2, hW2⟩ : ∃ W2, W2 = (w.setCell ⟨r, 2, none⟩ (.slice (some ⟨gw, 0, none⟩) k1 cw)).alloc (.cells #[.int .u8 (22 : Int), .slice (some ⟨g, 2, none⟩) 1 1] 294) := ⟨_, rfl⟩
        have hsz : (w.setCell ⟨r, 2, none⟩ (.slice (some ⟨gw, 0, none⟩) k1 cw)).heap.size = w.heap.size := by simp [World.setCell]
        have hb2 : Below (w.setCell ⟨r, 2, none⟩ (.slice (some ⟨gw, 0, none⟩) k1 cw)).heap.size (w.setCell ⟨r, 2, none⟩ (.slice (some ⟨gw, 0, none⟩) k1 cw)) W2 := by rw [hW2]; exact (Below.refl _ _).alloc (Nat.le_refl _) _
        have hB2 : Below B w W2 := ((Below.refl B w).setCell (p := ⟨r, 2, none⟩) HH.out.row.base _).trans (hb2.mono (by rw [hsz]; exact HBB.out))
        have hr2 := HPOP.out.below hb2
        have hk2 : Kt [254] w W2 := (Kt.set (p := ⟨r, 2, none⟩) HH.out.row.blk (by simp) _).trans (Kt.of_below hb2)
        have HW2 := Lib.hid hW2
        have HB2 := Lib.hid hB2
        have hbx : IsBlk W2 w.heap.size 294 #[.int .u8 (22 : Int), .slice (some ⟨g, 2, none⟩) 1 1] := by rw [hW2, ← hsz]; exact IsBlk.new _ _ _
        obtain ⟨e1, e2⟩ := all_if2 g K a b x
        rw [e1] at hr2
        have hvol : szs (trs (K.map (·.1)) ++ [a, b, x]) + K.length + 1 ≤ D := by have h1 := HV.out; unfold volE at h1; rw [e1, List.length_cons] at h1; omega
        have HRC := red_call (HT.out.on hB2) (Cmb.ite a b x) hr2 hD (by omega : szs (trs (K.map (·.1)) ++ [a, b, x]) ≤ D)
        have HLA := Lib.hid HRC.1
        have x0 : W2.cell? ⟨w.heap.size, 0, none⟩ = some (.int .u8 (22 : Int)) := hbx.at_ 0
        have HL3 := Lib.hid (fun w3 A3 c3 hp3 (hb3 : Below W2.heap.size W2 w3) => And.intro (HRC.2 w3 A3 c3 hp3 hb3) (And.intro hb3 (show w3.cell? ⟨w.heap.size, 0, none⟩ = some (.int .u8 (22 : Int)) from (hbx.below hb3 hbx.lt).at_ 0)))
        have HL4 := Lib.hid (fun w3 w4 nv4 lv4 (hb3 : Below W2.heap.size W2 w3) (hr4 : RdM B r w4 K (flats (trs (K.map (·.1)) ++ [.ite a b x]) 0) (loo (trs (K.map (·.1)) ++ [.ite a b x]) 0) true nv4 lv4 (.slice (some ⟨gw, 0, none⟩) k1 cw)) (hk4 : Kt LRow w3 w4) (hb4 : Below B w3 w4) => (show StP B r w D R (.returned (.int .i64 0)) w4 ∧ w4.cell? ⟨w.heap.size, 0, none⟩ = some (.int .u8 (22 : Int)) from by
          refine ⟨StP.mk_ (K := K) (c := some (.ite a b x)) (b := true) HR.out rfl ⟨nv4, lv4, _, by rw [RdE, e2]; exact hr4⟩ ((hB2.trans (hb3.mono (Nat.le_trans hr2.row.base (Nat.le_of_lt hr2.row.blk.lt)))).trans hb4) ?_, (hk4.blk (hbx.below hb3 hbx.lt) (by decide)).at_ 0⟩
          unfold volE
          rw [e2]
          have h1 : szs (trs (K.map (·.1)) ++ [.ite a b x]) = szs (trs (K.map (·.1)) ++ [a, b, x]) + 1 := by
            have e1 := congrArg List.length (comb (Cmb.ite a b x) (trs (K.map (·.1)))).1
            rw [flats_len, List.length_append, flats_len] at e1
            exact e1
          omega))
        clear h hv ht hR hk1 hok hW2 hsz hb2 hB2 hr2 hk2 hbx HRC hvol e1 e2
        go_enter Tryz.func213, Tryz.ntmps213
        go_wp2_with fail
        rw [← HW2.out]
        go_region_held3 (fun w' => w'.cell? ⟨w.heap.size, 0, none⟩ = some (.int .u8 (22 : Int))) (first | exact x0 | exact HQ3.out.2.2 | exact HQ4.out.2) (first | (go_at_call 142; refine (HLA.out _ (by first | exact below_drewN (Below.refl _ _) _ | exact Below.refl _ _)).mono ?_; rintro e w3 ⟨A3, c3, rfl, hp3, hb3⟩; have HQ3 := Lib.hid (HL3.out w3 A3 c3 hp3 (by first | exact (below_drewN (Below.refl _ _) _).trans hb3 | exact hb3)); clear hp3 hb3) | (go_at_call 141; refine (HQ3.out.1).mono ?_; rintro e w4 ⟨rfl, nv4, lv4, hr4, hk4, hb4⟩; have HQ4 := Lib.hid (HL4.out w3 w4 nv4 lv4 HQ3.out.2.1 hr4 hk4 hb4); clear hr4 hk4 hb4))
        have HF := Lib.hid HQ4.out.1
        clear HQ3 HQ4 HLA HL3 HL4 x0
        go_wp2
        go_ret
        exact HF.out
      · have hxd : X.data.toList ≠ [101, 110, 100, 105, 102] := fun e => hx (ba_eq e)
        have m1 : ([101, 110, 100, 105, 102] == X.toList) = false := beq_eq_false_iff_ne.2 (fun e => hxd (by rw [← Lib.toList_data, ← e]))
        have HR := Lib.hid (show R = (80, .if2 a b :: K.map (·.1), some x) from hR.trans (by simp [wrdR, wrd, hxd]))
        have HF := Lib.hid (show StP B r w D R (.returned (.int .i64 80)) w from by
          rw [HR.out]; exact ⟨rfl, _, nv, lv, _, rfl, HH.out, Below.refl _ _, HV.out⟩)
        clear h hv ht hR HR hk1 hx hxd hok
        go_enter Tryz.func213, Tryz.ntmps213
        go_wp2
        go_ret
        exact HF.out
end Go.Proofs.YtmmdigeciphglaaGreatDoor
namespace Go.Proofs.YtmmdigeciphglaaGreatDoor
open Go.RowKit Ex
theorem ok_of {K' : List (Fr × Nat)} {S : List Fr} (h : K'.map (·.1) = S) (hs : ∀ f ∈ S, okf f) : ∀ f ∈ K', okf f.1 := fun _ hf => hs _ (h ▸ List.mem_map_of_mem hf)
theorem all_bin (op : Nat) (K : List (Fr × Nat)) (x : E) : all ((.bin op x, 0) :: K) none = all K (some x) := by unfold all; simp [trs, cur]
set_option maxHeartbeats 4000000 in
set_option maxRecDepth 100000 in
theorem behind_any (B r : Nat) (w : World) (T : TxO B w) (K : List (Fr × Nat)) (x : E) (nv lv wv : Value) (h : RdE B r w K (some x) true nv lv wv) (hok : ∀ f ∈ K, okf f.1) (D : Nat) (hD : D ≤ 900000) (hv : volE K (some x) ≤ D) (k : Int) (X : ByteArray) (p : Int) :
    Calls Tryz.prog 197 #[.pointer (some ⟨r, 0, none⟩), .agg #[.int .u8 k, .string X, .int .i64 p]] w (StP B r w (D + 1) (beh (K.map (·.1)) x (k, X.data.toList))) := by
  have hB : B ≤ w.heap.size := Nat.le_trans h.row.base (Nat.le_of_lt h.row.blk.lt)
  obtain ⟨W1, hW1⟩ : ∃ W1, W1 = w.alloc (.cells #[.int .u8 k, .string X, .int .i64 p] 143) := ⟨_, rfl⟩
  have hb1 : Below w.heap.size w W1 := by rw [hW1]; exact (Below.refl _ _).alloc (Nat.le_refl _) _
  have hk1 : IsBlk W1 w.heap.size 143 #[.int .u8 k, .string X, .int .i64 p] := by rw [hW1]; exact IsBlk.new _ _ _
  have x1 : W1.cell? ⟨w.heap.size, 1, none⟩ = some (.string X) := hk1.at_ 1
  have h1 : RdE B r W1 K (some x) true nv lv wv := RdM.below h hb1
  have HB1 := Lib.hid (hb1.mono hB)
  have HW1 := Lib.hid hW1
  have T1 := T.on (hb1.mono hB)
  have HIN := Lib.hid (infix_any X W1 T1.here.fm)
  have HST := Lib.hid (fun n => settle_any B r W1 T1 K x true nv lv wv h1 n D hD hv hok)
  have HOK := Lib.hid (show ∀ f ∈ K.map (·.1), okf f from fun f hf => by obtain ⟨q, hq, rfl⟩ := List.mem_map.1 hf; exact hok q hq)
  have HT1 := Lib.hid T1
  obtain ⟨R, hR⟩ : ∃ R, R = beh (K.map (·.1)) x (k, X.data.toList) := ⟨_, rfl⟩
  rw [← hR]
  have HR0 := Lib.hid hR
  rw [hW1] at x1
  have HK1 := Lib.hid hk1
  obtain ⟨op, hop⟩ : ∃ op, op = infx X.data.toList := ⟨_, rfl⟩
  rw [← hop] at HIN
  have HOP := Lib.hid hop
  clear hW1 hb1 hk1 h1 h T hv hR hB T1 hok hop
  by_cases h0 : op = 0
  · have HRR := Lib.hid (show R = wrdR (Ex.settle 0 (K.map (·.1)) x).1 (Ex.settle 0 (K.map (·.1)) x).2 X.data.toList from by
      rw [HR0.out]
      unfold beh
      rw [if_neg (by rw [← HOP.out]; simp [h0])]
      unfold wrdR
      cases wrd (Ex.settle 0 (K.map (·.1)) x).1 (Ex.settle 0 (K.map (·.1)) x).2 X.data.toList with
      | none => rfl
      | some q => rfl)
    have HS0 := Lib.hid (HST.out 0)
    have HTOP := Lib.hid (settle_top 0 (K.map (·.1)) x)
    have hz : ((op : Int) != 0) = false := by simp [h0]
    clear h0
    generalize Ex.settle 0 (K.map (·.1)) x = S at *
    go_enter Tryz.func197, Tryz.ntmps197
    go_wp2_with fail
    rw [← HW1.out]
    refine HIN.out.mono ?_
    rintro e w0 ⟨rfl, hw0⟩
    obtain rfl := hw0
    have x1' : W1.cell? ⟨w.heap.size, 1, none⟩ = some (.string X) := HK1.out.at_ 1
    clear x1
    go_wp2_with fail
    refine HS0.out.mono ?_
    rintro e w2 ⟨rfl, K', nv2, lv2, wv2, hm, hr2, hb2, hv2, hk2⟩
    have hwd := word_any B r w2 (HT1.out.on hb2) K' S.2 nv2 lv2 wv2 hr2 D hD hv2 (by rw [hm]; exact HTOP.out) X
    rw [hm, ← HRR.out] at hwd
    have HWD := Lib.hid hwd
    have y1 : w2.cell? ⟨w.heap.size, 1, none⟩ = some (.string X) := (hk2.blk HK1.out (by decide)).at_ 1
    have HB2 := Lib.hid (HB1.out.trans hb2)
    clear hm hr2 hb2 hv2 hk2 hwd x1'
    go_wp2_with fail
    refine HWD.out.mono ?_
    rintro e w3 ⟨he, K3, nv3, lv3, wv3, h1, h2, h3, h4⟩
    have HF := Lib.hid (show StP B r w (D + 1) R (.returned (.int .i64 R.1)) w3 from ⟨rfl, K3, nv3, lv3, wv3, h1, h2, HB2.out.trans h3, by omega⟩)
    clear h1 h2 h3 h4
    subst he
    go_wp2
    go_ret
    exact HF.out
  · have hi := HOP.out
    have hne : infx X.data.toList ≠ 0 := by rw [← hi]; exact h0
    obtain ⟨i1, i2, _⟩ := infx_of hne
    rw [← hi] at i1 i2
    have HRR := Lib.hid (show R = (0, .bin op (Ex.settle (lvl op) (K.map (·.1)) x).2 :: (Ex.settle (lvl op) (K.map (·.1)) x).1, none) from by
      rw [HR0.out]
      unfold beh
      rw [if_pos hne]
      simp only [← hi])
    have HS0 := Lib.hid (HST.out (lvl op))
    have hz : ((op : Int) != 0) = true := by simpa using h0
    have hop' : (op : Int) < 23 := by omega
    have t1 := (HT1.out.here.fm op (by omega)).2.1
    rw [show fL op = lvl op from if_neg h0] at t1
    have HI12 := Lib.hid (And.intro i1 i2)
    clear h0 hi hne i1 i2
    generalize Ex.settle (lvl op) (K.map (·.1)) x = S at *
    go_enter Tryz.func197, Tryz.ntmps197
    go_wp2_with fail
    rw [← HW1.out]
    refine HIN.out.mono ?_
    rintro e w0 ⟨rfl, hw0⟩
    obtain rfl := hw0
    clear x1
    go_wp2_with fail
    refine HS0.out.mono ?_
    rintro e w2 ⟨rfl, K', nv2, lv2, wv2, hm, hr2, hb2, hv2, _⟩
    have HWD := Lib.hid (waitE_any hr2 hD hv2 (f := .bin op S.2) (g := 0) True.intro (all_bin op K' S.2))
    have HR := Lib.hid (show R = (0, (((Fr.bin op S.2, 0) :: K' : List (Fr × Nat)).map (·.1)), none) from by rw [HRR.out, List.map_cons, hm])
    have HB2 := Lib.hid (HB1.out.trans hb2)
    clear hm hr2 hb2 hv2 t1
    go_wp2_with fail
    refine HWD.out.mono ?_
    rintro e w3 ⟨rfl, h3, hb3, hv3⟩
    have HF := Lib.hid (StP.mk_ (b := false) HR.out rfl h3 (HB2.out.trans hb3) hv3)
    clear h3 hb3 hv3
    go_wp2
    go_ret
    exact HF.out
end Go.Proofs.YtmmdigeciphglaaGreatDoor
