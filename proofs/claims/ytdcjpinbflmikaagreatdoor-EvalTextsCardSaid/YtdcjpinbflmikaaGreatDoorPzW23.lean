/- Facts and walks for the statement. -/
import Derived.Test.YtdcjpinbflmikaaGreatDoorPzW21
import Derived.Test.YtdcjpinbflmikaaGreatDoorPzW22
import Derived.Test.YtdcjpinbflmikaaGreatDoorPzW04
import Derived.Test.YtdcjpinbflmikaaGreatDoorCards
import Derived.Test.YtdcjpinbflmikaaGreatDoorTie
import Derived.Test.YtdcjpinbflmikaaGreatDoorPzW14
import Derived.Handed
import Derived.Shelf.Vars
import Derived.ProofKit
import Derived.OpenShut
import Derived.Lay
import Derived.Lib.LaidU8
import Derived.SevenTiedAt
import Derived.Stop.LaidErr
import Derived.Deep.Slices
import Derived.ChangeSame
import Derived.ReadAgain
namespace Go.Proofs.YtdcjpinbflmikaaGreatDoor
open Go.RowKit Ex
def wkS : List ByteArray := [⟨#[55, 32, 100, 105, 118, 32, 50, 32, 45, 32, 120]⟩, ⟨#[49, 32, 60, 32, 50, 32, 97, 110, 100, 32, 120, 32, 61, 32, 53]⟩, ⟨#[102, 97, 108, 115, 101, 32, 97, 110, 100, 32, 121]⟩, ⟨#[116, 114, 117, 101, 32, 111, 114, 32, 49, 32, 100, 105, 118, 32, 48, 32, 61, 32, 49]⟩, ⟨#[49, 32, 100, 105, 118, 32, 48]⟩, ⟨#[49, 32, 43, 32, 116, 114, 117, 101]⟩, ⟨#[121]⟩, ⟨#[105, 102, 32, 116, 114, 117, 101, 32, 116, 104, 101, 110, 32, 49, 32, 101, 108, 115, 101, 32, 102, 97, 108, 115, 101, 32, 101, 110, 100, 105, 102]⟩]
def wkV : List Ev.Vl := [⟨1, -2, false⟩, ⟨2, 0, true⟩, ⟨2, 0, false⟩, ⟨2, 0, true⟩, ⟨0, 0, false⟩, ⟨0, 0, false⟩, ⟨0, 0, false⟩, ⟨1, 1, false⟩]
def wkE : List Int := [0, 0, 0, 0, 61, 90, 90, 0]
def wkB : List Ev.Bd := [([120], 5)]
structure WkI (i : Nat) (s : ByteArray) (x : E) (v : Ev.Vl) (e : Int) : Prop where
  hs : wkS[i]? = some s
  hv : wkV[i]? = some v
  he : wkE[i]? = some e
  hp : prse s.data.toList = (flat x 0, 0, 0)
  hm : small x
  ho : resZ (Ev.wo wkB x) = (v, e)
  hz : s.size ≤ 100
theorem wk_i {i : Nat} (h : i < 8) : ∃ s x v e, WkI i s x v e := by
  match i, h with
  | 0, _ => exact ⟨_, .bin 11 (.bin 8 (.num 7) (.num 2)) (.name [120]), _, _, rfl, rfl, rfl, by kernel_rfl, by simp [small], by kernel_rfl, by decide⟩
  | 1, _ => exact ⟨_, .bin 18 (.bin 12 (.num 1) (.num 2)) (.bin 16 (.name [120]) (.num 5)), _, _, rfl, rfl, rfl, by kernel_rfl, by simp [small], by kernel_rfl, by decide⟩
  | 2, _ => exact ⟨_, .bin 18 .ff (.name [121]), _, _, rfl, rfl, rfl, by kernel_rfl, by simp [small], by kernel_rfl, by decide⟩
  | 3, _ => exact ⟨_, .bin 19 .tt (.bin 16 (.bin 8 (.num 1) (.num 0)) (.num 1)), _, _, rfl, rfl, rfl, by kernel_rfl, by simp [small], by kernel_rfl, by decide⟩
  | 4, _ => exact ⟨_, .bin 8 (.num 1) (.num 0), _, _, rfl, rfl, rfl, by kernel_rfl, by simp [small], by kernel_rfl, by decide⟩
  | 5, _ => exact ⟨_, .bin 10 (.num 1) .tt, _, _, rfl, rfl, rfl, by kernel_rfl, by simp [small], by kernel_rfl, by decide⟩
  | 6, _ => exact ⟨_, .name [121], _, _, rfl, rfl, rfl, by kernel_rfl, by simp [small], by kernel_rfl, by decide⟩
  | 7, _ => exact ⟨_, .ite .tt (.num 1) .ff, _, _, rfl, rfl, rfl, by kernel_rfl, by simp [small], by kernel_rfl, by decide⟩
theorem wkB_fit : FitB wkB := ⟨by decide, fun q hq => by rw [List.mem_singleton.1 hq]; exact ⟨by decide, by decide⟩⟩
def vlC (v : Ev.Vl) : List Value := [.int .u8 (v.k : Nat), .int .i64 v.n, .bool v.b]
structure WkW (w w0 : World) : Prop where
  below : Below w.heap.size w w0
  b0 : IsBlk w0 w.heap.size 143 #[.string ⟨#[120]⟩, .int .i64 5]
  b1 : IsBlk w0 (w.heap.size + 1) 9 (wkS.map Value.string).toArray
  b2 : IsBlk w0 (w.heap.size + 2) 67 (wkV.flatMap vlC).toArray
  b3 : IsBlk w0 (w.heap.size + 3) 24 (wkE.map (Value.int .i64)).toArray
theorem WkW.on {w w0 w1 : World} (h : WkW w w0) (hb : Below w0.heap.size w0 w1) : WkW w w1 :=
  ⟨h.below.trans (hb.mono h.below.size), h.b0.below hb h.b0.lt, h.b1.below hb h.b1.lt, h.b2.below hb h.b2.lt, h.b3.below hb h.b3.lt⟩
theorem WkW.new (w : World) : WkW w ((((w.alloc (.cells #[.string ⟨#[120]⟩, .int .i64 5] 143)).alloc (.cells (wkS.map Value.string).toArray 9)).alloc (.cells (wkV.flatMap vlC).toArray 67)).alloc (.cells (wkE.map (Value.int .i64)).toArray 24)) := by
  have a1 : ∀ (v : World) (o : Obj), Below v.heap.size v (v.alloc o) := fun v o => (Below.refl _ _).alloc (Nat.le_refl _) _
  have s1 : ∀ (v : World) (o : Obj), (v.alloc o).heap.size = v.heap.size + 1 := fun v o => by simp
  obtain ⟨V1, hV1⟩ : ∃ V, V = w.alloc (.cells #[.string ⟨#[120]⟩, .int .i64 5] 143) := ⟨_, rfl⟩
  obtain ⟨V2, hV2⟩ : ∃ V, V = V1.alloc (.cells (wkS.map Value.string).toArray 9) := ⟨_, rfl⟩
  obtain ⟨V3, hV3⟩ : ∃ V, V = V2.alloc (.cells (wkV.flatMap vlC).toArray 67) := ⟨_, rfl⟩
  obtain ⟨V4, hV4⟩ : ∃ V, V = V3.alloc (.cells (wkE.map (Value.int .i64)).toArray 24) := ⟨_, rfl⟩
  rw [← hV1, ← hV2, ← hV3, ← hV4]
  have z1 : V1.heap.size = w.heap.size + 1 := by rw [hV1, s1]
  have z2 : V2.heap.size = w.heap.size + 2 := by rw [hV2, s1, z1]
  have z3 : V3.heap.size = w.heap.size + 3 := by rw [hV3, s1, z2]
  have c1 : Below w.heap.size w V1 := by rw [hV1]; exact a1 _ _
  have c2 : Below V1.heap.size V1 V2 := by rw [hV2]; exact a1 _ _
  have c3 : Below V2.heap.size V2 V3 := by rw [hV3]; exact a1 _ _
  have c4 : Below V3.heap.size V3 V4 := by rw [hV4]; exact a1 _ _
  have k1 : IsBlk V1 w.heap.size 143 #[.string ⟨#[120]⟩, .int .i64 5] := by rw [hV1]; exact IsBlk.new _ _ _
  have k2 : IsBlk V2 (w.heap.size + 1) 9 (wkS.map Value.string).toArray := by rw [hV2, ← z1]; exact IsBlk.new _ _ _
  have k3 : IsBlk V3 (w.heap.size + 2) 67 (wkV.flatMap vlC).toArray := by rw [hV3, ← z2]; exact IsBlk.new _ _ _
  have k4 : IsBlk V4 (w.heap.size + 3) 24 (wkE.map (Value.int .i64)).toArray := by rw [hV4, ← z3]; exact IsBlk.new _ _ _
  have k11 := (k1.below c2 k1.lt)
  have k12 := (k11.below c3 k11.lt)
  have k21 := (k2.below c3 k2.lt)
  exact ⟨c1.trans ((c2.trans ((c3.trans (c4.mono c3.size)).mono c2.size)).mono c1.size), k12.below c4 k12.lt, k21.below c4 k21.lt, k3.below c4 k3.lt, k4⟩
theorem wk_bd {w w0 : World} (h : WkW w w0) : BdR w0 w0.heap.size (some ⟨w.heap.size, 0, none⟩) wkB := fun j hj => by
  obtain rfl : j = 0 := by
    have : j < 1 := hj
    omega
  exact ⟨w.heap.size, 0, rfl, h.b0.lt, h.b0.at_ 0, h.b0.at_ 1⟩
set_option maxHeartbeats 4000000 in
set_option maxRecDepth 100000 in
theorem evworks_any (w : World) (T : Tx w) :
    Calls Tryz.prog 35 #[] w fun e w' => e = .returned (.bool true) ∧ Below w.heap.size w w' := by
  have HW := Lib.hid (WkW.new w)
  have HT := Lib.hid (fun v (h : WkW w v) => T.below h.below)
  clear T
  go_enter Tryz.func35, Tryz.ntmps35
  go_wp2
  go_loopw [5] (fun iv wr => ∃ i : Nat, iv = .int .i64 i ∧ i ≤ 8 ∧ Hid (WkW w wr)) (fun iv _ => 8 - (intOf iv).toNat)
  case atStart => exact ⟨0, rfl, by decide, HW⟩
  case round =>
    obtain ⟨i, rfl, hi, HI⟩ := hrel
    by_cases hi8 : i < 8
    · have hiI : (i : Int) < 8 := by omega
      obtain ⟨S, x, v, er, hk⟩ := wk_i hi8
      obtain ⟨x', e1, hwr, -, hdp, hft, -⟩ := short_facts (Nat.le_trans hk.hz (by decide)) (by rw [hk.hp])
      have e2 : x = x' := flat_inj _ _ _ (Prod.mk.inj (hk.hp.symm.trans e1)).1
      subst e2
      have HP := Lib.hid (parse_val S hk.hp (Nat.le_trans hk.hz (by decide)) wr (HT.out _ HI.out))
      have HEV := Lib.hid (fun v1 (h : WkW w v1) A c (hr : NdR v1 v1.heap.size A (flat x 0)) (hc : (flat x 0).length ≤ c) => eval_any v1 (HT.out _ h) A c (flat x 0) hr hc hft.1 (some ⟨w.heap.size, 0, none⟩) 1 wkB (wk_bd h) (Nat.le_refl _) wkB_fit (v, er) (Or.inr ⟨chk_flat hwr hdp, x, hwr, hdp, hk.hm, rfl, hk.ho.symm⟩))
      have c1 := HI.out.b1.at_ i
      have HC := Lib.hid (fun v1 (h : WkW w v1) => (show v1.cell? ⟨w.heap.size + 2, i * 3, none⟩ = some (.int .u8 (v.k : Nat)) ∧ v1.cell? ⟨w.heap.size + 2, i * 3 + 1, none⟩ = some (.int .i64 v.n) ∧ v1.cell? ⟨w.heap.size + 2, i * 3 + 2, none⟩ = some (.bool v.b) ∧ v1.cell? ⟨w.heap.size + 3, i, none⟩ = some (.int .i64 er) from by
        obtain ⟨hv8, hv⟩ := List.getElem?_eq_some_iff.1 hk.hv
        have q := fun (k : Nat) (u : Value) (hk : k < 3) (hu : (vlC wkV[i])[k]? = some u) => (fl_at (f := vlC) (k := 3) (fun _ => rfl) wkV i k hv8 hk).trans hu
        rw [h.b2.at_, h.b2.at_, h.b2.at_, h.b3.at_, List.getElem?_toArray, List.getElem?_toArray, List.getElem?_toArray, List.getElem?_toArray, List.getElem?_map, hk.he]
        have q0 := q 0 _ (by omega) rfl
        rw [Nat.add_zero] at q0
        rw [q0, q 1 _ (by omega) rfl, q 2 _ (by omega) rfl, hv]
        exact ⟨rfl, rfl, rfl, rfl⟩))
      rw [List.getElem?_toArray, List.getElem?_map, hk.hs] at c1
      simp only [Option.map_some] at c1
      have HI8 := Lib.hid hi8
      generalize flat x 0 = L at *
      obtain ⟨vk, vn, vb⟩ := v
      unfold outZ vlA at HEV
      simp only at HEV HC
      clear hk e1 hwr hdp hft hi8
      go_wp2_with fail
      refine HP.out.mono ?_
      rintro e w1 ⟨A, c, row, cap, rfl, hb⟩
      simp only at row cap
      obtain ⟨V, hV⟩ : ∃ V, V = w1.alloc (.cells #[.slice A L.length c] 29) := ⟨_, rfl⟩
      have hv := hb.alloc hb.size (.cells #[.slice A L.length c] 29)
      rw [← hV] at hv
      have xb : Xb V w1.heap.size A c L := by rw [hV]; exact Xb.new row cap
      have k0 := xb.at_
      have I1 := Lib.hid (HI.out.on hv)
      have HE1 := Lib.hid (HEV.out V I1.out A c xb.row cap)
      have HV := Lib.hid hV
      rw [hV] at k0
      clear hV hv xb row cap hb HEV HP
      go_wp2_with fail
      rw [← HV.out]
      refine HE1.out.mono ?_
      rintro e w2 ⟨rfl, hb⟩
      have I2 := Lib.hid (I1.out.on (hb.alloc hb.size (.cells #[.int .u8 (vk : Nat), .int .i64 vn, .bool vb] 67)))
      obtain ⟨y0, y1, y2, y3⟩ := HC.out _ I2.out
      have ze : (er != er) = false := by simp [bne]
      clear hb HE1 HC
      have i8 : (i : Int) ≤ 8 := by omega
      go_wp2_with fail
      go_quiet (fail)
      go_wp2
      go_roundw
      case rel => exact ⟨i + 1, by go_num, HI8.out, Lib.hid (I2.out.on (below_drewN (Below.refl _ _) _))⟩
      case measure => have := HI8.out; simp [intOf]; omega
    · obtain rfl : i = 8 := by omega
      have HB := Lib.hid HI.out.below
      clear hi8
      go_wp2
      go_ret
      exact ⟨rfl, HB.out⟩
end Go.Proofs.YtdcjpinbflmikaaGreatDoor
namespace Go.Proofs.YtdcjpinbflmikaaGreatDoor
open Go.RowKit Ex
def FewV (l : List Nd) (bs : List Ev.Bd) : Prop := (l.length ≤ 200 ∧ bs.length ≤ 20) ∧ (∀ n ∈ l, n.nm.length ≤ 70) ∧ ∀ q ∈ bs, q.1.length ≤ 70
instance (l : List Nd) (bs : List Ev.Bd) : Decidable (FewV l bs) := inferInstanceAs (Decidable (_ ∧ _))
set_option maxHeartbeats 4000000 in
set_option maxRecDepth 100000 in
theorem fewv_any (w : World) (A : Option Addr) (c : Nat) (l : List Nd) (hl : NdR w w.heap.size A l) (hc : l.length ≤ c) (hn : l.length ≤ 9223372036854775807) (A2 : Option Addr) (c2 : Nat) (bs : List Ev.Bd) (hs : BdR w w.heap.size A2 bs) (hc2 : bs.length ≤ c2) (hn2 : bs.length ≤ 9223372036854775807) :
    Calls Tryz.prog 34 #[.agg #[.slice A l.length c], .slice A2 bs.length c2] w fun e w' => e = .returned (.bool (decide (FewV l bs))) ∧ Below w.heap.size w w' := by
  obtain ⟨R, hR⟩ : ∃ R, R = decide (FewV l bs) := ⟨_, rfl⟩
  rw [← hR]
  obtain ⟨W0, hW0⟩ : ∃ W0, W0 = w.alloc (.cells #[.slice A l.length c] 29) := ⟨_, rfl⟩
  have hb0 : Below w.heap.size w W0 := by rw [hW0]; exact (Below.refl _ _).alloc (Nat.le_refl _) _
  have X0 := Lib.hid (show Xb W0 w.heap.size A c l by rw [hW0]; exact Xb.new hl hc)
  have HB0 := Lib.hid hb0
  have HS0 := Lib.hid (hs.on hb0)
  have k0 := X0.out.at_
  have HW0 := Lib.hid hW0
  obtain ⟨n, hnl⟩ : ∃ n, n = l.length := ⟨_, rfl⟩
  obtain ⟨m, hml⟩ : ∃ m, m = bs.length := ⟨_, rfl⟩
  rw [← hnl] at hW0 hc hn ⊢
  rw [← hnl] at HW0 k0
  rw [← hml] at hc2 hn2 ⊢
  have HN := Lib.hid (And.intro hnl hml)
  have hc' : (n : Int) ≤ (c : Int) := by omega
  have hc2' : (m : Int) ≤ (c2 : Int) := by omega
  have HR := Lib.hid hR
  rw [HW0.out] at k0
  clear hR hW0 hb0 hl hnl hs hml
  by_cases hbig : n > 200
  · have hbig' : (n : Int) > 200 := by omega
    have HF := Lib.hid (show R = false from by rw [HR.out]; exact decide_eq_false (fun h => by have := h.1.1; rw [← HN.out.1] at this; omega))
    go_enter Tryz.func34, Tryz.ntmps34
    go_wp2
    go_ret
    rw [← HW0.out]
    exact ⟨by rw [HF.out]; rfl, HB0.out⟩
  · have hbig' : ¬ (n : Int) > 200 := by omega
    by_cases hbg2 : m > 20
    · have hbg2' : (m : Int) > 20 := by omega
      have HF := Lib.hid (show R = false from by rw [HR.out]; exact decide_eq_false (fun h => by have := h.1.2; rw [← HN.out.2] at this; omega))
      go_enter Tryz.func34, Tryz.ntmps34
      go_wp2
      go_ret
      rw [← HW0.out]
      exact ⟨by rw [HF.out]; rfl, HB0.out⟩
    · have hbg2' : ¬ (m : Int) > 20 := by omega
      have hn60 : n ≤ 200 := by omega
      have hm20 : m ≤ 20 := by omega
      go_enter Tryz.func34, Tryz.ntmps34
      go_wp2
      rw [← HW0.out]
      clear k0
      go_loopw [5] (fun iv wr => ∃ i : Nat, iv = .int .i64 i ∧ i ≤ n ∧ Hid (Below W0.heap.size W0 wr ∧ ∀ q ∈ l.take i, q.nm.length ≤ 70)) (fun iv _ => n - (intOf iv).toNat)
      case atStart => exact ⟨0, rfl, Nat.zero_le _, Lib.hid ⟨Below.refl _ _, by simp⟩⟩
      case round =>
        obtain ⟨i, rfl, hi, HI⟩ := hrel
        have XI := Lib.hid (X0.out.below HI.out.1)
        have k0 := XI.out.at_
        rw [← HN.out.1] at k0
        by_cases hik : i < n
        · have hik' : (i : Int) < (n : Int) := by omega
          have hil : i < l.length := by rw [← HN.out.1]; exact hik
          obtain ⟨g, o, hA, hg, p0, p1, p2, p3, p4, p5⟩ := XI.out.row i hil
          subst hA
          have HNE := Lib.hid (show 70 < l[i].nm.length → R = false from fun h => by
            rw [HR.out]; exact decide_eq_false (fun e => by have := e.2.1 _ (List.getElem_mem hil); omega))
          have HEQ := Lib.hid (show l[i].nm.length ≤ 70 → ∀ q ∈ l.take (i + 1), q.nm.length ≤ 70 from fun h q hq => by
            rw [List.take_succ_eq_append_getElem hil] at hq
            rcases List.mem_append.1 hq with hq | hq
            · exact HI.out.2 q hq
            · rw [List.mem_singleton.1 hq]; exact h)
          have HIK := Lib.hid hik
          generalize l[i].nm = nm at *
          clear hik hil p0 p1 p3 p4 p5
          obtain ⟨N, hN⟩ : ∃ N : ByteArray, N = ⟨nm.toArray⟩ := ⟨_, rfl⟩
          rw [← hN] at p2
          have hNs : N.size = nm.length := by rw [hN]; simp [ByteArray.size]
          rw [← hNs] at HNE HEQ
          clear hN hNs
          by_cases e0 : 70 < N.size
          · have e0' : (N.size : Int) > 70 := by omega
            have HD0 := Lib.hid (HNE.out e0)
            clear HNE HEQ e0
            go_wp2
            go_ret
            exact ⟨by rw [HD0.out]; rfl, HB0.out.trans (HI.out.1.mono HB0.out.size)⟩
          · have e0' : ¬ (N.size : Int) > 70 := by omega
            have HE := Lib.hid (HEQ.out (by omega))
            clear HNE HEQ e0
            go_wp2
            go_roundw
            case rel => exact ⟨i + 1, by go_num, HIK.out, Lib.hid ⟨HI.out.1, HE.out⟩⟩
            case measure => have := HIK.out; simp [intOf]; omega
        · obtain rfl : i = n := by omega
          have hik' : ¬ ((i : Nat) : Int) < (i : Int) := by omega
          have HNS := Lib.hid (show ∀ q ∈ l, q.nm.length ≤ 70 from by
            have h3 := HI.out.2
            rw [List.take_of_length_le (by rw [← HN.out.1]; exact Nat.le_refl _)] at h3
            exact h3)
          have HBA := Lib.hid HI.out.1
          clear hik HI XI
          go_wp2
          generalize wr = wa at *
          clear k0
          go_loopw [6] (fun iv wr => ∃ k : Nat, iv = .int .i64 k ∧ k ≤ m ∧ Hid (Below wa.heap.size wa wr ∧ ∀ q ∈ bs.take k, q.1.length ≤ 70)) (fun iv _ => m - (intOf iv).toNat)
          case atStart => exact ⟨0, rfl, Nat.zero_le _, Lib.hid ⟨Below.refl _ _, by simp⟩⟩
          case round =>
            obtain ⟨k, rfl, hk, HJ⟩ := hrel
            have HB2 := Lib.hid (HBA.out.trans (HJ.out.1.mono HBA.out.size))
            by_cases hkk : k < m
            · have hkk' : (k : Int) < (m : Int) := by omega
              have hkl : k < bs.length := by rw [← HN.out.2]; exact hkk
              obtain ⟨g, o, hA, hg, p2, -⟩ := (HS0.out.on HB2.out) k hkl
              subst hA
              have HNE := Lib.hid (show 70 < bs[k].1.length → R = false from fun h => by
                rw [HR.out]; exact decide_eq_false (fun e => by have := e.2.2 _ (List.getElem_mem hkl); omega))
              have HEQ := Lib.hid (show bs[k].1.length ≤ 70 → ∀ q ∈ bs.take (k + 1), q.1.length ≤ 70 from fun h q hq => by
                rw [List.take_succ_eq_append_getElem hkl] at hq
                rcases List.mem_append.1 hq with hq | hq
                · exact HJ.out.2 q hq
                · rw [List.mem_singleton.1 hq]; exact h)
              have HIK := Lib.hid hkk
              generalize bs[k].1 = nm at *
              clear hkk hkl
              obtain ⟨N, hN⟩ : ∃ N : ByteArray, N = ⟨nm.toArray⟩ := ⟨_, rfl⟩
              rw [← hN] at p2
              have hNs : N.size = nm.length := by rw [hN]; simp [ByteArray.size]
              rw [← hNs] at HNE HEQ
              clear hN hNs
              by_cases e0 : 70 < N.size
              · have e0' : (N.size : Int) > 70 := by omega
                have HD0 := Lib.hid (HNE.out e0)
                clear HNE HEQ e0
                go_wp2
                go_ret
                exact ⟨by rw [HD0.out]; rfl, HB0.out.trans (HB2.out.mono HB0.out.size)⟩
              · have e0' : ¬ (N.size : Int) > 70 := by omega
                have HE := Lib.hid (HEQ.out (by omega))
                clear HNE HEQ e0
                go_wp2
                go_roundw
                case rel => exact ⟨k + 1, by go_num, HIK.out, Lib.hid ⟨HJ.out.1, HE.out⟩⟩
                case measure => have := HIK.out; simp [intOf]; omega
            · obtain rfl : k = m := by omega
              have hkk' : ¬ ((k : Nat) : Int) < (k : Int) := by omega
              have HE := Lib.hid (show R = true from by
                have h3 := HJ.out.2
                rw [List.take_of_length_le (by rw [← HN.out.2]; exact Nat.le_refl _)] at h3
                rw [HR.out]; exact decide_eq_true ⟨⟨by rw [← HN.out.1]; exact hn60, by rw [← HN.out.2]; exact hm20⟩, HNS.out, h3⟩)
              clear hkk
              go_wp2
              go_ret
              exact ⟨by rw [HE.out]; rfl, HB0.out.trans (HB2.out.mono HB0.out.size)⟩
end Go.Proofs.YtdcjpinbflmikaaGreatDoor
namespace Go.Proofs.YtdcjpinbflmikaaGreatDoor
open Go.RowKit Go.Shelf Go.Lib
open Go.ChangeShapes Go.WideShapes Go.ChangeAt
set_option maxRecDepth 100000
def laidAllOf : List (String × DataW Unit) := [("math/bits.deBruijn32tab", Rows.laid_math_bits_deBruijn32tab), ("math/bits.deBruijn64tab", Rows.laid_math_bits_deBruijn64tab), ("internal/strconv.uint64pow10", Rows.laid_internal_strconv_uint64pow10), ("unicode/utf8.acceptRanges", Rows.laid_unicode_utf8_acceptRanges), ("strconv.ErrRange", Rows.laid_strconv_ErrRange), ("strconv.ErrSyntax", Rows.laid_strconv_ErrSyntax), ("hopscotch/lex.signs", Rows.laid_hopscotch_lex_signs), ("hopscotch/expr.forms", Rows.laid_hopscotch_expr_forms), ("unicode/utf8.first", Rows.laid_unicode_utf8_first)]
theorem pow_eq : (Rows.laid_internal_strconv_uint64pow10 : DataW Unit) = tabData .u64 pow10Tab := by kernel_rfl
theorem yPow : (Tryz.prog.globals[5]?).map (·.type) = some 326 := by kernel_rfl
theorem gER : Tryz.prog.globalNamed "strconv.ErrRange" = some 3 := by kernel_rfl
theorem yER : (Tryz.prog.globals[3]?).map (·.type) = some 237 := by kernel_rfl
theorem cES : Tryz.prog.cellsOf 363 = 1 := by kernel_rfl
theorem cStr : Tryz.prog.cellsOf 9 = 1 := by kernel_rfl
theorem starES : "*" ++ "errors.errorString" = "*errors.errorString" := by decide
theorem rowES (u : TypeId) (h : Tryz.prog.typeName? 3 u = some "*errors.errorString") : u = 361 :=
  typeName_ptr_named (nm := "errors.errorString") (by rw [starES]; kernel_rfl) (by kernel_rfl) (by decide) u (by rw [starES]; exact h)
theorem tb_of {W : World} (hL : laidMet Tryz.prog laidAllOf W) : Tb W := by
  constructor
  · obtain ⟨a0, _, hv0, -, -, -⟩ := laid_sentinel (laidMet.tail (laidMet.tail (laidMet.tail (laidMet.tail hL)))) gER yER Tryz.underlying237 rowES Tryz.underlying361 Tryz.underlying363 rfl rfl Tryz.underlying9 cES cStr
    exact ⟨_, by have h0 := World.var?_cell gER hv0 0; simpa using h0⟩
  · have h := (laidMet.tail (laidMet.tail hL))
    rw [pow_eq] at h
    exact tabIs_of_head gPow yPow Tryz.underlying326 Tryz.underlying309 (by kernel_rfl) (by kernel_rfl) h
theorem own : ownKnob Tryz.prog.godebug = none := by kernel_rfl
theorem signs_eq : (Rows.laid_hopscotch_lex_signs : DataW Unit) = .agg (sgB.map fun x => .lit (.string x.data.toList)) := by kernel_rfl
theorem gSigns : Tryz.prog.globalNamed "hopscotch/lex.signs" = some 2 := by kernel_rfl
theorem ySigns : (Tryz.prog.globals[2]?).map (·.type) = some 278 := by kernel_rfl
theorem ba_of {a b : ByteArray} (h : a.data.toList = b.data.toList) : a = b := by
  cases a with | mk x => cases b with | mk y => simpa using h
theorem sg_of {W : World} (hL : laidMet Tryz.prog laidAllOf W) : Sg W := by
  have h : VarReads Tryz.prog W "hopscotch/lex.signs" Rows.laid_hopscotch_lex_signs := laidMet.reads hL (.tail _ (.tail _ (.tail _ (.tail _ (.tail _ (.tail _ (.head _)))))))
  obtain ⟨g, t, cs, fuel, p, hg, hty, hvar, hd⟩ := h
  obtain rfl := Option.some.inj (gSigns.symm.trans hg)
  obtain rfl := Option.some.inj (ySigns.symm.trans hty)
  rw [signs_eq] at hd
  intro j hj
  obtain ⟨fuel', d, q, hdi, he⟩ := array_elem Tryz.underlying278 hd j hj
  rw [List.getElem?_map, List.getElem?_eq_getElem hj] at hdi
  simp only [Option.map_some, Option.some.injEq] at hdi
  subst hdi
  rw [cStr] at he
  obtain ⟨s, hs, hx, _⟩ := DataW.trod_string Tryz.underlying9 he
  have hx1 := congrArg Prod.fst hx
  simp only [DataW.lit.injEq, Lit.string.injEq] at hx1
  have hsv : s = sgB[j] := ba_of hx1.symm
  have e0 := congrArg (·[0]?) hs
  simp only [List.getElem?_take, List.getElem?_drop] at e0
  rw [World.var?_cell gSigns hvar j, ← Array.getElem?_toList, ← hsv]
  simpa using e0
theorem forms_eq : (Rows.laid_hopscotch_expr_forms : DataW Unit) = .agg ((List.range 23).map fun op => .agg [.lit (.string (fW op)), .lit (.int .u8 (fL op : Nat)), .lit (.int .i64 (fP op : Nat))]) := by kernel_rfl
theorem gForms : Tryz.prog.globalNamed "hopscotch/expr.forms" = some 0 := by kernel_rfl
theorem yForms : (Tryz.prog.globals[0]?).map (·.type) = some 163 := by kernel_rfl
theorem cForm : Tryz.prog.cellsOf 162 = 3 := by kernel_rfl
theorem fm_of {W : World} (hL : laidMet Tryz.prog laidAllOf W) : Fm W := by
  have h : VarReads Tryz.prog W "hopscotch/expr.forms" Rows.laid_hopscotch_expr_forms := laidMet.reads hL (.tail _ (.tail _ (.tail _ (.tail _ (.tail _ (.tail _ (.tail _ (.head _))))))))
  obtain ⟨g, t, cs, fuel, p, hg, hty, hvar, hd⟩ := h
  obtain rfl := Option.some.inj (gForms.symm.trans hg)
  obtain rfl := Option.some.inj (yForms.symm.trans hty)
  rw [forms_eq] at hd
  intro op hop
  obtain ⟨fuel', d, q, hdi, he⟩ := array_elem Tryz.underlying163 hd op hop
  rw [List.getElem?_map, List.getElem?_range hop] at hdi
  simp only [Option.map_some, Option.some.injEq] at hdi
  subst hdi
  rw [cForm] at he
  obtain ⟨xs, n', _, hxe, _, hxl, hg3⟩ := DataW.trod_struct Tryz.underlying162 he
  have hx3 : xs.length = 3 := hxl
  have hm := (Prod.mk.inj hxe).1
  simp only [DataW.agg.injEq] at hm
  have m := fun (j : Nat) => congrArg (fun (l : List (DataW Unit)) => l[j]?) hm
  have t0 : DataW.trod _ Tryz.prog W _ _ _ n' 9 (List.take (Tryz.prog.cellsOf 9) (List.drop 0 _)) = some (xs[0]'(by omega)) := (hg3 0 _ rfl).trans (List.getElem?_eq_getElem (by omega))
  have t1 : DataW.trod _ Tryz.prog W _ _ _ n' 5 (List.take (Tryz.prog.cellsOf 5) (List.drop 1 _)) = some (xs[1]'(by omega)) := (hg3 1 _ rfl).trans (List.getElem?_eq_getElem (by omega))
  have t2 : DataW.trod _ Tryz.prog W _ _ _ n' 3 (List.take (Tryz.prog.cellsOf 3) (List.drop 2 _)) = some (xs[2]'(by omega)) := (hg3 2 _ rfl).trans (List.getElem?_eq_getElem (by omega))
  simp only [show Tryz.prog.cellsOf 5 = 1 by kernel_rfl, show Tryz.prog.cellsOf 9 = 1 by kernel_rfl, show Tryz.prog.cellsOf 3 = 1 by kernel_rfl] at t0 t1 t2
  obtain ⟨s, e0, d0, _⟩ := DataW.trod_string Tryz.underlying9 t0
  obtain ⟨a, e1, d1, _⟩ := DataW.trod_int Tryz.underlying5 t1
  obtain ⟨b, e2, d2, _⟩ := DataW.trod_int Tryz.underlying3 t2
  have m0 := m 0
  have m1 := m 1
  have m2 := m 2
  simp only [List.getElem?_map, List.getElem?_eq_getElem (show 0 < xs.length by omega), List.getElem?_eq_getElem (show 1 < xs.length by omega), List.getElem?_eq_getElem (show 2 < xs.length by omega), Option.map_some, d0, d1, d2, List.getElem?_cons_zero, List.getElem?_cons_succ, Option.some.injEq, DataW.lit.injEq, Lit.string.injEq, Lit.int.injEq, true_and] at m0 m1 m2
  have q0 := congrArg (·[0]?) e0
  have q1 := congrArg (·[0]?) e1
  have q2 := congrArg (·[0]?) e2
  simp only [List.getElem?_take, List.getElem?_drop] at q0 q1 q2
  have hs : s = ⟨(fW op).toArray⟩ := ba_of (by rw [← m0])
  rw [World.var?_cell gForms hvar, World.var?_cell gForms hvar, World.var?_cell gForms hvar, ← Array.getElem?_toList, ← Array.getElem?_toList, ← Array.getElem?_toList, m1, m2, ← hs]
  exact ⟨by simpa using q0, by simpa using q1, by simpa using q2⟩
theorem tx_of {W : World} (hL : laidMet Tryz.prog laidAllOf W) : Tx W := ⟨sg_of hL, tb_of hL, fm_of hL⟩
end Go.Proofs.YtdcjpinbflmikaaGreatDoor
namespace Go.Proofs.YtdcjpinbflmikaaGreatDoor
open Go.RowKit Go.Shelf Go.Lib
open Go.ChangeShapes Go.WideShapes Go.ChangeAt
set_option maxRecDepth 100000
theorem cell_plain {w : World} {a : Addr} {v : Value} (h : w.cell? a = some v) : a = ⟨a.block, a.off, none⟩ ∧ a.block < w.heap.size := by
  obtain ⟨g, o, sp⟩ := a
  unfold World.cell? at h
  split at h
  · rename_i hh
    split at h
    · cases h
    · rename_i hs
      refine ⟨?_, (Array.getElem?_eq_some_iff.1 hh).1⟩
      cases sp with
      | none => rfl
      | some _ => exact absurd rfl hs
  · cases h
theorem add_plain (g o n : Nat) : (⟨g, o, none⟩ : Addr).add n = ⟨g, o + n, none⟩ := by
  unfold Addr.add
  split
  · rename_i h; subst h; rfl
  · rfl
section
variable {H : Type} {enc : TypeId × Value → H} {W : World}
theorem nodes_of {fuel : Nat} {cs : List Value} {x : DataW H × List MemPlace} (h : DataW.trod enc Tryz.prog W 0 (fun _ => true) true fuel 27 cs = some x) :
    ∃ A c l, cs = [.slice A l.length c] ∧ NdR W W.heap.size A l ∧ l.length ≤ c ∧ c ≤ maxLen ∧ Okn l := by
  rcases Deep.open_slice Tryz.underlying27 h with ⟨hc, _⟩ | ⟨a, len, cap, m, n, D, Pl, hcs, _, hl, hm, hmm, _, hi⟩
  · exact ⟨none, 0, [], hc, fun j hj => absurd hj (by simp), Nat.le_refl _, by decide, fun n hn => by cases hn⟩
  · have hi2 : ∀ i : Fin len, ∃ x : Ex.Nd, (W.cell? (a.add (i.1 * 6)) = some (.int .u8 x.op) ∧ W.cell? (a.add (i.1 * 6 + 1)) = some (.int .i64 x.num) ∧ W.cell? (a.add (i.1 * 6 + 2)) = some (.string ⟨x.nm.toArray⟩) ∧ W.cell? (a.add (i.1 * 6 + 3)) = some (.int .i64 x.a) ∧ W.cell? (a.add (i.1 * 6 + 4)) = some (.int .i64 x.b) ∧ W.cell? (a.add (i.1 * 6 + 5)) = some (.int .i64 x.c)) ∧ 0 ≤ x.op ∧ x.num ≤ 9223372036854775807 := fun i => by
      obtain ⟨cs', hce, ht'⟩ := hi i.1 (by rw [hmm]; simp; have := i.2; omega)
      have h5 : Tryz.prog.cellsOf 34 = 6 := by kernel_rfl
      obtain ⟨_, hcl, hat⟩ := World.cells?_some hce
      obtain ⟨xs, n', _, _, _, hxl, hg⟩ := DataW.trod_struct Tryz.underlying34 ht'
      rw [h5] at hcl hat
      have hx5 : xs.length = 6 := hxl
      match cs', hcl with
      | [v0, v1, v2, v3, v4, v5], _ =>
        have t0 : DataW.trod enc Tryz.prog W 0 (fun _ => true) true n' 5 (List.take (Tryz.prog.cellsOf 5) (List.drop 0 [v0, v1, v2, v3, v4, v5])) = some (xs[0]'(by omega)) := (hg 0 _ rfl).trans (List.getElem?_eq_getElem (by omega))
        have t1 : DataW.trod enc Tryz.prog W 0 (fun _ => true) true n' 2 (List.take (Tryz.prog.cellsOf 2) (List.drop 1 [v0, v1, v2, v3, v4, v5])) = some (xs[1]'(by omega)) := (hg 1 _ rfl).trans (List.getElem?_eq_getElem (by omega))
        have t2 : DataW.trod enc Tryz.prog W 0 (fun _ => true) true n' 9 (List.take (Tryz.prog.cellsOf 9) (List.drop 2 [v0, v1, v2, v3, v4, v5])) = some (xs[2]'(by omega)) := (hg 2 _ rfl).trans (List.getElem?_eq_getElem (by omega))
        have t3 : DataW.trod enc Tryz.prog W 0 (fun _ => true) true n' 3 (List.take (Tryz.prog.cellsOf 3) (List.drop 3 [v0, v1, v2, v3, v4, v5])) = some (xs[3]'(by omega)) := (hg 3 _ rfl).trans (List.getElem?_eq_getElem (by omega))
        have t4 : DataW.trod enc Tryz.prog W 0 (fun _ => true) true n' 3 (List.take (Tryz.prog.cellsOf 3) (List.drop 4 [v0, v1, v2, v3, v4, v5])) = some (xs[4]'(by omega)) := (hg 4 _ rfl).trans (List.getElem?_eq_getElem (by omega))
        have t5 : DataW.trod enc Tryz.prog W 0 (fun _ => true) true n' 3 (List.take (Tryz.prog.cellsOf 3) (List.drop 5 [v0, v1, v2, v3, v4, v5])) = some (xs[5]'(by omega)) := (hg 5 _ rfl).trans (List.getElem?_eq_getElem (by omega))
        simp only [show Tryz.prog.cellsOf 5 = 1 by kernel_rfl, show Tryz.prog.cellsOf 2 = 1 by kernel_rfl, show Tryz.prog.cellsOf 9 = 1 by kernel_rfl, show Tryz.prog.cellsOf 3 = 1 by kernel_rfl, List.drop_zero, List.drop_succ_cons, List.take_succ_cons, List.take_zero] at t0 t1 t2 t3 t4 t5
        have c0 := hat 0 (by omega)
        have c1 := hat 1 (by omega)
        have c2 := hat 2 (by omega)
        have c3 := hat 3 (by omega)
        have c4 := hat 4 (by omega)
        have c5 := hat 5 (by omega)
        rw [Deep.add_add] at c0 c1 c2 c3 c4 c5
        obtain ⟨z0, e0, _, w0⟩ := DataW.trod_int Tryz.underlying5 t0
        obtain ⟨z1, e1, _, w1⟩ := DataW.trod_int Tryz.underlying2 t1
        obtain ⟨N, e2, _, _⟩ := DataW.trod_string Tryz.underlying9 t2
        obtain ⟨z3, e3, _, _⟩ := DataW.trod_int Tryz.underlying3 t3
        obtain ⟨z4, e4, _, _⟩ := DataW.trod_int Tryz.underlying3 t4
        obtain ⟨z5, e5, _, _⟩ := DataW.trod_int Tryz.underlying3 t5
        simp only [List.cons.injEq, and_true] at e0 e1 e2 e3 e4 e5
        subst e0 e1 e2 e3 e4 e5
        simp [Lit.wf, IntKind.min, IntKind.max, IntKind.signed, IntKind.bits] at w0 w1
        exact ⟨⟨z0, z1, N.data.toList, z3, z4, z5⟩, ⟨c0, c1, c2, c3, c4, c5⟩, w0.1, w1.2⟩
    obtain ⟨f, hf⟩ := Classical.skolem.1 hi2
    have hlen : (List.ofFn f).length = len := List.length_ofFn
    refine ⟨some a, cap, List.ofFn f, by rw [hlen]; exact hcs, fun k hk => ?_, by rw [hlen]; exact hl, hm, fun y hy => ?_⟩
    · have hk' : k < len := by rw [← hlen]; exact hk
      obtain ⟨ha, hb⟩ := cell_plain (hf ⟨0, by omega⟩).1.1
      have hz : a.add (0 * 6) = a := by unfold Addr.add; rw [if_pos (by omega)]
      rw [hz] at ha hb
      have h1 := (hf ⟨k, hk'⟩).1
      rw [ha, add_plain, add_plain, add_plain, add_plain, add_plain, add_plain] at h1
      rw [List.getElem_ofFn]
      exact ⟨a.block, a.off, by rw [← ha], hb, h1⟩
    · obtain ⟨i, rfl⟩ := List.mem_ofFn.1 hy
      exact (hf i).2
theorem expr_of {r : Reach} {b0 : Nat} {v : Value} {d : DataW H} {p : List MemPlace} (hv : Value.okWide Tryz.prog W r b0 29 v) (h : DataW.Trod enc Tryz.prog W 0 (fun _ => true) true 29 v d p) :
    ∃ A c l, v = .agg #[.slice A l.length c] ∧ NdR W W.heap.size A l ∧ l.length ≤ c ∧ l.length ≤ 9223372036854775807 ∧ Okn l := by
  obtain ⟨cs, rfl, hcs⟩ := okWide_struct Tryz.underlying29 hv
  obtain ⟨fuel, hf⟩ := h
  obtain ⟨xs, n', _, _, _, hxl, hg⟩ := DataW.trod_struct Tryz.underlying29 hf
  have hx1 : xs.length = 1 := hxl
  rw [show Tryz.prog.cellsOf 29 = 1 by kernel_rfl] at hcs
  have t0 := (hg 0 _ rfl).trans (List.getElem?_eq_getElem (by omega))
  obtain ⟨A, c, l, e, q1, q2, q3, q4⟩ := nodes_of t0
  refine ⟨A, c, l, ?_, q1, q2, by unfold maxLen at q3; omega, q4⟩
  obtain ⟨l⟩ := cs
  match l, hcs with
  | [u], _ =>
    change List.take (Tryz.prog.cellsOf 27) [u] = _ at e
    rw [show Tryz.prog.cellsOf 27 = 1 by kernel_rfl] at e
    simp only [List.take_succ_cons, List.take_zero, List.cons.injEq, and_true] at e
    rw [e]
theorem trod_again {W' : World} {t : TypeId} {v : Value} {d : DataW H} {p : List MemPlace} {sp : Nat → Bool} (h : DataW.Trod enc Tryz.prog W 0 (fun _ => true) true t v d p) (hb : Below W.heap.size W W') (ht : t < Tryz.prog.types.size) (hlt : ∀ q ∈ p, q.block < W.heap.size) (hsp : ∀ q ∈ p, sp q.block = true) :
    DataW.Trod enc Tryz.prog W' 0 sp true t v d p := by
  obtain ⟨n, hn⟩ := DataW.Trod.respare (kids_rows (by kernel_rfl) (by kernel_rfl)) (slices_full_of Tryz.prog (by kernel_rfl)) ht h hsp
  exact ⟨n, DataW.trod_carry n _ _ _ hn (fun q hq => hb.same (hlt q hq))⟩
end
end Go.Proofs.YtdcjpinbflmikaaGreatDoor
