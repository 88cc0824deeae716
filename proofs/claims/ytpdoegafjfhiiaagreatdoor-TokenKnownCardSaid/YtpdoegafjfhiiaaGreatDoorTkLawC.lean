/- The statement TokenCuts, walked: it answers true. Conditions: the tables hold what their texts lay; internal/bytealg.MaxLen holds a number; a text's length fits. -/
import Derived.Test.YtpdoegafjfhiiaaGreatDoorTkR9
import Derived.Test.YtpdoegafjfhiiaaGreatDoorTkLawJ
namespace Go.Proofs.YtpdoegafjfhiiaaGreatDoor
open Go.RowKit

theorem toks_few {L : List UInt8} (h : L.length ≤ 800 ∨ 65536 < L.length) : (Tk.toks L).1.length ≤ 800 ∧ ∀ t ∈ (Tk.toks L).1, (Tk.T.as t).length ≤ 100000 := by
  rcases h with h | h
  · obtain ⟨o, o2⟩ := Tk.toks_ord L
    by_cases e : (Tk.toks L).2.2 = 0
    · have ho := (o e).1
      refine ⟨by have := ord_len ho; omega, fun t ht => ?_⟩
      have := (ho.1 t ht).1.2.2.2.2.1
      omega
    · rw [(o2 e).1]
      exact ⟨by simp, fun t ht => by cases ht⟩
  · have : Tk.toks L = ([], 0, 3) := by unfold Tk.toks; rw [if_pos h]
    rw [this]
    exact ⟨by simp, fun t ht => by cases ht⟩
/-- A row of tokens that is written over from its beginning on: from token i on it is as it was. -/
structure CutS (wB wr : World) (v : Value) (ps : List (Tk.T × Value)) (i : Nat) : Prop where
  below : Below wB.heap.size wB wr
  row : ∃ xs, wr.ownsRow wB.heap.size 33 5 v ps.length xs ∧ ∀ j, i * 5 ≤ j → xs[j]? = (ps.flatMap tokV)[j]?
  att : ∀ (k : Nat) (hk : k < ps.length), i ≤ k → OwnT wB.heap.size wr ps[k].2 (Tk.T.as ps[k].1)
/-- The same with token i's attributes being written over. -/
structure CutT (wB wr : World) (v : Value) (ps : List (Tk.T × Value)) (i n : Nat) (av : Value) : Prop where
  below : Below wB.heap.size wB wr
  row : ∃ xs, wr.ownsRow wB.heap.size 33 5 v ps.length xs ∧ ∀ j, i * 5 ≤ j → xs[j]? = (ps.flatMap tokV)[j]?
  att : ∀ (k : Nat) (hk : k < ps.length), i + 1 ≤ k → OwnT wB.heap.size wr ps[k].2 (Tk.T.as ps[k].1)
  mine : ∃ ys, wr.ownsRow wB.heap.size 38 2 av n ys
theorem CutS.first {wB wr : World} {v : Value} {ps : List (Tk.T × Value)} (h : TokRow wB.heap.size wr v ps) (hb : Below wB.heap.size wB wr) : CutS wB wr v ps 0 :=
  ⟨hb, ⟨_, h.own, fun _ _ => rfl⟩, fun _ hk _ => h.att _ (List.getElem_mem hk)⟩
theorem CutS.on {wB wr w' : World} {v : Value} {ps : List (Tk.T × Value)} {i : Nat} (h : CutS wB wr v ps i) (hb : Below wr.heap.size wr w') : CutS wB w' v ps i := by
  obtain ⟨xs, h1, h2⟩ := h.row
  exact ⟨h.below.trans (hb.mono h.below.size), ⟨xs, own_below h1 hb, h2⟩, fun k hk hi => own_below (h.att k hk hi) hb⟩
theorem CutS.inner {wB wr : World} {v : Value} {ps : List (Tk.T × Value)} {i : Nat} (h : CutS wB wr v ps i) (hi : i < ps.length) : CutT wB wr v ps i (Tk.T.as ps[i].1).length ps[i].2 :=
  ⟨h.below, h.row, fun k hk _ => h.att k hk (by omega), ⟨_, h.att i hi (Nat.le_refl _)⟩⟩
theorem CutT.on {wB wr w' : World} {v : Value} {ps : List (Tk.T × Value)} {i n : Nat} {av : Value} (h : CutT wB wr v ps i n av) (hb : Below wr.heap.size wr w') : CutT wB w' v ps i n av := by
  obtain ⟨xs, h1, h2⟩ := h.row
  obtain ⟨ys, h3⟩ := h.mine
  exact ⟨h.below.trans (hb.mono h.below.size), ⟨xs, own_below h1 hb, h2⟩, fun k hk hi => own_below (h.att k hk hi) hb, ⟨ys, own_below h3 hb⟩⟩
theorem CutT.store {wB wr : World} {v : Value} {ps : List (Tk.T × Value)} {i n g cap : Nat} (h : CutT wB wr v ps i n (.slice (some ⟨g, 0, none⟩) n cap)) (hi : i < ps.length) (hav : ps[i].2 = .slice (some ⟨g, 0, none⟩) n cap)
    (hap : ps.Pairwise (fun x y => ∀ g h, x.2.ownBlock = some g → y.2.ownBlock = some h → g ≠ h)) (j : Nat) (u : Value) : CutT wB (wr.setCell ⟨g, j, none⟩ u) v ps i n (.slice (some ⟨g, 0, none⟩) n cap) := by
  obtain ⟨xs, h1, h2⟩ := h.row
  obtain ⟨ys, h3⟩ := h.mine
  have hg := h3.lt g rfl
  refine ⟨h.below.setCell (p := ⟨g, j, none⟩) hg.1 _, ⟨xs, h1.kept (grown_set wr g j u) ?_, h2⟩, fun k hk hik => World.ownsRow.kept (h.att k hk hik) (grown_set wr g j u) ?_, ⟨_, (h3.stored j u).1⟩⟩
  · rcases own_types h1 h3 (by decide) with e | e
    · exact Or.inl e
    · exact Or.inr e
  · cases hb : ps[k].2.ownBlock with
    | none => exact Or.inl rfl
    | some q => exact Or.inr (fun e => by
        injection e with e
        have := List.pairwise_iff_getElem.1 hap i k hi hk (by omega) g q (by rw [hav]; rfl) hb
        exact this e.symm)
theorem set_behind {xs ys : List Value} {m : Nat} (h : ∀ j, m ≤ j → xs[j]? = ys[j]?) {i : Nat} (u : Value) (hi : i < m) : ∀ j, m ≤ j → (xs.set i u)[j]? = ys[j]? := fun j hj => by
  rw [List.getElem?_set_ne (by omega)]; exact h j hj
theorem CutT.done {wB wr : World} {ps : List (Tk.T × Value)} {i n N g cap : Nat} {av : Value} (h : CutT wB wr (.slice (some ⟨g, 0, none⟩) N cap) ps i n av) (hN : N = ps.length) (a b c d e : Value) :
    CutS wB (((((wr.setCell ⟨g, i * 5, none⟩ a).setCell ⟨g, i * 5 + 1, none⟩ b).setCell ⟨g, i * 5 + 2, none⟩ c).setCell ⟨g, i * 5 + 3, none⟩ d).setCell ⟨g, i * 5 + 4, none⟩ e) (.slice (some ⟨g, 0, none⟩) N cap) ps (i + 1) := by
  subst hN
  obtain ⟨xs, h1, h2⟩ := h.row
  have hg := h1.lt g rfl
  refine ⟨((((h.below.setCell (p := ⟨g, _, none⟩) hg.1 _).setCell (p := ⟨g, _, none⟩) hg.1 _).setCell (p := ⟨g, _, none⟩) hg.1 _).setCell (p := ⟨g, _, none⟩) hg.1 _).setCell (p := ⟨g, _, none⟩) hg.1 _, ⟨_, (((((h1.stored (i * 5) a).1.stored (i * 5 + 1) b).1.stored (i * 5 + 2) c).1.stored (i * 5 + 3) d).1.stored (i * 5 + 4) e).1, ?_⟩, ?_⟩
  · exact set_behind (set_behind (set_behind (set_behind (set_behind (fun j hj => h2 j (by omega)) a (by omega)) b (by omega)) c (by omega)) d (by omega)) e (by omega)
  · intro k hk hik
    have hne := own_types (h.att k hk hik) h1 (by decide)
    exact World.ownsRow.kept (World.ownsRow.kept (World.ownsRow.kept (World.ownsRow.kept (World.ownsRow.kept (h.att k hk hik) (grown_set _ g _ _) hne) (grown_set _ g _ _) hne) (grown_set _ g _ _) hne) (grown_set _ g _ _) hne) (grown_set _ g _ _) hne
theorem reads2_own {w : World} {B : Nat} {A : Option Addr} {cap : Nat} {al : List (List UInt8 × List UInt8)} (h : OwnT B w (.slice A al.length cap) al) : Reads2 w w.heap.size A al := fun h0 => by
  obtain ⟨A3, c3, hv, hc, _⟩ := own_slice h
  injection hv with e1 _ _
  subst e1
  obtain ⟨g, rfl, hg, _, hcc⟩ := hc h0
  have hf := fun k hk j hj => flat_at (fun a : List UInt8 × List UInt8 => [Value.string ⟨a.1.toArray⟩, .string ⟨a.2.toArray⟩]) 2 (fun _ => rfl) al k j hk hj
  exact ⟨g, rfl, hg, fun k hk => ⟨hcc _ _ (hf k hk 0 (by omega)), hcc _ _ (hf k hk 1 (by omega))⟩⟩
theorem reads3_own {w : World} {B p : Nat} {A : Option Addr} {cap : Nat} {al : List Tk.A} (h : OwnR B p w (.slice A al.length cap) al) : Reads3 w w.heap.size A (al.map fun a => (a.nm, a.vl)) := fun h0 => by
  rw [List.length_map] at h0
  obtain ⟨A3, c3, hv, hc, _⟩ := own_slice h
  injection hv with e1 _ _
  subst e1
  obtain ⟨g, rfl, hg, _, hcc⟩ := hc h0
  have hf := fun k hk j hj => flat_at (fun a : Tk.A => [Value.string ⟨a.nm.toArray⟩, .string ⟨a.vl.toArray⟩, .int .i64 ((a.p + p : Nat) : Int)]) 3 (fun _ => rfl) al k j hk hj
  refine ⟨g, rfl, hg, fun k hk => ?_⟩
  rw [List.length_map] at hk
  simp only [List.getElem_map]
  exact ⟨hcc _ _ (hf k hk 0 (by omega)), hcc _ _ (hf k hk 1 (by omega))⟩
theorem rtok_at (ps : List RTok) (k j : Nat) (hk : k < ps.length) (hj : j < 5) : (ps.flatMap rtokV)[k * 5 + j]? = (rtokV ps[k])[j]? := flat_at rtokV 5 (fun _ => rfl) ps k j hk hj

set_option maxHeartbeats 8000000 in
set_option maxRecDepth 100000 in
theorem lawCuts (s : ByteArray) (w : World) (T : Tb w) (hmx : Mx w) (hs : s.size ≤ maxLen) :
    Calls Tryz.prog 3 #[.string s] w fun e w' => e = .returned (.bool true) ∧ Below w.heap.size w w' := by
  have hll : s.data.toList.length = s.size := (Lib.size_eq s).symm
  have HWK := Lib.hid (fun w0 (T0 : Tb w0) (M0 : Mx w0) => works_tk w0 T0 M0)
  have HT := Lib.hid (And.intro T hmx)
  by_cases h8 : 800 < s.size
  · have h8' : (s.size : Int) > 800 := by omega
    by_cases h6 : s.size ≤ 65536
    · have h6' : (s.size : Int) ≤ 65536 := by omega
      clear T hmx
      go_enter Tryz.func3, Tryz.ntmps3
      go_wp2_with fail
      refine (HWK.out _ (HT.out.1) (HT.out.2)).mono ?_
      rintro e w9 ⟨rfl, h9⟩
      have B9 := Lib.hid (((Below.refl w.heap.size w)).trans (h9.mono ((Below.refl w.heap.size w)).size))
      clear h9
      go_wp2
      go_ret
      exact ⟨rfl, B9.out⟩
    · have h6' : ¬ (s.size : Int) ≤ 65536 := by omega
      have HFEW := Lib.hid (toks_few (L := s.data.toList) (Or.inr (by omega)))
      have HRT := Lib.hid (fun w0 => rtokens_any s hs w0)
      have HTK := Lib.hid (fun w0 (T0 : Tb w0) (M0 : Mx w0) => tokens_any s hs w0 T0 M0)
      have HBL := Lib.hid (fun w0 => blank_any s hs w0)
      have HRB := Lib.hid (fun w0 => rBlank_any s w0 hs)
      generalize Tk.toks s.data.toList = R at *
      generalize Tk.allB s.data.toList = bb at *
      obtain ⟨ts, P, E⟩ := R
      simp only at HFEW
      clear T hmx hs
      go_enter Tryz.func3, Tryz.ntmps3
      go_wp2_with fail
      refine (HRT.out _).mono ?_
      rintro e w1 ⟨v2, qs, hmq, hrq, rfl, hb1⟩
      obtain ⟨A2, c2, hv2, _, _, hq2, hq3⟩ := own_slice hrq.own
      subst hv2
      have HT1 := Lib.hid (And.intro (HT.out.1.below hb1 (Nat.le_refl _)) (HT.out.2.below hb1))
      have B1 := Lib.hid hb1
      have HQ := Lib.hid (And.intro hmq hrq)
      have hqn : qs.length ≤ 800 := by rw [← List.length_map (f := RTok.t), HQ.out.1]; exact HFEW.out.1
      have hqn' : (qs.length : Int) ≤ 800 := by omega
      clear hmq hrq hb1
      go_wp2
      go_loopw [6] (fun t wr => ∃ k : Nat, k ≤ 2 ∧ t = .int .i64 k ∧ Hid (Below w1.heap.size w1 wr)) (fun t _ => 2 - (intOf t).toNat)
      case atStart => exact ⟨0, by omega, rfl, Lib.hid (Below.refl _ _)⟩
      case round =>
        obtain ⟨k, hk, rfl, HB⟩ := hrel
        by_cases hk2 : k < 2
        · have hk2' : (k : Int) < 2 := by omega
          obtain ⟨wB, hwB⟩ : ∃ wB, wB = wr := ⟨_, rfl⟩
          subst hwB
          have T2 := HT1.out.1.below HB.out (Nat.le_refl _)
          have M2 := HT1.out.2.below HB.out
          clear hk2
          go_wp2_with fail
          refine (HTK.out _ T2 M2).mono ?_
          rintro e w2 ⟨v, ps, hmp, hrp, rfl, hb2⟩
          have hlen : ps.length = qs.length := by rw [← List.length_map (f := (·.1)), hmp, ← HQ.out.1, List.length_map]
          obtain ⟨A, cap, hv, hvc, _, hc2, hc3⟩ := own_slice hrp.own
          rw [hlen] at hv hc2 hvc
          subst hv
          have HAP := Lib.hid hrp.apart
          have HS0 := Lib.hid (CutS.first hrp hb2)
          have HMP := Lib.hid (And.intro hmp hlen)
          clear hmp hrp hb2 hlen T2 M2 hvc
          go_wp2
          go_loopw [10] (fun i wr => ∃ j : Nat, j ≤ qs.length ∧ i = .int .i64 j ∧ Hid (CutS wB wr (.slice A qs.length cap) ps j)) (fun i _ => qs.length - (intOf i).toNat)
          case atStart => exact ⟨0, Nat.zero_le _, rfl, HS0⟩
          case round =>
            obtain ⟨j, hj, rfl, HI⟩ := hrel
            by_cases hlt : j < qs.length
            · have hjp : j < ps.length := by rw [HMP.out.2]; exact hlt
              obtain ⟨xs, hown, hxs⟩ := HI.out.row
              rw [HMP.out.2] at hown
              obtain ⟨g, cap', hA, hg1, hg2⟩ := hown.form (by omega)
              injection hA with hA _ hcc
              subst hA hcc
              have HRQ := HQ.out.2.below (HB.out.trans (HI.out.below.mono HB.out.size))
              obtain ⟨g2, cap2, hA2, _, hg4⟩ := HRQ.own.form (by omega)
              injection hA2 with hA2 _ hcc2
              subst hA2 hcc2
              have hat := HI.out.att j hjp (Nat.le_refl _)
              have hrt := HRQ.att qs[j] (List.getElem_mem hlt)
              have hsy := HRQ.says qs[j] (List.getElem_mem hlt)
              have hsame : ps[j].1 = qs[j].t := by
                have h1 : (ps.map (·.1))[j]? = (qs.map RTok.t)[j]? := by rw [HMP.out.1, HQ.out.1]
                rw [List.getElem?_map, List.getElem?_map, List.getElem?_eq_getElem hjp, List.getElem?_eq_getElem hlt] at h1
                exact Option.some.inj h1
              have a0 := own_cell hown ((hxs _ (by omega)).trans (tok_at ps j 0 hjp (by omega)))
              have a1 := own_cell hown ((hxs _ (by omega)).trans (tok_at ps j 1 hjp (by omega)))
              have a2 := own_cell hown ((hxs _ (by omega)).trans (tok_at ps j 2 hjp (by omega)))
              have a3 := own_cell hown ((hxs _ (by omega)).trans (tok_at ps j 3 hjp (by omega)))
              have a4 := own_cell hown ((hxs _ (by omega)).trans (tok_at ps j 4 hjp (by omega)))
              have b0 := own_cell HRQ.own (rtok_at qs j 0 hlt (by omega))
              have b1 := own_cell HRQ.own (rtok_at qs j 1 hlt (by omega))
              have b2 := own_cell HRQ.own (rtok_at qs j 2 hlt (by omega))
              have b3 := own_cell HRQ.own (rtok_at qs j 3 hlt (by omega))
              have b4 := own_cell HRQ.own (rtok_at qs j 4 hlt (by omega))
              have hin := HI.out.inner hjp
              have hal := HFEW.out.2 ps[j].1 (by rw [← HMP.out.1]; exact List.mem_map_of_mem (List.getElem_mem hjp))
              obtain ⟨Aa, capa, hva, hvz, _, hla, hlb⟩ := own_slice hat
              have HVA := Lib.hid hva
              have HTIN := Lib.hid hin
              generalize hps : ps[j] = x at *
              generalize hqs : qs[j] = y at *
              obtain ⟨⟨K, nm, al, tx, P0⟩, av⟩ := x
              obtain ⟨t', bv, bp, bl⟩ := y
              simp only at hsame
              subst hsame
              simp only at hva hrt hsy hal hvz hla
              subst hva hsy
              obtain ⟨Ab, capb, hvb, _, _, _, _⟩ := own_slice hrt
              subst hvb
              have q2 := reads2_own hat
              have q3 := reads3_own hrt
              have HPS := Lib.hid hps
              obtain ⟨al, hal0⟩ : ∃ al, al = bl.map fun a => (a.nm, a.vl) := ⟨_, rfl⟩
              have hbl : bl.length = al.length := by rw [hal0, List.length_map]
              obtain ⟨N, hN⟩ : ∃ N : ByteArray, N = ⟨nm.toArray⟩ := ⟨_, rfl⟩
              obtain ⟨X, hX⟩ : ∃ X : ByteArray, X = ⟨tx.toArray⟩ := ⟨_, rfl⟩
              have a0' : wr.cell? ⟨g, j * 5, none⟩ = some (.int .u8 K) := a0
              have a1' : wr.cell? ⟨g, j * 5 + 1, none⟩ = some (.string N) := by rw [hN]; exact a1
              have a2' : wr.cell? ⟨g, j * 5 + 2, none⟩ = some (.slice Aa al.length capa) := by rw [hal0]; exact a2
              have a3' : wr.cell? ⟨g, j * 5 + 3, none⟩ = some (.string X) := by rw [hX]; exact a3
              have a4' : wr.cell? ⟨g, j * 5 + 4, none⟩ = some (.int .i64 (P0 : Int)) := a4
              have b0' : wr.cell? ⟨g2, j * 5, none⟩ = some (.int .u8 K) := b0
              have b1' : wr.cell? ⟨g2, j * 5 + 1, none⟩ = some (.string N) := by rw [hN]; exact b1
              have b2' : wr.cell? ⟨g2, j * 5 + 2, none⟩ = some (.slice Ab al.length capb) := by rw [← hbl]; exact b2
              have b3' : wr.cell? ⟨g2, j * 5 + 3, none⟩ = some (.string X) := by rw [hX]; exact b3
              have b4' : wr.cell? ⟨g2, j * 5 + 4, none⟩ = some (.int .i64 (P0 : Int)) := b4
              have HCT : Hid (CutT wB wr (.slice (some ⟨g, 0, none⟩) qs.length cap) ps j al.length (.slice Aa al.length capa)) := Lib.hid (by
                have h := hin
                simp only at h
                rw [hal0]
                exact h)
              rw [← hal0] at q2 q3 hal hla
              have HPQ := Lib.hid (show ps[j].2 = .slice Aa al.length capa by rw [hps, hal0])
              have HIS := Lib.hid (fun w0 (q2 : Reads2 w0 w0.heap.size Aa al) (q3 : Reads3 w0 w0.heap.size Ab al) => is_yes w0 K (P0 : Int) N X Aa Ab capa capb al (by omega) q2 q3)
              have hlt' : (j : Int) < (qs.length : Int) := by omega
              clear a0 a1 a2 a3 a4 b0 b1 b2 b3 b4 hN hX hat hrt hin hxs hown hqs HRQ hps hal0 hbl HVA HTIN
              go_wp2_with fail
              go_region_held3 (fun w' => w'.cell? ⟨g, j * 5, none⟩ = some (.int .u8 K) ∧ w'.cell? ⟨g, j * 5 + 1, none⟩ = some (.string N) ∧ w'.cell? ⟨g, j * 5 + 2, none⟩ = some (.slice Aa al.length capa) ∧ w'.cell? ⟨g, j * 5 + 3, none⟩ = some (.string X) ∧ w'.cell? ⟨g, j * 5 + 4, none⟩ = some (.int .i64 (P0 : Int)) ∧
                w'.cell? ⟨g2, j * 5, none⟩ = some (.int .u8 K) ∧ w'.cell? ⟨g2, j * 5 + 1, none⟩ = some (.string N) ∧ w'.cell? ⟨g2, j * 5 + 2, none⟩ = some (.slice Ab al.length capb) ∧ w'.cell? ⟨g2, j * 5 + 3, none⟩ = some (.string X) ∧ w'.cell? ⟨g2, j * 5 + 4, none⟩ = some (.int .i64 (P0 : Int)))
                (first | exact ⟨a0', a1', a2', a3', a4', b0', b1', b2', b3', b4'⟩ | exact ⟨(h3.cell (p := ⟨g, _, none⟩) hg2).trans a0', (h3.cell (p := ⟨g, _, none⟩) hg2).trans a1', (h3.cell (p := ⟨g, _, none⟩) hg2).trans a2', (h3.cell (p := ⟨g, _, none⟩) hg2).trans a3', (h3.cell (p := ⟨g, _, none⟩) hg2).trans a4', (h3.cell (p := ⟨g2, _, none⟩) hg4).trans b0', (h3.cell (p := ⟨g2, _, none⟩) hg4).trans b1', (h3.cell (p := ⟨g2, _, none⟩) hg4).trans b2', (h3.cell (p := ⟨g2, _, none⟩) hg4).trans b3', (h3.cell (p := ⟨g2, _, none⟩) hg4).trans b4'⟩)
                (first | (go_at_call 15; refine (HIS.out _ (by exact q2) (by exact q3)).mono ?_; rintro e w3 ⟨rfl, h3⟩))
              have HC0 := Lib.hid (HCT.out.on ((Below.refl wr.heap.size wr).drew.trans h3))
              clear h3 a0' a1' a2' a3' a4' b0' b1' b2' b3' b4' q2 q3
              go_wp2
              go_loopw [11] (fun m wr => ∃ i : Nat, i ≤ al.length ∧ m = .int .i64 i ∧ Hid (CutT wB wr (.slice (some ⟨g, 0, none⟩) qs.length cap) ps j al.length (.slice Aa al.length capa))) (fun m _ => al.length - (intOf m).toNat)
              case atStart => exact ⟨0, Nat.zero_le _, rfl, HC0⟩
              case round =>
                obtain ⟨i, hi, rfl, HJ⟩ := hrel
                obtain ⟨ys, hown2, hys⟩ := HJ.out.row
                rw [HMP.out.2] at hown2
                have c2 := own_cell hown2 ((hys _ (by omega)).trans (tok_at ps j 2 hjp (by omega)))
                have c2' : wr.cell? ⟨g, j * 5 + 2, none⟩ = some (.slice Aa al.length capa) := by rw [← HPQ.out]; exact c2
                by_cases hil : i < al.length
                · obtain ⟨zs, hz⟩ := HJ.out.mine
                  obtain ⟨ga, capa', hAa, hga1, hga2⟩ := hz.form (by omega)
                  injection hAa with hAa _ hcca
                  subst hAa hcca
                  have f0 := hz.frozenAt (i * 2)
                  have f1 := hz.frozenAt (i * 2 + 1)
                  have hzl := hz.1
                  have d0 := own_cell hz (List.getElem?_eq_getElem (show i * 2 < zs.length by omega))
                  have d1 := own_cell hz (List.getElem?_eq_getElem (show i * 2 + 1 < zs.length by omega))
                  generalize zs[i * 2] = u0 at *
                  generalize zs[i * 2 + 1] = u1 at *
                  have HN := Lib.hid ((HJ.out.store hjp HPQ.out HAP.out (i * 2) (.string ⟨#[]⟩)).store hjp HPQ.out HAP.out (i * 2 + 1) (.string ⟨#[]⟩))
                  have hil' : (i : Int) < (al.length : Int) := by omega
                  have hal' : (al.length : Int) ≤ 100000 := by omega
                  clear hz hown2 hys c2 hzl
                  go_wp2
                  go_roundw
                  case rel => exact ⟨i + 1, by omega, by go_num, HN⟩
                  case measure => simp [intOf]; omega
                · have f0 := hown2.frozenAt (j * 5)
                  have f1 := hown2.frozenAt (j * 5 + 1)
                  have f2 := hown2.frozenAt (j * 5 + 2)
                  have f3 := hown2.frozenAt (j * 5 + 3)
                  have f4 := hown2.frozenAt (j * 5 + 4)
                  have c0 := own_cell hown2 ((hys _ (by omega)).trans (tok_at ps j 0 hjp (by omega)))
                  have c1 := own_cell hown2 ((hys _ (by omega)).trans (tok_at ps j 1 hjp (by omega)))
                  have c3 := own_cell hown2 ((hys _ (by omega)).trans (tok_at ps j 3 hjp (by omega)))
                  have c4 := own_cell hown2 ((hys _ (by omega)).trans (tok_at ps j 4 hjp (by omega)))
                  have d0 : wr.cell? ⟨g, j * 5, none⟩ = some (.int .u8 ps[j].1.k) := c0
                  have d1 : wr.cell? ⟨g, j * 5 + 1, none⟩ = some (.string ⟨ps[j].1.nm.toArray⟩) := c1
                  have d3 : wr.cell? ⟨g, j * 5 + 3, none⟩ = some (.string ⟨ps[j].1.tx.toArray⟩) := c3
                  have d4 : wr.cell? ⟨g, j * 5 + 4, none⟩ = some (.int .i64 ps[j].1.p) := c4
                  have HN := Lib.hid (HJ.out.done HMP.out.2.symm (.int .u8 0) (.string ⟨#[]⟩) (.slice none 0 0) (.string ⟨#[]⟩) (.int .i64 0))
                  have hil' : ¬ (i : Int) < (al.length : Int) := by omega
                  clear hown2 hys c0 c1 c2 c3 c4
                  go_wp2
                  go_roundw
                  case rel => exact ⟨j + 1, by omega, by go_num, HN⟩
                  case measure => simp [intOf]; omega
            · have hlt' : ¬ (j : Int) < (qs.length : Int) := by omega
              have HN := Lib.hid (HB.out.trans (HI.out.below.mono HB.out.size))
              go_wp2
              go_roundw
              case rel => exact ⟨k + 1, by omega, by go_num, HN⟩
              case measure => simp [intOf]; omega
        · have hk2' : ¬ (k : Int) < 2 := by omega
          have HT3 := Lib.hid (And.intro (HT1.out.1.below HB.out (Nat.le_refl _)) (HT1.out.2.below HB.out))
          have B3 := Lib.hid (B1.out.trans (HB.out.mono B1.out.size))
          clear hk2
          go_wp2_with fail
          refine (HBL.out _).mono ?_
          rintro e w3 ⟨rfl, h3⟩
          have HT4 := Lib.hid (And.intro (HT3.out.1.below h3 (Nat.le_refl _)) (HT3.out.2.below h3))
          have B4 := Lib.hid (B3.out.trans (h3.mono B3.out.size))
          clear h3
          go_wp2_with fail
          refine (HRB.out _).mono ?_
          rintro e w4 ⟨rfl, rfl⟩
          go_wp2_with fail
          refine (HWK.out _ (HT4.out.1) (HT4.out.2)).mono ?_
          rintro e w9 ⟨rfl, h9⟩
          have B9 := Lib.hid ((B4.out).trans (h9.mono (B4.out).size))
          clear h9
          go_wp2
          go_ret
          exact ⟨rfl, B9.out⟩
  · have h8' : ¬ (s.size : Int) > 800 := by omega
    have HFEW := Lib.hid (toks_few (L := s.data.toList) (Or.inl (by omega)))
    have HRT := Lib.hid (fun w0 => rtokens_any s hs w0)
    have HTK := Lib.hid (fun w0 (T0 : Tb w0) (M0 : Mx w0) => tokens_any s hs w0 T0 M0)
    have HBL := Lib.hid (fun w0 => blank_any s hs w0)
    have HRB := Lib.hid (fun w0 => rBlank_any s w0 hs)
    generalize Tk.toks s.data.toList = R at *
    generalize Tk.allB s.data.toList = bb at *
    obtain ⟨ts, P, E⟩ := R
    simp only at HFEW
    clear T hmx hs
    go_enter Tryz.func3, Tryz.ntmps3
    go_wp2_with fail
    refine (HRT.out _).mono ?_
    rintro e w1 ⟨v2, qs, hmq, hrq, rfl, hb1⟩
    obtain ⟨A2, c2, hv2, _, _, hq2, hq3⟩ := own_slice hrq.own
    subst hv2
    have HT1 := Lib.hid (And.intro (HT.out.1.below hb1 (Nat.le_refl _)) (HT.out.2.below hb1))
    have B1 := Lib.hid hb1
    have HQ := Lib.hid (And.intro hmq hrq)
    have hqn : qs.length ≤ 800 := by rw [← List.length_map (f := RTok.t), HQ.out.1]; exact HFEW.out.1
    have hqn' : (qs.length : Int) ≤ 800 := by omega
    clear hmq hrq hb1
    go_wp2
    go_loopw [6] (fun t wr => ∃ k : Nat, k ≤ 2 ∧ t = .int .i64 k ∧ Hid (Below w1.heap.size w1 wr)) (fun t _ => 2 - (intOf t).toNat)
    case atStart => exact ⟨0, by omega, rfl, Lib.hid (Below.refl _ _)⟩
    case round =>
      obtain ⟨k, hk, rfl, HB⟩ := hrel
      by_cases hk2 : k < 2
      · have hk2' : (k : Int) < 2 := by omega
        obtain ⟨wB, hwB⟩ : ∃ wB, wB = wr := ⟨_, rfl⟩
        subst hwB
        have T2 := HT1.out.1.below HB.out (Nat.le_refl _)
        have M2 := HT1.out.2.below HB.out
        clear hk2
        go_wp2_with fail
        refine (HTK.out _ T2 M2).mono ?_
        rintro e w2 ⟨v, ps, hmp, hrp, rfl, hb2⟩
        have hlen : ps.length = qs.length := by rw [← List.length_map (f := (·.1)), hmp, ← HQ.out.1, List.length_map]
        obtain ⟨A, cap, hv, hvc, _, hc2, hc3⟩ := own_slice hrp.own
        rw [hlen] at hv hc2 hvc
        subst hv
        have HAP := Lib.hid hrp.apart
        have HS0 := Lib.hid (CutS.first hrp hb2)
        have HMP := Lib.hid (And.intro hmp hlen)
        clear hmp hrp hb2 hlen T2 M2 hvc
        go_wp2
        go_loopw [10] (fun i wr => ∃ j : Nat, j ≤ qs.length ∧ i = .int .i64 j ∧ Hid (CutS wB wr (.slice A qs.length cap) ps j)) (fun i _ => qs.length - (intOf i).toNat)
        case atStart => exact ⟨0, Nat.zero_le _, rfl, HS0⟩
        case round =>
          obtain ⟨j, hj, rfl, HI⟩ := hrel
          by_cases hlt : j < qs.length
          · have hjp : j < ps.length := by rw [HMP.out.2]; exact hlt
            obtain ⟨xs, hown, hxs⟩ := HI.out.row
            rw [HMP.out.2] at hown
            obtain ⟨g, cap', hA, hg1, hg2⟩ := hown.form (by omega)
            injection hA with hA _ hcc
            subst hA hcc
            have HRQ := HQ.out.2.below (HB.out.trans (HI.out.below.mono HB.out.size))
            obtain ⟨g2, cap2, hA2, _, hg4⟩ := HRQ.own.form (by omega)
            injection hA2 with hA2 _ hcc2
            subst hA2 hcc2
            have hat := HI.out.att j hjp (Nat.le_refl _)
            have hrt := HRQ.att qs[j] (List.getElem_mem hlt)
            have hsy := HRQ.says qs[j] (List.getElem_mem hlt)
            have hsame : ps[j].1 = qs[j].t := by
              have h1 : (ps.map (·.1))[j]? = (qs.map RTok.t)[j]? := by rw [HMP.out.1, HQ.out.1]
              rw [List.getElem?_map, List.getElem?_map, List.getElem?_eq_getElem hjp, List.getElem?_eq_getElem hlt] at h1
              exact Option.some.inj h1
            have a0 := own_cell hown ((hxs _ (by omega)).trans (tok_at ps j 0 hjp (by omega)))
            have a1 := own_cell hown ((hxs _ (by omega)).trans (tok_at ps j 1 hjp (by omega)))
            have a2 := own_cell hown ((hxs _ (by omega)).trans (tok_at ps j 2 hjp (by omega)))
            have a3 := own_cell hown ((hxs _ (by omega)).trans (tok_at ps j 3 hjp (by omega)))
            have a4 := own_cell hown ((hxs _ (by omega)).trans (tok_at ps j 4 hjp (by omega)))
            have b0 := own_cell HRQ.own (rtok_at qs j 0 hlt (by omega))
            have b1 := own_cell HRQ.own (rtok_at qs j 1 hlt (by omega))
            have b2 := own_cell HRQ.own (rtok_at qs j 2 hlt (by omega))
            have b3 := own_cell HRQ.own (rtok_at qs j 3 hlt (by omega))
            have b4 := own_cell HRQ.own (rtok_at qs j 4 hlt (by omega))
            have hin := HI.out.inner hjp
            have hal := HFEW.out.2 ps[j].1 (by rw [← HMP.out.1]; exact List.mem_map_of_mem (List.getElem_mem hjp))
            obtain ⟨Aa, capa, hva, hvz, _, hla, hlb⟩ := own_slice hat
            have HVA := Lib.hid hva
            have HTIN := Lib.hid hin
            generalize hps : ps[j] = x at *
            generalize hqs : qs[j] = y at *
            obtain ⟨⟨K, nm, al, tx, P0⟩, av⟩ := x
            obtain ⟨t', bv, bp, bl⟩ := y
            simp only at hsame
            subst hsame
            simp only at hva hrt hsy hal hvz hla
            subst hva hsy
            obtain ⟨Ab, capb, hvb, _, _, _, _⟩ := own_slice hrt
            subst hvb
            have q2 := reads2_own hat
            have q3 := reads3_own hrt
            have HPS := Lib.hid hps
            obtain ⟨al, hal0⟩ : ∃ al, al = bl.map fun a => (a.nm, a.vl) := ⟨_, rfl⟩
            have hbl : bl.length = al.length := by rw [hal0, List.length_map]
            obtain ⟨N, hN⟩ : ∃ N : ByteArray, N = ⟨nm.toArray⟩ := ⟨_, rfl⟩
            obtain ⟨X, hX⟩ : ∃ X : ByteArray, X = ⟨tx.toArray⟩ := ⟨_, rfl⟩
            have a0' : wr.cell? ⟨g, j * 5, none⟩ = some (.int .u8 K) := a0
            have a1' : wr.cell? ⟨g, j * 5 + 1, none⟩ = some (.string N) := by rw [hN]; exact a1
            have a2' : wr.cell? ⟨g, j * 5 + 2, none⟩ = some (.slice Aa al.length capa) := by rw [hal0]; exact a2
            have a3' : wr.cell? ⟨g, j * 5 + 3, none⟩ = some (.string X) := by rw [hX]; exact a3
            have a4' : wr.cell? ⟨g, j * 5 + 4, none⟩ = some (.int .i64 (P0 : Int)) := a4
            have b0' : wr.cell? ⟨g2, j * 5, none⟩ = some (.int .u8 K) := b0
            have b1' : wr.cell? ⟨g2, j * 5 + 1, none⟩ = some (.string N) := by rw [hN]; exact b1
            have b2' : wr.cell? ⟨g2, j * 5 + 2, none⟩ = some (.slice Ab al.length capb) := by rw [← hbl]; exact b2
            have b3' : wr.cell? ⟨g2, j * 5 + 3, none⟩ = some (.string X) := by rw [hX]; exact b3
            have b4' : wr.cell? ⟨g2, j * 5 + 4, none⟩ = some (.int .i64 (P0 : Int)) := b4
            have HCT : Hid (CutT wB wr (.slice (some ⟨g, 0, none⟩) qs.length cap) ps j al.length (.slice Aa al.length capa)) := Lib.hid (by
              have h := hin
              simp only at h
              rw [hal0]
              exact h)
            rw [← hal0] at q2 q3 hal hla
            have HPQ := Lib.hid (show ps[j].2 = .slice Aa al.length capa by rw [hps, hal0])
            have HIS := Lib.hid (fun w0 (q2 : Reads2 w0 w0.heap.size Aa al) (q3 : Reads3 w0 w0.heap.size Ab al) => is_yes w0 K (P0 : Int) N X Aa Ab capa capb al (by omega) q2 q3)
            have hlt' : (j : Int) < (qs.length : Int) := by omega
            clear a0 a1 a2 a3 a4 b0 b1 b2 b3 b4 hN hX hat hrt hin hxs hown hqs HRQ hps hal0 hbl HVA HTIN
            go_wp2_with fail
            go_region_held3 (fun w' => w'.cell? ⟨g, j * 5, none⟩ = some (.int .u8 K) ∧ w'.cell? ⟨g, j * 5 + 1, none⟩ = some (.string N) ∧ w'.cell? ⟨g, j * 5 + 2, none⟩ = some (.slice Aa al.length capa) ∧ w'.cell? ⟨g, j * 5 + 3, none⟩ = some (.string X) ∧ w'.cell? ⟨g, j * 5 + 4, none⟩ = some (.int .i64 (P0 : Int)) ∧
              w'.cell? ⟨g2, j * 5, none⟩ = some (.int .u8 K) ∧ w'.cell? ⟨g2, j * 5 + 1, none⟩ = some (.string N) ∧ w'.cell? ⟨g2, j * 5 + 2, none⟩ = some (.slice Ab al.length capb) ∧ w'.cell? ⟨g2, j * 5 + 3, none⟩ = some (.string X) ∧ w'.cell? ⟨g2, j * 5 + 4, none⟩ = some (.int .i64 (P0 : Int)))
              (first | exact ⟨a0', a1', a2', a3', a4', b0', b1', b2', b3', b4'⟩ | exact ⟨(h3.cell (p := ⟨g, _, none⟩) hg2).trans a0', (h3.cell (p := ⟨g, _, none⟩) hg2).trans a1', (h3.cell (p := ⟨g, _, none⟩) hg2).trans a2', (h3.cell (p := ⟨g, _, none⟩) hg2).trans a3', (h3.cell (p := ⟨g, _, none⟩) hg2).trans a4', (h3.cell (p := ⟨g2, _, none⟩) hg4).trans b0', (h3.cell (p := ⟨g2, _, none⟩) hg4).trans b1', (h3.cell (p := ⟨g2, _, none⟩) hg4).trans b2', (h3.cell (p := ⟨g2, _, none⟩) hg4).trans b3', (h3.cell (p := ⟨g2, _, none⟩) hg4).trans b4'⟩)
              (first | (go_at_call 15; refine (HIS.out _ (by exact q2) (by exact q3)).mono ?_; rintro e w3 ⟨rfl, h3⟩))
            have HC0 := Lib.hid (HCT.out.on ((Below.refl wr.heap.size wr).drew.trans h3))
            clear h3 a0' a1' a2' a3' a4' b0' b1' b2' b3' b4' q2 q3
            go_wp2
            go_loopw [11] (fun m wr => ∃ i : Nat, i ≤ al.length ∧ m = .int .i64 i ∧ Hid (CutT wB wr (.slice (some ⟨g, 0, none⟩) qs.length cap) ps j al.length (.slice Aa al.length capa))) (fun m _ => al.length - (intOf m).toNat)
            case atStart => exact ⟨0, Nat.zero_le _, rfl, HC0⟩
            case round =>
              obtain ⟨i, hi, rfl, HJ⟩ := hrel
              obtain ⟨ys, hown2, hys⟩ := HJ.out.row
              rw [HMP.out.2] at hown2
              have c2 := own_cell hown2 ((hys _ (by omega)).trans (tok_at ps j 2 hjp (by omega)))
              have c2' : wr.cell? ⟨g, j * 5 + 2, none⟩ = some (.slice Aa al.length capa) := by rw [← HPQ.out]; exact c2
              by_cases hil : i < al.length
              · obtain ⟨zs, hz⟩ := HJ.out.mine
                obtain ⟨ga, capa', hAa, hga1, hga2⟩ := hz.form (by omega)
                injection hAa with hAa _ hcca
                subst hAa hcca
                have f0 := hz.frozenAt (i * 2)
                have f1 := hz.frozenAt (i * 2 + 1)
                have hzl := hz.1
                have d0 := own_cell hz (List.getElem?_eq_getElem (show i * 2 < zs.length by omega))
                have d1 := own_cell hz (List.getElem?_eq_getElem (show i * 2 + 1 < zs.length by omega))
                generalize zs[i * 2] = u0 at *
                generalize zs[i * 2 + 1] = u1 at *
                have HN := Lib.hid ((HJ.out.store hjp HPQ.out HAP.out (i * 2) (.string ⟨#[]⟩)).store hjp HPQ.out HAP.out (i * 2 + 1) (.string ⟨#[]⟩))
                have hil' : (i : Int) < (al.length : Int) := by omega
                have hal' : (al.length : Int) ≤ 100000 := by omega
                clear hz hown2 hys c2 hzl
                go_wp2
                go_roundw
                case rel => exact ⟨i + 1, by omega, by go_num, HN⟩
                case measure => simp [intOf]; omega
              · have f0 := hown2.frozenAt (j * 5)
                have f1 := hown2.frozenAt (j * 5 + 1)
                have f2 := hown2.frozenAt (j * 5 + 2)
                have f3 := hown2.frozenAt (j * 5 + 3)
                have f4 := hown2.frozenAt (j * 5 + 4)
                have c0 := own_cell hown2 ((hys _ (by omega)).trans (tok_at ps j 0 hjp (by omega)))
                have c1 := own_cell hown2 ((hys _ (by omega)).trans (tok_at ps j 1 hjp (by omega)))
                have c3 := own_cell hown2 ((hys _ (by omega)).trans (tok_at ps j 3 hjp (by omega)))
                have c4 := own_cell hown2 ((hys _ (by omega)).trans (tok_at ps j 4 hjp (by omega)))
                have d0 : wr.cell? ⟨g, j * 5, none⟩ = some (.int .u8 ps[j].1.k) := c0
                have d1 : wr.cell? ⟨g, j * 5 + 1, none⟩ = some (.string ⟨ps[j].1.nm.toArray⟩) := c1
                have d3 : wr.cell? ⟨g, j * 5 + 3, none⟩ = some (.string ⟨ps[j].1.tx.toArray⟩) := c3
                have d4 : wr.cell? ⟨g, j * 5 + 4, none⟩ = some (.int .i64 ps[j].1.p) := c4
                have HN := Lib.hid (HJ.out.done HMP.out.2.symm (.int .u8 0) (.string ⟨#[]⟩) (.slice none 0 0) (.string ⟨#[]⟩) (.int .i64 0))
                have hil' : ¬ (i : Int) < (al.length : Int) := by omega
                clear hown2 hys c0 c1 c2 c3 c4
                go_wp2
                go_roundw
                case rel => exact ⟨j + 1, by omega, by go_num, HN⟩
                case measure => simp [intOf]; omega
          · have hlt' : ¬ (j : Int) < (qs.length : Int) := by omega
            have HN := Lib.hid (HB.out.trans (HI.out.below.mono HB.out.size))
            go_wp2
            go_roundw
            case rel => exact ⟨k + 1, by omega, by go_num, HN⟩
            case measure => simp [intOf]; omega
      · have hk2' : ¬ (k : Int) < 2 := by omega
        have HT3 := Lib.hid (And.intro (HT1.out.1.below HB.out (Nat.le_refl _)) (HT1.out.2.below HB.out))
        have B3 := Lib.hid (B1.out.trans (HB.out.mono B1.out.size))
        clear hk2
        go_wp2_with fail
        refine (HBL.out _).mono ?_
        rintro e w3 ⟨rfl, h3⟩
        have HT4 := Lib.hid (And.intro (HT3.out.1.below h3 (Nat.le_refl _)) (HT3.out.2.below h3))
        have B4 := Lib.hid (B3.out.trans (h3.mono B3.out.size))
        clear h3
        go_wp2_with fail
        refine (HRB.out _).mono ?_
        rintro e w4 ⟨rfl, rfl⟩
        go_wp2_with fail
        refine (HWK.out _ (HT4.out.1) (HT4.out.2)).mono ?_
        rintro e w9 ⟨rfl, h9⟩
        have B9 := Lib.hid ((B4.out).trans (h9.mono (B4.out).size))
        clear h9
        go_wp2
        go_ret
        exact ⟨rfl, B9.out⟩
end Go.Proofs.YtpdoegafjfhiiaaGreatDoor
