/- Facts and walks for the statement. -/
import Derived.Test.YtdcjpinbflmikaaGreatDoorPzT20
import Derived.Test.YtdcjpinbflmikaaGreatDoorPzT02
import Derived.Test.YtdcjpinbflmikaaGreatDoorPzT16
import Derived.Test.YtdcjpinbflmikaaGreatDoorPzT15
import Derived.Deep.DeepMust
import Derived.Test.YtdcjpinbflmikaaGreatDoorPzT17
namespace Go.Proofs.YtdcjpinbflmikaaGreatDoor
open Go.RowKit Ex
theorem at_kx (ns : List Ty.Nm) {l : List Nd} : ∀ (x : Ex.E) (s i : Nat), At l s x → wr x → s ≤ i → i < s + Ex.sz x → ∃ y t, At l t y ∧ wr y ∧ i + 1 = t + Ex.sz y ∧ (Ev.kxs ns x)[i - s]? = some (Ev.kx ns y) := by
  have self : ∀ (x : Ex.E) (s i : Nat), At l s x → wr x → s ≤ i → i < s + Ex.sz x → s + Ex.sz x ≤ i + 1 → ∃ y t, At l t y ∧ wr y ∧ i + 1 = t + Ex.sz y ∧ (Ev.kxs ns x)[i - s]? = some (Ev.kx ns y) := fun x s i h hw h1 h2 h3 => by
    obtain ⟨k, e1, e2⟩ := Ev.kxs_last ns x
    refine ⟨x, s, h, hw, by omega, ?_⟩
    have hp := Ex.sz_pos x
    rw [e1, List.getElem?_append_right (by omega), show i - s - k.length = 0 by omega]; rfl
  intro x
  induction x with
  | num v => intro s i h hw h1 h2; exact self _ s i h hw h1 h2 (by simp only [Ex.sz] at h2 ⊢; omega)
  | name v => intro s i h hw h1 h2; exact self _ s i h hw h1 h2 (by simp only [Ex.sz] at h2 ⊢; omega)
  | tt => intro s i h hw h1 h2; exact self _ s i h hw h1 h2 (by simp only [Ex.sz] at h2 ⊢; omega)
  | ff => intro s i h hw h1 h2; exact self _ s i h hw h1 h2 (by simp only [Ex.sz] at h2 ⊢; omega)
  | un op a iha =>
    intro s i h hw h1 h2
    by_cases he : s + Ex.sz (.un op a) ≤ i + 1
    · exact self _ s i h hw h1 h2 he
    · simp only [Ex.sz] at he
      obtain ⟨y, t, q1, q2, q3, q4⟩ := iha s i (at_un h).1 hw.2 h1 (by omega)
      refine ⟨y, t, q1, q2, q3, ?_⟩
      unfold Ev.kxs
      rw [List.getElem?_append_left (by rw [Ev.kxs_len]; omega)]; exact q4
  | bin op a b iha ihb =>
    intro s i h hw h1 h2
    by_cases he : s + Ex.sz (.bin op a b) ≤ i + 1
    · exact self _ s i h hw h1 h2 he
    · simp only [Ex.sz] at he
      have hs := at_bin h
      unfold Ev.kxs
      rw [List.getElem?_append_left (by rw [List.length_append, Ev.kxs_len, Ev.kxs_len]; omega)]
      by_cases ha : i < s + Ex.sz a
      · obtain ⟨y, t, q1, q2, q3, q4⟩ := iha s i hs.1 hw.2.2.1 h1 ha
        exact ⟨y, t, q1, q2, q3, by rw [List.getElem?_append_left (by rw [Ev.kxs_len]; omega)]; exact q4⟩
      · obtain ⟨y, t, q1, q2, q3, q4⟩ := ihb (s + Ex.sz a) i hs.2.1 hw.2.2.2 (by omega) (by omega)
        exact ⟨y, t, q1, q2, q3, by rw [List.getElem?_append_right (by rw [Ev.kxs_len]; omega), Ev.kxs_len, Nat.sub_sub]; exact q4⟩
  | ite a b c iha ihb ihc =>
    intro s i h hw h1 h2
    by_cases he : s + Ex.sz (.ite a b c) ≤ i + 1
    · exact self _ s i h hw h1 h2 he
    · simp only [Ex.sz] at he
      have hs := at_ite h
      unfold Ev.kxs
      rw [List.getElem?_append_left (by rw [List.length_append, List.length_append, Ev.kxs_len, Ev.kxs_len, Ev.kxs_len]; omega)]
      by_cases ha : i < s + Ex.sz a
      · obtain ⟨y, t, q1, q2, q3, q4⟩ := iha s i hs.1 hw.1 h1 ha
        exact ⟨y, t, q1, q2, q3, by rw [List.append_assoc, List.getElem?_append_left (by rw [Ev.kxs_len]; omega)]; exact q4⟩
      · by_cases hb : i < s + Ex.sz a + Ex.sz b
        · obtain ⟨y, t, q1, q2, q3, q4⟩ := ihb (s + Ex.sz a) i hs.2.1 hw.2.1 (by omega) hb
          exact ⟨y, t, q1, q2, q3, by rw [List.append_assoc, List.getElem?_append_right (by rw [Ev.kxs_len]; omega), List.getElem?_append_left (by rw [Ev.kxs_len, Ev.kxs_len]; omega), Ev.kxs_len, Nat.sub_sub]; exact q4⟩
        · obtain ⟨y, t, q1, q2, q3, q4⟩ := ihc (s + Ex.sz a + Ex.sz b) i hs.2.2.1 hw.2.2 (by omega) (by omega)
          exact ⟨y, t, q1, q2, q3, by rw [List.getElem?_append_right (by rw [List.length_append, Ev.kxs_len, Ev.kxs_len]; omega), List.length_append, Ev.kxs_len, Ev.kxs_len, Nat.sub_sub, ← Nat.add_assoc]; exact q4⟩
structure RkI (w : World) (K : List Nat) (wr : World) (v : Value) (i : Nat) : Prop where
  below : Below w.heap.size w wr
  own : wr.ownsRow w.heap.size 5 1 v i ((K.take i).map kiV)
  nz : Ev.Nz (K.take i)
set_option maxHeartbeats 4000000 in
set_option maxRecDepth 100000 in
theorem rkinds_any (w : World) (A : Option Addr) (c : Nat) (l : List Nd) (hl : NdR w w.heap.size A l) (hc : l.length ≤ c) (hf : FitR l) (A2 : Option Addr) (c2 : Nat) (ns : List Ty.Nm) (hn : NsR w w.heap.size A2 ns) (hc2 : ns.length ≤ c2) (hnl : ns.length ≤ 1000000) :
    Calls Tryz.prog 22 #[.slice A l.length c, .slice A2 ns.length c2] w (KiP (kds l ns) w) := by
  have HCK := Lib.hid (rCheck_any A c l hc hf w hl)
  obtain ⟨R, hR⟩ : ∃ R, R = kds l ns := ⟨_, rfl⟩
  rw [← hR]
  unfold kds at hR
  obtain ⟨z, hz⟩ : ∃ z, z = chk l := ⟨_, rfl⟩
  rw [← hz] at HCK hR
  by_cases hz0 : z = 0
  · rw [if_neg (fun h => h hz0)] at hR
    have hd : dep l ≠ 0 := fun h => by
      rw [hz] at hz0
      unfold chk at hz0
      rw [if_pos h] at hz0
      cases hz0
    obtain ⟨x, hw, hx, _⟩ := dep_row hd
    have hR2 : R = if Ev.Nz (Ev.kxs ns x) then (Ev.kxs ns x, 0, 0) else ([], Ev.fz (Ev.kxs ns x), 90) := by rw [hR, hx]; exact Ev.kgo_all hw
    obtain ⟨n, hln⟩ : ∃ n, n = l.length := ⟨_, rfl⟩
    have hKn : (Ev.kxs ns x).length = n := by rw [Ev.kxs_len, hln, hx, flat_len]
    have hn6 : n ≤ 1000000 := by rw [hln]; exact hf.1
    have HK := Lib.hid (fun (i : Nat) (hi : i < n) => (show ∃ k, (Ev.kxs ns x)[i]? = some k ∧ k ≤ 2 ∧ RkC A l.length c A2 ns.length c2 w i k from by
      have hAt : At l 0 x := ⟨by rw [List.drop_zero, hx, ← flat_len x 0, List.take_length], by rw [hx, flat_len]; omega⟩
      obtain ⟨y, t, q1, q2, q3, q4⟩ := at_kx ns x 0 i hAt hw (Nat.zero_le _) (by rw [Nat.zero_add, ← Ev.kxs_len ns x, hKn]; exact hi)
      have q := rkind_at (w := w) (A := A) (l := l) (c := c) (A2 := A2) (c2 := c2) (ns := ns) ⟨hl, hc, hn, hc2, hf.1, hnl⟩ y t q1 q2
      rw [← q3, show (((i + 1 : Nat) : Int) - 1) = (i : Int) by omega] at q
      exact ⟨_, q4, kx_le ns y, q⟩))
    rw [← hln] at HK HCK
    generalize Ev.kxs ns x = K at *
    rw [← hln] at hc ⊢
    have hcI : (n : Int) ≤ (c : Int) := by omega
    have HR := Lib.hid hR2
    have HKN := Lib.hid hKn
    obtain ⟨m, hm⟩ : ∃ m, m = ns.length := ⟨_, rfl⟩
    rw [← hm] at HK hc2 ⊢
    have hc2I : (m : Int) ≤ (c2 : Int) := by omega
    obtain ⟨i0, hi, hy0, hy1, hy2⟩ := info_parts infoU8
    subst hz0
    clear hR hR2 hz hl hc hf hn hc2 hnl hd hw hx hln hKn hm
    go_enter Tryz.func22, Tryz.ntmps22
    go_wp2_with fail
    refine HCK.out.mono ?_
    rintro en w1 ⟨rfl, hb1⟩
    have H0 := Lib.hid (show RkI w K w1 (.slice none 0 0) 0 from ⟨hb1, World.ownsRow_nil _ _ _ _, fun _ hk => nomatch hk⟩)
    clear hb1 HCK
    go_wp2
    go_loopw [8, 9, 10] (fun v0 iv _ wr => ∃ (v : Value) (i : Nat), v = v0 ∧ iv = .int .i64 i ∧ i ≤ n ∧ Hid (RkI w K wr v i)) (fun _ iv _ _ => n - (intOf iv).toNat)
    case atStart => exact ⟨_, 0, rfl, rfl, Nat.zero_le _, H0⟩
    case round =>
      obtain ⟨v, i, hv0, rfl, hil, HI⟩ := hrel
      subst hv0
      by_cases hin : i < n
      · have hin' : (i : Int) < (n : Int) := by omega
        obtain ⟨k, hk, hk2, hkc⟩ := HK.out i hin
        have hKi : i < K.length := by rw [HKN.out]; exact hin
        have hget : K[i] = k := by rw [List.getElem?_eq_getElem hKi] at hk; injection hk
        have HTK := Lib.hid (show K.take (i + 1) = K.take i ++ [k] by rw [List.take_succ_eq_append_getElem hKi, hget])
        have HDR := Lib.hid (show K = K.take i ++ k :: K.drop (i + 1) by
          conv => lhs; rw [← List.take_append_drop i K, List.drop_eq_getElem_cons hKi, hget])
        have HC := Lib.hid (hkc wr HI.out.below)
        have HIN := Lib.hid hin
        obtain ⟨Av, cv, rfl, hic, _, _⟩ := own_sliced HI.out.own
        have hi6 : (i : Int) < 1000000 := by omega
        have hki : (k : Int) ≤ 2 := by omega
        clear hk hkc hKi hget hin hic
        go_wp2_with fail
        refine HC.out.mono ?_
        rintro en w3 ⟨rfl, hb3⟩
        have HB3 := Lib.hid (HI.out.below.trans (hb3.mono HI.out.below.size))
        have HO3 := Lib.hid (own_below HI.out.own hb3)
        clear hb3 HC
        by_cases hk0 : k = 0
        · have HE := Lib.hid (show R = ([], i, 90) from by
            have hnz : ¬ Ev.Nz K := fun h => by
              rw [HDR.out] at h
              exact (Ev.nz_app.1 h).2 k (List.mem_cons_self ..) hk0
            rw [HR.out, if_neg hnz]
            have e : Ev.fz K = i := by
              rw [HDR.out, Ev.fz_right HI.out.nz, List.length_take, HKN.out, hk0]
              show min i n + 0 = i
              omega
            rw [e])
          subst hk0
          go_wp2
          go_ret3
          exact ⟨.slice none 0 0, by rw [HE.out]; exact World.ownsRow_nil _ _ _ _, by rw [HE.out]; rfl, HB3.out⟩
        · have hk0' : ((k : Int) == 0) = false := beq_eq_false_iff_ne.2 (by omega)
          have hwr : IntKind.u8.wrap (k : Int) = (k : Int) := IntWalk.u8_in _ (by omega)
          have HNZ := Lib.hid (show Ev.Nz (K.take (i + 1)) from by
            rw [HTK.out]
            exact Ev.nz_app.2 ⟨HI.out.nz, fun q hq => by rw [List.mem_singleton.1 hq]; exact hk0⟩)
          have hbig : i + 1 ≤ maxLen := by unfold maxLen; omega
          have hbw := Lib.hid (show ∀ q, (Value.slice Av i cv).ownBlock = some q → w.heap.size ≤ q from fun q hq => (HO3.out.lt q hq).1)
          have hsa := HB3.out.size
          clear hk0
          go_wp2_with (at_builtin; (refine wpList_append_own _ rfl _ _ _ rfl w.heap.size 5 i0 _ 1 1 Tryz.underlying46 hi hy0 hy1 hy2 rfl (by omega) (.slice Av i cv) i ((K.take i).map kiV) (by rfl) (by exact World.ownsRow.alloc HO3.out _) _ 1 _ [.int .u8 (k : Nat)] (by rfl) rfl (by intro j u hu; exact news_at _ _ _ _ (by simp) j u hu) (by intro u hu; simp at hu; subst hu; rfl) hbig (by omega) (by simp; omega) ?_); intro v9 w9 hown9 hgr9 _; have HR9 := Lib.hid (And.intro hown9 (show Below w.heap.size w w9 from Below.grown (HB3.out.alloc hsa _) hgr9 (by simp; omega) hbw.out)); clear hown9 hgr9)
          go_roundw
          case rel => exact ⟨v9, i + 1, rfl, by go_num, HIN.out, Lib.hid ⟨HR9.out.2, by
            rw [HTK.out, List.map_append]; exact HR9.out.1, HNZ.out⟩⟩
          case measure => have := HIN.out; simp [intOf]; omega
      · obtain rfl : i = n := by omega
        have hin' : ¬ (i : Int) < (i : Int) := by omega
        have htk : K.take i = K := List.take_of_length_le (by rw [HKN.out]; exact Nat.le_refl _)
        have HE := Lib.hid (show R = (K, 0, 0) from by rw [HR.out, if_pos (by have h := HI.out.nz; rwa [htk] at h)])
        have HOW := Lib.hid (show wr.ownsRow w.heap.size 5 1 v i (K.map kiV) from by have h := HI.out.own; rwa [htk] at h)
        clear hin htk
        go_wp2
        go_ret3
        exact ⟨v, by rw [HE.out]; simp only; rw [HKN.out]; exact HOW.out, by rw [HE.out]; rfl, HI.out.below⟩
  · have hz2 : (z != 0) = true := by simpa using hz0
    rw [if_pos hz0] at hR
    have HE := Lib.hid hR
    clear hR hl hn hf hnl hz hz0 hc hc2
    go_enter Tryz.func22, Tryz.ntmps22
    go_wp2_with fail
    refine HCK.out.mono ?_
    rintro en w1 ⟨rfl, hb1⟩
    have HB1 := Lib.hid hb1
    clear hb1
    go_wp2
    go_ret3
    exact ⟨.slice none 0 0, by rw [HE.out]; exact World.ownsRow_nil _ _ _ _, by rw [HE.out]; rfl, HB1.out⟩
set_option maxHeartbeats 4000000 in
set_option maxRecDepth 100000 in
theorem rof_any (w : World) (A : Option Addr) (c : Nat) (l : List Nd) (hl : NdR w w.heap.size A l) (hc : l.length ≤ c) (hf : FitR l) (A2 : Option Addr) (c2 : Nat) (ns : List Ty.Nm) (hn : NsR w w.heap.size A2 ns) (hc2 : ns.length ≤ c2) (hnl : ns.length ≤ 1000000) :
    Calls Tryz.prog 27 #[.slice A l.length c, .slice A2 ns.length c2] w fun e w' => e = .returned (.tuple #[.int .u8 ((ofs (kds l ns)).1 : Nat), .int .i64 ((ofs (kds l ns)).2.1 : Nat), .int .i64 (ofs (kds l ns)).2.2]) ∧ Below w.heap.size w w' := by
  have HKI := Lib.hid (rkinds_any w A c l hl hc hf A2 c2 ns hn hc2 hnl)
  have HOK := Lib.hid (@kds_ok l ns)
  have hl6 := hf.1
  generalize kds l ns = X at *
  obtain ⟨K, a, z⟩ := X
  simp only at HOK
  clear hl hn hf hnl
  by_cases hz : z = 0
  · subst hz
    obtain ⟨_, h1, h2, h3, _⟩ := HOK.out rfl
    subst h1
    have hR : ofs (K, 0, 0) = (K.getLastD 0, 0, 0) := if_neg (fun h => h rfl)
    rw [hR]
    simp only
    obtain ⟨q, hq⟩ : ∃ q, q = K.getLastD 0 := ⟨_, rfl⟩
    rw [← hq]
    have HQ := Lib.hid (show ∀ (hj : K.length - 1 < K.length), K[K.length - 1] = q from fun hj => by
      rw [hq, List.getLastD_eq_getLast?, List.getLast?_eq_getElem?, List.getElem?_eq_getElem hj]; rfl)
    obtain ⟨n, hnk⟩ : ∃ n, n = K.length := ⟨_, rfl⟩
    have hn1 : 1 ≤ n := by omega
    have hn6 : (n : Int) ≤ 1000000 := by omega
    have hidx : ((n : Int) - 1) < (n : Int) := by omega
    have HN := Lib.hid hnk
    clear h2 h3 hR hq HOK
    go_enter Tryz.func27, Tryz.ntmps27
    go_wp2_with fail
    refine HKI.out.mono ?_
    rintro en w1 ⟨v, ho, rfl, hb1⟩
    simp only at ho
    obtain ⟨A3, c3, rfl, hic, _, hg3⟩ := own_sliced ho
    obtain ⟨g, rfl, _, _⟩ := hg3 (by omega)
    have hj : n - 1 < K.length := by omega
    have c0 : w1.cell? ⟨g, n - 1, none⟩ = some (.int .u8 (q : Nat)) := by
      have h := own_cell ho (j := n - 1) (u := kiV K[n - 1]) (by rw [List.getElem?_map, List.getElem?_eq_getElem hj]; rfl)
      rw [h]
      have h2 := HQ.out (by omega)
      simp only [HN.out, kiV, h2]
    have HB1 := Lib.hid hb1
    have hc3 : (n : Int) ≤ (c3 : Int) := by omega
    obtain ⟨p, hp⟩ : ∃ p, n = p + 1 := ⟨n - 1, by omega⟩
    rw [← HN.out]
    subst hp
    have hpp : ((p + 1 : Nat) : Int) - 1 = (p : Int) := by omega
    rw [Nat.add_sub_cancel] at c0
    clear hb1 ho hg3 hj HKI hnk
    go_wp2
    go_ret3
    exact ⟨rfl, HB1.out⟩
  · have hz2 : (z != 0) = true := by simpa using hz
    have hR : ofs (K, a, z) = (0, a, z) := if_pos hz
    rw [hR]
    clear hR hz HOK
    go_enter Tryz.func27, Tryz.ntmps27
    go_wp2_with fail
    refine HKI.out.mono ?_
    rintro en w1 ⟨v, ho, rfl, hb1⟩
    have HB1 := Lib.hid hb1
    clear hb1 ho HKI
    go_wp2
    go_ret3
    exact ⟨rfl, HB1.out⟩
end Go.Proofs.YtdcjpinbflmikaaGreatDoor
namespace Go.Proofs.YtdcjpinbflmikaaGreatDoor
open Go.RowKit Ex
end Go.Proofs.YtdcjpinbflmikaaGreatDoor
namespace Go.Proofs.YtdcjpinbflmikaaGreatDoor
open Go.RowKit Ex
theorem own_rnr {w : World} {B n c : Nat} {A : Option Addr} {l : List Nd} (h : w.ownsRow B 114 6 (.slice A n c) n (l.flatMap ndV)) (hn : n = l.length) : NdR w w.heap.size A l ∧ n ≤ c ∧ c ≤ maxLen := by
  obtain ⟨A', c', e, h1, h2, h3⟩ := own_sliced h
  injection e with e1 _ e3
  subst e1 e3
  refine ⟨fun j hj => ?_, h1, h2⟩
  obtain ⟨g, rfl, _, hg⟩ := h3 (by omega)
  have q := fun (k : Nat) (u : Value) (hk : k < 6) (hu : (ndV l[j])[k]? = some u) => own_cell h ((fl_at (f := ndV) (k := 6) (fun _ => rfl) l j k hj hk).trans hu)
  refine ⟨g, 0, rfl, hg, ?_, ?_, ?_, ?_, ?_, ?_⟩
  · simpa using q 0 _ (by omega) rfl
  · simpa using q 1 _ (by omega) rfl
  · simpa using q 2 _ (by omega) rfl
  · simpa using q 3 _ (by omega) rfl
  · simpa using q 4 _ (by omega) rfl
  · simpa using q 5 _ (by omega) rfl
end Go.Proofs.YtdcjpinbflmikaaGreatDoor
namespace Go.Proofs.YtdcjpinbflmikaaGreatDoor
open Go.RowKit Ex
end Go.Proofs.YtdcjpinbflmikaaGreatDoor
namespace Go.Proofs.YtdcjpinbflmikaaGreatDoor
open Go.RowKit Ex
structure SpK (w3 wx : World) (B : Nat) (A : Option Addr) (c n : Nat) : Prop where
  below : Below B w3 wx
  row : ∃ xs, wx.ownsRow B 5 1 (.slice A n c) n xs ∧ xs.length = n
theorem SpK.put {w3 wx : World} {B g c n : Nat} (h : SpK w3 wx B (some ⟨g, 0, none⟩) c n) (o : Nat) (u : Value) : SpK w3 (wx.setCell ⟨g, o, none⟩ u) B (some ⟨g, 0, none⟩) c n := by
  obtain ⟨xs, h1, h2⟩ := h.row
  obtain ⟨hB, _, _, _⟩ := own_heap h1 (g := g) rfl
  exact ⟨h.below.setCell (p := ⟨g, o, none⟩) hB u, xs.set o u, (h1.stored o u).1, by simp [h2]⟩
set_option maxHeartbeats 8000000 in
set_option maxRecDepth 100000 in
theorem tkinds_law (w : World) (T : Tyx w) (A1 : Option Addr) (c1 : Nat) (l : List Nd) (h1 : NdR w w.heap.size A1 l) (hc1 : l.length ≤ c1) (hn1 : l.length ≤ 9223372036854775807) (ho1 : ∀ n ∈ l, 0 ≤ n.op)
    (A2 : Option Addr) (c2 : Nat) (ns : List Ty.Nm) (h2 : NsR w w.heap.size A2 ns) (hc2 : ns.length ≤ c2) (hn2 : ns.length ≤ 9223372036854775807) :
    Calls Tryz.prog 5 #[.agg #[.slice A1 l.length c1], .slice A2 ns.length c2] w fun e w' => e = .returned (.bool true) ∧ Below w.heap.size w w' := by
  have I0 := Lib.hid (MoL.new w A1 c1 l)
  have k1 := I0.out.at_
  have HF1 := Lib.hid (fun v (i : MoL w A1 c1 l v) => fewt_any v A1 c1 l (h1.to i.below) hc1 hn1 A2 c2 ns (h2.on i.below) hc2 hn2)
  have HWK := Lib.hid (fun v (i : MoL w A1 c1 l v) => tworks_any v (T.below i.below))
  by_cases f1 : FewT l ns
  · rw [decide_eq_true f1] at HF1
    have hfl := few_fit f1 ho1
    have hl6 : l.length ≤ 1000000 := by have := hfl.1.1; omega
    have hfR : FitR l := ⟨hl6, hfl.1.2⟩
    have hns := hfl.2.1
    have HRF := Lib.hid (fun v (i : MoL w A1 c1 l v) => eref9_any v A1 c1 l (h1.to i.below) hc1 hl6)
    have HRK := Lib.hid (fun v (i : MoL w A1 c1 l v) A c (hr : NdR v v.heap.size A l) (hc : l.length ≤ c) => rkinds_any v A c l hr hc hfR A2 c2 ns (h2.on i.below) hc2 hns)
    have HRO := Lib.hid (fun v (i : MoL w A1 c1 l v) A c (hr : NdR v v.heap.size A l) (hc : l.length ≤ c) => rof_any v A c l hr hc hfR A2 c2 ns (h2.on i.below) hc2 hns)
    have HKI := Lib.hid (fun v (i : MoL w A1 c1 l v) => kinds_any v (T.below i.below) A1 c1 l (h1.to i.below) hc1 hfl.1 A2 c2 ns (h2.on i.below) hc2 hfl.2)
    have HOF := Lib.hid (fun v (i : MoL w A1 c1 l v) => of_any v (T.below i.below) A1 c1 l (h1.to i.below) hc1 hfl.1 A2 c2 ns (h2.on i.below) hc2 hfl.2)
    have hlk : (kds l ns).1.length ≤ 1000000 := by
      by_cases hz : (kds l ns).2.2 = 0
      · obtain ⟨_, _, h3, _⟩ := kds_ok hz; omega
      · have : (kds l ns).1 = [] := by
          unfold kds at hz ⊢
          by_cases hc : chk l ≠ 0
          · rw [if_pos hc]
          · rw [if_neg hc] at hz ⊢
            rcases Ty.kgo_err ns l [] with e | e
            · exact absurd e hz
            · exact e.2
        rw [this]; exact Nat.zero_le _
    generalize ofs (kds l ns) = O at *
    generalize kds l ns = X at *
    obtain ⟨K, n, e⟩ := X
    obtain ⟨o1, o2, o3⟩ := O
    simp only at hlk HRO HOF
    have HKY := Lib.hid (fun v A c (h : KiR v v.heap.size A K) (hc : K.length ≤ c) A2 c2 (h2 : KiR v v.heap.size A2 K) (hc2 : K.length ≤ c2) => kinds_yes v A A2 c c2 K h h2 hc hc2 hlk)
    obtain ⟨m, hm⟩ : ∃ m, m = K.length := ⟨_, rfl⟩
    have HM := Lib.hid hm
    have hml : (m : Int) ≤ 1000000 := by omega
    have hnn : (((n : Nat) : Int) != ((n : Nat) : Int)) = false := by simp
    have hee : (e != e) = false := by simp
    have g1 : (((o1 : Nat) : Int) == ((o1 : Nat) : Int)) = true := by simp
    have g2 : (((o2 : Nat) : Int) == ((o2 : Nat) : Int)) = true := by simp
    have g3 : (o3 == o3) = true := by simp
    clear T h1 hc1 hn1 ho1 h2 hc2 hn2 f1 hfl hl6 hfR hns hlk hm
    go_enter Tryz.func5, Tryz.ntmps5
    go_wp2_with fail
    refine (HF1.out _ I0.out).mono ?_
    rintro e v1 ⟨rfl, hb⟩
    have I1 := Lib.hid (I0.out.on hb)
    clear hb
    have k1 := I1.out.at_
    go_wp2_with fail
    refine (HRF.out _ I1.out).mono ?_
    rintro en v2 ⟨vr, rfl, ho, hb⟩
    have I2 := Lib.hid (I1.out.on hb)
    obtain ⟨A3, c3, rfl, hv1, _, _⟩ := own_sliced ho
    have HR3 := Lib.hid (own_rnr ho rfl).1
    have HC3 := Lib.hid hv1
    clear hb ho hv1
    have k1 := I2.out.at_
    go_wp2_with fail
    refine (HRK.out _ I2.out A3 c3 HR3.out HC3.out).mono ?_
    rintro en v3 ⟨vk, ho, rfl, hb⟩
    simp only at ho
    obtain ⟨A4, c4, rfl, hv1, _, _⟩ := own_sliced ho
    have I3 := Lib.hid (I2.out.on hb)
    have HK3 := Lib.hid (own_kir ho rfl).1
    have HC4 := Lib.hid hv1
    clear hb ho hv1
    simp only
    rw [← HM.out]
    go_wp2
    go_loopw [8, 9, 10, 11, 12] (fun tv _ _ _ _ wr => ∃ t : Nat, tv = .int .i64 t ∧ t ≤ 2 ∧ Hid (MoL w A1 c1 l wr ∧ Below v3.heap.size v3 wr)) (fun tv _ _ _ _ _ => 2 - (intOf tv).toNat)
    case atStart => exact ⟨0, rfl, by decide, Lib.hid ⟨I3.out, Below.refl _ _⟩⟩
    case round =>
      obtain ⟨t, rfl, ht, HI⟩ := hrel
      have k1 := HI.out.1.at_
      by_cases ht2 : t < 2
      · have ht2' : (t : Int) < 2 := by omega
        have HT2 := Lib.hid ht2
        have HP := Lib.hid (HKI.out wr HI.out.1)
        clear ht2
        go_wp2_with fail
        refine HP.out.mono ?_
        rintro en w5 ⟨v5, ho5, rfl, hb5⟩
        simp only at ho5
        obtain ⟨A5, c5, rfl, hv5, _, _⟩ := own_sliced ho5
        have HS := Lib.hid (HKY.out w5 A5 c5 (own_kir ho5 rfl).1 hv5 A4 c4 (HK3.out.on (HI.out.2.trans (hb5.mono HI.out.2.size))) HC4.out)
        rw [← HM.out] at HS
        have S5 := Lib.hid (show SpK wr w5 wr.heap.size A5 c5 K.length from ⟨hb5, _, ho5, by rw [List.length_map]⟩)
        rw [← HM.out] at S5
        clear ho5 hb5 hv5 HP k1
        simp only
        rw [← HM.out]
        go_wp2_with fail
        refine HS.out.mono ?_
        rintro en w6 ⟨rfl, hb6⟩
        have S6 := Lib.hid (show SpK wr w6 wr.heap.size A5 c5 m from by
          obtain ⟨xs, x1, x2⟩ := S5.out.row
          exact ⟨S5.out.below.trans (hb6.mono S5.out.below.size), xs, own_below x1 hb6, x2⟩)
        clear hb6 HS S5
        go_wp2
        generalize wr = wb at *
        go_loopw [12] (fun iv wr => ∃ i : Nat, iv = .int .i64 i ∧ i ≤ m ∧ Hid (SpK wb wr wb.heap.size A5 c5 m)) (fun iv _ => m - (intOf iv).toNat)
        case atStart => exact ⟨0, rfl, Nat.zero_le _, S6⟩
        case round =>
          obtain ⟨i, rfl, hi, HJ⟩ := hrel
          by_cases him : i < m
          · have him' : (i : Int) < (m : Int) := by omega
            obtain ⟨xs, x1, x2⟩ := HJ.out.row
            obtain ⟨A', c', ea, ha1, ha2, ha3⟩ := own_sliced x1
            injection ea with ea1 _ ea3
            subst ea1 ea3
            obtain ⟨g, rfl, _, _⟩ := ha3 (by omega)
            have hmc : (m : Int) ≤ (c5 : Int) := by omega
            have HN := Lib.hid (HJ.out.put i (.int .u8 9))
            have y := own_there x1 (j := i) (by omega)
            obtain ⟨u0, v0⟩ : ∃ u, wr.cell? ⟨g, i, none⟩ = some u := ⟨_, y.1⟩
            have f0 := y.2
            have HIM := Lib.hid him
            clear x1 x2 ha1 ha2 ha3 y him
            go_wp2
            go_roundw
            case rel => exact ⟨i + 1, by go_num, HIM.out, HN⟩
            case measure => have := HIM.out; simp [intOf]; omega
          · obtain rfl : i = m := by omega
            have him' : ¬ ((i : Nat) : Int) < (i : Int) := by omega
            clear him
            go_wp2
            go_roundw
            case rel => exact ⟨t + 1, by go_num, by have := HT2.out; omega, Lib.hid ⟨HI.out.1.on HJ.out.below, HI.out.2.trans (HJ.out.below.mono HI.out.2.size)⟩⟩
            case measure => have := HT2.out; simp [intOf]; omega
      · obtain rfl : t = 2 := by omega
        have ht2' : ¬ ((2 : Nat) : Int) < 2 := by omega
        have I4 := Lib.hid HI.out.1
        clear ht2 HI
        go_wp2_with fail
        refine (HOF.out _ I4.out).mono ?_
        rintro e v5 ⟨rfl, hb⟩
        have I5 := Lib.hid (I4.out.on hb)
        clear hb
        have k1 := I5.out.at_
        go_wp2_with fail
        refine (HRF.out _ I5.out).mono ?_
        rintro en v6 ⟨vr, rfl, ho, hb⟩
        have I6 := Lib.hid (I5.out.on hb)
        obtain ⟨A7, c7, rfl, hv1, _, _⟩ := own_sliced ho
        have HR7 := Lib.hid (own_rnr ho rfl).1
        have HC7 := Lib.hid hv1
        clear hb ho hv1
        have k1 := I6.out.at_
        go_wp2_with fail
        refine (HRO.out _ I6.out A7 c7 HR7.out HC7.out).mono ?_
        rintro e v7 ⟨rfl, hb⟩
        have I7 := Lib.hid (I6.out.on hb)
        clear hb
        have k1 := I7.out.at_
        go_wp2_with fail
        refine (HWK.out _ I7.out).mono ?_
        rintro e vw ⟨rfl, hb⟩
        have IW := Lib.hid (I7.out.on hb)
        clear hb
        go_wp2
        go_ret
        exact ⟨rfl, IW.out.below⟩
  · rw [decide_eq_false f1] at HF1
    clear T h1 ho1 h2
    go_enter Tryz.func5, Tryz.ntmps5
    go_wp2_with fail
    refine (HF1.out _ I0.out).mono ?_
    rintro e v1 ⟨rfl, hb⟩
    have I1 := Lib.hid (I0.out.on hb)
    clear hb
    have k1 := I1.out.at_
    go_wp2_with fail
    refine (HWK.out _ I1.out).mono ?_
    rintro e vw ⟨rfl, hb⟩
    have IW := Lib.hid (I1.out.on hb)
    clear hb
    go_wp2
    go_ret
    exact ⟨rfl, IW.out.below⟩
end Go.Proofs.YtdcjpinbflmikaaGreatDoor
