/- The statement TokenBack, walked: it answers true. Conditions: the tables hold what their texts lay; internal/bytealg.MaxLen holds a number; the parts' memory reads as told; lengths fit. -/
import Derived.Test.YtpdoegafjfhiiaaGreatDoorTkWrit
import Derived.Test.YtpdoegafjfhiiaaGreatDoorTkLawJ
namespace Go.Proofs.YtpdoegafjfhiiaaGreatDoor
open Go.RowKit

/-- A part in memory. -/
structure Pt where
  K : Int
  N : ByteArray
  A : Option Addr
  c : Nat
  al : List (List UInt8 × List UInt8)
  X : ByteArray
  rm : Bool
def Pt.p (x : Pt) : Tk.P := ⟨kOf x.K, x.N.data.toList, x.al, x.X.data.toList, x.rm⟩
/-- A row of parts reads so. -/
structure ReadsPt (w : World) (B : Nat) (A : Option Addr) (ps : List Pt) : Prop where
  row : 0 < ps.length → ∃ g o, A = some ⟨g, o, none⟩ ∧ g < B ∧ ∀ (k : Nat) (hk : k < ps.length), w.cell? ⟨g, o + k * 5, none⟩ = some (.int .i64 ps[k].K) ∧ w.cell? ⟨g, o + k * 5 + 1, none⟩ = some (.string ps[k].N) ∧
    w.cell? ⟨g, o + k * 5 + 2, none⟩ = some (.slice ps[k].A ps[k].al.length ps[k].c) ∧ w.cell? ⟨g, o + k * 5 + 3, none⟩ = some (.string ps[k].X) ∧ w.cell? ⟨g, o + k * 5 + 4, none⟩ = some (.bool ps[k].rm)
  att : ∀ x ∈ ps, Reads2o w B x.A x.al ∧ x.N.size ≤ maxLen ∧ x.X.size ≤ maxLen ∧ x.al.length ≤ x.c ∧ x.c ≤ maxLen ∧ ∀ a ∈ x.al, a.1.length ≤ maxLen ∧ a.2.length ≤ maxLen
theorem ReadsPt.below {w w' : World} {B : Nat} {A : Option Addr} {ps : List Pt} (h : ReadsPt w B A ps) (hb : Below B w w') : ReadsPt w' B A ps := by
  refine ⟨fun h0 => ?_, fun x hx => ⟨(h.att x hx).1.below hb, (h.att x hx).2⟩⟩
  obtain ⟨g, o, e, hg, hc⟩ := h.row h0
  refine ⟨g, o, e, hg, fun k hk => ?_⟩
  obtain ⟨c0, c1, c2, c3, c4⟩ := hc k hk
  exact ⟨(hb.cell (p := ⟨g, _, none⟩) hg).trans c0, (hb.cell (p := ⟨g, _, none⟩) hg).trans c1, (hb.cell (p := ⟨g, _, none⟩) hg).trans c2, (hb.cell (p := ⟨g, _, none⟩) hg).trans c3, (hb.cell (p := ⟨g, _, none⟩) hg).trans c4⟩
theorem Reads2o.more {w : World} {B B' : Nat} {A : Option Addr} {al : List (List UInt8 × List UInt8)} (h : Reads2o w B A al) (hB : B ≤ B') : Reads2o w B' A al := fun h0 => by
  obtain ⟨g, o, e, hg, hc⟩ := h h0
  exact ⟨g, o, e, by omega, hc⟩
/-- What holds at the head of the loop: what is written so far. -/
structure BkR (w wr : World) (ps : List Pt) (i : Nat) (s : ByteArray) (v : Value) (qs : List (Tk.T × Value)) (tx : Bool) : Prop where
  hi : i ≤ ps.length
  below : Below w.heap.size w wr
  row : TokRow w.heap.size wr v qs
  fits : ∀ x ∈ ps.take i, Tk.Fits x.p
  eq : Tk.bk ((ps.take i).map Pt.p) = (s.data.toList, qs.map (·.1), tx)
theorem BkR.len {w wr : World} {ps : List Pt} {i : Nat} {s : ByteArray} {v : Value} {qs : List (Tk.T × Value)} {tx : Bool} (h : BkR w wr ps i s v qs tx) (hn : ps.length ≤ 20) : s.size ≤ 32540 := by
  have h1 := Tk.bk_len ((ps.take i).map Pt.p) (fun p hp => by
    obtain ⟨x, hx, rfl⟩ := List.mem_map.1 hp
    exact h.fits x hx)
  rw [h.eq, List.length_map, List.length_take] at h1
  simp only at h1
  rw [Lib.size_eq]
  have : min i ps.length ≤ 20 := by omega
  omega
theorem bk_count : ∀ (ps : List Tk.P) (st : List UInt8 × List Tk.T × Bool), (ps.foldl Tk.bk1 st).2.1.length ≤ st.2.1.length + ps.length
  | [], st => Nat.le_refl _
  | p :: ps, st => by
    have h := bk_count ps (Tk.bk1 st p)
    have h1 : (Tk.bk1 st p).2.1.length ≤ st.2.1.length + 1 := by
      unfold Tk.bk1
      split
      · omega
      · split
        · omega
        · split
          · simp
          · simp
    rw [List.foldl_cons, List.length_cons]
    omega
theorem BkR.few {w wr : World} {ps : List Pt} {i : Nat} {s : ByteArray} {v : Value} {qs : List (Tk.T × Value)} {tx : Bool} (h : BkR w wr ps i s v qs tx) (hn : ps.length ≤ 20) : qs.length ≤ 20 := by
  have h1 := bk_count ((ps.take i).map Pt.p) ([], [], false)
  have h2 := h.eq
  unfold Tk.bk at h2
  rw [h2, List.length_map, List.length_map, List.length_take] at h1
  simp only [List.length_nil] at h1
  have : min i ps.length ≤ 20 := by omega
  omega
theorem bk_take {ps : List Pt} {i : Nat} (hi : i < ps.length) : Tk.bk ((ps.take (i + 1)).map Pt.p) = Tk.bk1 (Tk.bk ((ps.take i).map Pt.p)) ps[i].p := by
  rw [List.take_succ_eq_append_getElem hi, List.map_append]
  exact Tk.bk_snoc _ _

set_option maxHeartbeats 8000000 in
set_option maxRecDepth 100000 in
theorem lawBack (A : Option Addr) (c : Nat) (ps : List Pt) (w : World) (T : Tb w) (hmx : Mx w) (hr : ReadsPt w w.heap.size A ps) :
    Calls Tryz.prog 4 #[.slice A ps.length c] w fun e w' => e = .returned (.bool true) ∧ Below w.heap.size w w' := by
  have HWK := Lib.hid (fun w0 (T0 : Tb w0) (M0 : Mx w0) => works_tk w0 T0 M0)
  have HT := Lib.hid (And.intro T hmx)
  have HRP := Lib.hid hr
  clear T hmx hr
  by_cases hbig : 20 < ps.length
  · have hbig' : (ps.length : Int) > 20 := by omega
    clear hbig
    go_enter Tryz.func4, Tryz.ntmps4
    go_wp2_with fail
    refine (HWK.out _ (HT.out.1.below (Below.refl w.heap.size w) (Nat.le_refl _)) (HT.out.2.below (Below.refl w.heap.size w))).mono ?_
    rintro e w9 ⟨rfl, h9⟩
    have B9 := Lib.hid (((Below.refl w.heap.size w)).trans (h9.mono ((Below.refl w.heap.size w)).size))
    clear h9
    go_wp2
    go_ret
    exact ⟨rfl, B9.out⟩
  have hbig' : ¬ (ps.length : Int) > 20 := by omega
  have hn20 : ps.length ≤ 20 := by omega
  have hn20' : (ps.length : Int) ≤ 20 := by omega
  clear hbig
  go_enter Tryz.func4, Tryz.ntmps4
  go_wp2
  go_loopw [3, 4, 5, 6] (fun sv wv tv iv wr => ∃ (i : Nat) (s : ByteArray) (v : Value) (qs : List (Tk.T × Value)) (tx : Bool), i ≤ ps.length ∧ sv = .string s ∧ v = wv ∧ tv = .bool tx ∧ iv = .int .i64 i ∧ Hid (BkR w wr ps i s v qs tx)) (fun _ _ _ i _ => ps.length - (intOf i).toNat)
  case atStart => exact ⟨0, ⟨#[]⟩, .slice none 0 0, [], false, Nat.zero_le _, rfl, rfl, rfl, rfl, Lib.hid ⟨Nat.zero_le _, Below.refl _ _, TokRow.nil _ _, fun x hx => by simp at hx, rfl⟩⟩
  case round =>
    obtain ⟨i, s, v, qs, tx, hi, rfl, rfl, rfl, rfl, HI⟩ := hrel
    by_cases hlt : i < ps.length
    · have hlt' : (i : Int) < (ps.length : Int) := by omega
      obtain ⟨g, o, hA, hg, hcl⟩ := (HRP.out.below HI.out.below).row (by omega)
      subst hA
      obtain ⟨c0, c1, c2, c3, c4⟩ := hcl i hlt
      obtain ⟨hatt, hNs, hXs, hal1, hal2, hals⟩ := (HRP.out.below HI.out.below).att _ (List.getElem_mem hlt)
      have HBK := Lib.hid (bk_take hlt)
      have HTAKE := Lib.hid (show ps.take (i + 1) = ps.take i ++ [ps[i]] from List.take_succ_eq_append_getElem hlt)
      have hs : s.size ≤ 32540 := HI.out.len hn20
      have HLT := Lib.hid hlt
      have hgw : g < wr.heap.size := Nat.lt_of_lt_of_le hg HI.out.below.size
      generalize ps[i] = x at *
      obtain ⟨K, N, Aa, ca, al, X, rm⟩ := x
      simp only at c0 c1 c2 c3 c4 hatt hNs hXs hal1 hal2 hals
      have hal1' : (al.length : Int) ≤ (ca : Int) := by omega
      have HC := Lib.hid (And.intro c0 (And.intro c1 (And.intro c2 (And.intro c3 c4))))
      have HATT := Lib.hid hatt
      have HALS := Lib.hid hals
      clear hcl hatt hals hlt
      by_cases h40 : 40 < X.size
      · have h40' : (X.size : Int) > 40 := by omega
        clear h40
        go_wp2_with fail
        refine (HWK.out _ (HT.out.1.below HI.out.below (Nat.le_refl _)) (HT.out.2.below HI.out.below)).mono ?_
        rintro e w9 ⟨rfl, h9⟩
        have B9 := Lib.hid ((HI.out.below).trans (h9.mono (HI.out.below).size))
        clear h9
        go_wp2
        go_ret
        exact ⟨rfl, B9.out⟩
      have h40' : ¬ (X.size : Int) > 40 := by omega
      have hX40 : X.size ≤ 40 := by omega
      clear h40
      by_cases h5 : 5 < al.length
      · have h5' : (al.length : Int) > 5 := by omega
        clear h5
        go_wp2_with fail
        refine (HWK.out _ (HT.out.1.below HI.out.below (Nat.le_refl _)) (HT.out.2.below HI.out.below)).mono ?_
        rintro e w9 ⟨rfl, h9⟩
        have B9 := Lib.hid ((HI.out.below).trans (h9.mono (HI.out.below).size))
        clear h9
        go_wp2
        go_ret
        exact ⟨rfl, B9.out⟩
      have h5' : ¬ (al.length : Int) > 5 := by omega
      have hal5 : al.length ≤ 5 := by omega
      have hal5' : (al.length : Int) ≤ 5 := by omega
      clear h5
      go_wp2
      go_loop [7] (fun kv => ∃ k : Nat, k ≤ al.length ∧ kv = .int .i64 k ∧ Hid (∀ a ∈ al.take k, a.2.length ≤ 40)) (fun kv => al.length - (intOf kv).toNat)
      case atStart => exact ⟨0, Nat.zero_le _, rfl, Lib.hid (fun a ha => by simp at ha)⟩
      case round =>
        obtain ⟨k, hk, rfl, HK⟩ := hrel
        by_cases hkl : k < al.length
        · obtain ⟨ga, oa, hAa, hga, hca⟩ := HATT.out (by omega)
          subst hAa
          obtain ⟨d0, d1⟩ := hca k hkl
          have hkl' : (k : Int) < (al.length : Int) := by omega
          have HTK := Lib.hid (take_snoc_ hkl)
          have hVm := (HALS.out al[k] (List.getElem_mem hkl)).2
          clear hca d0
          generalize al[k] = ak at *
          clear hkl
          obtain ⟨V, hV⟩ : ∃ V : ByteArray, V = ⟨ak.2.toArray⟩ := ⟨_, rfl⟩
          have hVl : ak.2.length = V.size := by rw [hV, Lib.size_eq]
          rw [hVl] at hVm
          rw [← hV] at d1
          have HVL := Lib.hid hVl
          clear hV hVl
          by_cases hV40 : 40 < V.size
          · have hV' : (V.size : Int) > 40 := by omega
            clear hV40
            go_wp2_with fail
            refine (HWK.out _ (HT.out.1.below HI.out.below (Nat.le_refl _)) (HT.out.2.below HI.out.below)).mono ?_
            rintro e w9 ⟨rfl, h9⟩
            have B9 := Lib.hid ((HI.out.below).trans (h9.mono (HI.out.below).size))
            clear h9
            go_wp2
            go_ret
            exact ⟨rfl, B9.out⟩
          · have hV' : ¬ (V.size : Int) > 40 := by omega
            have HV4 := Lib.hid hV40
            clear hV40
            go_wp2
            go_round
            case rel => exact ⟨k + 1, by omega, by go_num, Lib.hid (by
              rw [HTK.out]
              intro a ha
              rw [List.mem_append] at ha
              rcases ha with ha | ha
              · exact HK.out a ha
              · rw [List.mem_singleton] at ha
                have := HVL.out
                have := HV4.out
                rw [ha]
                omega)⟩
            case measure => simp [intOf]; omega
        · obtain rfl : k = al.length := by omega
          have HK2 := Lib.hid (show ∀ a ∈ al, a.2.length ≤ 40 from fun a ha => HK.out a (by rw [List.take_length]; exact ha))
          have HWR := Lib.hid (fun w0 (hr0 : Reads2o w0 w0.heap.size Aa al) => tkwritten_any w0 K N X Aa ca rm al hNs hX40 hal5 (fun a ha => ⟨HK2.out a ha, (HALS.out a ha).1⟩) hr0)
          have HFX := Lib.hid (show Tk.Fits (Pt.p ⟨K, N, Aa, ca, al, X, rm⟩) from ⟨by show X.data.toList.length ≤ 40; rw [← Lib.size_eq]; exact hX40, hal5, HK2.out⟩)
          have HFITS := Lib.hid (show ∀ x ∈ ps.take (i + 1), Tk.Fits x.p from fun x hx => by
            rw [HTAKE.out, List.mem_append] at hx
            rcases hx with hx | hx
            · exact HI.out.fits x hx
            · rw [List.mem_singleton] at hx
              rw [hx]
              exact HFX.out)
          clear hkl hk
          go_wp2_with fail
          refine (HWR.out _ (HATT.out.more HI.out.below.size)).mono ?_
          rintro e w1 (⟨hch, S, X2, K2, rfl, h1⟩ | ⟨t, y, Ay, cy, hch, rfl, hoy, h1⟩)
          · have HN := Lib.hid (show BkR w (w1.alloc (.cells #[.int .u8 K2, .string ⟨#[]⟩, .slice none 0 0, .string X2, .int .i64 0] 33)) ps (i + 1) s v qs tx from by
              have b1 := HI.out.below.trans (h1.mono HI.out.below.size)
              exact ⟨HLT.out, b1.alloc b1.size _, (HI.out.row.below h1).below ((Below.refl _ _).alloc (Nat.le_refl _) _), HFITS.out, by
                rw [HBK.out, HI.out.eq]; unfold Tk.bk1; rw [show Tk.chunk (Pt.p ⟨K, N, Aa, ca, al, X, rm⟩) = none from hch]⟩)
            clear hch h1
            go_wp2
            go_roundw
            case rel => exact ⟨i + 1, s, v, qs, tx, HLT.out, rfl, rfl, rfl, by go_num, HN⟩
            case measure => simp [intOf]; omega
          · obtain ⟨T, hT⟩ : ∃ T : ByteArray, T = ⟨t.toArray⟩ := ⟨_, rfl⟩
            have hTl : T.size ≤ 1610 := by rw [Lib.size_eq, hT]; exact Tk.chunk_len HFX.out hch
            rw [← hT]
            have HTT := Lib.hid (show T.data.toList = t by rw [hT])
            have HRW := Lib.hid (HI.out.row.below h1)
            have HOY := Lib.hid hoy
            have HSEP := Lib.hid (show ∀ x ∈ qs, ∀ g h, x.2.ownBlock = some g → (Value.slice Ay y.as.length cy).ownBlock = some h → g ≠ h from fun x hx g h e1 e2 => by
              have h1 := (World.ownsRow.lt (HI.out.row.att x hx) g e1).2
              have h2 := (World.ownsRow.lt hoy h e2).1
              omega)
            have B1 := Lib.hid (HI.out.below.trans (h1.mono HI.out.below.size))
            have HCH : Hid (Tk.chunk (Pt.p ⟨K, N, Aa, ca, al, X, rm⟩) = some (t, y)) := Lib.hid hch
            have hgw1 : g < w1.heap.size := Nat.lt_of_lt_of_le hgw h1.size
            have c4' := (h1.cell (p := ⟨g, _, none⟩) hgw).trans HC.out.2.2.2.2
            obtain ⟨YN, hYN⟩ : ∃ YN : ByteArray, YN = ⟨y.nm.toArray⟩ := ⟨_, rfl⟩
            obtain ⟨YX, hYX⟩ : ∃ YX : ByteArray, YX = ⟨y.tx.toArray⟩ := ⟨_, rfl⟩
            rw [← hYN, ← hYX]
            have HYN := Lib.hid (And.intro hYN hYX)
            obtain ⟨tb, htb⟩ : ∃ tb, tb = w1.heap.size := ⟨_, rfl⟩
            obtain ⟨i0, hi0, hz0, hz1, hz2⟩ := info_parts infoTok
            have hql : qs.length ≤ 20 := HI.out.few hn20
            have hbig : qs.length + 1 ≤ maxLen := by unfold maxLen; omega
            have hszw := B1.out.size
            clear hch hoy h1 hT c0 c1 c2 c3 c4 hYN hYX htb
            cases rm with
            | true =>
              by_cases hk4 : y.k = 4
              · have hk4' : (y.k == 4) = true := by rw [hk4]; rfl
                have HK4 := Lib.hid hk4'
                clear hk4
                cases tx with
                | true =>
                  go_wp2_with (at_builtin; (refine wpList_append_own _ rfl _ _ _ rfl w.heap.size 33 i0 _ 5 72 Tryz.underlying27 hi0 hz0 hz1 hz2 rfl (by omega) v qs.length (qs.flatMap tokV) (by rfl) (by exact (HRW.out.own.alloc _).alloc _) _ 1 _ [.int .u8 y.k, .string YN, .slice Ay y.as.length cy, .string YX, .int .i64 ((s.size : Int) + 17)] (by rfl) rfl (by intro j u hu; exact news_at _ _ _ _ (by simp) j u hu) (by intro u hu; simp at hu; rcases hu with rfl | rfl | rfl | rfl | rfl <;> rfl) hbig (by omega) (by simp; omega) ?_); intro v3 w3 hown3 hgr3 _)
                  have HN := Lib.hid (show BkR w w3 ps (i + 1) ((s ++ ⟨#[60, 33, 45, 45, 32, 60, 97, 62, 32, 45, 45, 32, 38, 32, 45, 45, 62]⟩) ++ T) v3 (qs ++ [(⟨y.k, y.nm, y.as, y.tx, s.size + 17⟩, .slice Ay y.as.length cy)]) true from by
                    have hbase : ∀ k, v.ownBlock = some k → w.heap.size ≤ k := fun k hk => (World.ownsRow.lt HRW.out.own k hk).1
                    refine ⟨HLT.out, ?_, ?_, HFITS.out, ?_⟩
                    · exact ((B1.out.alloc hszw _).alloc (by simp; omega) _).grown hgr3 (by simp; omega) (fun k hk => hbase k hk)
                    · refine TokRow.snoc ((HRW.out.below ((Below.refl _ _).alloc (Nat.le_refl _) _)).below ((Below.refl _ _).alloc (Nat.le_refl _) _)) (own_less (own_below (own_below HOY.out ((Below.refl _ _).alloc (Nat.le_refl _) _)) ((Below.refl _ _).alloc (Nat.le_refl _) _)) HI.out.below.size) HSEP.out hgr3 ?_
                      have hv : tokV (⟨y.k, y.nm, y.as, y.tx, s.size + 17⟩, .slice Ay y.as.length cy) = [.int .u8 y.k, .string YN, .slice Ay y.as.length cy, .string YX, .int .i64 ((s.size : Int) + 17)] := by
                        unfold tokV; rw [HYN.out.1, HYN.out.2]; first | done | rfl
                      rw [hv]
                      exact hown3
                    · rw [HBK.out, HI.out.eq]
                      unfold Tk.bk1
                      rw [HCH.out]
                      refine (if_neg (fun h => by cases h.2.2)).trans ((if_pos rfl).trans ?_)
                      rw [← Lib.size_eq, HK4.out]
                      simp [ByteArray.data_append, HTT.out, Tk.rmk])
                  clear hown3 hgr3
                  go_wp2
                  go_roundw
                  case rel => exact ⟨i + 1, _, _, _, true, HLT.out, rfl, rfl, rfl, by go_num, HN⟩
                  case measure => simp [intOf]; omega
                | false =>
                  go_wp2_with (at_builtin; (refine wpList_append_own _ rfl _ _ _ rfl w.heap.size 33 i0 _ 5 72 Tryz.underlying27 hi0 hz0 hz1 hz2 rfl (by omega) v qs.length (qs.flatMap tokV) (by rfl) (by exact (HRW.out.own.alloc _).alloc _) _ 1 _ [.int .u8 y.k, .string YN, .slice Ay y.as.length cy, .string YX, .int .i64 ((s.size : Int) + 17)] (by rfl) rfl (by intro j u hu; exact news_at _ _ _ _ (by simp) j u hu) (by intro u hu; simp at hu; rcases hu with rfl | rfl | rfl | rfl | rfl <;> rfl) hbig (by omega) (by simp; omega) ?_); intro v3 w3 hown3 hgr3 _)
                  have HN := Lib.hid (show BkR w w3 ps (i + 1) ((s ++ ⟨#[60, 33, 45, 45, 32, 60, 97, 62, 32, 45, 45, 32, 38, 32, 45, 45, 62]⟩) ++ T) v3 (qs ++ [(⟨y.k, y.nm, y.as, y.tx, s.size + 17⟩, .slice Ay y.as.length cy)]) true from by
                    have hbase : ∀ k, v.ownBlock = some k → w.heap.size ≤ k := fun k hk => (World.ownsRow.lt HRW.out.own k hk).1
                    refine ⟨HLT.out, ?_, ?_, HFITS.out, ?_⟩
                    · exact ((B1.out.alloc hszw _).alloc (by simp; omega) _).grown hgr3 (by simp; omega) (fun k hk => hbase k hk)
                    · refine TokRow.snoc ((HRW.out.below ((Below.refl _ _).alloc (Nat.le_refl _) _)).below ((Below.refl _ _).alloc (Nat.le_refl _) _)) (own_less (own_below (own_below HOY.out ((Below.refl _ _).alloc (Nat.le_refl _) _)) ((Below.refl _ _).alloc (Nat.le_refl _) _)) HI.out.below.size) HSEP.out hgr3 ?_
                      have hv : tokV (⟨y.k, y.nm, y.as, y.tx, s.size + 17⟩, .slice Ay y.as.length cy) = [.int .u8 y.k, .string YN, .slice Ay y.as.length cy, .string YX, .int .i64 ((s.size : Int) + 17)] := by
                        unfold tokV; rw [HYN.out.1, HYN.out.2]; first | done | rfl
                      rw [hv]
                      exact hown3
                    · rw [HBK.out, HI.out.eq]
                      unfold Tk.bk1
                      rw [HCH.out]
                      refine (if_neg (fun h => by cases h.2.1)).trans ((if_pos rfl).trans ?_)
                      rw [← Lib.size_eq, HK4.out]
                      simp [ByteArray.data_append, HTT.out, Tk.rmk])
                  clear hown3 hgr3
                  go_wp2
                  go_roundw
                  case rel => exact ⟨i + 1, _, _, _, true, HLT.out, rfl, rfl, rfl, by go_num, HN⟩
                  case measure => simp [intOf]; omega
              · have hk4' : (y.k == 4) = false := beq_eq_false_iff_ne.2 hk4
                have HK4 := Lib.hid hk4'
                have HNK := Lib.hid hk4
                clear hk4
                go_wp2_with (at_builtin; (refine wpList_append_own _ rfl _ _ _ rfl w.heap.size 33 i0 _ 5 72 Tryz.underlying27 hi0 hz0 hz1 hz2 rfl (by omega) v qs.length (qs.flatMap tokV) (by rfl) (by exact (HRW.out.own.alloc _).alloc _) _ 1 _ [.int .u8 y.k, .string YN, .slice Ay y.as.length cy, .string YX, .int .i64 ((s.size : Int) + 17)] (by rfl) rfl (by intro j u hu; exact news_at _ _ _ _ (by simp) j u hu) (by intro u hu; simp at hu; rcases hu with rfl | rfl | rfl | rfl | rfl <;> rfl) hbig (by omega) (by simp; omega) ?_); intro v3 w3 hown3 hgr3 _)
                have HN := Lib.hid (show BkR w w3 ps (i + 1) ((s ++ ⟨#[60, 33, 45, 45, 32, 60, 97, 62, 32, 45, 45, 32, 38, 32, 45, 45, 62]⟩) ++ T) v3 (qs ++ [(⟨y.k, y.nm, y.as, y.tx, s.size + 17⟩, .slice Ay y.as.length cy)]) false from by
                  have hbase : ∀ k, v.ownBlock = some k → w.heap.size ≤ k := fun k hk => (World.ownsRow.lt HRW.out.own k hk).1
                  refine ⟨HLT.out, ?_, ?_, HFITS.out, ?_⟩
                  · exact ((B1.out.alloc hszw _).alloc (by simp; omega) _).grown hgr3 (by simp; omega) (fun k hk => hbase k hk)
                  · refine TokRow.snoc ((HRW.out.below ((Below.refl _ _).alloc (Nat.le_refl _) _)).below ((Below.refl _ _).alloc (Nat.le_refl _) _)) (own_less (own_below (own_below HOY.out ((Below.refl _ _).alloc (Nat.le_refl _) _)) ((Below.refl _ _).alloc (Nat.le_refl _) _)) HI.out.below.size) HSEP.out hgr3 ?_
                    have hv : tokV (⟨y.k, y.nm, y.as, y.tx, s.size + 17⟩, .slice Ay y.as.length cy) = [.int .u8 y.k, .string YN, .slice Ay y.as.length cy, .string YX, .int .i64 ((s.size : Int) + 17)] := by
                      unfold tokV; rw [HYN.out.1, HYN.out.2]; first | done | rfl
                    rw [hv]
                    exact hown3
                  · rw [HBK.out, HI.out.eq]
                    unfold Tk.bk1
                    rw [HCH.out]
                    refine (if_neg (fun h => HNK.out h.1)).trans ((if_pos rfl).trans ?_)
                    rw [← Lib.size_eq, HK4.out]
                    simp [ByteArray.data_append, HTT.out, Tk.rmk])
                clear hown3 hgr3
                go_wp2
                go_roundw
                case rel => exact ⟨i + 1, _, _, _, false, HLT.out, rfl, rfl, rfl, by go_num, HN⟩
                case measure => simp [intOf]; omega
            | false =>
              by_cases hk4 : y.k = 4
              · have hk4' : (y.k == 4) = true := by rw [hk4]; rfl
                have HK4 := Lib.hid hk4'
                have HKP := Lib.hid hk4
                clear hk4
                cases tx with
                | true =>
                  have HN := Lib.hid (show BkR w (w1.alloc (.cells #[.int .u8 y.k, .string YN, .slice Ay y.as.length cy, .string YX, .int .i64 0] 33)) ps (i + 1) s v qs true from by
                    exact ⟨HLT.out, B1.out.alloc hszw _, HRW.out.below ((Below.refl _ _).alloc (Nat.le_refl _) _), HFITS.out, by
                      rw [HBK.out, HI.out.eq]; unfold Tk.bk1; rw [show Tk.chunk (Pt.p ⟨K, N, Aa, ca, al, X, false⟩) = some (t, y) from HCH.out]; exact if_pos ⟨HKP.out, rfl, rfl⟩⟩)
                  go_wp2
                  go_roundw
                  case rel => exact ⟨i + 1, s, v, qs, true, HLT.out, rfl, rfl, rfl, by go_num, HN⟩
                  case measure => simp [intOf]; omega
                | false =>
                  go_wp2_with (at_builtin; (refine wpList_append_own _ rfl _ _ _ rfl w.heap.size 33 i0 _ 5 72 Tryz.underlying27 hi0 hz0 hz1 hz2 rfl (by omega) v qs.length (qs.flatMap tokV) (by rfl) (by exact (HRW.out.own.alloc _).alloc _) _ 1 _ [.int .u8 y.k, .string YN, .slice Ay y.as.length cy, .string YX, .int .i64 (s.size : Int)] (by rfl) rfl (by intro j u hu; exact news_at _ _ _ _ (by simp) j u hu) (by intro u hu; simp at hu; rcases hu with rfl | rfl | rfl | rfl | rfl <;> rfl) hbig (by omega) (by simp; omega) ?_); intro v3 w3 hown3 hgr3 _)
                  have HN := Lib.hid (show BkR w w3 ps (i + 1) (s ++ T) v3 (qs ++ [(⟨y.k, y.nm, y.as, y.tx, s.size⟩, .slice Ay y.as.length cy)]) true from by
                    have hbase : ∀ k, v.ownBlock = some k → w.heap.size ≤ k := fun k hk => (World.ownsRow.lt HRW.out.own k hk).1
                    refine ⟨HLT.out, ?_, ?_, HFITS.out, ?_⟩
                    · exact ((B1.out.alloc hszw _).alloc (by simp; omega) _).grown hgr3 (by simp; omega) (fun k hk => hbase k hk)
                    · refine TokRow.snoc ((HRW.out.below ((Below.refl _ _).alloc (Nat.le_refl _) _)).below ((Below.refl _ _).alloc (Nat.le_refl _) _)) (own_less (own_below (own_below HOY.out ((Below.refl _ _).alloc (Nat.le_refl _) _)) ((Below.refl _ _).alloc (Nat.le_refl _) _)) HI.out.below.size) HSEP.out hgr3 ?_
                      have hv : tokV (⟨y.k, y.nm, y.as, y.tx, s.size⟩, .slice Ay y.as.length cy) = [.int .u8 y.k, .string YN, .slice Ay y.as.length cy, .string YX, .int .i64 (s.size : Int)] := by
                        unfold tokV; rw [HYN.out.1, HYN.out.2]; first | done | rfl
                      rw [hv]
                      exact hown3
                    · rw [HBK.out, HI.out.eq]
                      unfold Tk.bk1
                      rw [HCH.out]
                      refine (if_neg (fun h => by cases h.2.1)).trans ((if_neg (fun h => by cases h)).trans ?_)
                      rw [← Lib.size_eq, HK4.out]
                      simp [ByteArray.data_append, HTT.out])
                  clear hown3 hgr3
                  go_wp2
                  go_roundw
                  case rel => exact ⟨i + 1, _, _, _, true, HLT.out, rfl, rfl, rfl, by go_num, HN⟩
                  case measure => simp [intOf]; omega
              · have hk4' : (y.k == 4) = false := beq_eq_false_iff_ne.2 hk4
                have HK4 := Lib.hid hk4'
                have HNK := Lib.hid hk4
                clear hk4
                go_wp2_with (at_builtin; (refine wpList_append_own _ rfl _ _ _ rfl w.heap.size 33 i0 _ 5 72 Tryz.underlying27 hi0 hz0 hz1 hz2 rfl (by omega) v qs.length (qs.flatMap tokV) (by rfl) (by exact (HRW.out.own.alloc _).alloc _) _ 1 _ [.int .u8 y.k, .string YN, .slice Ay y.as.length cy, .string YX, .int .i64 (s.size : Int)] (by rfl) rfl (by intro j u hu; exact news_at _ _ _ _ (by simp) j u hu) (by intro u hu; simp at hu; rcases hu with rfl | rfl | rfl | rfl | rfl <;> rfl) hbig (by omega) (by simp; omega) ?_); intro v3 w3 hown3 hgr3 _)
                have HN := Lib.hid (show BkR w w3 ps (i + 1) (s ++ T) v3 (qs ++ [(⟨y.k, y.nm, y.as, y.tx, s.size⟩, .slice Ay y.as.length cy)]) false from by
                  have hbase : ∀ k, v.ownBlock = some k → w.heap.size ≤ k := fun k hk => (World.ownsRow.lt HRW.out.own k hk).1
                  refine ⟨HLT.out, ?_, ?_, HFITS.out, ?_⟩
                  · exact ((B1.out.alloc hszw _).alloc (by simp; omega) _).grown hgr3 (by simp; omega) (fun k hk => hbase k hk)
                  · refine TokRow.snoc ((HRW.out.below ((Below.refl _ _).alloc (Nat.le_refl _) _)).below ((Below.refl _ _).alloc (Nat.le_refl _) _)) (own_less (own_below (own_below HOY.out ((Below.refl _ _).alloc (Nat.le_refl _) _)) ((Below.refl _ _).alloc (Nat.le_refl _) _)) HI.out.below.size) HSEP.out hgr3 ?_
                    have hv : tokV (⟨y.k, y.nm, y.as, y.tx, s.size⟩, .slice Ay y.as.length cy) = [.int .u8 y.k, .string YN, .slice Ay y.as.length cy, .string YX, .int .i64 (s.size : Int)] := by
                      unfold tokV; rw [HYN.out.1, HYN.out.2]; first | done | rfl
                    rw [hv]
                    exact hown3
                  · rw [HBK.out, HI.out.eq]
                    unfold Tk.bk1
                    rw [HCH.out]
                    refine (if_neg (fun h => HNK.out h.1)).trans ((if_neg (fun h => by cases h)).trans ?_)
                    rw [← Lib.size_eq, HK4.out]
                    simp [ByteArray.data_append, HTT.out])
                clear hown3 hgr3
                go_wp2
                go_roundw
                case rel => exact ⟨i + 1, _, _, _, false, HLT.out, rfl, rfl, rfl, by go_num, HN⟩
                case measure => simp [intOf]; omega
    · obtain rfl : i = ps.length := by omega
      have hs : s.size ≤ 32540 := HI.out.len hn20
      have heq := HI.out.eq
      rw [List.take_length] at heq
      have htk := Tk.toks_bk (ps.map Pt.p) (by rw [heq]; simp only; rw [← Lib.size_eq]; omega)
      rw [heq] at htk
      simp only at htk
      have hord := (Tk.toks_ord s.data.toList).1 (by rw [htk])
      rw [htk] at hord
      have HORD := Lib.hid hord.1
      have HTK := Lib.hid (fun w0 (T0 : Tb w0) (M0 : Mx w0) => tokens_any s (by unfold maxLen; omega) w0 T0 M0)
      rw [htk] at HTK
      have hql : qs.length ≤ 20 := HI.out.few hn20
      have hql' : (qs.length : Int) ≤ 20 := by omega
      clear heq htk hord hlt hi
      go_wp2_with fail
      refine (HTK.out _ (HT.out.1.below HI.out.below (Nat.le_refl _)) (HT.out.2.below HI.out.below)).mono ?_
      rintro e w3 ⟨v3, ps3, hm3, hr3, rfl, h3⟩
      simp only at hm3
      have hlen : ps3.length = qs.length := by rw [← List.length_map (f := (·.1)), hm3, List.length_map]
      obtain ⟨A3, c3, hv3, _, _, hq3, hq4⟩ := own_slice hr3.own
      have hrq := HI.out.row.below h3
      obtain ⟨A2, c2, hv2, _, _, hq5, hq6⟩ := own_slice hrq.own
      subst hv3 hv2
      have R3 := reads_of hr3
      have R2 := reads_of hrq
      have T3 := atts_of hr3 (by rw [hm3]; exact HORD.out)
      have T2 := atts_of hrq HORD.out
      rw [hlen]
      have HRR := Lib.hid (And.intro R3 (And.intro R2 (And.intro T3 T2)))
      have HS := Lib.hid (fun w0 (q1 : ReadsT w0 w0.heap.size A3 ps3) (q2 : ReadsT w0 w0.heap.size A2 qs) (q3 : AttsT w0 w0.heap.size ps3) (q4 : AttsT w0 w0.heap.size qs) =>
        (show Calls Tryz.prog 19 #[.slice A3 qs.length c3, .slice A2 qs.length c2, .int .i64 0] w0 (fun e w' => e = .returned (.bool true) ∧ Below w0.heap.size w0 w') from
          same_yes w0 0 A3 A2 c3 c2 ps3 qs hlen (by omega) (by omega) (fun x hx => by have := (HORD.out.1 _ (List.mem_map_of_mem hx)).2; rw [← Lib.size_eq] at this; omega) q1 q2 q3 q4 (fun k hk => by
            have h1 : (ps3.map (·.1))[k]? = (qs.map (·.1))[k]? := by rw [hm3]
            rw [List.getElem?_map, List.getElem?_map, List.getElem?_eq_getElem (by omega), List.getElem?_eq_getElem hk] at h1
            have h2 : ps3[k].1 = qs[k].1 := Option.some.inj h1
            rw [h2]
            unfold Tk.mv
            rw [Nat.add_zero])))
      have B3 := Lib.hid (HI.out.below.trans (h3.mono HI.out.below.size))
      clear hm3 hr3 hrq h3 R3 R2 T3 T2
      go_wp2_with fail
      refine (HS.out _ HRR.out.1 HRR.out.2.1 HRR.out.2.2.1 HRR.out.2.2.2).mono ?_
      rintro e w4 ⟨rfl, h4⟩
      have B4 := Lib.hid (B3.out.trans (h4.mono B3.out.size))
      clear h4
      go_wp2_with fail
      refine (HWK.out _ (HT.out.1.below B4.out (Nat.le_refl _)) (HT.out.2.below B4.out)).mono ?_
      rintro e w9 ⟨rfl, h9⟩
      have B9 := Lib.hid ((B4.out).trans (h9.mono (B4.out).size))
      clear h9
      go_wp2
      go_ret
      exact ⟨rfl, B9.out⟩
end Go.Proofs.YtpdoegafjfhiiaaGreatDoor
