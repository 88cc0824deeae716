/- Layer 7's statements: LexBack, walked, from what the package's functions answer. Conditions: they do, in every world of a kind that stays. -/
import Derived.Test.YtbihkigpmgipcaaDoorLxPieces
namespace Go.Proofs.YtbihkigpmgipcaaDoor
open Go.RowKit

/-- What the package's Show answers. -/
def ShowC (I : World → Prop) : Prop := ∀ (A : Option Addr) (c : Nat) (l : List Lx.T) (w : World), I w → RdT w w.heap.size A l → l.length ≤ c → l.length ≤ 50000 → (∀ t ∈ l, t.tx.length ≤ 10000) →
  Calls Tryd.prog 13 #[.slice A l.length c] w fun e w' => e = .returned (shV (Lx.shw (l.map Lx.kx))) ∧ Below w.heap.size w w'
theorem C_err : ∀ (n : Nat) (l : List UInt8) (p : Nat), l.length ≤ n → (Lx.C l p).2.2 = 0 ∨ (Lx.C l p).2.2 = 70
  | n, l, p, hn => by
    by_cases h : l = []
    · subst h; rw [Lx.C_nil]; exact Or.inl rfl
    · by_cases hb : Lx.lng l = 0 ∨ 64 < Lx.lng l
      · rw [Lx.C_bad _ h hb]; exact Or.inr rfl
      · have h1 : 1 ≤ Lx.nx l := by unfold Lx.nx; omega
        have hpos : 0 < l.length := List.length_pos_iff.2 h
        obtain ⟨m, rfl⟩ : ∃ m, n = m + 1 := ⟨n - 1, by omega⟩
        have ih := C_err m (l.drop (Lx.nx l)) (p + Lx.nx l) (by rw [List.length_drop]; omega)
        rw [Lx.C_good _ h hb]
        unfold Lx.pt
        split
        · exact Or.inl rfl
        · exact ih
  termination_by n => n
theorem toks_facts {l : List UInt8} (h : l.length ≤ 65536) : ((Lx.toks l).2.2 = 0 ∨ (Lx.toks l).2.2 = 70) ∧ (∀ t ∈ (Lx.toks l).1, Lx.Good t) ∧ (Lx.sh (Lx.toks l).1).length ≤ 2 * l.length ∧ (Lx.toks l).1.length ≤ 2 * l.length := by
  rw [Lx.toks_C h]
  have h1 := Lx.C_sum _ (l.drop (Lx.blk false l)) (Lx.blk false l) (Nat.le_refl _)
  have h2 := sum_len (Lx.C (l.drop (Lx.blk false l)) (Lx.blk false l)).1
  have h3 := Lx.sh_len (Lx.C (l.drop (Lx.blk false l)) (Lx.blk false l)).1
  rw [List.length_drop] at h1
  exact ⟨C_err _ _ _ (Nat.le_refl _), Lx.C_goods _ _ _ (Nat.le_refl _), by omega, by omega⟩
theorem kx_at {L M : List Lx.T} (h : M.map Lx.kx = L.map Lx.kx) {i : Nat} (hi : i < L.length) (hm : i < M.length) : M[i].k = L[i].k ∧ M[i].tx = L[i].tx := by
  have h1 := congrArg (·[i]?) h
  simp only [List.getElem?_map, List.getElem?_eq_getElem hi, List.getElem?_eq_getElem hm, Option.map_some, Option.some.injEq] at h1
  unfold Lx.kx at h1
  injection h1 with h1 h2
  exact ⟨h1, h2⟩
set_option maxHeartbeats 8000000 in
set_option maxRecDepth 100000 in
theorem back_any {I : World → Prop} (K : Kind7 I) (KS : ShowC I) (s : ByteArray) (w : World) (hs : s.size ≤ maxLen) (hI : I w) :
    Calls Tryd.prog 5 #[.string s] w fun e w' => e = .returned (.bool true) ∧ Below w.heap.size w w' := by
  have HK := Lib.hid K
  have HKS := Lib.hid KS
  have HIw := Lib.hid hI
  clear K hI KS
  by_cases h1 : s.size ≤ 600
  · have h1a : ¬ (s.size : Int) > 600 := by omega
    have hls : s.data.toList.length = s.size := (Lib.size_eq s).symm
    obtain ⟨hf, hgd, hsh, hcn⟩ := toks_facts (l := s.data.toList) (by omega)
    have hfm := Lx.toks_form (l := s.data.toList) (by omega)
    rw [hls] at hsh hcn
    have HT := Lib.hid (fun w0 (i0 : I w0) => HK.out.toks s w0 hs i0)
    generalize Lx.toks s.data.toList = X at *
    obtain ⟨L, m, f⟩ := X
    simp only at hf hgd hsh hcn
    clear hs hls
    rcases hf with hf | hf
    · subst hf
      have HGD := Lib.hid hgd
      obtain ⟨S, hS⟩ : ∃ S : ByteArray, S = ⟨(Lx.sh L).toArray⟩ := ⟨_, rfl⟩
      have hSd : S.data.toList = Lx.sh L := by rw [hS]
      have hSl : S.size ≤ 1200 := by rw [Lib.size_eq, hSd]; omega
      have hback := Lx.toks_sh hgd (by omega)
      have hfac := toks_facts (l := S.data.toList) (by rw [← Lib.size_eq]; omega)
      have HT2 := Lib.hid (fun w0 (i0 : I w0) => HK.out.toks S w0 (by unfold maxLen; omega) i0)
      rw [hSd] at HT2 hfac
      generalize Lx.toks (Lx.sh L) = X at *
      obtain ⟨M, m2, f2⟩ := X
      simp only at hback hfac
      obtain ⟨hf2, hmap⟩ := hback
      subst hf2
      have hML : M.length = L.length := by have := congrArg List.length hmap; simpa using this
      have hmg := hfac.2.1
      have HMP := Lib.hid (And.intro hmap (And.intro hmg hML))
      have hshw : shV (Lx.shw (L.map Lx.kx)) = .tuple #[.string S, .int .i64 0] := by rw [Lx.shw_sh L hgd, hS]; rfl
      have hshm : shV (Lx.shw (M.map Lx.kx)) = .tuple #[.string S, .int .i64 0] := by rw [hmap]; exact hshw
      have HS1 := Lib.hid (fun A c w0 (i0 : I w0) (r : RdT w0 w0.heap.size A L) (hc : L.length ≤ c) => HKS.out A c L w0 i0 r hc (by omega) (fun t ht => by have := (HGD.out t ht).2.2; omega))
      have HS2 := Lib.hid (fun A c w0 (i0 : I w0) (r : RdT w0 w0.heap.size A M) (hc : M.length ≤ c) => HKS.out A c M w0 i0 r hc (by omega) (fun t ht => by have := (HMP.out.2.1 t ht).2.2; omega))
      rw [hshw] at HS1
      rw [hshm] at HS2
      have eS : (S.toList == S.toList) = true := by simp
      clear hS hSd hSl hfac hmap hmg hshw hshm hgd hfm hsh
      go_enter Tryd.func5, Tryd.ntmps5
      go_wp2_with fail
      refine (HT.out _ HIw.out).mono ?_
      rintro e w1 ⟨A1, c1, own1, rfl, b1⟩
      obtain ⟨r1, l1, _⟩ := own_rd own1 rfl
      simp only at r1 l1
      have HI1 := Lib.hid (And.intro b1 (And.intro (HK.out.stays _ _ HIw.out b1) r1))
      clear own1 b1 r1
      go_wp2_with fail
      refine (HS1.out A1 c1 _ HI1.out.2.1 HI1.out.2.2 l1).mono ?_
      rintro e w2 ⟨rfl, b2⟩
      have HI2 := Lib.hid (And.intro (HI1.out.1.trans (b2.mono HI1.out.1.size)) (And.intro (HK.out.stays _ _ HI1.out.2.1 b2) (HI1.out.2.2.on b2)))
      clear b2 HI1
      go_wp2_with fail
      refine (HT2.out _ HI2.out.2.1).mono ?_
      rintro e w3 ⟨A3, c3, own3, rfl, b3⟩
      obtain ⟨r3, l3, _⟩ := own_rd own3 rfl
      simp only at r3 l3 own3
      have HI3 := Lib.hid (And.intro (HI2.out.1.trans (b3.mono HI2.out.1.size)) (And.intro (HK.out.stays _ _ HI2.out.2.1 b3) (And.intro (HI2.out.2.2.on b3) r3)))
      clear own3 b3 HI2 r3
      go_wp2
      go_loopw [11] (fun vi wr => ∃ i : Nat, vi = .int .i64 i ∧ i ≤ L.length ∧ Hid (Below w3.heap.size w3 wr)) (fun vi _ => L.length - (intOf vi).toNat)
      case atStart => exact ⟨0, rfl, Nat.zero_le _, Lib.hid (Below.refl _ _)⟩
      case round =>
        obtain ⟨i, rfl, hi, HB⟩ := hrel
        by_cases hx : i < L.length
        · have hx' : (i : Int) < (L.length : Int) := by omega
          have hxm : i < M.length := by have := HMP.out.2.2; omega
          obtain ⟨g1, o1, hA1, hg1, d1⟩ := HI3.out.2.2.1.below HB.out (by omega)
          obtain ⟨g3, o3, hA3, hg3, d3⟩ := HI3.out.2.2.2.below HB.out (by omega)
          obtain ⟨x0, x1, x2⟩ := d1 i hx
          obtain ⟨y0, y1, y2⟩ := d3 i hxm
          clear x2 y2
          have hxm' : (i : Int) < (M.length : Int) := by omega
          obtain ⟨k1, k2⟩ := kx_at HMP.out.1 hx hxm
          rw [k1] at y0
          rw [k2] at y1
          have hgi := HGD.out _ (List.getElem_mem hx)
          subst hA1 hA3
          clear d1 d3 k1 k2
          generalize L[i] = t at *
          have his := Lx.good_is hgi
          obtain ⟨Q, hQ⟩ : ∃ Q : ByteArray, Q = ⟨t.tx.toArray⟩ := ⟨_, rfl⟩
          rw [← hQ] at x1 y1
          have HIS := Lib.hid (fun w0 (i0 : I w0) => show Calls Tryd.prog 16 #[.string Q] w0 fun e w' => e = .returned (.int .u8 t.k) ∧ Below w0.heap.size w0 w' from by
            have hq : Q.data.toList = t.tx := by rw [hQ]
            have h5 := HK.out.is Q w0 (by rw [Lib.size_eq, hq]; have := hgi.2.2; omega) i0
            rw [hq, his] at h5
            exact h5)
          generalize t.k = Kk at *
          have e0 : (Kk != Kk) = false := by simp
          have e1 : (Q.toList != Q.toList) = false := by simp
          have e2 : (!(Q.toList == Q.toList)) = false := by simp
          have HIr := Lib.hid (HK.out.stays _ _ HI3.out.2.1 HB.out)
          have hgw1 : g1 < wr.heap.size := Nat.lt_of_lt_of_le hg1 HB.out.size
          have hgw3 : g3 < wr.heap.size := Nat.lt_of_lt_of_le hg3 HB.out.size
          clear hQ his hgi
          go_wp2_with fail
          go_region_held3 (fun w' => w'.cell? ⟨g1, o1 + i * 3, none⟩ = some (.int .u8 Kk) ∧ w'.cell? ⟨g1, o1 + i * 3 + 1, none⟩ = some (.string Q) ∧ w'.cell? ⟨g3, o3 + i * 3, none⟩ = some (.int .u8 Kk) ∧ w'.cell? ⟨g3, o3 + i * 3 + 1, none⟩ = some (.string Q)) (first | exact ⟨x0, x1, y0, y1⟩ | exact ⟨(h9.cell (p := ⟨g1, _, none⟩) hgw1).trans x0, (h9.cell (p := ⟨g1, _, none⟩) hgw1).trans x1, (h9.cell (p := ⟨g3, _, none⟩) hgw3).trans y0, (h9.cell (p := ⟨g3, _, none⟩) hgw3).trans y1⟩) (first | (go_at_call 16; refine (HIS.out _ (HK.out.stays _ _ HIr.out ((Below.refl _ _).drew))).mono ?_; rintro e w9 ⟨rfl, h9⟩))
          have HB9 := Lib.hid (HB.out.trans (((Below.refl wr.heap.size wr).drew.trans h9).mono HB.out.size))
          clear h9 x0 x1 y0 y1
          go_wp2
          go_roundw
          case rel => exact ⟨i + 1, by go_num, hx, HB9⟩
          case measure => simp [intOf]; omega
        · obtain rfl : i = L.length := by omega
          have hx' : ¬ (L.length : Int) < (L.length : Int) := by omega
          clear hx
          have HIr := Lib.hid (And.intro (HI3.out.1.trans (HB.out.mono HI3.out.1.size)) (And.intro (HK.out.stays _ _ HI3.out.2.1 HB.out) (HI3.out.2.2.2.on HB.out)))
          go_wp2_with fail
          rw [← hML]
          refine (HS2.out A3 c3 _ HIr.out.2.1 HIr.out.2.2 l3).mono ?_
          rintro e w5 ⟨rfl, b5⟩
          have HI5 := Lib.hid (And.intro (HIr.out.1.trans (b5.mono HIr.out.1.size)) (HK.out.stays _ _ HIr.out.2.1 b5))
          clear b5
          go_wp2_with fail
          refine (works_any HK.out _ HI5.out.2).mono ?_
          rintro e wz ⟨rfl, hz⟩
          go_wp2
          go_ret
          exact ⟨rfl, HI5.out.1.trans (hz.mono HI5.out.1.size)⟩
    · subst hf
      have hL := hfm.2 (by simp)
      simp only at hL
      subst hL
      go_enter Tryd.func5, Tryd.ntmps5
      go_wp2_with fail
      refine (HT.out _ HIw.out).mono ?_
      rintro e w1 ⟨A1, c1, own1, rfl, b1⟩
      have HI1 := Lib.hid (And.intro b1 (HK.out.stays _ _ HIw.out b1))
      clear own1 b1
      go_wp2_with fail
      refine (works_any HK.out _ HI1.out.2).mono ?_
      rintro e wz ⟨rfl, hz⟩
      go_wp2
      go_ret
      exact ⟨rfl, HI1.out.1.trans (hz.mono HI1.out.1.size)⟩
  · have hg : (s.size : Int) > 600 := by omega
    clear h1
    go_enter Tryd.func5, Tryd.ntmps5
    go_wp2_with fail
    refine (works_any HK.out _ HIw.out).mono ?_
    rintro e wz ⟨rfl, hz⟩
    go_wp2
    go_ret
    exact ⟨rfl, hz⟩
end Go.Proofs.YtbihkigpmgipcaaDoor
