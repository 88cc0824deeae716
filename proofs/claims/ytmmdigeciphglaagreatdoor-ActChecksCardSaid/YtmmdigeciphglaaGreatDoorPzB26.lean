/- Facts and walks for the statement. -/
import Derived.Test.YtmmdigeciphglaaGreatDoorPzB25
import Derived.Test.YtmmdigeciphglaaGreatDoorPzB24
import Derived.Deep.RegionHeld3
namespace Go.Proofs.YtmmdigeciphglaaGreatDoor
open Go.RowKit Ex
theorem sames_self (s : Ac.St) : sames s s = true := decide_eq_true ⟨rfl, rfl, rfl⟩
theorem sameSs_self : ∀ ss : List Ac.St, sameSs ss ss = true
  | [] => rfl
  | s :: r => by
    show (sames s s && sameSs r r) = true
    rw [sames_self, sameSs_self r]; rfl
set_option maxHeartbeats 8000000 in
set_option maxRecDepth 100000 in
theorem rsame11_any (w : World) (A : Option Addr) (c : Nat) (ps : List (Ac.St × Value)) (hl : ps.length ≤ c) (h : StR w w.heap.size A ps) (A2 : Option Addr) (c2 : Nat) (qs : List (Ac.St × Value)) (hl2 : qs.length ≤ c2) (h2 : StR w w.heap.size A2 qs) (hp : ps.length ≤ 1000000) (hx : ∀ p ∈ ps, p.1.x.length ≤ 1000000) (hx2 : ∀ p ∈ qs, p.1.x.length ≤ 1000000) :
    Calls Tryz.prog 14 #[.slice A ps.length c, .slice A2 qs.length c2] w fun e w' => e = .returned (.bool (sameSs (ps.map (·.1)) (qs.map (·.1)))) ∧ Below w.heap.size w w' := by
  obtain ⟨R, hR⟩ : ∃ R, R = sameSs (ps.map (·.1)) (qs.map (·.1)) := ⟨_, rfl⟩
  rw [← hR]
  have H1 := Lib.hid h
  have H2 := Lib.hid h2
  have HR := Lib.hid hR
  have HX := Lib.hid hx
  have HX2 := Lib.hid hx2
  have hlI : (ps.length : Int) ≤ (c : Int) := by omega
  have hl2I : (qs.length : Int) ≤ (c2 : Int) := by omega
  clear hR h h2 hl hl2 hx hx2
  by_cases hlen : ps.length = qs.length
  · obtain ⟨n, hn⟩ : ∃ n, n = qs.length := ⟨_, rfl⟩
    have HN1 := Lib.hid (show n = ps.length by omega)
    have HN2 := Lib.hid hn
    rw [hlen, ← hn]
    rw [hlen, ← hn] at hlI hp
    rw [← hn] at hl2I
    have hpI : (n : Int) ≤ 1000000 := by omega
    have hnn : ((n : Int) != (n : Int)) = false := by simp
    clear hlen hn
    go_enter Tryz.func14, Tryz.ntmps14
    go_wp2
    go_loopw [5] (fun i wr => ∃ k : Nat, i = .int .i64 k ∧ k ≤ n ∧ Hid (Below w.heap.size w wr ∧ R = sameSs ((ps.map (·.1)).drop k) ((qs.map (·.1)).drop k))) (fun i _ => n - (intOf i).toNat)
    case atStart => exact ⟨0, rfl, Nat.zero_le _, Lib.hid ⟨Below.refl _ _, HR.out⟩⟩
    case round =>
      obtain ⟨k, rfl, hk, HI⟩ := hrel
      by_cases hlt : k < n
      · have hlt' : (k : Int) < (n : Int) := by omega
        have hka : k < ps.length := by have := HN1.out; omega
        have hkb : k < qs.length := by have := HN2.out; omega
        obtain ⟨g, o, hA, hg, c0, c1, c2_⟩ := (H1.out.below HI.out.1).cells k hka
        obtain ⟨g2, o2, hA2, hg2, d0, d1, d2⟩ := (H2.out.below HI.out.1).cells k hkb
        subst hA hA2
        obtain ⟨Ax, cx, hsx, hcx, hnd⟩ := H1.out.nds _ (List.getElem_mem hka)
        obtain ⟨Ay, cy, hsy, hcy, hndy⟩ := H2.out.nds _ (List.getElem_mem hkb)
        have hxa := HX.out _ (List.getElem_mem hka)
        have hxb := HX2.out _ (List.getElem_mem hkb)
        rw [hsx] at c2_
        rw [hsy] at d2
        have HE := Lib.hid (HI.out.2.trans (sameSs_go (a := ps.map (·.1)) (b := qs.map (·.1)) (k := k) (by rw [List.length_map]; exact hka) (by rw [List.length_map]; exact hkb)))
        rw [List.getElem_map, List.getElem_map] at HE
        have HLT := Lib.hid hlt
        clear hsx hsy hlt
        generalize ps[k] = a at *
        generalize qs[k] = b at *
        clear hka hkb
        obtain ⟨⟨kk, nm, xs⟩, av⟩ := a
        obtain ⟨⟨kk2, nm2, ys⟩, bv⟩ := b
        simp only at c0 c1 c2_ d0 d1 d2 HE hcx hcy hnd hndy hxa hxb
        obtain ⟨N, hN⟩ : ∃ N : ByteArray, N = ⟨nm.toArray⟩ := ⟨_, rfl⟩
        obtain ⟨M, hM⟩ : ∃ N : ByteArray, N = ⟨nm2.toArray⟩ := ⟨_, rfl⟩
        rw [← hN] at c1
        rw [← hM] at d1
        have HST := Lib.hid (show ¬ (kk = kk2 ∧ nm = nm2 ∧ xs = ys) → R = false from fun q => by
          rw [HE.out, show sames ⟨kk, nm, xs⟩ ⟨kk2, nm2, ys⟩ = false from decide_eq_false q]; rfl)
        have HGO := Lib.hid (show (kk = kk2 ∧ nm = nm2 ∧ xs = ys) → R = sameSs ((ps.map (·.1)).drop (k + 1)) ((qs.map (·.1)).drop (k + 1)) from fun q => by
          rw [HE.out, show sames ⟨kk, nm, xs⟩ ⟨kk2, nm2, ys⟩ = true from decide_eq_true q]; rfl)
        have HNM := Lib.hid (And.intro hN hM)
        have HND := Lib.hid (And.intro hnd hndy)
        have hcxI : (xs.length : Int) ≤ (cx : Int) := by omega
        have hcyI : (ys.length : Int) ≤ (cy : Int) := by omega
        obtain ⟨xn, hxn⟩ : ∃ x, x = xs.length := ⟨_, rfl⟩
        obtain ⟨yn, hyn⟩ : ∃ x, x = ys.length := ⟨_, rfl⟩
        rw [← hxn] at c2_ hcxI hxa
        rw [← hyn] at d2 hcyI hxb
        have HL := Lib.hid (And.intro hxn hyn)
        clear hN hM hnd hndy hcx hcy hxn hyn HE
        by_cases ek : kk = kk2
        · have e1 : (kk != kk2) = false := by rw [ek]; simp
          by_cases en : nm = nm2
          · have e2 : (N.toList != M.toList) = false := by rw [Lib.toList_data, Lib.toList_data, HNM.out.1, HNM.out.2, en]; simp
            have e2b : (N.toList == M.toList) = true := by rw [Lib.toList_data, Lib.toList_data, HNM.out.1, HNM.out.2, en]; simp
            by_cases el : xn = yn
            · subst el
              have e3 : ((xn : Int) != (xn : Int)) = false := by simp
              have HEK := Lib.hid (And.intro ek en)
              have HCB := Lib.hid (fun (w' : World) (hb : Below w.heap.size w w') => (show w'.cell? ⟨g, o + k * 3 + 2, none⟩ = some (.slice Ax xn cx) ∧ w'.cell? ⟨g2, o2 + k * 3 + 2, none⟩ = some (.slice Ay xn cy) from
                ⟨(hb.cell (p := ⟨g, _, none⟩) hg).trans ((HI.out.1.cell (p := ⟨g, _, none⟩) hg).symm.trans c2_), (hb.cell (p := ⟨g2, _, none⟩) hg2).trans ((HI.out.1.cell (p := ⟨g2, _, none⟩) hg2).symm.trans d2)⟩))
              clear ek en
              go_wp2_with fail
              go_quiet (fail)
              go_wp2
              have HB1 := Lib.hid (below_drewN HI.out.1 nq)
              generalize wr.drewN nq = wq at *
              clear c0 c1 d0 d1 c2_ d2
              go_loopw [6] (fun jv wr => ∃ j : Nat, jv = .int .i64 j ∧ j ≤ xn ∧ Hid (Below w.heap.size w wr ∧ xs.take j = ys.take j)) (fun jv _ => xn - (intOf jv).toNat)
              case atStart => exact ⟨0, rfl, Nat.zero_le _, Lib.hid ⟨HB1.out, rfl⟩⟩
              case round =>
                obtain ⟨j, rfl, hj, HJ⟩ := hrel
                obtain ⟨z1, z2⟩ := HCB.out _ HJ.out.1
                by_cases hjl : j < xn
                · have hjl' : (j : Int) < (xn : Int) := by omega
                  have hjx : j < xs.length := by have := HL.out.1; omega
                  have hjy : j < ys.length := by have := HL.out.2; omega
                  obtain ⟨ga, oa, hAx, hga, p0, p1, p2, p3, p4, p5⟩ := (HND.out.1.below HJ.out.1) j hjx
                  obtain ⟨gb, ob, hAy, hgb, r0, r1, r2, r3, r4, r5⟩ := (HND.out.2.below HJ.out.1) j hjy
                  subst hAx hAy
                  have HNE := Lib.hid (show xs[j] ≠ ys[j] → R = false from fun q => HST.out (fun e => q (by have e3 := e.2.2; subst e3; rfl)))
                  have HEQ := Lib.hid (show xs[j] = ys[j] → xs.take (j + 1) = ys.take (j + 1) from fun q => by
                    rw [List.take_succ_eq_append_getElem hjx, List.take_succ_eq_append_getElem hjy, HJ.out.2, q])
                  have HIK := Lib.hid hjl
                  have HBI := Lib.hid HJ.out.1
                  generalize xs[j] = X at *
                  generalize ys[j] = Y at *
                  clear hjx hjy hjl
                  obtain ⟨op, num, nx1, na, nb, nc⟩ := X
                  obtain ⟨op2, num2, nx2, na2, nb2, nc2⟩ := Y
                  simp only at p0 p1 p2 p3 p4 p5 r0 r1 r2 r3 r4 r5
                  obtain ⟨N2, hN⟩ : ∃ N : ByteArray, N = ⟨nx1.toArray⟩ := ⟨_, rfl⟩
                  obtain ⟨M2, hM⟩ : ∃ N : ByteArray, N = ⟨nx2.toArray⟩ := ⟨_, rfl⟩
                  rw [← hN] at p2
                  rw [← hM] at r2
                  by_cases e0 : op = op2
                  · subst e0
                    by_cases e1 : num = num2
                    · subst e1
                      by_cases e2 : nx1 = nx2
                      · obtain rfl : N2 = M2 := by rw [hN, hM, e2]
                        by_cases e3 : na = na2
                        · subst e3
                          by_cases e4 : nb = nb2
                          · subst e4
                            by_cases e5 : nc = nc2
                            · subst e5
                              have HE := Lib.hid (HEQ.out (by rw [e2]))
                              clear HNE HEQ hN hM e2
                              go_wp2_with fail
                              go_quiet (fail)
                              go_wp2
                              go_roundw
                              case rel => exact ⟨j + 1, by go_num, HIK.out, Lib.hid ⟨below_drewN HBI.out _, HE.out⟩⟩
                              case measure => have := HIK.out; simp [intOf]; omega
                            · have e5' : (nc == nc2) = false := by simpa using e5
                              have HF := Lib.hid (HNE.out (fun e => e5 (by injection e)))
                              clear HNE HEQ hN hM
                              go_wp2_with fail
                              go_quiet (fail)
                              go_wp2
                              go_ret
                              exact ⟨by rw [HF.out]; rfl, below_drewN HBI.out _⟩
                          · have e4' : (nb == nb2) = false := by simpa using e4
                            have HF := Lib.hid (HNE.out (fun e => e4 (by injection e)))
                            clear HNE HEQ hN hM
                            go_wp2_with fail
                            go_quiet (fail)
                            go_wp2
                            go_ret
                            exact ⟨by rw [HF.out]; rfl, below_drewN HBI.out _⟩
                        · have e3' : (na == na2) = false := by simpa using e3
                          have HF := Lib.hid (HNE.out (fun e => e3 (by injection e)))
                          clear HNE HEQ hN hM
                          go_wp2_with fail
                          go_quiet (fail)
                          go_wp2
                          go_ret
                          exact ⟨by rw [HF.out]; rfl, below_drewN HBI.out _⟩
                      · have e2n : ¬ N2.toList = M2.toList := fun e => e2 (by have := congrArg id e; rw [Lib.toList_data, Lib.toList_data, hN, hM] at e; exact e)
                        have e2' : (N2.toList == M2.toList) = false := beq_eq_false_iff_ne.2 e2n
                        clear e2n
                        have HF := Lib.hid (HNE.out (fun e => e2 (by injection e)))
                        clear HNE HEQ hN hM
                        go_wp2_with fail
                        go_quiet (fail)
                        go_wp2
                        go_ret
                        exact ⟨by rw [HF.out]; rfl, below_drewN HBI.out _⟩
                    · have e1' : (num == num2) = false := by simpa using e1
                      have HF := Lib.hid (HNE.out (fun e => e1 (by injection e)))
                      clear HNE HEQ hN hM
                      go_wp2_with fail
                      go_quiet (fail)
                      go_wp2
                      go_ret
                      exact ⟨by rw [HF.out]; rfl, below_drewN HBI.out _⟩
                  · have e0' : (op == op2) = false := by simpa using e0
                    have HF := Lib.hid (HNE.out (fun e => e0 (by injection e)))
                    clear HNE HEQ hN hM
                    go_wp2_with fail
                    go_quiet (fail)
                    go_wp2
                    go_ret
                    exact ⟨by rw [HF.out]; rfl, below_drewN HBI.out _⟩
                · obtain rfl : j = xn := by omega
                  have hjl' : ¬ (j : Int) < (j : Int) := by omega
                  have HF := Lib.hid (HGO.out ⟨HEK.out.1, HEK.out.2, by
                    have q := HJ.out.2
                    rwa [List.take_of_length_le (by have := HL.out.1; omega), List.take_of_length_le (by have := HL.out.2; omega)] at q⟩)
                  have HBO := Lib.hid HJ.out.1
                  clear hjl
                  go_wp2
                  go_roundw
                  case rel => exact ⟨k + 1, by go_num, HLT.out, Lib.hid ⟨HBO.out, HF.out⟩⟩
                  case measure => have := HLT.out; simp [intOf]; omega
            · have e3 : ((xn : Int) != (yn : Int)) = true := by
                have : (xn : Int) ≠ (yn : Int) := by omega
                simpa using this
              have HF := Lib.hid (HST.out (fun q => el (by rw [HL.out.1, HL.out.2, q.2.2])))
              clear HST
              go_wp2_with fail
              go_quiet (fail)
              go_wp2
              go_ret
              exact ⟨by rw [HF.out]; rfl, below_drewN HI.out.1 _⟩
          · have en2 : N.toList ≠ M.toList := fun e => en (by rw [Lib.toList_data, Lib.toList_data, HNM.out.1, HNM.out.2] at e; exact e)
            have e2 : (N.toList != M.toList) = true := by simpa using en2
            have e2b : (N.toList == M.toList) = false := beq_eq_false_iff_ne.2 en2
            have HF := Lib.hid (HST.out (fun q => en q.2.1))
            clear HST
            go_wp2_with fail
            go_quiet (fail)
            go_wp2
            go_ret
            exact ⟨by rw [HF.out]; rfl, below_drewN HI.out.1 _⟩
        · have e1 : (kk != kk2) = true := by simpa using ek
          have HF := Lib.hid (HST.out (fun q => ek q.1))
          clear HST
          go_wp2_with fail
          go_quiet (fail)
          go_wp2
          go_ret
          exact ⟨by rw [HF.out]; rfl, below_drewN HI.out.1 _⟩
      · obtain rfl : k = n := by omega
        have hlt' : ¬ ((k : Nat) : Int) < (k : Int) := by omega
        have HF := Lib.hid (show R = true from by
          rw [HI.out.2, List.drop_of_length_le (by rw [List.length_map]; exact Nat.le_of_eq HN1.out.symm), List.drop_of_length_le (by rw [List.length_map]; exact Nat.le_of_eq HN2.out.symm)]; rfl)
        go_wp2
        go_ret
        exact ⟨by rw [HF.out]; rfl, HI.out.1⟩
  · have hne : ((ps.length : Int) != (qs.length : Int)) = true := by
      have : (ps.length : Int) ≠ (qs.length : Int) := by omega
      simpa using this
    have HF := Lib.hid (show R = false from by rw [HR.out]; exact sameSs_len (by rw [List.length_map, List.length_map]; exact hlen))
    clear hlen
    go_enter Tryz.func14, Tryz.ntmps14
    go_wp2
    go_ret
    exact ⟨by rw [HF.out]; rfl, Below.refl _ _⟩
end Go.Proofs.YtmmdigeciphglaaGreatDoor
namespace Go.Proofs.YtmmdigeciphglaaGreatDoor
open Go.RowKit Ex
section
variable {v : World} {b : Nat} {A : Option Addr} {n c : Nat} {ps : List (Ac.St × Value)}
theorem Bb.check (y : Bb v b A n c ps) (T : Tx v) (hf : FitAc ps) : Calls Tryz.prog 23 #[.agg #[.slice A n c]] v (CkP (ps.map (·.1)) v) := by
  have q := acheck_any v T A c ps (by rw [y.len]; exact y.cap) y.cm y.row hf
  rw [y.len] at q; exact q
theorem Bb.print (y : Bb v b A n c ps) (T : Tx v) (hf : FitP ps) : Calls Tryz.prog 19 #[.agg #[.slice A n c]] v (PnP (ps.map (·.1)) v) := by
  have q := aprint_any v T A c ps (by rw [y.len]; exact y.cap) y.cm y.row hf
  rw [y.len] at q; exact q
theorem Bb.few (y : Bb v b A n c ps) (hi : FitIn ps) : Calls Tryz.prog 17 #[.agg #[.slice A n c]] v (BoP (fewA (ps.map (·.1))) v) := by
  have q := afew_any v A c ps y.row (by rw [y.len]; exact y.cap) y.cm hi
  rw [y.len] at q; exact q
theorem Bb.same (y : Bb v b A n c ps) {b2 : Nat} {A2 : Option Addr} {n2 c2 : Nat} {qs : List (Ac.St × Value)} (y2 : Bb v b2 A2 n2 c2 qs) (hf2 : FitAc qs) : Calls Tryz.prog 25 #[.agg #[.slice A n c], .agg #[.slice A2 n2 c2]] v fun e w' => e = .returned (.bool (sameSs (ps.map (·.1)) (qs.map (·.1)))) ∧ Below v.heap.size v w' := by
  have q := asame_any v A c ps (by rw [y.len]; exact y.cap) y.cm y.row A2 c2 qs (by rw [y2.len]; exact y2.cap) y2.row hf2
  rw [y.len, y2.len] at q; exact q
theorem Bb.types (y : Bb v b A n c ps) (T : Tyx v) (hf : FitAc ps) {Av : Option Addr} {cv : Nat} {vs : List Ty.Nm} (hv : NsR v v.heap.size Av vs) (hcv : vs.length ≤ cv) (hfv : FitN vs) {Ae : Option Addr} {ce : Nat} {es : List Ty.Nm} (he : NsR v v.heap.size Ae es) (hce : es.length ≤ ce) (hfe : FitN es) :
    Calls Tryz.prog 21 #[.agg #[.slice A n c], .slice Av vs.length cv, .slice Ae es.length ce] v (TpP (ps.map (·.1)) vs es v) := by
  have q := atypes_any v T A c ps (by rw [y.len]; exact y.cap) y.cm y.row hf Av cv vs hv hcv hfv Ae ce es he hce hfe
  rw [y.len] at q; exact q
def LrA (ss : List Ac.St) (n : Nat) (w : World) (e : Ending) (w' : World) : Prop := ∃ A c qs, e = .returned (.slice A n c) ∧ SrO w.heap.size w' (.slice A n c) qs ∧ StR w' w'.heap.size A qs ∧ qs.map (·.1) = ss ∧ qs.length = n ∧ n ≤ c ∧ Below w.heap.size w w'
theorem Bb.ref (y : Bb v b A n c ps) (hn : n ≤ 1000000) (hx : ∀ p ∈ ps, p.1.x.length ≤ 1000000) : Calls Tryz.prog 15 #[.agg #[.slice A n c]] v (LrA (ps.map (·.1)) n v) := by
  have q := aref11_any v A c ps y.row (by rw [y.len]; exact y.cap) (by rw [y.len]; exact hn) hx
  rw [y.len] at q
  refine q.mono ?_
  rintro e w' ⟨A2, c2, qs, h1, h2, h3, h4⟩
  have hl : qs.length = n := by rw [← List.length_map (f := (·.1)), h3, List.length_map, y.len]
  rw [List.length_map, y.len] at h1 h2
  obtain ⟨r1, r2, r3⟩ := h2.reads hl.symm
  exact ⟨A2, c2, qs, h1, h2, r1, h3, hl, r2, h4⟩
end
theorem rsame_yes (v : World) (A : Option Addr) (n c : Nat) (ps : List (Ac.St × Value)) (h : StR v v.heap.size A ps) (hl : ps.length = n) (hc : n ≤ c) (A2 : Option Addr) (c2 : Nat) (qs : List (Ac.St × Value)) (h2 : StR v v.heap.size A2 qs) (hl2 : qs.length = n) (hc2 : n ≤ c2) (hn : n ≤ 1000000) (hx : ∀ p ∈ ps, p.1.x.length ≤ 1000000) (he : qs.map (·.1) = ps.map (·.1)) :
    Calls Tryz.prog 14 #[.slice A n c, .slice A2 n c2] v fun e w' => e = .returned (.bool true) ∧ Below v.heap.size v w' := by
  have hx2 : ∀ p ∈ qs, p.1.x.length ≤ 1000000 := fun p hp => by
    have h3 : p.1 ∈ ps.map (·.1) := by rw [← he]; exact List.mem_map_of_mem hp
    obtain ⟨q, hq, e⟩ := List.mem_map.1 h3
    rw [← e]; exact hx q hq
  have q := rsame11_any v A c ps (by rw [hl]; exact hc) h A2 c2 qs (by rw [hl2]; exact hc2) h2 (by rw [hl]; exact hn) hx hx2
  rw [hl, hl2, he, sameSs_self] at q
  exact q
theorem vols_few {ss : List Ac.St} (h : ∀ s ∈ ss, s.x.length ≤ 40) : Ac.vols ss ≤ 45 * ss.length := by
  induction ss with
  | nil => exact Nat.zero_le _
  | cons s r ih =>
    have h1 := h s (List.mem_cons_self ..)
    have h2 := ih (fun q hq => h q (List.mem_cons_of_mem _ hq))
    have h3 : Ac.vol s ≤ 45 := by unfold Ac.vol; split <;> omega
    show Ac.vol s + Ac.vols r ≤ 45 * (r.length + 1)
    omega
def TlF (ss : List Ac.St) : Prop := (∀ t ∈ ss, StFit t) ∧ Ac.vols ss ≤ 1000
theorem TlF.few {ps : List (Ac.St × Value)} (h : fewA (ps.map (·.1))) (hi : FitIn ps) : TlF (ps.map (·.1)) := by
  refine ⟨fun t ht => ?_, ?_⟩
  · obtain ⟨p, hp, rfl⟩ := List.mem_map.1 ht
    have h1 := fewA_fit h hi p hp
    have h2 := (h.2 _ ht).2.1
    exact ⟨h1.1, h1.2, by omega⟩
  · have := vols_few (ss := ps.map (·.1)) (fun s hs => (h.2 s hs).2.1)
    have := h.1
    omega
theorem TlF.text {s : List UInt8} (hs : s.length ≤ 900) : TlF (Ac.act s).1 := by
  refine ⟨act_fit s, ?_⟩
  by_cases h : (Ac.act s).2.2 = 0
  · have := (Ac.act_right (by omega) h).2.2.1; omega
  · rw [act_bad h]; exact Nat.zero_le _
theorem TlF.okn {ss : List Ac.St} (h : TlF ss) : Ac.oknB ss := fun s hs n hn => ⟨((h.1 s hs).1.1.2 n hn).2, (h.1 s hs).1.2 n hn⟩
theorem TlF.back {ss : List Ac.St} (h : TlF ss) (ho : Ac.okB ss) : Ac.act (Ac.btx ss) = (ss, 0, 0) ∧ (Ac.btx ss).length ≤ 65536 := by
  have h1 := Ac.btx_len ho h.okn
  have h2 := h.2
  have h3 : (Ac.btx ss).length ≤ 65536 := by omega
  exact ⟨Ac.back ho h.okn h3, h3⟩
end Go.Proofs.YtmmdigeciphglaaGreatDoor
namespace Go.Proofs.YtmmdigeciphglaaGreatDoor
open Go.RowKit Ex
structure BaI (w : World) (A : Option Addr) (n c : Nat) (ps : List (Ac.St × Value)) (v : World) : Prop where
  below : Below w.heap.size w v
  tx : Tyx v
  x1 : Bb v w.heap.size A n c ps
theorem BaI.on {w : World} {A : Option Addr} {n c : Nat} {ps : List (Ac.St × Value)} {v v' : World} (h : BaI w A n c ps v) (hb : Below v.heap.size v v') : BaI w A n c ps v' :=
  ⟨h.below.trans (hb.mono h.below.size), h.tx.below hb, h.x1.below hb⟩
theorem BaI.new {w : World} (T : Tyx w) {A : Option Addr} {c : Nat} {ps : List (Ac.St × Value)} (h : StR w w.heap.size A ps) (hc : ps.length ≤ c) (hm : c ≤ maxLen) : BaI w A ps.length c ps (w.alloc (.cells #[.slice A ps.length c] 29)) :=
  ⟨(Below.refl _ _).alloc (Nat.le_refl _) _, T.below ((Below.refl _ _).alloc (Nat.le_refl _) _), Bb.new h rfl hc hm⟩
structure BaS (w : World) (b5 : Nat) (A5 : Option Addr) (n5 c5 : Nat) (p5 : List (Ac.St × Value)) (b6 : Nat) (A6 : Option Addr) (c6 : Nat) (p6 : List (Ac.St × Value)) (v : World) : Prop where
  below : Below w.heap.size w v
  tx : Tyx v
  x5 : Bb v b5 A5 n5 c5 p5
  x6 : Bb v b6 A6 n5 c6 p6
theorem BaS.on {w : World} {b5 : Nat} {A5 : Option Addr} {n5 c5 : Nat} {p5 : List (Ac.St × Value)} {b6 : Nat} {A6 : Option Addr} {c6 : Nat} {p6 : List (Ac.St × Value)} {v v' : World} (h : BaS w b5 A5 n5 c5 p5 b6 A6 c6 p6 v) (hb : Below v.heap.size v v') : BaS w b5 A5 n5 c5 p5 b6 A6 c6 p6 v' :=
  ⟨h.below.trans (hb.mono h.below.size), h.tx.below hb, h.x5.below hb, h.x6.below hb⟩
theorem BaS.s2 {w : World} {b5 : Nat} {A5 : Option Addr} {n5 c5 : Nat} {p5 : List (Ac.St × Value)} {b6 : Nat} {A6 : Option Addr} {c6 : Nat} {p6 : List (Ac.St × Value)} {v : World} (h : BaS w b5 A5 n5 c5 p5 b6 A6 c6 p6 v) : v.cell? ⟨b5, 0, none⟩ = some (.slice A5 n5 c5) ∧ v.cell? ⟨b6, 0, none⟩ = some (.slice A6 n5 c6) := ⟨h.x5.at_, h.x6.at_⟩
set_option maxHeartbeats 16000000 in
set_option maxRecDepth 100000 in
theorem aback_any (w : World) (T : Tyx w) (A : Option Addr) (c : Nat) (ps : List (Ac.St × Value)) (h : StR w w.heap.size A ps) (hc : ps.length ≤ c) (hm : c ≤ maxLen) (hi : FitIn ps) (s : ByteArray) (hs : s.size ≤ maxLen) :
    Calls Tryz.prog 5 #[.agg #[.slice A ps.length c], .string s] w fun e w' => e = .returned (.bool true) ∧ Below w.heap.size w w' := by
  have I0 := Lib.hid (BaI.new T h hc hm)
  have k0 := I0.out.x1.at_
  have HWK := Lib.hid (fun v (T0 : Tyx v) => aworks_any v T0)
  have HFW := Lib.hid (fun v (y : BaI w A ps.length c ps v) => y.x1.few hi)
  have HTF := Lib.hid (fun (q : fewA (ps.map (·.1))) => TlF.few q hi)
  have HPS := Lib.hid (fun v (T0 : Tx v) => aparse_val s rfl hs v T0)
  have HLT := Lib.hid (show s.data.toList.length = s.size from (Lib.size_eq s).symm)
  obtain ⟨n, hn⟩ : ∃ n, n = ps.length := ⟨_, rfl⟩
  have HN := Lib.hid hn
  rw [← hn] at I0 k0 HFW ⊢
  clear T h hc hm hi hs hn
  by_cases h6 : s.size ≤ 600
  · have h6' : ¬ (s.size : Int) > 600 := by omega
    have h6d : decide ((s.size : Int) > 600) = false := decide_eq_false h6'
    have HTX := Lib.hid (TlF.text (s := s.data.toList) (by rw [HLT.out]; omega))
    have HRT := Lib.hid (fun (q : (Ac.act s.data.toList).2.2 = 0) => (Ac.act_right (by rw [HLT.out]; omega) q).1)
    have HBD := Lib.hid (fun (q : (Ac.act s.data.toList).2.2 ≠ 0) => act_bad q)
    clear h6
    go_enter Tryz.func5, Tryz.ntmps5
    go_wp2_with fail
    refine (HFW.out _ I0.out).mono ?_
    rintro e v1 ⟨⟨b, rfl, hbb⟩, hb⟩
    have I1 := Lib.hid (I0.out.on hb)
    have HBB := Lib.hid hbb
    clear hb hbb
    have k1 := I1.out.x1.at_
    clear k0
    cases b with
    | false =>
      go_wp2_with fail
      refine (HWK.out _ I1.out.tx).mono ?_
      rintro e vw ⟨rfl, hb⟩
      have IW := Lib.hid (I1.out.on hb)
      clear hb
      go_wp2
      go_ret
      exact ⟨rfl, IW.out.below⟩
    | true =>
      have TF := Lib.hid (HTF.out (HBB.out.1 rfl))
      obtain ⟨X, hX⟩ : ∃ X, X = Ac.act s.data.toList := ⟨_, rfl⟩
      rw [← hX] at HPS HTX HRT HBD
      obtain ⟨ss, at_, er⟩ := X
      simp only at HTX HRT HBD
      clear hX
      go_wp2_with fail
      refine (HPS.out _ I1.out.tx.tx).mono ?_
      rintro e v2 ⟨A5, c5, p5, hp5, hr5, hc5, hm5, rfl, _, hb⟩
      simp only at hc5 hp5 ⊢
      obtain ⟨b5, hb5⟩ : ∃ b, b = v2.heap.size := ⟨_, rfl⟩
      have I2 := Lib.hid (I1.out.on hb)
      have k2 := I2.out.x1.at_
      by_cases her : er = 0
      · subst her
        have TL := Lib.hid (show TlF (p5.map (·.1)) from by rw [hp5]; exact HTX.out)
        have HRT2 := Lib.hid (show Ac.okB (p5.map (·.1)) from by rw [hp5]; exact HRT.out rfl)
        obtain ⟨n5, hn5⟩ : ∃ n, n = ss.length := ⟨_, rfl⟩
        rw [← hn5] at hc5 ⊢
        obtain ⟨W5, hW5⟩ : ∃ W, W = v2.alloc (.cells #[.slice A5 n5 c5] 29) := ⟨_, rfl⟩
        have hv : Below v2.heap.size v2 W5 := by rw [hW5]; exact (Below.refl _ _).alloc (Nat.le_refl _) _
        have B5 := Lib.hid (I2.out.below.trans (hv.mono I2.out.below.size))
        have T5 := Lib.hid (I2.out.tx.below hv)
        have Y5 := Lib.hid (show Bb W5 b5 A5 n5 c5 p5 from by rw [hW5, hb5]; exact Bb.new hr5 (by rw [hn5, ← hp5, List.length_map]) hc5 hm5)
        have x5 := Y5.out.at_
        have HW5 := Lib.hid (And.intro hW5 hb5)
        rw [hW5, hb5] at x5
        clear hb hv hp5 hr5 hc5 hm5 hW5 hb5 hn5 k1 k2 I1 I2
        -- in world v$P: I$P the way, Y5 the box at b5
        go_wp2_with fail
        rw [← HW5.out.1, ← HW5.out.2]
        refine (Y5.out.check T5.out.tx (fits_p rfl TL.out.1).b).mono ?_
        clear x5
        rintro e v6 ⟨hq, hb⟩
        have B6 := Lib.hid (B5.out.trans (hb.mono B5.out.size))
        have T6 := Lib.hid (T5.out.below hb)
        have Y6 := Lib.hid (Y5.out.below hb)
        have y6 := Y6.out.at_
        clear hb Y5 T5 B5
        rcases hq with ⟨rfl, hok⟩ | ⟨rfl, hno⟩
        case inr => exact absurd HRT2.out hno
        have HOK := Lib.hid hok
        have HBK := Lib.hid (TL.out.back hok)
        have HN6 := Lib.hid (show n5 ≤ 1000000 ∧ p5.length = n5 from ⟨by have h1 := hok.1; rw [List.length_map, Y6.out.len] at h1; omega, Y6.out.len⟩)
        clear hok
        go_wp2_with fail
        refine (Y6.out.print T6.out.tx (fits_p rfl TL.out.1)).mono ?_
        rintro e v7 ⟨hq, hb⟩
        rcases hq with ⟨_, rfl⟩ | ⟨hno, _⟩
        case inr => exact absurd HOK.out hno
        have B7 := Lib.hid (B6.out.trans (hb.mono B6.out.size))
        have T7 := Lib.hid (T6.out.below hb)
        have Y7 := Lib.hid (Y6.out.below hb)
        have y7 := Y7.out.at_
        obtain ⟨U, hU⟩ : ∃ U : ByteArray, U = ⟨(Ac.btx (p5.map (·.1))).toArray⟩ := ⟨_, rfl⟩
        rw [← hU]
        have HUP := Lib.hid (fun (v : World) (T : Tx v) => aparse_val U (X := (p5.map (·.1), 0, 0)) (by rw [hU]; exact HBK.out.1) (by rw [Lib.size_eq, hU]; exact Nat.le_trans HBK.out.2 (by decide)) v T)
        have HU := Lib.hid hU
        clear hb y6 Y6 T6 B6 hU
        go_wp2_with fail
        refine (HUP.out _ T7.out.tx).mono ?_
        rintro e v8 ⟨A6, c6, p6, hp6, hr6, hc6, hm6, rfl, _, hb⟩
        simp only at hc6 hp6 ⊢
        rw [List.length_map, HN6.out.2] at hc6 ⊢
        obtain ⟨b6, hb6⟩ : ∃ b, b = v8.heap.size := ⟨_, rfl⟩
        obtain ⟨W9, hW9⟩ : ∃ W, W = v8.alloc (.cells #[.slice A6 n5 c6] 29) := ⟨_, rfl⟩
        have hv : Below v7.heap.size v7 W9 := by rw [hW9]; exact hb.alloc hb.size _
        have HK := Lib.hid (show BaS w b5 A5 n5 c5 p5 b6 A6 c6 p6 W9 from ⟨B7.out.trans (hv.mono B7.out.size), T7.out.below hv, Y7.out.below hv, by rw [hW9, hb6]; exact Bb.new hr6 (by rw [← List.length_map (f := (·.1)), hp6, List.length_map, HN6.out.2]) hc6 hm6⟩)
        have HP6 := Lib.hid hp6
        have x6 := HK.out.x6.at_
        have HW9 := Lib.hid (And.intro hW9 hb6)
        rw [hW9, hb6] at x6
        clear hb hv y7 Y7 T7 B7 hp6 hr6 hc6 hm6 hW9 hb6
        go_wp2_with fail
        rw [← HW9.out.1]
        refine (HK.out.x6.print HK.out.tx.tx (fits_p HP6.out TL.out.1)).mono ?_
        rintro e v10 ⟨hq, hb⟩
        rw [HP6.out] at hq
        rcases hq with ⟨_, rfl⟩ | ⟨hno, _⟩
        case inr => exact absurd HOK.out hno
        rw [← HU.out, ← HW9.out.2]
        replace HK := Lib.hid (HK.out.on hb)
        clear hb x6
        go_wp2_with fail
        refine wp_region_held_drew (S := fun w' => w'.cell? ⟨b5, 0, none⟩ = some (.slice A5 n5 c5) ∧ w'.cell? ⟨b6, 0, none⟩ = some (.slice A6 n5 c6)) (by kernel_rfl) (HK.out.on (Below.refl _ _).drew).s2 (fun hHeld => ?_)
        refine wpAnyH_take (i := 0) (v := .int .i64 0) rfl (by kernel_rfl) (by kernel_rfl) (by kernel_rfl) (fun _ _ _ h => h) (Or.inl ⟨by rfl, by (intro w hS; try (obtain ⟨s0, s1⟩ := hS); go_simp)⟩) hHeld ?_
        try simp only [Act.put, List.getElem_toArray, List.getElem_cons_zero, List.setIfInBounds_toArray, List.set_cons_zero, List.set_cons_succ]
        refine wpAnyH_take (i := 1) (v := .bool true) rfl (by kernel_rfl) (by kernel_rfl) (by kernel_rfl) (fun _ _ _ h => h) (Or.inl ⟨by rfl, by (intro w hS; try (obtain ⟨s0, s1⟩ := hS); go_simp)⟩) hHeld ?_
        try simp only [Act.put, List.getElem_toArray, List.getElem_cons_succ, List.getElem_cons_zero, List.setIfInBounds_toArray, List.set_cons_zero, List.set_cons_succ]
        refine wpAnyH_take (i := 2) (v := .bool true) rfl (by kernel_rfl) (by kernel_rfl) (by kernel_rfl) (fun _ _ _ h => h) (Or.inl ⟨by rfl, by (intro w hS; try (obtain ⟨s0, s1⟩ := hS); go_simp)⟩) hHeld ?_
        try simp only [Act.put, List.getElem_toArray, List.getElem_cons_succ, List.getElem_cons_zero, List.setIfInBounds_toArray, List.set_cons_zero, List.set_cons_succ]
        refine wpAnyH_take (i := 3) (v := .int .i64 0) rfl (by kernel_rfl) (by kernel_rfl) (by kernel_rfl) (fun _ _ _ h => h) (Or.inl ⟨by rfl, by (intro w hS; try (obtain ⟨s0, s1⟩ := hS); go_simp)⟩) hHeld ?_
        try simp only [Act.put, List.getElem_toArray, List.getElem_cons_succ, List.getElem_cons_zero, List.setIfInBounds_toArray, List.set_cons_zero, List.set_cons_succ]
        refine wpAnyH_take (i := 4) (v := .bool true) rfl (by kernel_rfl) (by kernel_rfl) (by kernel_rfl) (fun _ _ _ h => h) (Or.inl ⟨by rfl, by (intro w hS; try (obtain ⟨s0, s1⟩ := hS); go_simp)⟩) hHeld ?_
        try simp only [Act.put, List.getElem_toArray, List.getElem_cons_succ, List.getElem_cons_zero, List.setIfInBounds_toArray, List.set_cons_zero, List.set_cons_succ]
        refine wpAnyH_take (i := 5) (v := .bool true) rfl (by kernel_rfl) (by kernel_rfl) (by kernel_rfl) (fun _ _ _ h => h) (Or.inl ⟨by rfl, by (intro w hS; try (obtain ⟨s0, s1⟩ := hS); go_simp)⟩) hHeld ?_
        try simp only [Act.put, List.getElem_toArray, List.getElem_cons_succ, List.getElem_cons_zero, List.setIfInBounds_toArray, List.set_cons_zero, List.set_cons_succ]
        refine wpAnyH_take (i := 6) (v := .bool true) rfl (by kernel_rfl) (by kernel_rfl) (by kernel_rfl) (fun _ _ _ h => h) (Or.inl ⟨by rfl, by (intro w hS; try (obtain ⟨s0, s1⟩ := hS); go_simp)⟩) hHeld ?_
        try simp only [Act.put, List.getElem_toArray, List.getElem_cons_succ, List.getElem_cons_zero, List.setIfInBounds_toArray, List.set_cons_zero, List.set_cons_succ]
        refine wpAnyH_take (i := 7) (v := .int .i64 0) rfl (by kernel_rfl) (by kernel_rfl) (by kernel_rfl) (fun _ _ _ h => h) (Or.inl ⟨by rfl, by (intro w hS; try (obtain ⟨s0, s1⟩ := hS); go_simp)⟩) hHeld ?_
        try simp only [Act.put, List.getElem_toArray, List.getElem_cons_succ, List.getElem_cons_zero, List.setIfInBounds_toArray, List.set_cons_zero, List.set_cons_succ]
        refine wpAnyH_take (i := 8) (v := .bool true) rfl (by kernel_rfl) (by kernel_rfl) (by kernel_rfl) (fun _ _ _ h => h) (Or.inl ⟨by rfl, by (intro w hS; try (obtain ⟨s0, s1⟩ := hS); go_simp)⟩) hHeld ?_
        try simp only [Act.put, List.getElem_toArray, List.getElem_cons_succ, List.getElem_cons_zero, List.setIfInBounds_toArray, List.set_cons_zero, List.set_cons_succ]
        refine wpAnyH_take (i := 9) (v := .bool true) rfl (by kernel_rfl) (by kernel_rfl) (by kernel_rfl) (fun _ _ _ h => h) (Or.inl ⟨by rfl, by (intro w hS; try (obtain ⟨s0, s1⟩ := hS); go_simp)⟩) hHeld ?_
        try simp only [Act.put, List.getElem_toArray, List.getElem_cons_succ, List.getElem_cons_zero, List.setIfInBounds_toArray, List.set_cons_zero, List.set_cons_succ]
        refine wpAnyH_take (i := 10) (v := .bool true) rfl (by kernel_rfl) (by kernel_rfl) (by kernel_rfl) (fun _ _ _ h => h) (Or.inl ⟨by rfl, by (intro w hS; try (obtain ⟨s0, s1⟩ := hS); go_simp)⟩) hHeld ?_
        try simp only [Act.put, List.getElem_toArray, List.getElem_cons_succ, List.getElem_cons_zero, List.setIfInBounds_toArray, List.set_cons_zero, List.set_cons_succ]
        refine wpAnyH_take (i := 11) (v := .agg #[.slice A5 n5 c5]) rfl (by kernel_rfl) (by kernel_rfl) (by kernel_rfl) (fun _ _ _ h => h) (Or.inl ⟨by rfl, by (intro w hS; try (obtain ⟨s0, s1⟩ := hS); go_simp)⟩) hHeld ?_
        try simp only [Act.put, List.getElem_toArray, List.getElem_cons_succ, List.getElem_cons_zero, List.setIfInBounds_toArray, List.set_cons_zero, List.set_cons_succ]
        refine wpAnyH_take (i := 12) (v := .agg #[.slice A6 n5 c6]) rfl (by kernel_rfl) (by kernel_rfl) (by kernel_rfl) (fun _ _ _ h => h) (Or.inl ⟨by rfl, by (intro w hS; try (obtain ⟨s0, s1⟩ := hS); go_simp)⟩) hHeld ?_
        try simp only [Act.put, List.getElem_toArray, List.getElem_cons_succ, List.getElem_cons_zero, List.setIfInBounds_toArray, List.set_cons_zero, List.set_cons_succ]
        refine wpAnyH_ready (rs := [13]) (by kernel_rfl) (by simp) ?_
        refine AllReadyH.cons rfl (fun K hK => ?_) AllReadyH.nil
        go_simp
        replace HK := Lib.hid (HK.out.on (Below.refl _ _).drew)
        refine (HK.out.x5.same HK.out.x6 (fits_p HP6.out TL.out.1).b).mono ?_
        rw [HP6.out, sameSs_self]
        rintro e v11 ⟨rfl, hb⟩
        replace HK := Lib.hid (HK.out.on hb)
        clear hb
        refine hK _ _ HK.out.s2 (fun hHeld => ?_)
        clear hK K
        try simp only [Act.put, List.getElem_toArray, List.getElem_cons_succ, List.getElem_cons_zero, List.setIfInBounds_toArray, List.set_cons_zero, List.set_cons_succ]
        refine wpAnyH_take (i := 14) (v := .bool true) rfl (by kernel_rfl) (by kernel_rfl) (by kernel_rfl) (fun _ _ _ h => h) (Or.inl ⟨by rfl, by (intro w hS; try (obtain ⟨s0, s1⟩ := hS); go_simp)⟩) hHeld ?_
        try simp only [Act.put, List.getElem_toArray, List.getElem_cons_succ, List.getElem_cons_zero, List.setIfInBounds_toArray, List.set_cons_zero, List.set_cons_succ]
        refine wpAnyH_take (i := 15) (v := .bool true) rfl (by kernel_rfl) (by kernel_rfl) (by kernel_rfl) (fun _ _ _ h => h) (Or.inl ⟨by rfl, by (intro w hS; try (obtain ⟨s0, s1⟩ := hS); go_simp)⟩) hHeld ?_
        try simp only [Act.put, List.getElem_toArray, List.getElem_cons_succ, List.getElem_cons_zero, List.setIfInBounds_toArray, List.set_cons_zero, List.set_cons_succ]
        refine wpAnyH_take (i := 16) (v := .agg #[.slice A5 n5 c5]) rfl (by kernel_rfl) (by kernel_rfl) (by kernel_rfl) (fun _ _ _ h => h) (Or.inl ⟨by rfl, by (intro w hS; try (obtain ⟨s0, s1⟩ := hS); go_simp)⟩) hHeld ?_
        try simp only [Act.put, List.getElem_toArray, List.getElem_cons_succ, List.getElem_cons_zero, List.setIfInBounds_toArray, List.set_cons_zero, List.set_cons_succ]
        refine wpAnyH_take (i := 18) (v := .agg #[.slice A6 n5 c6]) rfl (by kernel_rfl) (by kernel_rfl) (by kernel_rfl) (fun _ _ _ h => h) (Or.inl ⟨by rfl, by (intro w hS; try (obtain ⟨s0, s1⟩ := hS); go_simp)⟩) hHeld ?_
        try simp only [Act.put, List.getElem_toArray, List.getElem_cons_succ, List.getElem_cons_zero, List.setIfInBounds_toArray, List.set_cons_zero, List.set_cons_succ]
        refine wpAnyH_ready (rs := [17]) (by kernel_rfl) (by simp) ?_
        refine AllReadyH.cons rfl (fun K hK => ?_) AllReadyH.nil
        go_simp
        refine (HK.out.x5.ref HN6.out.1 (fits_x rfl TL.out.1)).mono ?_
        rintro e v12 ⟨Ar, cr, qr, rfl, _, hr, hqr, hlr, hcr, hb⟩
        replace HK := Lib.hid (HK.out.on hb)
        have HR := Lib.hid (And.intro hr (And.intro hqr (And.intro hlr hcr)))
        clear hb hr hqr hlr hcr
        refine hK _ _ HK.out.s2 (fun hHeld => ?_)
        clear hK K
        try simp only [Act.put, List.getElem_toArray, List.getElem_cons_succ, List.getElem_cons_zero, List.setIfInBounds_toArray, List.set_cons_zero, List.set_cons_succ]
        refine wpAnyH_ready (rs := [19]) (by kernel_rfl) (by simp) ?_
        refine AllReadyH.cons rfl (fun K hK => ?_) AllReadyH.nil
        go_simp
        refine (HK.out.x6.ref HN6.out.1 (fits_x HP6.out TL.out.1)).mono ?_
        rintro e v13 ⟨Az, cz, qz, rfl, _, hr, hqz, hlz, hcz, hb⟩
        replace HK := Lib.hid (HK.out.on hb)
        have HZ := Lib.hid (And.intro hr (And.intro hqz (And.intro hlz hcz)))
        replace HR := Lib.hid (show StR v13 v13.heap.size Ar qr ∧ qr.map (·.1) = p5.map (·.1) ∧ qr.length = n5 ∧ n5 ≤ cr from ⟨HR.out.1.on hb, HR.out.2⟩)
        clear hb hr hqz hlz hcz
        refine hK _ _ HK.out.s2 (fun hHeld => ?_)
        clear hK K
        try simp only [Act.put, List.getElem_toArray, List.getElem_cons_succ, List.getElem_cons_zero, List.setIfInBounds_toArray, List.set_cons_zero, List.set_cons_succ]
        refine wpAnyH_ready (rs := [20]) (by kernel_rfl) (by simp) ?_
        refine AllReadyH.cons rfl (fun K hK => ?_) AllReadyH.nil
        go_simp
        refine (rsame_yes _ Ar n5 cr qr HR.out.1 HR.out.2.2.1 HR.out.2.2.2 Az cz qz HZ.out.1 HZ.out.2.2.1 HZ.out.2.2.2 HN6.out.1 (fits_x HR.out.2.1 TL.out.1) (by rw [HZ.out.2.1, HP6.out, HR.out.2.1])).mono ?_
        rintro e v14 ⟨rfl, hb⟩
        replace HK := Lib.hid (HK.out.on hb)
        clear hb
        refine hK _ _ HK.out.s2 (fun hHeld => ?_)
        clear hK K
        try simp only [Act.put, List.getElem_toArray, List.getElem_cons_succ, List.getElem_cons_zero, List.setIfInBounds_toArray, List.set_cons_zero, List.set_cons_succ]
        refine wpAnyH_take (i := 21) (v := .bool true) rfl (by kernel_rfl) (by kernel_rfl) (by kernel_rfl) (fun _ _ _ h => h) (Or.inl ⟨by rfl, by (intro w hS; try (obtain ⟨s0, s1⟩ := hS); go_simp)⟩) hHeld ?_
        try simp only [Act.put, List.getElem_toArray, List.getElem_cons_succ, List.getElem_cons_zero, List.setIfInBounds_toArray, List.set_cons_zero, List.set_cons_succ]
        refine wpAnyH_take (i := 22) (v := .bool true) rfl (by kernel_rfl) (by kernel_rfl) (by kernel_rfl) (fun _ _ _ h => h) (Or.inl ⟨by rfl, by (intro w hS; try (obtain ⟨s0, s1⟩ := hS); go_simp)⟩) hHeld ?_
        try simp only [Act.put, List.getElem_toArray, List.getElem_cons_succ, List.getElem_cons_zero, List.setIfInBounds_toArray, List.set_cons_zero, List.set_cons_succ]
        refine wpAnyH_take (i := 23) (v := .string U) rfl (by kernel_rfl) (by kernel_rfl) (by kernel_rfl) (fun _ _ _ h => h) (Or.inl ⟨by rfl, by (intro w hS; try (obtain ⟨s0, s1⟩ := hS); go_simp)⟩) hHeld ?_
        try simp only [Act.put, List.getElem_toArray, List.getElem_cons_succ, List.getElem_cons_zero, List.setIfInBounds_toArray, List.set_cons_zero, List.set_cons_succ]
        refine wpAnyH_take (i := 24) (v := .string U) rfl (by kernel_rfl) (by kernel_rfl) (by kernel_rfl) (fun _ _ _ h => h) (Or.inl ⟨by rfl, by (intro w hS; try (obtain ⟨s0, s1⟩ := hS); go_simp)⟩) hHeld ?_
        try simp only [Act.put, List.getElem_toArray, List.getElem_cons_succ, List.getElem_cons_zero, List.setIfInBounds_toArray, List.set_cons_zero, List.set_cons_succ]
        refine wpAnyH_take (i := 25) (v := .bool true) rfl (by kernel_rfl) (by kernel_rfl) (by kernel_rfl) (fun _ _ _ h => h) (Or.inl ⟨by rfl, by (intro w hS; try (obtain ⟨s0, s1⟩ := hS); go_simp)⟩) hHeld ?_
        try simp only [Act.put, List.getElem_toArray, List.getElem_cons_succ, List.getElem_cons_zero, List.setIfInBounds_toArray, List.set_cons_zero, List.set_cons_succ]
        refine wpAnyH_take (i := 26) (v := .bool true) rfl (by kernel_rfl) (by kernel_rfl) (by kernel_rfl) (fun _ _ _ h => h) (Or.inl ⟨by rfl, by (intro w hS; try (obtain ⟨s0, s1⟩ := hS); go_simp)⟩) hHeld ?_
        try simp only [Act.put, List.getElem_toArray, List.getElem_cons_succ, List.getElem_cons_zero, List.setIfInBounds_toArray, List.set_cons_zero, List.set_cons_succ]
        refine wpAnyH_take (i := 27) (v := .bool true) rfl (by kernel_rfl) (by kernel_rfl) (by kernel_rfl) (fun _ _ _ h => h) (Or.inl ⟨by rfl, by (intro w hS; try (obtain ⟨s0, s1⟩ := hS); go_simp)⟩) hHeld ?_
        try simp only [Act.put, List.getElem_toArray, List.getElem_cons_succ, List.getElem_cons_zero, List.setIfInBounds_toArray, List.set_cons_zero, List.set_cons_succ]
        refine wpAnyH_ready (rs := [28]) (by kernel_rfl) (by simp) ?_
        refine AllReadyH.cons rfl (fun K hK => ?_) AllReadyH.nil
        go_simp
        refine (HWK.out _ HK.out.tx).mono ?_
        rintro e v15 ⟨rfl, hb⟩
        replace HK := Lib.hid (HK.out.on hb)
        clear hb
        refine hK _ _ HK.out.s2 (fun hHeld => ?_)
        clear hK K
        try simp only [Act.put, List.getElem_toArray, List.getElem_cons_succ, List.getElem_cons_zero, List.setIfInBounds_toArray, List.set_cons_zero, List.set_cons_succ]
        refine wpAnyH_take (i := 29) (v := .bool true) rfl (by kernel_rfl) (by kernel_rfl) (by kernel_rfl) (fun _ _ _ h => h) (Or.inl ⟨by rfl, by (intro w hS; try (obtain ⟨s0, s1⟩ := hS); go_simp)⟩) hHeld ?_
        try simp only [Act.put, List.getElem_toArray, List.getElem_cons_succ, List.getElem_cons_zero, List.setIfInBounds_toArray, List.set_cons_zero, List.set_cons_succ]
        refine wpAnyH_take (i := 30) (v := .bool true) rfl (by kernel_rfl) (by kernel_rfl) (by kernel_rfl) (fun _ _ _ h => h) (Or.inl ⟨by rfl, by (intro w hS; try (obtain ⟨s0, s1⟩ := hS); go_simp)⟩) hHeld ?_
        try simp only [Act.put, List.getElem_toArray, List.getElem_cons_succ, List.getElem_cons_zero, List.setIfInBounds_toArray, List.set_cons_zero, List.set_cons_succ]
        refine wpAnyH_done (by kernel_rfl) ?_ _
        go_wp2
        go_ret
        exact ⟨rfl, HK.out.below⟩
      · have hne : (er != 0) = true := by simpa using her
        have TL := TF
        have hz : ss = [] := HBD.out her
        have ba : Below v2.heap.size v2 (v2.alloc (.cells #[.slice A5 0 c5] 29)) := (Below.refl _ _).alloc (Nat.le_refl _) _
        obtain ⟨W5, hW5⟩ : ∃ W, W = v2.alloc (.cells #[.slice A n c] 29) := ⟨_, rfl⟩
        have hv : Below v2.heap.size v2 W5 := by rw [hW5]; exact (Below.refl _ _).alloc (Nat.le_refl _) _
        have B5 := Lib.hid (I2.out.below.trans (hv.mono I2.out.below.size))
        have T5 := Lib.hid (I2.out.tx.below hv)
        have Y5 := Lib.hid (show Bb W5 b5 A n c ps from by rw [hW5, hb5]; exact Bb.new I2.out.x1.row I2.out.x1.len I2.out.x1.cap I2.out.x1.cm)
        have k5 : (v2.alloc (.cells #[.slice A5 0 c5] 29)).cell? ⟨w.heap.size, 0, none⟩ = some (.slice A n c) := (I2.out.x1.below ba).at_
        have x5 : True := True.intro
        have HW5 := Lib.hid (And.intro hW5 hb5)
        subst hz
        clear hb hv hp5 hr5 hc5 hm5 hW5 hb5 k1 k2 I1 I2 her ba
        -- in world v$P: I$P the way, Y5 the box at b5
        go_wp2_with fail
        rw [← HW5.out.1, ← HW5.out.2]
        refine (Y5.out.check T5.out.tx (fits_p rfl TL.out.1).b).mono ?_
        clear x5
        rintro e v6 ⟨hq, hb⟩
        have B6 := Lib.hid (B5.out.trans (hb.mono B5.out.size))
        have T6 := Lib.hid (T5.out.below hb)
        have Y6 := Lib.hid (Y5.out.below hb)
        have y6 := Y6.out.at_
        clear hb Y5 T5 B5
        rcases hq with ⟨rfl, hok⟩ | ⟨rfl, hno⟩
        case inr =>
          go_wp2_with fail
          refine (HWK.out _ T6.out).mono ?_
          rintro e vw ⟨rfl, hb⟩
          have BW := Lib.hid (B6.out.trans (hb.mono B6.out.size))
          clear hb
          go_wp2
          go_ret
          exact ⟨rfl, BW.out⟩
        have HOK := Lib.hid hok
        have HBK := Lib.hid (TL.out.back hok)
        have HN6 := Lib.hid (show n ≤ 1000000 ∧ ps.length = n from ⟨by have h1 := hok.1; rw [List.length_map, Y6.out.len] at h1; omega, Y6.out.len⟩)
        clear hok
        go_wp2_with fail
        refine (Y6.out.print T6.out.tx (fits_p rfl TL.out.1)).mono ?_
        rintro e v7 ⟨hq, hb⟩
        rcases hq with ⟨_, rfl⟩ | ⟨hno, _⟩
        case inr => exact absurd HOK.out hno
        have B7 := Lib.hid (B6.out.trans (hb.mono B6.out.size))
        have T7 := Lib.hid (T6.out.below hb)
        have Y7 := Lib.hid (Y6.out.below hb)
        have y7 := Y7.out.at_
        obtain ⟨U, hU⟩ : ∃ U : ByteArray, U = ⟨(Ac.btx (ps.map (·.1))).toArray⟩ := ⟨_, rfl⟩
        rw [← hU]
        have HUP := Lib.hid (fun (v : World) (T : Tx v) => aparse_val U (X := (ps.map (·.1), 0, 0)) (by rw [hU]; exact HBK.out.1) (by rw [Lib.size_eq, hU]; exact Nat.le_trans HBK.out.2 (by decide)) v T)
        have HU := Lib.hid hU
        clear hb y6 Y6 T6 B6 hU
        go_wp2_with fail
        refine (HUP.out _ T7.out.tx).mono ?_
        rintro e v8 ⟨A6, c6, p6, hp6, hr6, hc6, hm6, rfl, _, hb⟩
        simp only at hc6 hp6 ⊢
        rw [List.length_map, HN6.out.2] at hc6 ⊢
        obtain ⟨b6, hb6⟩ : ∃ b, b = v8.heap.size := ⟨_, rfl⟩
        obtain ⟨W9, hW9⟩ : ∃ W, W = v8.alloc (.cells #[.slice A6 n c6] 29) := ⟨_, rfl⟩
        have hv : Below v7.heap.size v7 W9 := by rw [hW9]; exact hb.alloc hb.size _
        have HK := Lib.hid (show BaS w b5 A n c ps b6 A6 c6 p6 W9 from ⟨B7.out.trans (hv.mono B7.out.size), T7.out.below hv, Y7.out.below hv, by rw [hW9, hb6]; exact Bb.new hr6 (by rw [← List.length_map (f := (·.1)), hp6, List.length_map, HN6.out.2]) hc6 hm6⟩)
        have HP6 := Lib.hid hp6
        have x6 := HK.out.x6.at_
        have HW9 := Lib.hid (And.intro hW9 hb6)
        rw [hW9, hb6] at x6
        clear hb hv y7 Y7 T7 B7 hp6 hr6 hc6 hm6 hW9 hb6
        go_wp2_with fail
        rw [← HW9.out.1]
        refine (HK.out.x6.print HK.out.tx.tx (fits_p HP6.out TL.out.1)).mono ?_
        rintro e v10 ⟨hq, hb⟩
        rw [HP6.out] at hq
        rcases hq with ⟨_, rfl⟩ | ⟨hno, _⟩
        case inr => exact absurd HOK.out hno
        rw [← HU.out, ← HW9.out.2]
        replace HK := Lib.hid (HK.out.on hb)
        clear hb x6
        go_wp2_with fail
        refine wp_region_held_drew (S := fun w' => w'.cell? ⟨b5, 0, none⟩ = some (.slice A n c) ∧ w'.cell? ⟨b6, 0, none⟩ = some (.slice A6 n c6)) (by kernel_rfl) (HK.out.on (Below.refl _ _).drew).s2 (fun hHeld => ?_)
        refine wpAnyH_take (i := 0) (v := .int .i64 0) rfl (by kernel_rfl) (by kernel_rfl) (by kernel_rfl) (fun _ _ _ h => h) (Or.inl ⟨by rfl, by (intro w hS; try (obtain ⟨s0, s1⟩ := hS); go_simp)⟩) hHeld ?_
        try simp only [Act.put, List.getElem_toArray, List.getElem_cons_zero, List.setIfInBounds_toArray, List.set_cons_zero, List.set_cons_succ]
        refine wpAnyH_take (i := 1) (v := .bool true) rfl (by kernel_rfl) (by kernel_rfl) (by kernel_rfl) (fun _ _ _ h => h) (Or.inl ⟨by rfl, by (intro w hS; try (obtain ⟨s0, s1⟩ := hS); go_simp)⟩) hHeld ?_
        try simp only [Act.put, List.getElem_toArray, List.getElem_cons_succ, List.getElem_cons_zero, List.setIfInBounds_toArray, List.set_cons_zero, List.set_cons_succ]
        refine wpAnyH_take (i := 2) (v := .bool true) rfl (by kernel_rfl) (by kernel_rfl) (by kernel_rfl) (fun _ _ _ h => h) (Or.inl ⟨by rfl, by (intro w hS; try (obtain ⟨s0, s1⟩ := hS); go_simp)⟩) hHeld ?_
        try simp only [Act.put, List.getElem_toArray, List.getElem_cons_succ, List.getElem_cons_zero, List.setIfInBounds_toArray, List.set_cons_zero, List.set_cons_succ]
        refine wpAnyH_take (i := 3) (v := .int .i64 0) rfl (by kernel_rfl) (by kernel_rfl) (by kernel_rfl) (fun _ _ _ h => h) (Or.inl ⟨by rfl, by (intro w hS; try (obtain ⟨s0, s1⟩ := hS); go_simp)⟩) hHeld ?_
        try simp only [Act.put, List.getElem_toArray, List.getElem_cons_succ, List.getElem_cons_zero, List.setIfInBounds_toArray, List.set_cons_zero, List.set_cons_succ]
        refine wpAnyH_take (i := 4) (v := .bool true) rfl (by kernel_rfl) (by kernel_rfl) (by kernel_rfl) (fun _ _ _ h => h) (Or.inl ⟨by rfl, by (intro w hS; try (obtain ⟨s0, s1⟩ := hS); go_simp)⟩) hHeld ?_
        try simp only [Act.put, List.getElem_toArray, List.getElem_cons_succ, List.getElem_cons_zero, List.setIfInBounds_toArray, List.set_cons_zero, List.set_cons_succ]
        refine wpAnyH_take (i := 5) (v := .bool true) rfl (by kernel_rfl) (by kernel_rfl) (by kernel_rfl) (fun _ _ _ h => h) (Or.inl ⟨by rfl, by (intro w hS; try (obtain ⟨s0, s1⟩ := hS); go_simp)⟩) hHeld ?_
        try simp only [Act.put, List.getElem_toArray, List.getElem_cons_succ, List.getElem_cons_zero, List.setIfInBounds_toArray, List.set_cons_zero, List.set_cons_succ]
        refine wpAnyH_take (i := 6) (v := .bool true) rfl (by kernel_rfl) (by kernel_rfl) (by kernel_rfl) (fun _ _ _ h => h) (Or.inl ⟨by rfl, by (intro w hS; try (obtain ⟨s0, s1⟩ := hS); go_simp)⟩) hHeld ?_
        try simp only [Act.put, List.getElem_toArray, List.getElem_cons_succ, List.getElem_cons_zero, List.setIfInBounds_toArray, List.set_cons_zero, List.set_cons_succ]
        refine wpAnyH_take (i := 7) (v := .int .i64 0) rfl (by kernel_rfl) (by kernel_rfl) (by kernel_rfl) (fun _ _ _ h => h) (Or.inl ⟨by rfl, by (intro w hS; try (obtain ⟨s0, s1⟩ := hS); go_simp)⟩) hHeld ?_
        try simp only [Act.put, List.getElem_toArray, List.getElem_cons_succ, List.getElem_cons_zero, List.setIfInBounds_toArray, List.set_cons_zero, List.set_cons_succ]
        refine wpAnyH_take (i := 8) (v := .bool true) rfl (by kernel_rfl) (by kernel_rfl) (by kernel_rfl) (fun _ _ _ h => h) (Or.inl ⟨by rfl, by (intro w hS; try (obtain ⟨s0, s1⟩ := hS); go_simp)⟩) hHeld ?_
        try simp only [Act.put, List.getElem_toArray, List.getElem_cons_succ, List.getElem_cons_zero, List.setIfInBounds_toArray, List.set_cons_zero, List.set_cons_succ]
        refine wpAnyH_take (i := 9) (v := .bool true) rfl (by kernel_rfl) (by kernel_rfl) (by kernel_rfl) (fun _ _ _ h => h) (Or.inl ⟨by rfl, by (intro w hS; try (obtain ⟨s0, s1⟩ := hS); go_simp)⟩) hHeld ?_
        try simp only [Act.put, List.getElem_toArray, List.getElem_cons_succ, List.getElem_cons_zero, List.setIfInBounds_toArray, List.set_cons_zero, List.set_cons_succ]
        refine wpAnyH_take (i := 10) (v := .bool true) rfl (by kernel_rfl) (by kernel_rfl) (by kernel_rfl) (fun _ _ _ h => h) (Or.inl ⟨by rfl, by (intro w hS; try (obtain ⟨s0, s1⟩ := hS); go_simp)⟩) hHeld ?_
        try simp only [Act.put, List.getElem_toArray, List.getElem_cons_succ, List.getElem_cons_zero, List.setIfInBounds_toArray, List.set_cons_zero, List.set_cons_succ]
        refine wpAnyH_take (i := 11) (v := .agg #[.slice A n c]) rfl (by kernel_rfl) (by kernel_rfl) (by kernel_rfl) (fun _ _ _ h => h) (Or.inl ⟨by rfl, by (intro w hS; try (obtain ⟨s0, s1⟩ := hS); go_simp)⟩) hHeld ?_
        try simp only [Act.put, List.getElem_toArray, List.getElem_cons_succ, List.getElem_cons_zero, List.setIfInBounds_toArray, List.set_cons_zero, List.set_cons_succ]
        refine wpAnyH_take (i := 12) (v := .agg #[.slice A6 n c6]) rfl (by kernel_rfl) (by kernel_rfl) (by kernel_rfl) (fun _ _ _ h => h) (Or.inl ⟨by rfl, by (intro w hS; try (obtain ⟨s0, s1⟩ := hS); go_simp)⟩) hHeld ?_
        try simp only [Act.put, List.getElem_toArray, List.getElem_cons_succ, List.getElem_cons_zero, List.setIfInBounds_toArray, List.set_cons_zero, List.set_cons_succ]
        refine wpAnyH_ready (rs := [13]) (by kernel_rfl) (by simp) ?_
        refine AllReadyH.cons rfl (fun K hK => ?_) AllReadyH.nil
        go_simp
        replace HK := Lib.hid (HK.out.on (Below.refl _ _).drew)
        refine (HK.out.x5.same HK.out.x6 (fits_p HP6.out TL.out.1).b).mono ?_
        rw [HP6.out, sameSs_self]
        rintro e v11 ⟨rfl, hb⟩
        replace HK := Lib.hid (HK.out.on hb)
        clear hb
        refine hK _ _ HK.out.s2 (fun hHeld => ?_)
        clear hK K
        try simp only [Act.put, List.getElem_toArray, List.getElem_cons_succ, List.getElem_cons_zero, List.setIfInBounds_toArray, List.set_cons_zero, List.set_cons_succ]
        refine wpAnyH_take (i := 14) (v := .bool true) rfl (by kernel_rfl) (by kernel_rfl) (by kernel_rfl) (fun _ _ _ h => h) (Or.inl ⟨by rfl, by (intro w hS; try (obtain ⟨s0, s1⟩ := hS); go_simp)⟩) hHeld ?_
        try simp only [Act.put, List.getElem_toArray, List.getElem_cons_succ, List.getElem_cons_zero, List.setIfInBounds_toArray, List.set_cons_zero, List.set_cons_succ]
        refine wpAnyH_take (i := 15) (v := .bool true) rfl (by kernel_rfl) (by kernel_rfl) (by kernel_rfl) (fun _ _ _ h => h) (Or.inl ⟨by rfl, by (intro w hS; try (obtain ⟨s0, s1⟩ := hS); go_simp)⟩) hHeld ?_
        try simp only [Act.put, List.getElem_toArray, List.getElem_cons_succ, List.getElem_cons_zero, List.setIfInBounds_toArray, List.set_cons_zero, List.set_cons_succ]
        refine wpAnyH_take (i := 16) (v := .agg #[.slice A n c]) rfl (by kernel_rfl) (by kernel_rfl) (by kernel_rfl) (fun _ _ _ h => h) (Or.inl ⟨by rfl, by (intro w hS; try (obtain ⟨s0, s1⟩ := hS); go_simp)⟩) hHeld ?_
        try simp only [Act.put, List.getElem_toArray, List.getElem_cons_succ, List.getElem_cons_zero, List.setIfInBounds_toArray, List.set_cons_zero, List.set_cons_succ]
        refine wpAnyH_take (i := 18) (v := .agg #[.slice A6 n c6]) rfl (by kernel_rfl) (by kernel_rfl) (by kernel_rfl) (fun _ _ _ h => h) (Or.inl ⟨by rfl, by (intro w hS; try (obtain ⟨s0, s1⟩ := hS); go_simp)⟩) hHeld ?_
        try simp only [Act.put, List.getElem_toArray, List.getElem_cons_succ, List.getElem_cons_zero, List.setIfInBounds_toArray, List.set_cons_zero, List.set_cons_succ]
        refine wpAnyH_ready (rs := [17]) (by kernel_rfl) (by simp) ?_
        refine AllReadyH.cons rfl (fun K hK => ?_) AllReadyH.nil
        go_simp
        refine (HK.out.x5.ref HN6.out.1 (fits_x rfl TL.out.1)).mono ?_
        rintro e v12 ⟨Ar, cr, qr, rfl, _, hr, hqr, hlr, hcr, hb⟩
        replace HK := Lib.hid (HK.out.on hb)
        have HR := Lib.hid (And.intro hr (And.intro hqr (And.intro hlr hcr)))
        clear hb hr hqr hlr hcr
        refine hK _ _ HK.out.s2 (fun hHeld => ?_)
        clear hK K
        try simp only [Act.put, List.getElem_toArray, List.getElem_cons_succ, List.getElem_cons_zero, List.setIfInBounds_toArray, List.set_cons_zero, List.set_cons_succ]
        refine wpAnyH_ready (rs := [19]) (by kernel_rfl) (by simp) ?_
        refine AllReadyH.cons rfl (fun K hK => ?_) AllReadyH.nil
        go_simp
        refine (HK.out.x6.ref HN6.out.1 (fits_x HP6.out TL.out.1)).mono ?_
        rintro e v13 ⟨Az, cz, qz, rfl, _, hr, hqz, hlz, hcz, hb⟩
        replace HK := Lib.hid (HK.out.on hb)
        have HZ := Lib.hid (And.intro hr (And.intro hqz (And.intro hlz hcz)))
        replace HR := Lib.hid (show StR v13 v13.heap.size Ar qr ∧ qr.map (·.1) = ps.map (·.1) ∧ qr.length = n ∧ n ≤ cr from ⟨HR.out.1.on hb, HR.out.2⟩)
        clear hb hr hqz hlz hcz
        refine hK _ _ HK.out.s2 (fun hHeld => ?_)
        clear hK K
        try simp only [Act.put, List.getElem_toArray, List.getElem_cons_succ, List.getElem_cons_zero, List.setIfInBounds_toArray, List.set_cons_zero, List.set_cons_succ]
        refine wpAnyH_ready (rs := [20]) (by kernel_rfl) (by simp) ?_
        refine AllReadyH.cons rfl (fun K hK => ?_) AllReadyH.nil
        go_simp
        refine (rsame_yes _ Ar n cr qr HR.out.1 HR.out.2.2.1 HR.out.2.2.2 Az cz qz HZ.out.1 HZ.out.2.2.1 HZ.out.2.2.2 HN6.out.1 (fits_x HR.out.2.1 TL.out.1) (by rw [HZ.out.2.1, HP6.out, HR.out.2.1])).mono ?_
        rintro e v14 ⟨rfl, hb⟩
        replace HK := Lib.hid (HK.out.on hb)
        clear hb
        refine hK _ _ HK.out.s2 (fun hHeld => ?_)
        clear hK K
        try simp only [Act.put, List.getElem_toArray, List.getElem_cons_succ, List.getElem_cons_zero, List.setIfInBounds_toArray, List.set_cons_zero, List.set_cons_succ]
        refine wpAnyH_take (i := 21) (v := .bool true) rfl (by kernel_rfl) (by kernel_rfl) (by kernel_rfl) (fun _ _ _ h => h) (Or.inl ⟨by rfl, by (intro w hS; try (obtain ⟨s0, s1⟩ := hS); go_simp)⟩) hHeld ?_
        try simp only [Act.put, List.getElem_toArray, List.getElem_cons_succ, List.getElem_cons_zero, List.setIfInBounds_toArray, List.set_cons_zero, List.set_cons_succ]
        refine wpAnyH_take (i := 22) (v := .bool true) rfl (by kernel_rfl) (by kernel_rfl) (by kernel_rfl) (fun _ _ _ h => h) (Or.inl ⟨by rfl, by (intro w hS; try (obtain ⟨s0, s1⟩ := hS); go_simp)⟩) hHeld ?_
        try simp only [Act.put, List.getElem_toArray, List.getElem_cons_succ, List.getElem_cons_zero, List.setIfInBounds_toArray, List.set_cons_zero, List.set_cons_succ]
        refine wpAnyH_take (i := 23) (v := .string U) rfl (by kernel_rfl) (by kernel_rfl) (by kernel_rfl) (fun _ _ _ h => h) (Or.inl ⟨by rfl, by (intro w hS; try (obtain ⟨s0, s1⟩ := hS); go_simp)⟩) hHeld ?_
        try simp only [Act.put, List.getElem_toArray, List.getElem_cons_succ, List.getElem_cons_zero, List.setIfInBounds_toArray, List.set_cons_zero, List.set_cons_succ]
        refine wpAnyH_take (i := 24) (v := .string U) rfl (by kernel_rfl) (by kernel_rfl) (by kernel_rfl) (fun _ _ _ h => h) (Or.inl ⟨by rfl, by (intro w hS; try (obtain ⟨s0, s1⟩ := hS); go_simp)⟩) hHeld ?_
        try simp only [Act.put, List.getElem_toArray, List.getElem_cons_succ, List.getElem_cons_zero, List.setIfInBounds_toArray, List.set_cons_zero, List.set_cons_succ]
        refine wpAnyH_take (i := 25) (v := .bool true) rfl (by kernel_rfl) (by kernel_rfl) (by kernel_rfl) (fun _ _ _ h => h) (Or.inl ⟨by rfl, by (intro w hS; try (obtain ⟨s0, s1⟩ := hS); go_simp)⟩) hHeld ?_
        try simp only [Act.put, List.getElem_toArray, List.getElem_cons_succ, List.getElem_cons_zero, List.setIfInBounds_toArray, List.set_cons_zero, List.set_cons_succ]
        refine wpAnyH_take (i := 26) (v := .bool true) rfl (by kernel_rfl) (by kernel_rfl) (by kernel_rfl) (fun _ _ _ h => h) (Or.inl ⟨by rfl, by (intro w hS; try (obtain ⟨s0, s1⟩ := hS); go_simp)⟩) hHeld ?_
        try simp only [Act.put, List.getElem_toArray, List.getElem_cons_succ, List.getElem_cons_zero, List.setIfInBounds_toArray, List.set_cons_zero, List.set_cons_succ]
        refine wpAnyH_take (i := 27) (v := .bool true) rfl (by kernel_rfl) (by kernel_rfl) (by kernel_rfl) (fun _ _ _ h => h) (Or.inl ⟨by rfl, by (intro w hS; try (obtain ⟨s0, s1⟩ := hS); go_simp)⟩) hHeld ?_
        try simp only [Act.put, List.getElem_toArray, List.getElem_cons_succ, List.getElem_cons_zero, List.setIfInBounds_toArray, List.set_cons_zero, List.set_cons_succ]
        refine wpAnyH_ready (rs := [28]) (by kernel_rfl) (by simp) ?_
        refine AllReadyH.cons rfl (fun K hK => ?_) AllReadyH.nil
        go_simp
        refine (HWK.out _ HK.out.tx).mono ?_
        rintro e v15 ⟨rfl, hb⟩
        replace HK := Lib.hid (HK.out.on hb)
        clear hb
        refine hK _ _ HK.out.s2 (fun hHeld => ?_)
        clear hK K
        try simp only [Act.put, List.getElem_toArray, List.getElem_cons_succ, List.getElem_cons_zero, List.setIfInBounds_toArray, List.set_cons_zero, List.set_cons_succ]
        refine wpAnyH_take (i := 29) (v := .bool true) rfl (by kernel_rfl) (by kernel_rfl) (by kernel_rfl) (fun _ _ _ h => h) (Or.inl ⟨by rfl, by (intro w hS; try (obtain ⟨s0, s1⟩ := hS); go_simp)⟩) hHeld ?_
        try simp only [Act.put, List.getElem_toArray, List.getElem_cons_succ, List.getElem_cons_zero, List.setIfInBounds_toArray, List.set_cons_zero, List.set_cons_succ]
        refine wpAnyH_take (i := 30) (v := .bool true) rfl (by kernel_rfl) (by kernel_rfl) (by kernel_rfl) (fun _ _ _ h => h) (Or.inl ⟨by rfl, by (intro w hS; try (obtain ⟨s0, s1⟩ := hS); go_simp)⟩) hHeld ?_
        try simp only [Act.put, List.getElem_toArray, List.getElem_cons_succ, List.getElem_cons_zero, List.setIfInBounds_toArray, List.set_cons_zero, List.set_cons_succ]
        refine wpAnyH_done (by kernel_rfl) ?_ _
        go_wp2
        go_ret
        exact ⟨rfl, HK.out.below⟩
  · have h6' : (s.size : Int) > 600 := by omega
    have h6d : decide ((s.size : Int) > 600) = true := decide_eq_true h6'
    clear h6
    go_enter Tryz.func5, Tryz.ntmps5
    go_wp2_with fail
    refine (HFW.out _ I0.out).mono ?_
    rintro e v1 ⟨⟨b, rfl, hbb⟩, hb⟩
    have I1 := Lib.hid (I0.out.on hb)
    clear hb hbb k0
    cases b with
    | false =>
      go_wp2_with fail
      refine (HWK.out _ I1.out.tx).mono ?_
      rintro e vw ⟨rfl, hb⟩
      have IW := Lib.hid (I1.out.on hb)
      clear hb
      go_wp2
      go_ret
      exact ⟨rfl, IW.out.below⟩
    | true =>
      go_wp2_with fail
      refine (HWK.out _ I1.out.tx).mono ?_
      rintro e vw ⟨rfl, hb⟩
      have IW := Lib.hid (I1.out.on hb)
      clear hb
      go_wp2
      go_ret
      exact ⟨rfl, IW.out.below⟩
end Go.Proofs.YtmmdigeciphglaaGreatDoor
