/- Facts and walks for the statement. -/
import Derived.Test.YtmmdigeciphglaaGreatDoorPzB16
import Derived.Deep.RegionHeld3
namespace Go.Proofs.YtmmdigeciphglaaGreatDoor
open Go.RowKit Ex
theorem CuS.far {B r : Nat} {w W : World} {A : Option Addr} {c : Nat} {ls : List Lx.T} {i : Nat} {sv : Value} (h : CuS B r w A c ls i sv W) (hr : r < w.heap.size) (p : Addr) (hp : w.heap.size ≤ p.block) (v : Value) : CuS B r w A c ls i sv (W.setCell p v) := by
  have hB : B ≤ p.block := by have := h.1.base; omega
  have hb : Below B W (W.setCell p v) := (Below.refl _ _).setCell hB v
  refine ⟨⟨h.1.base, h.1.blk.far (p := p) (by omega) v, h.1.tok.below hb, h.1.le, h.1.cap, h.1.nn, h.1.pl⟩, h.2.1.trans hb, ?_⟩
  have k := h.2.2
  refine ⟨k.os, k.tape, k.output, by rw [show (W.setCell p v).heap.size = W.heap.size by simp [World.setCell]]; exact k.size, fun j cs t f hj ht => ?_⟩
  have := heap_lt hj
  rw [Below.heap_setCell W p v j (by omega)]
  exact k.block j cs t f hj ht
def AsP (B r : Nat) (w : World) (A : Option Addr) (c : Nat) (ls : List Lx.T) (sv : Value) (X : Ac.Rt) (e : Ending) (w' : World) : Prop := match X with
  | .bad left er => e = .returned (.tuple #[.agg #[.int .u8 0, .string ⟨#[]⟩, .slice none 0 0], .int .i64 er]) ∧ ∃ i', left + i' = ls.length ∧ CuS B r w A c ls i' sv w'
  | .ok rest s => ∃ An cn i', e = .returned (.tuple #[.agg #[.int .u8 s.k, .string ⟨s.nm.toArray⟩, .slice An s.x.length cn], .int .i64 0]) ∧ rest = (kxs ls).drop i' ∧ CuS B r w A c ls i' sv w' ∧ w'.ownsRow w.heap.size 105 6 (.slice An s.x.length cn) s.x.length (s.x.flatMap ndV)
theorem parts_no {k : Int} {ah b0 : List UInt8} {b : List (List UInt8)} {l : List Tk} (h : kd l ≠ 2) : Ac.parts k ah b0 b l = .bad l.length 110 := if_pos h
theorem parts_come {k : Int} {ah b0 : List UInt8} {b : List (List UInt8)} {l : List Tk} (h : kd l = 2) : Ac.parts k ah b0 b l = if (Ac.come [ah] l.tail).2 = false then .bad (Ac.come [ah] l.tail).1.length 110 else if k = 1 ∨ Ac.tx0 (Ac.come [ah] l.tail).1 ≠ b0 then
      (if (frm (Ac.come [ah] l.tail).1).2.2 ≠ 0 then .bad ((Ac.come [ah] l.tail).1.length - (frm (Ac.come [ah] l.tail).1).2.1) (frm (Ac.come [ah] l.tail).1).2.2
       else Ac.shut k (Ac.tx0 l) (frm (Ac.come [ah] l.tail).1).1 b ((Ac.come [ah] l.tail).1.drop (frm (Ac.come [ah] l.tail).1).2.1))
    else Ac.shut k (Ac.tx0 l) [] b (Ac.come [ah] l.tail).1 := by
  refine Eq.trans (if_neg (fun q => q h)) ?_
  by_cases h1 : Ac.tx0 l.tail = ah
  · have e : Ac.come [ah] l.tail = (l.tail.tail, true) := if_pos h1
    rw [e]
    exact Eq.trans (if_neg (fun q => q h1)) (if_neg (by simp)).symm
  · have e : Ac.come [ah] l.tail = (l.tail, false) := if_neg h1
    rw [e]
    exact Eq.trans (if_pos h1) (if_pos rfl).symm
theorem if_or {α : Type} {p q : Prop} [Decidable p] [Decidable q] (h : ¬ p) (a b : α) : (if p ∨ q then a else b) = if q then a else b := by
  by_cases e : q
  · rw [if_pos e, if_pos (Or.inr e)]
  · rw [if_neg e, if_neg (fun o => o.elim h e)]
theorem kxs_rest (ls : List Lx.T) (i : Nat) : ((kxs ls).drop i).length = ls.length - i := by rw [List.length_drop, kxs_len]
theorem afrom_any (B : Nat) (W : World) (T : Tx W) (A' : Option Addr) (c' : Nat) (ls : List Lx.T) (i : Nat) (hB : B ≤ W.heap.size) (ht : ToR W B A' ((ls.drop i).map mtk)) (hc : ls.length - i ≤ c') (hn : ls.length ≤ 140000) (hx : ∀ t ∈ ls, t.tx.length ≤ 64) :
    Calls Tryz.prog 131 #[.slice A' (ls.length - i) c'] W (FrP (frm ((kxs ls).drop i)) W) := by
  have p := from_any W T A' c' ((ls.drop i).map mtk) (ht.more hB) (by rw [List.length_map, List.length_drop]; exact hc) (by rw [List.length_map, List.length_drop]; omega) (fun t h => by
    obtain ⟨u, hu, rfl⟩ := List.mem_map.1 h
    have := hx u (List.mem_of_mem_drop hu)
    show u.tx.toArray.size ≤ _
    simp; omega)
  rw [mtk_tks, List.length_map, List.length_drop, show kxs (ls.drop i) = (kxs ls).drop i by unfold kxs; rw [List.map_drop]] at p
  exact p
set_option maxHeartbeats 8000000 in
set_option maxRecDepth 100000 in
theorem aparts_any (B r : Nat) (w : World) (A : Option Addr) (c : Nat) (ls : List Lx.T) (i : Nat) (sv : Value) (h : CuR B r w A c ls i sv) (T : TxO B w) (hn : ls.length ≤ 140000) (hc : c ≤ maxLen) (hx : ∀ t ∈ ls, t.tx.length ≤ 64) (k : Int) (hk : k = 1 ∨ k = 2) (ah : List UInt8) (hah : ah ≠ []) (g : Nat) (b0 : List UInt8) (b : List (List UInt8)) (hg : IsBlk w g 9 (atxV (b0 :: b)).toArray) (hb : ∀ t ∈ b0 :: b, t ≠ []) (hbl : (b0 :: b).length ≤ 9) :
    Calls Tryz.prog 104 #[.pointer (some ⟨r, 0, none⟩), .int .u8 k, .string ⟨ah.toArray⟩, .slice (some ⟨g, 0, none⟩) (b0 :: b).length (b0 :: b).length] w (AsP B r w A c ls sv (Ac.parts k ah b0 (b0 :: b) ((kxs ls).drop i))) := by
  obtain ⟨W1, hW1⟩ : ∃ W1, W1 = w.alloc (.cells #[.int .u8 0, .string ⟨#[]⟩, .slice none 0 0] 80) := ⟨_, rfl⟩
  have hb1 : Below w.heap.size w W1 := by rw [hW1]; exact (Below.refl _ _).alloc (Nat.le_refl _) _
  have K1 := Lib.hid (show IsBlk W1 w.heap.size 80 #[.int .u8 0, .string ⟨#[]⟩, .slice none 0 0] from by rw [hW1]; exact IsBlk.new _ _ _)
  have S1 := Lib.hid ((CuS.of h).on hb1)
  have HN := Lib.hid (show ls.length ≤ 800000 by omega)
  have HN4 := Lib.hid hn
  have HXS := Lib.hid hx
  have HCX := Lib.hid hc
  have HR := Lib.hid h.blk.lt
  have HT := Lib.hid T
  have HG := Lib.hid hg
  have HBN := Lib.hid (And.intro hb hbl)
  have HNM := Lib.hid (aname_any B r W1 A c ls i sv S1.out.1 HN.out)
  obtain ⟨X, hX⟩ : ∃ X, X = Ac.parts k ah b0 (b0 :: b) ((kxs ls).drop i) := ⟨_, rfl⟩
  have HX0 := Lib.hid (fun (q : kd ((kxs ls).drop i) ≠ 2) => hX.trans (parts_no q))
  have HX1 := Lib.hid (fun (q : kd ((kxs ls).drop i) = 2) => hX.trans (parts_come q))
  rw [← hX]
  rw [kxs_tail, (kxs_tx ls i).1] at HX1
  rw [(kxs_tx ls i).2] at HX0 HX1
  obtain ⟨TX, hTX⟩ : ∃ TX, TX = (tkAt ls i).2.1 := ⟨_, rfl⟩
  rw [← hTX] at HX1 HNM
  obtain ⟨N, hN⟩ : ∃ N : ByteArray, N = ⟨TX.toArray⟩ := ⟨_, rfl⟩
  rw [← hN] at HNM
  have HNT := Lib.hid hN
  obtain ⟨tk, htk⟩ : ∃ tk, tk = (tkAt ls i).1 := ⟨_, rfl⟩
  rw [← htk] at HX0 HX1 HNM
  obtain ⟨AH, hAH⟩ : ∃ AH : ByteArray, AH = ⟨ah.toArray⟩ := ⟨_, rfl⟩
  rw [← hAH]
  have HAH := Lib.hid (And.intro hah hAH)
  obtain ⟨n, hnl⟩ : ∃ n, n = (b0 :: b).length := ⟨_, rfl⟩
  have HNL := Lib.hid hnl
  rw [← hnl]
  have hn1 : 0 < n := by rw [hnl, List.length_cons]; omega
  have HLE := Lib.hid h.le
  have HW1 := Lib.hid hW1
  have HK := Lib.hid hk
  clear hX hTX hN htk hah hAH hnl h T hn hc hx hk hg hb hbl hW1 hb1
  go_enter Tryz.func104, Tryz.ntmps104
  go_wp2_with fail
  rw [← HW1.out]
  refine HNM.out.mono ?_
  rintro e w2 hq
  rcases hq with ⟨hk2, hi1, rfl, hs2⟩ | ⟨hk2, rfl, hs2⟩
  · have S2 := Lib.hid (S1.out.trans hs2)
    have K2 := Lib.hid (hs2.2.2.blk K1.out (by decide))
    have HX := Lib.hid (HX1.out hk2)
    clear hs2 hk2 hi1 HX0 HX1 HNM S1 K1
    -- the token ahead
    obtain ⟨W3, hW3⟩ : ∃ W3, W3 = w2.alloc (.cells #[.string AH] 9) := ⟨_, rfl⟩
    have hb3 : Below w2.heap.size w2 W3 := by rw [hW3]; exact (Below.refl _ _).alloc (Nat.le_refl _) _
    have S3 := Lib.hid (S2.out.on hb3)
    have K3 := Lib.hid (K2.out.below hb3 K2.out.lt)
    have HCM := Lib.hid (show Calls Tryz.prog 103 #[.pointer (some ⟨r, 0, none⟩), .slice (some ⟨w2.heap.size, 0, none⟩) 1 1] W3 (CmP B r W3 A c ls sv (Ac.come [ah] ((kxs ls).drop (i + 1)))) from acome_any B r W3 A c ls (i + 1) sv S3.out.1 HN.out w2.heap.size [ah] (by rw [hW3, HAH.out.2]; exact IsBlk.new _ _ _) (by intro t ht; rw [List.mem_singleton.1 ht]; exact HAH.out.1) (by simp))
    have HW3 := Lib.hid hW3
    clear hW3 hb3 S2 K2
    obtain ⟨Z, hZ⟩ : ∃ Z, Z = Ac.come [ah] ((kxs ls).drop (i + 1)) := ⟨_, rfl⟩
    rw [← hZ] at HX HCM
    clear hZ
    obtain ⟨m4, q4⟩ := Z
    simp only at HX
    go_wp2_with fail
    rw [← HW3.out]
    refine HCM.out.mono ?_
    rintro e w4 ⟨rfl, i4, hm4, hs4⟩
    simp only at hm4
    subst hm4
    have S4 := Lib.hid (S3.out.trans hs4)
    have K4 := Lib.hid (hs4.2.2.blk K3.out (by decide))
    clear hs4 HCM S3 K3
    simp only
    cases q4 with
    | false =>
      have HX := Lib.hid (show X = .bad ((kxs ls).drop i4).length 110 from HX.out)
      have S := S4
      have K := K4.out
      have x0 : w4.cell? ⟨w.heap.size, 0, none⟩ = some (.int .u8 0) := K.at_ 0
      have x1 : w4.cell? ⟨w.heap.size, 1, none⟩ = some (.string ⟨#[]⟩) := K.at_ 1
      have x2 : w4.cell? ⟨w.heap.size, 2, none⟩ = some (.slice none 0 0) := K.at_ 2
      have xf := fun j => K.fz j
      clear K
      go_wp2
      refine bodyPost_ret (v := .tuple #[.agg #[.int .u8 0, .string ⟨#[]⟩, .slice none 0 0], .int .i64 110]) (by simp [results, Tryz.results104, go_sem, x0, x1, x2]) rfl ?_
      rw [HX.out]
      exact ⟨rfl, _, (by rw [kxs_rest]; have := S.out.1.le; omega), (((S.out.far HR.out ⟨w.heap.size, 0, none⟩ (Nat.le_refl _) _).far HR.out ⟨w.heap.size, 1, none⟩ (Nat.le_refl _) _).far HR.out ⟨w.heap.size, 2, none⟩ (Nat.le_refl _) _)⟩
    | true =>
      have HX := Lib.hid (HX.out.trans (if_neg (by simp)))
      obtain ⟨a4, ha4⟩ : ∃ a4, a4 = w4.heap.size := ⟨_, rfl⟩
      obtain ⟨W5, hW5⟩ : ∃ W5, W5 = w4.alloc (.cells #[.int .u8 k, .string N, .slice none 0 0] 80) := ⟨_, rfl⟩
      have hb5 : Below w4.heap.size w4 W5 := by rw [hW5]; exact (Below.refl _ _).alloc (Nat.le_refl _) _
      have S5 := Lib.hid (S4.out.on hb5)
      have K5 := Lib.hid (K4.out.below hb5 K4.out.lt)
      have KS5 := Lib.hid (show IsBlk W5 a4 80 #[.int .u8 k, .string N, .slice none 0 0] from by rw [hW5, ha4]; exact IsBlk.new _ _ _)
      have HA4 := Lib.hid (show w.heap.size < a4 by rw [ha4]; exact K4.out.lt)
      have HW5 := Lib.hid (And.intro hW5 ha4)
      clear hW5 ha4 hb5 S4 K4
      go_wp2_with fail
      rw [← HW5.out.1, ← HW5.out.2]
      rcases HK.out with hk1 | hk2
      · have HX := Lib.hid (HX.out.trans (if_pos (Or.inl hk1)))
        have hkk : (k == 1) = true := by rw [hk1]; rfl
        clear hk1
        go_quiet (fail)
        have S := Lib.hid (S5.out.on (below_drewN (Below.refl W5.heap.size W5) nq))
        have K := Lib.hid (K5.out.below (below_drewN (Below.refl W5.heap.size W5) nq) K5.out.lt)
        have KS0 := Lib.hid (KS5.out.below (below_drewN (Below.refl W5.heap.size W5) nq) KS5.out.lt)
        generalize W5.drewN nq = W6 at *
        clear S5 K5 KS5
        -- the expression is read: in world W6: S (the cursor at i4), K, KS0 (the statement so far)
        have HRS := Lib.hid (arest_any B r W6 A c ls i4 sv S.out.1 HCX.out)
        have HFX := Lib.hid (fun (w7 : World) (A' : Option Addr) (c' : Nat) (h7 : Below W6.heap.size W6 w7) (hc7 : ls.length - i4 ≤ c') (ht7 : ToR w7 B A' ((ls.drop i4).map mtk)) => (show Calls Tryz.prog 131 #[.slice A' (ls.length - i4) c'] w7 (FrP (frm ((kxs ls).drop i4)) w7) from afrom_any B w7 (HT.out w7 (S.out.1.bw S.out.2.1 h7)) A' c' ls i4 (Nat.le_trans S.out.1.base (Nat.le_trans (Nat.le_of_lt S.out.1.blk.lt) h7.size)) ht7 hc7 (HN4.out) HXS.out))
        go_wp2_with fail
        refine HRS.out.mono ?_
        rintro e w7 ⟨hb7, A', c', rfl, hc7, ht7⟩
        have HFR := Lib.hid (HFX.out w7 A' c' hb7 hc7 ht7)
        have HB7 := Lib.hid hb7
        have HIL := Lib.hid S.out.1.le
        clear hb7 hc7 ht7 HRS HFX
        obtain ⟨d, hd⟩ : ∃ d, d = ls.length - i4 := ⟨_, rfl⟩
        have HD := Lib.hid hd
        have hfl := frm_le ((kxs ls).drop i4)
        rw [kxs_rest] at hfl
        rw [← hd] at HFR hfl ⊢
        clear hd
        obtain ⟨F, hF⟩ : ∃ F, F = frm ((kxs ls).drop i4) := ⟨_, rfl⟩
        rw [← hF] at HFR HX hfl
        clear hF
        obtain ⟨xs, nx_, er⟩ := F
        simp only at HFR HX hfl
        have HFL := Lib.hid hfl
        clear hfl
        go_wp2_with fail
        refine HFR.out.mono ?_
        rintro e w8 ⟨An, cn, ho8, rfl, hb8⟩
        simp only at ho8
        have HO8 := Lib.hid (show w8.ownsRow w.heap.size 105 6 (.slice An xs.length cn) xs.length (xs.flatMap ndV) from own_less ho8 (Nat.le_trans S.out.2.2.size HB7.out.size))
        have S8 := Lib.hid ((S.out.on HB7.out).on hb8)
        have K8 := Lib.hid (K.out.below (HB7.out.trans (hb8.mono HB7.out.size)) K.out.lt)
        have KS8 := Lib.hid (KS0.out.below (HB7.out.trans (hb8.mono HB7.out.size)) KS0.out.lt)
        clear ho8 hb8 S K KS0 HFR HB7
        simp only
        obtain ⟨W9, hW9⟩ : ∃ W9, W9 = w8.alloc (.cells #[.slice An xs.length cn] 78) := ⟨_, rfl⟩
        have hb9 : Below w8.heap.size w8 W9 := by rw [hW9]; exact (Below.refl _ _).alloc (Nat.le_refl _) _
        have S9 := Lib.hid (S8.out.on hb9)
        have K9 := Lib.hid (K8.out.below hb9 K8.out.lt)
        have KS9 := Lib.hid (KS8.out.below hb9 KS8.out.lt)
        have HO9 := Lib.hid (own_below HO8.out hb9)
        have kx9 : IsBlk W9 w8.heap.size 78 #[.slice An xs.length cn] := by rw [hW9]; exact IsBlk.new _ _ _
        have y1 := S9.out.1.cells.2.1
        have yf : W9.frozen? ⟨r, 1, none⟩ = false := S9.out.1.blk.fz 1
        have hcast : ((i4 + nx_ : Nat) : Int) = (i4 : Int) + (nx_ : Int) := by omega
        have S10 := Lib.hid (S9.out.step (k := i4 + nx_) (by have := HFL.out; have := HD.out; have := HIL.out; omega))
        rw [hcast] at S10
        obtain ⟨W10, hW10⟩ : ∃ W10, W10 = W9.setCell ⟨r, 1, none⟩ (.int .i64 ((i4 : Int) + (nx_ : Int))) := ⟨_, rfl⟩
        rw [← hW10] at S10
        have hr8 : w8.heap.size ≠ r := fun e => by have := S8.out.1.blk.lt; omega
        have hra : w.heap.size ≠ r := fun e => by have := HR.out; omega
        have hr4 : a4 ≠ r := fun e => by have := HR.out; have := HA4.out; omega
        have x13 : W10.cell? ⟨w8.heap.size, 0, none⟩ = some (.slice An xs.length cn) := by rw [hW10]; exact (kx9.far (p := ⟨r, 1, none⟩) hr8 _).at_ 0
        have K10 := Lib.hid (show IsBlk W10 w.heap.size 80 #[.int .u8 0, .string ⟨#[]⟩, .slice none 0 0] from by rw [hW10]; exact K9.out.far (p := ⟨r, 1, none⟩) hra _)
        have KS10 := Lib.hid (show IsBlk W10 a4 80 #[.int .u8 k, .string N, .slice none 0 0] from by rw [hW10]; exact KS9.out.far (p := ⟨r, 1, none⟩) hr4 _)
        have HO10 := Lib.hid (show W10.ownsRow w.heap.size 105 6 (.slice An xs.length cn) xs.length (xs.flatMap ndV) from by rw [hW10]; exact own_set HO9.out S9.out.1.blk (by decide) 1 _)
        have hiI : (i4 : Int) ≤ 140000 := by have := HIL.out; have := HN4.out; omega
        have hnI : (nx_ : Int) ≤ 140000 := by have := HFL.out; have := HD.out; have := HN4.out; omega
        have HW9 := Lib.hid hW9
        have HW10 := Lib.hid hW10
        have HDR := Lib.hid (show ((kxs ls).drop i4).drop nx_ = (kxs ls).drop (i4 + nx_) from by rw [List.drop_drop])
        clear hW9 hW10 hb9 kx9 hcast hr8 hra hr4 S8 K8 KS8 HO8 S9 K9 KS9 HO9
        rw [HW9.out] at y1 yf
        by_cases her : er = 0
        · subst her
          have HX := Lib.hid (show X = Ac.shut k TX xs (b0 :: b) ((kxs ls).drop (i4 + nx_)) from by rw [← HDR.out]; exact HX.out.trans (if_neg (fun q => q rfl)))
          have z2 : W10.cell? ⟨a4, 2, none⟩ = some (.slice none 0 0) := KS10.out.at_ 2
          have zf : W10.frozen? ⟨a4, 2, none⟩ = false := KS10.out.fz 2
          rw [HW10.out, HW9.out] at x13 z2 zf
          have hsh : W10.heap.size = W10.heap.size := rfl
          obtain ⟨W11, hW11⟩ : ∃ W11, W11 = W10.setCell ⟨a4, 2, none⟩ (.slice An xs.length cn) := ⟨_, rfl⟩
          have S := Lib.hid (show CuS B r w A c ls (i4 + nx_) sv W11 from by rw [hW11]; exact S10.out.far HR.out ⟨a4, 2, none⟩ (Nat.le_of_lt HA4.out) _)
          have K := Lib.hid (show IsBlk W11 w.heap.size 80 #[.int .u8 0, .string ⟨#[]⟩, .slice none 0 0] from by rw [hW11]; exact K10.out.far (p := ⟨a4, 2, none⟩) (fun e => absurd HA4.out (by rw [show a4 = w.heap.size from e.symm]; exact Nat.lt_irrefl _)) _)
          have KS := Lib.hid (show IsBlk W11 a4 80 #[.int .u8 k, .string N, .slice An xs.length cn] from by rw [hW11]; exact KS10.out.set 2 _)
          have HO := Lib.hid (show W11.ownsRow w.heap.size 105 6 (.slice An xs.length cn) xs.length (xs.flatMap ndV) from by rw [hW11]; exact own_set HO10.out KS10.out (by decide) 2 _)
          have HW11 := Lib.hid hW11
          clear hW11 hsh S10 K10 KS10 HO10 HDR
          go_wp2_with fail
          rw [← HW9.out, ← HW10.out, ← HW11.out]
          clear x13 z2 zf y1 yf
          -- in world W11: S (the cursor at (i4 + nx_)), K (the result), KS (the statement), HO (its expression), HX : X = shut ..
          have hgW : IsBlk W11 g 9 (atxV (b0 :: b)).toArray := S.out.2.2.blk HG.out (by decide)
          have HCM := Lib.hid (acome_any B r W11 A c ls (i4 + nx_) sv S.out.1 HN.out g (b0 :: b) hgW HBN.out.1 HBN.out.2)
          have HCT := Lib.hid (fun (w9 : World) (j : Nat) (h9 : CuS B r W11 A c ls j sv w9) => (show CuS B r w A c ls j sv w9 ∧ IsBlk w9 w.heap.size 80 #[.int .u8 0, .string ⟨#[]⟩, .slice none 0 0] ∧ IsBlk w9 a4 80 #[.int .u8 k, .string N, .slice An xs.length cn] ∧ w9.ownsRow w.heap.size 105 6 (.slice An xs.length cn) xs.length (xs.flatMap ndV) from ⟨S.out.trans h9, h9.2.2.blk K.out (by decide), h9.2.2.blk KS.out (by decide), h9.2.2.own HO.out (by decide)⟩))
          clear hgW
          rw [← HNL.out] at HCM
          refine HCM.out.mono ?_
          rintro e w9 ⟨rfl, i9, hm9, hs9⟩
          have H9 := Lib.hid (HCT.out w9 i9 hs9)
          have HM9 := Lib.hid hm9
          clear hs9 hm9 HCM HCT S K KS HO
          obtain ⟨Y, hY⟩ : ∃ Y, Y = Ac.come (b0 :: b) ((kxs ls).drop (i4 + nx_)) := ⟨_, rfl⟩
          have HX := Lib.hid (HX.out.trans (show Ac.shut k TX xs (b0 :: b) ((kxs ls).drop (i4 + nx_)) = if Y.2 = true then .ok Y.1 ⟨k, TX, xs⟩ else .bad Y.1.length 110 from by rw [hY]; rfl))
          rw [← hY] at HM9 ⊢
          clear hY
          obtain ⟨m9, q9⟩ := Y
          simp only at HX HM9 ⊢
          have K := H9.out.2.1
          have x0 : w9.cell? ⟨w.heap.size, 0, none⟩ = some (.int .u8 0) := K.at_ 0
          have x1 : w9.cell? ⟨w.heap.size, 1, none⟩ = some (.string ⟨#[]⟩) := K.at_ 1
          have x2 : w9.cell? ⟨w.heap.size, 2, none⟩ = some (.slice none 0 0) := K.at_ 2
          have xf := fun j => K.fz j
          clear K
          cases q9 with
          | false =>
            have HX := Lib.hid (show X = .bad m9.length 110 from HX.out)
            go_wp2
            refine bodyPost_ret (v := .tuple #[.agg #[.int .u8 0, .string ⟨#[]⟩, .slice none 0 0], .int .i64 110]) (by simp [results, Tryz.results104, go_sem, x0, x1, x2]) rfl ?_
            rw [HX.out]
            exact ⟨rfl, i9, by rw [HM9.out, kxs_rest]; have := H9.out.1.1.le; omega, (((H9.out.1.far HR.out ⟨w.heap.size, 0, none⟩ (Nat.le_refl _) _).far HR.out ⟨w.heap.size, 1, none⟩ (Nat.le_refl _) _).far HR.out ⟨w.heap.size, 2, none⟩ (Nat.le_refl _) _)⟩
          | true =>
            have HX := Lib.hid (show X = .ok m9 ⟨k, TX, xs⟩ from HX.out)
            have KS := H9.out.2.2.1
            have z0 : w9.cell? ⟨a4, 0, none⟩ = some (.int .u8 k) := KS.at_ 0
            have z1 : w9.cell? ⟨a4, 1, none⟩ = some (.string N) := KS.at_ 1
            have z2 : w9.cell? ⟨a4, 2, none⟩ = some (.slice An xs.length cn) := KS.at_ 2
            clear KS
            go_wp2
            refine bodyPost_ret (v := .tuple #[.agg #[.int .u8 k, .string N, .slice An xs.length cn], .int .i64 0]) (by simp [results, Tryz.results104, go_sem, x0, x1, x2]) rfl ?_
            rw [HX.out]
            refine ⟨An, cn, i9, by rw [HNT.out], HM9.out, (((H9.out.1.far HR.out ⟨w.heap.size, 0, none⟩ (Nat.le_refl _) _).far HR.out ⟨w.heap.size, 1, none⟩ (Nat.le_refl _) _).far HR.out ⟨w.heap.size, 2, none⟩ (Nat.le_refl _) _), ?_⟩
            have b0 := H9.out.2.1
            have b1 := b0.set 0 (.int .u8 k)
            have b2 := b1.set 1 (.string N)
            exact own_set (own_set (own_set H9.out.2.2.2 b0 (by decide) 0 _) b1 (by decide) 1 _) b2 (by decide) 2 _
        · have HX := Lib.hid (show X = .bad (((kxs ls).drop i4).length - nx_) er from HX.out.trans (if_pos her))
          have hne : (er != 0) = true := by simpa using her
          have HX0 := Lib.hid (show W10.cell? ⟨w.heap.size, 0, none⟩ = some (.int .u8 0) ∧ W10.cell? ⟨w.heap.size, 1, none⟩ = some (.string ⟨#[]⟩) ∧ W10.cell? ⟨w.heap.size, 2, none⟩ = some (.slice none 0 0) ∧ ∀ j, W10.frozen? ⟨w.heap.size, j, none⟩ = false from ⟨K10.out.at_ 0, K10.out.at_ 1, K10.out.at_ 2, fun j => K10.out.fz j⟩)
          have S := S10
          obtain ⟨x0, x1, x2, xf⟩ := HX0.out
          rw [HW10.out, HW9.out] at x0 x1 x2 xf
          clear her S10 K10 KS10 HO10 HDR x13
          go_wp2
          rw [← HW9.out, ← HW10.out]
          rw [← HW9.out, ← HW10.out] at x0 x1 x2
          refine bodyPost_ret (v := .tuple #[.agg #[.int .u8 0, .string ⟨#[]⟩, .slice none 0 0], .int .i64 er]) (by simp [results, Tryz.results104, go_sem, x0, x1, x2]) rfl ?_
          rw [HX.out]
          exact ⟨rfl, i4 + nx_, by rw [kxs_rest]; have := HFL.out; have := HD.out; have := HIL.out; omega, (((S.out.far HR.out ⟨w.heap.size, 0, none⟩ (Nat.le_refl _) _).far HR.out ⟨w.heap.size, 1, none⟩ (Nat.le_refl _) _).far HR.out ⟨w.heap.size, 2, none⟩ (Nat.le_refl _) _)⟩
      · have hkk : (k == 1) = false := by rw [hk2]; rfl
        have HKN := Lib.hid (show k ≠ 1 by omega)
        have HX := Lib.hid (HX.out.trans (if_or HKN.out _ _))
        rw [(kxs_tx ls i4).1] at HX
        have HNX := Lib.hid (fun W (hb : Below W5.heap.size W5 W) => anext_any B r W A c ls i4 sv (S5.out.1.below hb) HN.out)
        obtain ⟨T4, hT4⟩ : ∃ T4, T4 = tkAt ls i4 := ⟨_, rfl⟩
        rw [← hT4] at HX HNX
        clear hT4 hk2
        obtain ⟨tk4, tx4, tp4⟩ := T4
        simp only at HX
        unfold tkV3 at HNX
        simp only at HNX
        have hgW : IsBlk W5 g 9 (atxV (b0 :: b)).toArray := S5.out.2.2.blk HG.out (by decide)
        have HG5 := Lib.hid hgW
        obtain ⟨B0, hB0⟩ : ∃ B0 : ByteArray, B0 = ⟨b0.toArray⟩ := ⟨_, rfl⟩
        obtain ⟨N4, hN4⟩ : ∃ N4 : ByteArray, N4 = ⟨tx4.toArray⟩ := ⟨_, rfl⟩
        rw [← hN4] at HNX
        have hat : ∀ W, IsBlk W g 9 (atxV (b0 :: b)).toArray → W.cell? ⟨g, 0, none⟩ = some (.string B0) := fun W q => by rw [hB0]; exact q.at_ 0
        have g0 := hat _ hgW
        have HY := Lib.hid (fun W (hb : Below W5.heap.size W5 W) => (show W.cell? ⟨g, 0, none⟩ = some (.string B0) from hat W (HG5.out.below hb HG5.out.lt)))
        have f1 := fun w0 => run_tok1 tk4 (tp4 : Int) N4 w0
        have HNB := Lib.hid (show N4.toList = tx4 ∧ B0.toList = b0 from ⟨by rw [Lib.toList_data, hN4], by rw [Lib.toList_data, hB0]⟩)
        clear hgW hat hB0 hN4
        by_cases he : tx4 = b0
        · have HX := Lib.hid (HX.out.trans (if_neg (fun q => q he)))
          have hd : (N4.toList != B0.toList) = false := by rw [HNB.out.1, HNB.out.2, he]; simp
          have hd2 : (N4.toList == B0.toList) = true := by rw [HNB.out.1, HNB.out.2, he]; simp
          clear he
          go_region_held3 (fun w' => w'.cell? ⟨g, 0, none⟩ = some (.string B0)) (first | exact g0 | exact HY.out _ HQ.out) (first | (go_at_call 72; refine (HNX.out _ (by first | exact below_drewN (Below.refl _ _) _ | exact Below.refl _ _)).mono ?_; rintro e w6 ⟨rfl, hb6⟩; have HQ := Lib.hid (show Below W5.heap.size W5 w6 from by first | exact hb6 | exact (below_drewN (Below.refl W5.heap.size W5) _).trans (hb6.mono (below_drewN (Below.refl W5.heap.size W5) _).size)); clear hb6))
          clear g0 f1 hd hd2
          obtain ⟨An, hAn⟩ : ∃ An : Option Addr, An = none := ⟨_, rfl⟩
          obtain ⟨cn, hcn⟩ : ∃ cn : Nat, cn = 0 := ⟨_, rfl⟩
          obtain ⟨ys, hys⟩ : ∃ ys : List Nd, ys = [] := ⟨_, rfl⟩
          have S := Lib.hid (S5.out.on HQ.out)
          have K := Lib.hid (K5.out.below HQ.out K5.out.lt)
          have KS := Lib.hid (show IsBlk w6 a4 80 #[.int .u8 k, .string N, .slice An ys.length cn] from by rw [hAn, hcn, hys]; exact KS5.out.below HQ.out KS5.out.lt)
          have HO := Lib.hid (show w6.ownsRow w.heap.size 105 6 (.slice An ys.length cn) ys.length (ys.flatMap ndV) from by rw [hAn, hcn, hys]; exact World.ownsRow_nil _ _ _ _)
          have HX := Lib.hid (show X = Ac.shut k TX ys (b0 :: b) ((kxs ls).drop i4) from by rw [hys]; exact HX.out)
          clear hAn hcn hys S5 K5 KS5 HQ
          go_wp2_with fail
          -- in world w6: S (the cursor at i4), K (the result), KS (the statement), HO (its expression), HX : X = shut ..
          have hgW : IsBlk w6 g 9 (atxV (b0 :: b)).toArray := S.out.2.2.blk HG.out (by decide)
          have HCM := Lib.hid (acome_any B r w6 A c ls i4 sv S.out.1 HN.out g (b0 :: b) hgW HBN.out.1 HBN.out.2)
          have HCT := Lib.hid (fun (w9 : World) (j : Nat) (h9 : CuS B r w6 A c ls j sv w9) => (show CuS B r w A c ls j sv w9 ∧ IsBlk w9 w.heap.size 80 #[.int .u8 0, .string ⟨#[]⟩, .slice none 0 0] ∧ IsBlk w9 a4 80 #[.int .u8 k, .string N, .slice An ys.length cn] ∧ w9.ownsRow w.heap.size 105 6 (.slice An ys.length cn) ys.length (ys.flatMap ndV) from ⟨S.out.trans h9, h9.2.2.blk K.out (by decide), h9.2.2.blk KS.out (by decide), h9.2.2.own HO.out (by decide)⟩))
          clear hgW
          rw [← HNL.out] at HCM
          refine HCM.out.mono ?_
          rintro e w9 ⟨rfl, i9, hm9, hs9⟩
          have H9 := Lib.hid (HCT.out w9 i9 hs9)
          have HM9 := Lib.hid hm9
          clear hs9 hm9 HCM HCT S K KS HO
          obtain ⟨Y, hY⟩ : ∃ Y, Y = Ac.come (b0 :: b) ((kxs ls).drop i4) := ⟨_, rfl⟩
          have HX := Lib.hid (HX.out.trans (show Ac.shut k TX ys (b0 :: b) ((kxs ls).drop i4) = if Y.2 = true then .ok Y.1 ⟨k, TX, ys⟩ else .bad Y.1.length 110 from by rw [hY]; rfl))
          rw [← hY] at HM9 ⊢
          clear hY
          obtain ⟨m9, q9⟩ := Y
          simp only at HX HM9 ⊢
          have K := H9.out.2.1
          have x0 : w9.cell? ⟨w.heap.size, 0, none⟩ = some (.int .u8 0) := K.at_ 0
          have x1 : w9.cell? ⟨w.heap.size, 1, none⟩ = some (.string ⟨#[]⟩) := K.at_ 1
          have x2 : w9.cell? ⟨w.heap.size, 2, none⟩ = some (.slice none 0 0) := K.at_ 2
          have xf := fun j => K.fz j
          clear K
          cases q9 with
          | false =>
            have HX := Lib.hid (show X = .bad m9.length 110 from HX.out)
            go_wp2
            refine bodyPost_ret (v := .tuple #[.agg #[.int .u8 0, .string ⟨#[]⟩, .slice none 0 0], .int .i64 110]) (by simp [results, Tryz.results104, go_sem, x0, x1, x2]) rfl ?_
            rw [HX.out]
            exact ⟨rfl, i9, by rw [HM9.out, kxs_rest]; have := H9.out.1.1.le; omega, (((H9.out.1.far HR.out ⟨w.heap.size, 0, none⟩ (Nat.le_refl _) _).far HR.out ⟨w.heap.size, 1, none⟩ (Nat.le_refl _) _).far HR.out ⟨w.heap.size, 2, none⟩ (Nat.le_refl _) _)⟩
          | true =>
            have HX := Lib.hid (show X = .ok m9 ⟨k, TX, ys⟩ from HX.out)
            have KS := H9.out.2.2.1
            have z0 : w9.cell? ⟨a4, 0, none⟩ = some (.int .u8 k) := KS.at_ 0
            have z1 : w9.cell? ⟨a4, 1, none⟩ = some (.string N) := KS.at_ 1
            have z2 : w9.cell? ⟨a4, 2, none⟩ = some (.slice An ys.length cn) := KS.at_ 2
            clear KS
            go_wp2
            refine bodyPost_ret (v := .tuple #[.agg #[.int .u8 k, .string N, .slice An ys.length cn], .int .i64 0]) (by simp [results, Tryz.results104, go_sem, x0, x1, x2]) rfl ?_
            rw [HX.out]
            refine ⟨An, cn, i9, by rw [HNT.out], HM9.out, (((H9.out.1.far HR.out ⟨w.heap.size, 0, none⟩ (Nat.le_refl _) _).far HR.out ⟨w.heap.size, 1, none⟩ (Nat.le_refl _) _).far HR.out ⟨w.heap.size, 2, none⟩ (Nat.le_refl _) _), ?_⟩
            have b0 := H9.out.2.1
            have b1 := b0.set 0 (.int .u8 k)
            have b2 := b1.set 1 (.string N)
            exact own_set (own_set (own_set H9.out.2.2.2 b0 (by decide) 0 _) b1 (by decide) 1 _) b2 (by decide) 2 _
        · have HX := Lib.hid (HX.out.trans (if_pos he))
          have hd : (N4.toList != B0.toList) = true := by rw [HNB.out.1, HNB.out.2]; simpa using he
          have hd2 : (N4.toList == B0.toList) = false := by rw [HNB.out.1, HNB.out.2]; simpa using he
          clear he
          go_region_held3 (fun w' => w'.cell? ⟨g, 0, none⟩ = some (.string B0)) (first | exact g0 | exact HY.out _ HQ.out) (first | (go_at_call 72; refine (HNX.out _ (by first | exact below_drewN (Below.refl _ _) _ | exact Below.refl _ _)).mono ?_; rintro e w6 ⟨rfl, hb6⟩; have HQ := Lib.hid (show Below W5.heap.size W5 w6 from by first | exact hb6 | exact (below_drewN (Below.refl W5.heap.size W5) _).trans (hb6.mono (below_drewN (Below.refl W5.heap.size W5) _).size)); clear hb6))
          clear g0 f1 hd hd2
          have S := Lib.hid (S5.out.on HQ.out)
          have K := Lib.hid (K5.out.below HQ.out K5.out.lt)
          have KS0 := Lib.hid (KS5.out.below HQ.out KS5.out.lt)
          clear S5 K5 KS5 HQ
          -- the expression is read: in world w6: S (the cursor at i4), K, KS0 (the statement so far)
          have HRS := Lib.hid (arest_any B r w6 A c ls i4 sv S.out.1 HCX.out)
          have HFX := Lib.hid (fun (w7 : World) (A' : Option Addr) (c' : Nat) (h7 : Below w6.heap.size w6 w7) (hc7 : ls.length - i4 ≤ c') (ht7 : ToR w7 B A' ((ls.drop i4).map mtk)) => (show Calls Tryz.prog 131 #[.slice A' (ls.length - i4) c'] w7 (FrP (frm ((kxs ls).drop i4)) w7) from afrom_any B w7 (HT.out w7 (S.out.1.bw S.out.2.1 h7)) A' c' ls i4 (Nat.le_trans S.out.1.base (Nat.le_trans (Nat.le_of_lt S.out.1.blk.lt) h7.size)) ht7 hc7 (HN4.out) HXS.out))
          go_wp2_with fail
          refine HRS.out.mono ?_
          rintro e w7 ⟨hb7, A', c', rfl, hc7, ht7⟩
          have HFR := Lib.hid (HFX.out w7 A' c' hb7 hc7 ht7)
          have HB7 := Lib.hid hb7
          have HIL := Lib.hid S.out.1.le
          clear hb7 hc7 ht7 HRS HFX
          obtain ⟨d, hd⟩ : ∃ d, d = ls.length - i4 := ⟨_, rfl⟩
          have HD := Lib.hid hd
          have hfl := frm_le ((kxs ls).drop i4)
          rw [kxs_rest] at hfl
          rw [← hd] at HFR hfl ⊢
          clear hd
          obtain ⟨F, hF⟩ : ∃ F, F = frm ((kxs ls).drop i4) := ⟨_, rfl⟩
          rw [← hF] at HFR HX hfl
          clear hF
          obtain ⟨xs, nx_, er⟩ := F
          simp only at HFR HX hfl
          have HFL := Lib.hid hfl
          clear hfl
          go_wp2_with fail
          refine HFR.out.mono ?_
          rintro e w8 ⟨An, cn, ho8, rfl, hb8⟩
          simp only at ho8
          have HO8 := Lib.hid (show w8.ownsRow w.heap.size 105 6 (.slice An xs.length cn) xs.length (xs.flatMap ndV) from own_less ho8 (Nat.le_trans S.out.2.2.size HB7.out.size))
          have S8 := Lib.hid ((S.out.on HB7.out).on hb8)
          have K8 := Lib.hid (K.out.below (HB7.out.trans (hb8.mono HB7.out.size)) K.out.lt)
          have KS8 := Lib.hid (KS0.out.below (HB7.out.trans (hb8.mono HB7.out.size)) KS0.out.lt)
          clear ho8 hb8 S K KS0 HFR HB7
          simp only
          obtain ⟨W9, hW9⟩ : ∃ W9, W9 = w8.alloc (.cells #[.slice An xs.length cn] 78) := ⟨_, rfl⟩
          have hb9 : Below w8.heap.size w8 W9 := by rw [hW9]; exact (Below.refl _ _).alloc (Nat.le_refl _) _
          have S9 := Lib.hid (S8.out.on hb9)
          have K9 := Lib.hid (K8.out.below hb9 K8.out.lt)
          have KS9 := Lib.hid (KS8.out.below hb9 KS8.out.lt)
          have HO9 := Lib.hid (own_below HO8.out hb9)
          have kx9 : IsBlk W9 w8.heap.size 78 #[.slice An xs.length cn] := by rw [hW9]; exact IsBlk.new _ _ _
          have y1 := S9.out.1.cells.2.1
          have yf : W9.frozen? ⟨r, 1, none⟩ = false := S9.out.1.blk.fz 1
          have hcast : ((i4 + nx_ : Nat) : Int) = (i4 : Int) + (nx_ : Int) := by omega
          have S10 := Lib.hid (S9.out.step (k := i4 + nx_) (by have := HFL.out; have := HD.out; have := HIL.out; omega))
          rw [hcast] at S10
          obtain ⟨W10, hW10⟩ : ∃ W10, W10 = W9.setCell ⟨r, 1, none⟩ (.int .i64 ((i4 : Int) + (nx_ : Int))) := ⟨_, rfl⟩
          rw [← hW10] at S10
          have hr8 : w8.heap.size ≠ r := fun e => by have := S8.out.1.blk.lt; omega
          have hra : w.heap.size ≠ r := fun e => by have := HR.out; omega
          have hr4 : a4 ≠ r := fun e => by have := HR.out; have := HA4.out; omega
          have x13 : W10.cell? ⟨w8.heap.size, 0, none⟩ = some (.slice An xs.length cn) := by rw [hW10]; exact (kx9.far (p := ⟨r, 1, none⟩) hr8 _).at_ 0
          have K10 := Lib.hid (show IsBlk W10 w.heap.size 80 #[.int .u8 0, .string ⟨#[]⟩, .slice none 0 0] from by rw [hW10]; exact K9.out.far (p := ⟨r, 1, none⟩) hra _)
          have KS10 := Lib.hid (show IsBlk W10 a4 80 #[.int .u8 k, .string N, .slice none 0 0] from by rw [hW10]; exact KS9.out.far (p := ⟨r, 1, none⟩) hr4 _)
          have HO10 := Lib.hid (show W10.ownsRow w.heap.size 105 6 (.slice An xs.length cn) xs.length (xs.flatMap ndV) from by rw [hW10]; exact own_set HO9.out S9.out.1.blk (by decide) 1 _)
          have hiI : (i4 : Int) ≤ 140000 := by have := HIL.out; have := HN4.out; omega
          have hnI : (nx_ : Int) ≤ 140000 := by have := HFL.out; have := HD.out; have := HN4.out; omega
          have HW9 := Lib.hid hW9
          have HW10 := Lib.hid hW10
          have HDR := Lib.hid (show ((kxs ls).drop i4).drop nx_ = (kxs ls).drop (i4 + nx_) from by rw [List.drop_drop])
          clear hW9 hW10 hb9 kx9 hcast hr8 hra hr4 S8 K8 KS8 HO8 S9 K9 KS9 HO9
          rw [HW9.out] at y1 yf
          by_cases her : er = 0
          · subst her
            have HX := Lib.hid (show X = Ac.shut k TX xs (b0 :: b) ((kxs ls).drop (i4 + nx_)) from by rw [← HDR.out]; exact HX.out.trans (if_neg (fun q => q rfl)))
            have z2 : W10.cell? ⟨a4, 2, none⟩ = some (.slice none 0 0) := KS10.out.at_ 2
            have zf : W10.frozen? ⟨a4, 2, none⟩ = false := KS10.out.fz 2
            rw [HW10.out, HW9.out] at x13 z2 zf
            have hsh : W10.heap.size = W10.heap.size := rfl
            obtain ⟨W11, hW11⟩ : ∃ W11, W11 = W10.setCell ⟨a4, 2, none⟩ (.slice An xs.length cn) := ⟨_, rfl⟩
            have S := Lib.hid (show CuS B r w A c ls (i4 + nx_) sv W11 from by rw [hW11]; exact S10.out.far HR.out ⟨a4, 2, none⟩ (Nat.le_of_lt HA4.out) _)
            have K := Lib.hid (show IsBlk W11 w.heap.size 80 #[.int .u8 0, .string ⟨#[]⟩, .slice none 0 0] from by rw [hW11]; exact K10.out.far (p := ⟨a4, 2, none⟩) (fun e => absurd HA4.out (by rw [show a4 = w.heap.size from e.symm]; exact Nat.lt_irrefl _)) _)
            have KS := Lib.hid (show IsBlk W11 a4 80 #[.int .u8 k, .string N, .slice An xs.length cn] from by rw [hW11]; exact KS10.out.set 2 _)
            have HO := Lib.hid (show W11.ownsRow w.heap.size 105 6 (.slice An xs.length cn) xs.length (xs.flatMap ndV) from by rw [hW11]; exact own_set HO10.out KS10.out (by decide) 2 _)
            have HW11 := Lib.hid hW11
            clear hW11 hsh S10 K10 KS10 HO10 HDR
            go_wp2_with fail
            rw [← HW9.out, ← HW10.out, ← HW11.out]
            clear x13 z2 zf y1 yf
            -- in world W11: S (the cursor at (i4 + nx_)), K (the result), KS (the statement), HO (its expression), HX : X = shut ..
            have hgW : IsBlk W11 g 9 (atxV (b0 :: b)).toArray := S.out.2.2.blk HG.out (by decide)
            have HCM := Lib.hid (acome_any B r W11 A c ls (i4 + nx_) sv S.out.1 HN.out g (b0 :: b) hgW HBN.out.1 HBN.out.2)
            have HCT := Lib.hid (fun (w9 : World) (j : Nat) (h9 : CuS B r W11 A c ls j sv w9) => (show CuS B r w A c ls j sv w9 ∧ IsBlk w9 w.heap.size 80 #[.int .u8 0, .string ⟨#[]⟩, .slice none 0 0] ∧ IsBlk w9 a4 80 #[.int .u8 k, .string N, .slice An xs.length cn] ∧ w9.ownsRow w.heap.size 105 6 (.slice An xs.length cn) xs.length (xs.flatMap ndV) from ⟨S.out.trans h9, h9.2.2.blk K.out (by decide), h9.2.2.blk KS.out (by decide), h9.2.2.own HO.out (by decide)⟩))
            clear hgW
            rw [← HNL.out] at HCM
            refine HCM.out.mono ?_
            rintro e w9 ⟨rfl, i9, hm9, hs9⟩
            have H9 := Lib.hid (HCT.out w9 i9 hs9)
            have HM9 := Lib.hid hm9
            clear hs9 hm9 HCM HCT S K KS HO
            obtain ⟨Y, hY⟩ : ∃ Y, Y = Ac.come (b0 :: b) ((kxs ls).drop (i4 + nx_)) := ⟨_, rfl⟩
            have HX := Lib.hid (HX.out.trans (show Ac.shut k TX xs (b0 :: b) ((kxs ls).drop (i4 + nx_)) = if Y.2 = true then .ok Y.1 ⟨k, TX, xs⟩ else .bad Y.1.length 110 from by rw [hY]; rfl))
            rw [← hY] at HM9 ⊢
            clear hY
            obtain ⟨m9, q9⟩ := Y
            simp only at HX HM9 ⊢
            have K := H9.out.2.1
            have x0 : w9.cell? ⟨w.heap.size, 0, none⟩ = some (.int .u8 0) := K.at_ 0
            have x1 : w9.cell? ⟨w.heap.size, 1, none⟩ = some (.string ⟨#[]⟩) := K.at_ 1
            have x2 : w9.cell? ⟨w.heap.size, 2, none⟩ = some (.slice none 0 0) := K.at_ 2
            have xf := fun j => K.fz j
            clear K
            cases q9 with
            | false =>
              have HX := Lib.hid (show X = .bad m9.length 110 from HX.out)
              go_wp2
              refine bodyPost_ret (v := .tuple #[.agg #[.int .u8 0, .string ⟨#[]⟩, .slice none 0 0], .int .i64 110]) (by simp [results, Tryz.results104, go_sem, x0, x1, x2]) rfl ?_
              rw [HX.out]
              exact ⟨rfl, i9, by rw [HM9.out, kxs_rest]; have := H9.out.1.1.le; omega, (((H9.out.1.far HR.out ⟨w.heap.size, 0, none⟩ (Nat.le_refl _) _).far HR.out ⟨w.heap.size, 1, none⟩ (Nat.le_refl _) _).far HR.out ⟨w.heap.size, 2, none⟩ (Nat.le_refl _) _)⟩
            | true =>
              have HX := Lib.hid (show X = .ok m9 ⟨k, TX, xs⟩ from HX.out)
              have KS := H9.out.2.2.1
              have z0 : w9.cell? ⟨a4, 0, none⟩ = some (.int .u8 k) := KS.at_ 0
              have z1 : w9.cell? ⟨a4, 1, none⟩ = some (.string N) := KS.at_ 1
              have z2 : w9.cell? ⟨a4, 2, none⟩ = some (.slice An xs.length cn) := KS.at_ 2
              clear KS
              go_wp2
              refine bodyPost_ret (v := .tuple #[.agg #[.int .u8 k, .string N, .slice An xs.length cn], .int .i64 0]) (by simp [results, Tryz.results104, go_sem, x0, x1, x2]) rfl ?_
              rw [HX.out]
              refine ⟨An, cn, i9, by rw [HNT.out], HM9.out, (((H9.out.1.far HR.out ⟨w.heap.size, 0, none⟩ (Nat.le_refl _) _).far HR.out ⟨w.heap.size, 1, none⟩ (Nat.le_refl _) _).far HR.out ⟨w.heap.size, 2, none⟩ (Nat.le_refl _) _), ?_⟩
              have b0 := H9.out.2.1
              have b1 := b0.set 0 (.int .u8 k)
              have b2 := b1.set 1 (.string N)
              exact own_set (own_set (own_set H9.out.2.2.2 b0 (by decide) 0 _) b1 (by decide) 1 _) b2 (by decide) 2 _
          · have HX := Lib.hid (show X = .bad (((kxs ls).drop i4).length - nx_) er from HX.out.trans (if_pos her))
            have hne : (er != 0) = true := by simpa using her
            have HX0 := Lib.hid (show W10.cell? ⟨w.heap.size, 0, none⟩ = some (.int .u8 0) ∧ W10.cell? ⟨w.heap.size, 1, none⟩ = some (.string ⟨#[]⟩) ∧ W10.cell? ⟨w.heap.size, 2, none⟩ = some (.slice none 0 0) ∧ ∀ j, W10.frozen? ⟨w.heap.size, j, none⟩ = false from ⟨K10.out.at_ 0, K10.out.at_ 1, K10.out.at_ 2, fun j => K10.out.fz j⟩)
            have S := S10
            obtain ⟨x0, x1, x2, xf⟩ := HX0.out
            rw [HW10.out, HW9.out] at x0 x1 x2 xf
            clear her S10 K10 KS10 HO10 HDR x13
            go_wp2
            rw [← HW9.out, ← HW10.out]
            rw [← HW9.out, ← HW10.out] at x0 x1 x2
            refine bodyPost_ret (v := .tuple #[.agg #[.int .u8 0, .string ⟨#[]⟩, .slice none 0 0], .int .i64 er]) (by simp [results, Tryz.results104, go_sem, x0, x1, x2]) rfl ?_
            rw [HX.out]
            exact ⟨rfl, i4 + nx_, by rw [kxs_rest]; have := HFL.out; have := HD.out; have := HIL.out; omega, (((S.out.far HR.out ⟨w.heap.size, 0, none⟩ (Nat.le_refl _) _).far HR.out ⟨w.heap.size, 1, none⟩ (Nat.le_refl _) _).far HR.out ⟨w.heap.size, 2, none⟩ (Nat.le_refl _) _)⟩
  · have HX := Lib.hid (HX0.out hk2)
    have S := Lib.hid (S1.out.trans hs2)
    have K := hs2.2.2.blk K1.out (by decide)
    clear hs2 hk2 HX0 HX1 HNM S1 K1
    have x0 : w2.cell? ⟨w.heap.size, 0, none⟩ = some (.int .u8 0) := K.at_ 0
    have x1 : w2.cell? ⟨w.heap.size, 1, none⟩ = some (.string ⟨#[]⟩) := K.at_ 1
    have x2 : w2.cell? ⟨w.heap.size, 2, none⟩ = some (.slice none 0 0) := K.at_ 2
    have xf := fun j => K.fz j
    clear K
    go_wp2
    refine bodyPost_ret (v := .tuple #[.agg #[.int .u8 0, .string ⟨#[]⟩, .slice none 0 0], .int .i64 110]) (by simp [results, Tryz.results104, go_sem, x0, x1, x2]) rfl ?_
    rw [HX.out]
    exact ⟨rfl, _, (by rw [kxs_rest]; have := HLE.out; omega), (((S.out.far HR.out ⟨w.heap.size, 0, none⟩ (Nat.le_refl _) _).far HR.out ⟨w.heap.size, 1, none⟩ (Nat.le_refl _) _).far HR.out ⟨w.heap.size, 2, none⟩ (Nat.le_refl _) _)⟩
end Go.Proofs.YtmmdigeciphglaaGreatDoor
