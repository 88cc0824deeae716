/- Layer 7's statements: LexIs, walked. Conditions: the table of signs holds what its text lays; the row of tokens that came in lies in memory. -/
import Derived.Test.YtbihkigpmgipcaaDoorLxShow
import Derived.Test.YtbihkigpmgipcaaDoorLxWorks
import Derived.Test.YtbihkigpmgipcaaDoorLxFrame
namespace Go.Proofs.YtbihkigpmgipcaaDoor
open Go.RowKit

/-- A token as it came in: its kind, its text, its place, which may be any. -/
structure Zt where
  k : Int
  tx : ByteArray
  p : Int
def tkZ (t : Zt) : List Value := [.int .u8 t.k, .string t.tx, .int .i64 t.p]
/-- A row of them lies so, from a place in a block on. -/
def RdZ (w : World) (B : Nat) (A : Option Addr) (l : List Zt) : Prop := 0 < l.length → ∃ g o, A = some ⟨g, o, none⟩ ∧ g < B ∧ ∀ j (hj : j < l.length), w.cell? ⟨g, o + j * 3, none⟩ = some (.int .u8 l[j].k) ∧ w.cell? ⟨g, o + j * 3 + 1, none⟩ = some (.string l[j].tx) ∧ w.cell? ⟨g, o + j * 3 + 2, none⟩ = some (.int .i64 l[j].p)
theorem RdZ.below {w w' : World} {B : Nat} {A : Option Addr} {l : List Zt} (h : RdZ w B A l) (hb : Below B w w') : RdZ w' B A l := fun h0 => by
  obtain ⟨g, o, e, hg, hc⟩ := h h0
  exact ⟨g, o, e, hg, fun j hj => ⟨(hb.cell (p := ⟨g, _, none⟩) hg).trans (hc j hj).1, (hb.cell (p := ⟨g, _, none⟩) hg).trans (hc j hj).2.1, (hb.cell (p := ⟨g, _, none⟩) hg).trans (hc j hj).2.2⟩⟩
theorem RdZ.more {w : World} {B B' : Nat} {A : Option Addr} {l : List Zt} (h : RdZ w B A l) (hB : B ≤ B') : RdZ w B' A l := fun h0 => by
  obtain ⟨g, o, e, hg, hc⟩ := h h0
  exact ⟨g, o, e, by omega, hc⟩
def pz (l : List Zt) : List (Int × ByteArray) := l.map fun t => (t.k, t.tx)
theorem pz_len (l : List Zt) : (pz l).length = l.length := by unfold pz; rw [List.length_map]
theorem pz_at (l : List Zt) (j : Nat) (h : j < (pz l).length) (h' : j < l.length) : (pz l)[j] = (l[j].k, l[j].tx) := List.getElem_map _
theorem RdZ.rds {w : World} {B : Nat} {A : Option Addr} {l : List Zt} (h : RdZ w B A l) : RdS w B A (pz l) := fun h0 => by
  obtain ⟨g, o, e, hg, hd⟩ := h (by rw [← pz_len]; exact h0)
  refine ⟨g, o, e, hg, fun j hj => ?_⟩
  obtain ⟨a0, a1, a2⟩ := hd j (by rw [← pz_len]; exact hj)
  rw [pz_at l j hj (by rw [← pz_len]; exact hj)]
  exact ⟨a0, a1, _, a2⟩
theorem tkZ_at : ∀ (l : List Zt) (j : Nat) (h : j < l.length), (l.flatMap tkZ)[j * 3]? = some (.int .u8 l[j].k) ∧ (l.flatMap tkZ)[j * 3 + 1]? = some (.string l[j].tx) ∧ (l.flatMap tkZ)[j * 3 + 2]? = some (.int .i64 l[j].p)
  | [], _, h => absurd h (Nat.not_lt_zero _)
  | t :: r, 0, _ => ⟨rfl, rfl, rfl⟩
  | t :: r, j + 1, h => by
    have ih := tkZ_at r j (by simpa using h)
    rw [List.flatMap_cons]
    have e : ∀ k, (tkZ t ++ r.flatMap tkZ)[(j + 1) * 3 + k]? = (r.flatMap tkZ)[j * 3 + k]? := fun k => by
      rw [List.getElem?_append_right (by show 3 ≤ _; omega)]
      congr 1
      show (j + 1) * 3 + k - 3 = j * 3 + k
      omega
    exact ⟨(e 0).trans ih.1, (e 1).trans ih.2.1, (e 2).trans ih.2.2⟩
structure RzI (w : World) (wr : World) (v : Value) (k : Nat) (l : List Zt) : Prop where
  below : Below w.heap.size w wr
  own : wr.ownsRow w.heap.size 44 3 v k ((l.take k).flatMap tkZ)
set_option maxHeartbeats 8000000 in
set_option maxRecDepth 100000 in
theorem refZ_any (w : World) (A : Option Addr) (c : Nat) (l : List Zt) (h : RdZ w w.heap.size A l) (hc : l.length ≤ c) (hn : l.length ≤ 1000000) :
    Calls Tryd.prog 15 #[.slice A l.length c] w fun e w' => ∃ v, e = .returned v ∧ w'.ownsRow w.heap.size 44 3 v l.length (l.flatMap tkZ) ∧ Below w.heap.size w w' := by
  have H := Lib.hid h
  obtain ⟨n, hln⟩ : ∃ n, n = l.length := ⟨_, rfl⟩
  rw [← hln] at hn hc ⊢
  have HLN := Lib.hid hln
  have hc' : (n : Int) ≤ (c : Int) := by omega
  have H0 := Lib.hid (show RzI w w (.slice none 0 0) 0 l from ⟨Below.refl _ _, World.ownsRow_nil _ _ _ _⟩)
  clear h hln
  go_enter Tryd.func15, Tryd.ntmps15
  go_wp2
  go_loopw [3, 4] (fun v0 i wr => ∃ (v : Value) (k : Nat), v = v0 ∧ i = .int .i64 k ∧ k ≤ n ∧ Hid (RzI w wr v k l)) (fun _ i _ => n - (intOf i).toNat)
  case atStart => exact ⟨_, 0, rfl, rfl, Nat.zero_le _, H0⟩
  case round =>
    obtain ⟨v, k, hv0, rfl, hk, HI⟩ := hrel
    subst hv0
    by_cases hlt : k < n
    · have hlt' : (k : Int) < (n : Int) := by omega
      have hkl : k < l.length := by rw [← HLN.out]; exact hlt
      obtain ⟨g, o, hA, hg, hd⟩ := H.out.below HI.out.below (by omega)
      obtain ⟨a0, a1, a2⟩ := hd k hkl
      subst hA
      have HTK := Lib.hid (show (l.take (k + 1)).flatMap tkZ = (l.take k).flatMap tkZ ++ tkZ l[k] by
        rw [List.take_succ_eq_append_getElem hkl, List.flatMap_append]; simp)
      clear hd
      generalize l[k] = t at *
      obtain ⟨K, Y, P⟩ := t
      simp only at a0 a1 a2
      obtain ⟨i0, hi, hz0, hz1, hz2⟩ := info_parts infoLT
      have hrl := HI.out.below.size
      have hbw := Lib.hid (show ∀ q, v.ownBlock = some q → w.heap.size ≤ q from fun q hq => (HI.out.own.lt q hq).1)
      have hmax : k + 1 ≤ maxLen := by unfold maxLen; omega
      have hgw := Nat.lt_of_lt_of_le hg hrl
      have c_dr := fun (ob : Obj) (off : Nat) => ((Below.refl wr.heap.size wr).alloc (Nat.le_refl _) ob).drew.cell (p := ⟨g, off, none⟩) hgw
      go_wp2_with fail
      go_region_held3 (fun w' => w'.cell? ⟨g, o + k * 3, none⟩ = some (.int .u8 K) ∧ w'.cell? ⟨g, o + k * 3 + 1, none⟩ = some (.string Y) ∧ w'.cell? ⟨g, o + k * 3 + 2, none⟩ = some (.int .i64 P)) (first | exact ⟨a0, a1, a2⟩ | exact ⟨(c_dr _ _).trans a0, (c_dr _ _).trans a1, (c_dr _ _).trans a2⟩ | exact ⟨(HR9.out.2.2.cell (p := ⟨g, _, none⟩) hg).trans a0, (HR9.out.2.2.cell (p := ⟨g, _, none⟩) hg).trans a1, (HR9.out.2.2.cell (p := ⟨g, _, none⟩) hg).trans a2⟩) (first | (refine step_append_lies _ (by rfl) _ _ _ (by rfl) w.heap.size 44 i0 _ 3 32 Tryd.underlying23 hi hz0 hz1 hz2 rfl (by omega) v k ((l.take k).flatMap tkZ) (by rfl) (by exact own_dr (World.ownsRow.alloc HI.out.own _)) _ 1 _ [.int .u8 K, .string Y, .int .i64 P] (by rfl) rfl (by intro j u hu; exact news_dr _ _ _ _ (by simp) j u hu) (by intro u hu; simp at hu; rcases hu with rfl | rfl | rfl <;> rfl) (by omega) hmax (by omega) (by simp; omega) _ rfl ?_; intro g9 cap9 w9 hown9 hgr9 hat9 hlt9; have HR9 := Lib.hid (And.intro hown9 (show Below w.heap.size w w9 ∧ Below w.heap.size wr w9 from ⟨Below.grown (HI.out.below.alloc hrl _).drew hgr9 (by simp; omega) hbw.out, Below.grown ((Below.refl _ _).alloc hrl _).drew hgr9 (by simp; omega) hbw.out⟩)); clear hown9 hgr9 hat9))
      have HJ := Lib.hid (show RzI w w9 (.slice (some ⟨g9, 0, none⟩) (k + 1) cap9) (k + 1) l from ⟨HR9.out.2.1, by
        rw [HTK.out]
        exact HR9.out.1⟩)
      clear HR9 a0 a1 a2 hi hz0 hz1 hz2 hmax
      go_wp2
      go_roundw
      case rel => exact ⟨_, k + 1, rfl, by go_num, hlt, HJ⟩
      case measure => simp [intOf]; omega
    · obtain rfl : k = n := by omega
      have hlt' : ¬ (k : Int) < (k : Int) := by omega
      have HE := Lib.hid (show wr.ownsRow w.heap.size 44 3 v k (l.flatMap tkZ) by
        have h4 := HI.out.own
        rw [List.take_of_length_le (by rw [← HLN.out]; exact Nat.le_refl _)] at h4
        exact h4)
      clear hlt
      go_wp2
      go_ret
      exact ⟨v, rfl, HE.out, HI.out.below⟩

theorem ownZ_rd {w : World} {B n c : Nat} {e : TypeId} {A : Option Addr} {l : List Zt} (h : w.ownsRow B e 3 (.slice A n c) n (l.flatMap tkZ)) (hn : n = l.length) : ShR w w.heap.size A (pz l) ∧ n ≤ c := by
  obtain ⟨A', c', e1, h1, _, h3, h4⟩ := own_slice h
  injection e1 with e1 e2 e3
  subst e1 e3
  refine ⟨fun j hj0 => ?_, h3⟩
  have hj : j < l.length := by rw [← pz_len]; exact hj0
  obtain ⟨g, hA, hg, _, hc⟩ := h1 (by omega)
  obtain ⟨a0, a1, _⟩ := tkZ_at l j hj
  rw [pz_at l j hj0 hj]
  exact ⟨g, hA, hg, hc _ _ a0, hc _ _ a1⟩
set_option maxHeartbeats 8000000 in
set_option maxRecDepth 100000 in
theorem lexIs_any (s : ByteArray) (A : Option Addr) (c : Nat) (l : List Zt) (w : World) (hI : Sg w) (h : RdZ w w.heap.size A l) (hc : l.length ≤ c) :
    Calls Tryd.prog 4 #[.string s, .slice A l.length c] w fun e w' => e = .returned (.bool true) ∧ Below w.heap.size w w' := by
  have HWK := Lib.hid (fun w0 (h0 : Sg w0) => works_any kind7 w0 h0)
  have HIw := Lib.hid hI
  have HR := Lib.hid h
  have HB0 := Lib.hid (Below.refl w.heap.size w)
  obtain ⟨n, hln⟩ : ∃ n, n = l.length := ⟨_, rfl⟩
  have HLN := Lib.hid hln
  rw [← hln] at hc ⊢
  clear h hI hln
  by_cases h1 : s.size > 100
  · have h1a : (s.size : Int) > 100 := by omega
    clear h1
    go_enter Tryd.func4, Tryd.ntmps4
    go_wp2_with fail
    refine (HWK.out _ HIw.out).mono ?_
    rintro e wz ⟨rfl, hz⟩
    have HZ := Lib.hid ((HB0.out).trans (hz.mono (HB0.out).size))
    clear hz
    go_wp2
    go_ret
    exact ⟨rfl, HZ.out⟩
  · have h1a : ¬ (s.size : Int) > 100 := by omega
    by_cases h2 : n > 40
    · have h2a : (n : Int) > 40 := by omega
      clear h1 h2
      go_enter Tryd.func4, Tryd.ntmps4
      go_wp2_with fail
      refine (HWK.out _ HIw.out).mono ?_
      rintro e wz ⟨rfl, hz⟩
      have HZ := Lib.hid ((HB0.out).trans (hz.mono (HB0.out).size))
      clear hz
      go_wp2
      go_ret
      exact ⟨rfl, HZ.out⟩
    · have h2a : ¬ (n : Int) > 40 := by omega
      have hc' : (n : Int) ≤ (c : Int) := by omega
      go_enter Tryd.func4, Tryd.ntmps4
      go_wp2
      go_loopw [5] (fun i wr => ∃ k : Nat, i = .int .i64 k ∧ k ≤ n ∧ Hid (Below w.heap.size w wr ∧ ∀ j (hj : j < l.length), j < k → l[j].tx.size ≤ 100)) (fun i _ => n - (intOf i).toNat)
      case atStart => exact ⟨0, rfl, Nat.zero_le _, Lib.hid ⟨HB0.out, fun j _ hj => absurd hj (Nat.not_lt_zero _)⟩⟩
      case round =>
        obtain ⟨k, rfl, hk, HI⟩ := hrel
        by_cases hlt : k < n
        · have hlt' : (k : Int) < (n : Int) := by omega
          have hkl : k < l.length := by rw [← HLN.out]; exact hlt
          obtain ⟨g, o, hA, hg, hcs⟩ := (HR.out.below HI.out.1) (by omega)
          obtain ⟨c0, c1, c2⟩ := hcs k hkl
          have HST := Lib.hid (fun (q : l[k].tx.size ≤ 100) j (hj : j < l.length) (h : j < k + 1) => show l[j].tx.size ≤ 100 from by
            rcases Nat.lt_succ_iff_lt_or_eq.1 h with h | h
            · exact HI.out.2 j hj h
            · subst h; exact q)
          generalize hX : l[k].tx = X at *
          clear hcs c0 c2 hX
          subst hA
          by_cases hx : X.size > 100
          · have hx' : (X.size : Int) > 100 := by omega
            clear hx HST
            go_wp2_with fail
            refine (HWK.out _ (HIw.out.below HI.out.1 (Nat.le_refl _))).mono ?_
            rintro e wz ⟨rfl, hz⟩
            have HZ := Lib.hid ((HI.out.1).trans (hz.mono (HI.out.1).size))
            clear hz
            go_wp2
            go_ret
            exact ⟨rfl, HZ.out⟩
          · have hx' : ¬ (X.size : Int) > 100 := by omega
            have HN := Lib.hid (And.intro HI.out.1 (HST.out (by omega)))
            clear hx HST
            go_wp2
            go_roundw
            case rel => exact ⟨k + 1, by go_num, hlt, HN⟩
            case measure => simp [intOf]; omega
        · obtain rfl : k = n := by omega
          have hlt' : ¬ (k : Int) < (k : Int) := by omega
          have HX := Lib.hid (fun x (hx : x ∈ pz l) => show x.2.size ≤ 10000 from by
            unfold pz at hx
            obtain ⟨t, ht, rfl⟩ := List.mem_map.1 hx
            obtain ⟨j, hj, e⟩ := List.getElem_of_mem ht
            have := HI.out.2 j hj (by rw [HLN.out]; exact hj)
            rw [e] at this
            show t.tx.size ≤ 10000
            omega)
          have HSH := Lib.hid (fun w0 (i0 : Sg w0) (r0 : RdZ w0 w0.heap.size A l) => show Calls Tryd.prog 13 #[.slice A k c] w0 fun e w' => e = .returned (shV (Lx.shw (prs (pz l)))) ∧ Below w0.heap.size w0 w' from by
            have := lshow_any w0 A c (pz l) i0 r0.rds (by rw [pz_len, ← HLN.out]; omega) (by rw [pz_len, ← HLN.out]; exact hc) HX.out
            rwa [pz_len, ← HLN.out] at this)
          have HRF := Lib.hid (fun w0 (r0 : RdZ w0 w0.heap.size A l) => show Calls Tryd.prog 15 #[.slice A k c] w0 fun e w' => ∃ v, e = .returned v ∧ w'.ownsRow w0.heap.size 44 3 v k (l.flatMap tkZ) ∧ Below w0.heap.size w0 w' from by
            have := refZ_any w0 A c l r0 (by rw [← HLN.out]; exact hc) (by rw [← HLN.out]; omega)
            rwa [← HLN.out] at this)
          have HRS := Lib.hid (fun w0 A2 c2 (r0 : ShR w0 w0.heap.size A2 (pz l)) (h2 : k ≤ c2) => show Calls Tryd.prog 14 #[.slice A2 k c2] w0 fun e w' => e = .returned (shV (Lx.shw (prs (pz l)))) ∧ Below w0.heap.size w0 w' from by
            have := rshow_any w0 A2 c2 (pz l) r0 (by rw [pz_len, ← HLN.out]; omega) (by rw [pz_len, ← HLN.out]; exact h2) HX.out
            rwa [pz_len, ← HLN.out] at this)
          obtain ⟨S, z, hS⟩ : ∃ (S : ByteArray) (z : Int), shV (Lx.shw (prs (pz l))) = .tuple #[.string S, .int .i64 z] := by
            cases Lx.shw (prs (pz l)) with
            | none => exact ⟨_, _, rfl⟩
            | some y => exact ⟨_, _, rfl⟩
          rw [hS] at HSH HRS
          have HQ1 := Lib.hid (fun w0 (i0 : Sg w0) => is_any s w0 (by unfold maxLen; omega) i0)
          have HQ2 := Lib.hid (fun w0 => ris_any s w0 (by omega))
          generalize Lx.is s.data.toList = q at *
          have e1 : (q == q) = true := by simp
          have e2 : (S.toList == S.toList) = true := by simp
          have e3 : (z == z) = true := by simp
          clear hlt hS
          go_wp2_with fail
          refine (HSH.out _ (HIw.out.below HI.out.1 (Nat.le_refl _)) ((HR.out.below HI.out.1).more HI.out.1.size)).mono ?_
          rintro e w1 ⟨rfl, b1⟩
          have H1 := Lib.hid (HI.out.1.trans (b1.mono HI.out.1.size))
          clear b1
          go_wp2_with fail
          refine (HRF.out _ ((HR.out.below H1.out).more H1.out.size)).mono ?_
          rintro e w2 ⟨v, rfl, ov, b2⟩
          have H2 := Lib.hid (H1.out.trans (b2.mono H1.out.size))
          obtain ⟨A2, c2, hv, _, _, _, _⟩ := own_slice ov
          subst hv
          obtain ⟨r2, l2⟩ := ownZ_rd ov HLN.out
          have HR2 := Lib.hid (And.intro r2 l2)
          clear b2 ov r2 l2
          go_wp2_with fail
          refine (HRS.out _ _ _ HR2.out.1 HR2.out.2).mono ?_
          rintro e w3 ⟨rfl, b3⟩
          have H3 := Lib.hid (H2.out.trans (b3.mono H2.out.size))
          clear b3
          go_wp2_with fail
          refine (HQ1.out _ (HIw.out.below H3.out (Nat.le_refl _))).mono ?_
          rintro e w4 ⟨rfl, b4⟩
          have H4 := Lib.hid (H3.out.trans (b4.mono H3.out.size))
          clear b4
          go_wp2_with fail
          refine (HQ2.out _).mono ?_
          rintro e w5 ⟨rfl, b5⟩
          have H5 := Lib.hid (H4.out.trans (b5.mono H4.out.size))
          clear b5
          go_wp2_with fail
          refine (HWK.out _ (HIw.out.below H5.out (Nat.le_refl _))).mono ?_
          rintro e wz ⟨rfl, hz⟩
          have HZ := Lib.hid ((H5.out).trans (hz.mono (H5.out).size))
          clear hz
          go_wp2
          go_ret
          exact ⟨rfl, HZ.out⟩
end Go.Proofs.YtbihkigpmgipcaaDoor
