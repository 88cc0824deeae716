/- Layer 7's program: strings.Clone, Tokens. Conditions: the table of signs holds what its text lays; a text's length fits. -/
import Derived.Test.YtdcjpinbflmikaaGreatDoorLxWalk5
import Derived.Test.YtdcjpinbflmikaaGreatDoorLxWorks
namespace Go.Proofs.YtdcjpinbflmikaaGreatDoor
open Go.RowKit

set_option maxHeartbeats 1000000 in
theorem clone_any (s : ByteArray) (w : World) (hs : s.size ≤ 281474976710656) : Calls Tryz.prog 75 #[.string s] w fun e w' => e = .returned (.string s) ∧ Below w.heap.size w w' := by
  have HC := Lib.hid (Tryz.stringslite_Clone s w hs)
  go_enter Tryz.func75, Tryz.ntmps75
  go_wp2_with fail
  refine HC.out.mono ?_
  rintro e w1 ⟨rfl, b⟩
  go_wp2
  go_ret
  exact ⟨rfl, b⟩
theorem infoLK : (Tryz.prog.info? 39).map (fun i => (i.zero, i.size, i.bytes)) = some (some (.agg #[.int .u8 0, .string ⟨#[]⟩, .int .i64 0]), 3, 32) := by kernel_rfl
structure LkI (s : ByteArray) (w : World) (R : List Lx.T × Nat × Int) (v : Value) (wr : World) (p : Nat) (ts : List Lx.T) : Prop where
  hp : p ≤ s.size
  hl : ts.length ≤ p
  below : Below w.heap.size w wr
  own : wr.ownsRow w.heap.size 39 3 v ts.length (ts.flatMap tkV)
  eq : ∃ f, s.size - p < f ∧ R = jn ts (Lx.cut f (s.data.toList.drop p) p)
set_option maxHeartbeats 8000000 in
set_option maxRecDepth 100000 in
theorem ltoks_any (s : ByteArray) (w : World) (hsz : s.size ≤ maxLen) (h : Sg w) :
    Calls Tryz.prog 63 #[.string s] w (LlP (Lx.toks s.data.toList) w) := by
  have HL := Lib.hid (Lib.size_eq s)
  have HSG := Lib.hid h
  clear h
  obtain ⟨R, hR⟩ : ∃ R, R = Lx.toks s.data.toList := ⟨_, rfl⟩
  rw [← hR]
  unfold maxLen at hsz
  by_cases hbig : 65536 < s.size
  · have hbig' : (s.size : Int) > 65536 := by omega
    have HE := Lib.hid (show R = ([], 0, 3) by rw [hR]; unfold Lx.toks; rw [if_pos (by rw [← HL.out]; exact hbig)])
    have HB1 := Lib.hid (Below.refl w.heap.size w)
    clear hR hbig
    go_enter Tryz.func63, Tryz.ntmps63
    go_wp2
    go_ret3
    exact ⟨none, 0, by rw [HE.out]; exact World.ownsRow_nil _ _ _ _, by rw [HE.out]; rfl, HB1.out⟩
  · have hbig' : ¬ (s.size : Int) > 65536 := by omega
    have hsm : s.size ≤ 65536 := by omega
    have hs : s.size ≤ 1000000000 := by omega
    have HB0 := Lib.hid (blanks_any s w hs)
    obtain ⟨b0, hb0⟩ : ∃ b, b = Lx.blk false s.data.toList := ⟨_, rfl⟩
    have hb0l := Lx.blk_le false s.data.toList
    have H0 := Lib.hid (fun w1 (b1 : Below w.heap.size w w1) => show LkI s w R (.slice none 0 0) w1 b0 [] from ⟨by rw [hb0, HL.out]; exact hb0l, Nat.zero_le _, b1, World.ownsRow_nil _ _ _ _, s.size + 1, by omega, by
      rw [hR, hb0]
      unfold Lx.toks
      rw [if_neg (by rw [← HL.out]; exact hbig), HL.out]
      exact cut_form _ _ _⟩)
    rw [← hb0] at HB0
    have HBL := Lib.hid (fun (k : Nat) w0 => show Calls Tryz.prog 108 #[.string (s.extract k s.size)] w0 fun e w' => e = .returned (.int .i64 (Lx.blk false (s.data.toList.drop k))) ∧ Below w0.heap.size w0 w' from by
      have := blanks_any (s.extract k s.size) w0 (by rw [ByteArray.size_extract]; omega)
      rwa [Lib.extract_to_end] at this)
    have HFS := Lib.hid (fun (k : Nat) w0 (h0 : Sg w0) => show Calls Tryz.prog 109 #[.string (s.extract k s.size)] w0 fun e w' => e = .returned (.tuple #[.int .u8 (Lx.fst (s.data.toList.drop k)).1, .int .i64 (Lx.fst (s.data.toList.drop k)).2]) ∧ Below w0.heap.size w0 w' from by
      have := first_any (s.extract k s.size) w0 (by rw [ByteArray.size_extract]; unfold maxLen; omega) h0
      rwa [Lib.extract_to_end] at this)
    have HCL := Lib.hid (fun (a k : Nat) w0 => clone_any (s.extract a (a + k)) w0 (by rw [ByteArray.size_extract]; omega))
    clear hR hb0 hb0l hbig
    go_enter Tryz.func63, Tryz.ntmps63
    go_wp2_with fail
    refine HB0.out.mono ?_
    rintro e w1 ⟨rfl, h1⟩
    have HI0 := Lib.hid (H0.out w1 h1)
    clear h1 H0
    go_wp2
    go_loopw [2, 3] (fun v0 i wr => ∃ (v : Value) (p : Nat) (ts : List Lx.T), v = v0 ∧ i = .int .i64 p ∧ Hid (LkI s w R v wr p ts)) (fun _ i _ => s.size - (intOf i).toNat)
    case atStart => exact ⟨_, b0, [], rfl, rfl, HI0⟩
    case round =>
      clear HI0
      obtain ⟨v, p, ts, hv0, rfl, HI⟩ := hrel
      subst hv0
      have hp := HI.out.hp
      by_cases hlt : p < s.size
      · have hlt' : (p : Int) < (s.size : Int) := by omega
        have HG := Lib.hid (HFS.out p wr (HSG.out.below HI.out.below (Nat.le_refl _)))
        obtain ⟨L, hL⟩ : ∃ L, L = s.data.toList.drop p := ⟨_, rfl⟩
        have hLl : L.length = s.size - p := by rw [hL, List.length_drop, ← HL.out]
        have hne : L ≠ [] := by intro e; rw [e] at hLl; simp at hLl; omega
        have hfl := Lx.fst_le L
        have hfe := Lx.fst_lng L
        have hfn := @Lx.fst_no L
        rw [← hL] at HG
        have HF := HI.out.eq
        rw [← hL] at HF
        have HEQ := Lib.hid HF
        generalize Lx.fst L = d at *
        obtain ⟨K, n⟩ := d
        simp only at HG hfl hfe hfn
        clear HF
        by_cases h0 : K = 0
        · have HE := Lib.hid (show R = ([], p, 70) by
            obtain ⟨f, hf, he⟩ := HEQ.out
            rw [he, cut_bad (by omega) hne (hfn.1 h0)])
          subst h0
          clear hfl hfe hfn hL hLl hne
          go_wp2_with fail
          refine HG.out.mono ?_
          rintro e w2 ⟨rfl, h1⟩
          have HB1 := Lib.hid (HI.out.below.trans (h1.mono HI.out.below.size))
          clear h1
          go_wp2
          go_ret3
          exact ⟨none, 0, by rw [HE.out]; exact World.ownsRow_nil _ _ _ _, by rw [HE.out]; rfl, HB1.out⟩
        · have hK0 : (K == 0) = false := beq_eq_false_iff_ne.2 h0
          have hgd : ¬ (Lx.lng L = 0 ∨ 64 < Lx.lng L) := fun e => h0 (hfn.2 e)
          rw [if_neg hgd] at hfe
          obtain ⟨hKe, hne2⟩ := Prod.mk.inj hfe
          obtain ⟨b, hb⟩ : ∃ b, b = Lx.blk false (L.drop n) := ⟨_, rfl⟩
          have hdd : L.drop n = s.data.toList.drop (p + n) := by rw [hL, List.drop_drop]
          have hn0 : 0 < n := by omega
          have hpn : p + n ≤ s.size := by have := hfl.1; omega
          have hbl := Lx.blk_le false (L.drop n)
          rw [← hb, List.length_drop] at hbl
          have HBK := Lib.hid (fun w0 => HBL.out (p + n) w0)
          rw [← hdd, ← hb] at HBK
          have HCK := Lib.hid (HCL.out p n)
          have HX := Lib.hid (show (⟨(L.take n).toArray⟩ : ByteArray) = s.extract p (p + n) by rw [hL]; exact lx_mk s p n)
          have HNX := Lib.hid (show ∃ f, s.size - (p + n + b) < f ∧ R = jn (ts ++ [⟨K, L.take n, p⟩]) (Lx.cut f (s.data.toList.drop (p + n + b)) (p + n + b)) by
            obtain ⟨f, hf, he⟩ := HEQ.out
            obtain ⟨f, rfl⟩ : ∃ f', f = f' + 1 := ⟨f - 1, by omega⟩
            refine ⟨f, by omega, ?_⟩
            rw [he, cut_good hne hgd, ← hne2, ← hb, show L.drop (n + b) = s.data.toList.drop (p + n + b) by rw [hL, List.drop_drop, Nat.add_assoc], hKe, ← hne2])
          have hpb : p + n + b ≤ s.size := by omega
          generalize L.take n = X at *
          have HN0 := Lib.hid hn0
          have hll := HI.out.hl
          have hmax : ts.length + 1 ≤ maxLen := by unfold maxLen; omega
          obtain ⟨i0, hi, hz0, hz1, hz2⟩ := info_parts infoLK
          have a0 : (p : Int) + (n : Int) ≤ (s.size : Int) := by omega
          have a1 : (0 : Int) ≤ (p : Int) + (n : Int) := by omega
          have a2 : (p : Int) ≤ (p : Int) + (n : Int) := by omega
          have a3 : ((p : Int) + (n : Int)).toNat = p + n := by omega
          clear hb hdd hbl hfl hfe hfn hL hLl hne h0 HEQ hgd hKe hne2
          go_wp2_with fail
          refine HG.out.mono ?_
          rintro e w2 ⟨rfl, h1⟩
          have HB2 := Lib.hid (HI.out.below.trans (h1.mono HI.out.below.size))
          have HO2 := Lib.hid (own_below HI.out.own h1)
          clear h1
          go_wp2_with fail
          refine (HCK.out _).mono ?_
          rintro e w3 ⟨rfl, h1⟩
          have HB3 := Lib.hid (HB2.out.trans (h1.mono HB2.out.size))
          have HO3 := Lib.hid (own_below HO2.out h1)
          have hsz3 := HB3.out.size
          clear h1 HB2 HO2
          have hbw := Lib.hid (show ∀ k, v.ownBlock = some k → w.heap.size ≤ k from fun k hk => (HI.out.own.lt k hk).1)
          go_wp2_with (at_builtin; (refine wpList_append_own _ rfl _ _ _ rfl w.heap.size 39 i0 _ 3 32 Tryz.underlying36 hi hz0 hz1 hz2 rfl (by omega) v ts.length (ts.flatMap tkV) (by rfl) (by exact World.ownsRow.alloc HO3.out _) _ 1 _ [.int .u8 K, .string (s.extract p (p + n)), .int .i64 (p : Int)] (by rfl) rfl (by intro j u hu; exact news_at _ _ _ _ (by simp) j u hu) (by intro u hu; simp at hu; rcases hu with rfl | rfl | rfl <;> rfl) hmax (by omega) (by simp; omega) ?_); intro v9 w9 hown9 hgr9 _; obtain ⟨A9, c9, hv9, _, _, _, _⟩ := own_slice hown9; subst hv9; have HR9 := Lib.hid (And.intro hown9 (show Below w.heap.size w w9 from Below.grown (HB3.out.alloc hsz3 _) hgr9 (by simp; omega) hbw.out)); clear hown9 hgr9)
          have HJ := Lib.hid (fun w5 (b5 : Below w9.heap.size w9 w5) => show LkI s w R (.slice A9 (ts.length + 1) c9) w5 (p + n + b) (ts ++ [⟨K, X, p⟩]) from ⟨hpb, by rw [List.length_append]; have := HN0.out; simp; omega, HR9.out.2.trans (b5.mono HR9.out.2.size), by
            rw [List.flatMap_append, List.length_append]
            have h4 := HR9.out.1
            rw [← HX.out] at h4
            exact own_below h4 b5, HNX.out⟩)
          clear HR9 HO3 HB3 hll hmax hi hz0 hz1 hz2
          go_wp2_with fail
          refine (HBK.out _).mono ?_
          rintro e w5 ⟨rfl, h1⟩
          have HJ5 := Lib.hid (HJ.out w5 h1)
          clear h1
          go_wp2
          refine ⟨⟨_, p + n + b, _, rfl, by go_num, HJ5⟩, ?_⟩
          have := HN0.out
          simp [intOf]
          omega
      · obtain rfl : p = s.size := by omega
        have hlt' : ¬ ((s.size : Nat) : Int) < (s.size : Int) := by omega
        have HE := Lib.hid (show R = (ts, 0, 0) by
          obtain ⟨f, hf, he⟩ := HI.out.eq
          rw [List.drop_of_length_le (by rw [← HL.out]; exact Nat.le_refl _)] at he
          rw [he, cut_none (by omega)])
        obtain ⟨A9, c9, hv9, _, _, _, _⟩ := own_slice HI.out.own
        subst hv9
        clear hlt
        go_wp2
        go_ret3
        exact ⟨A9, c9, by rw [HE.out]; exact HI.out.own, by rw [HE.out]; rfl, HI.out.below⟩
end Go.Proofs.YtdcjpinbflmikaaGreatDoor
