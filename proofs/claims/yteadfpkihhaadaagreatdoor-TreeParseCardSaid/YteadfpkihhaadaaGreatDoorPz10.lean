/- Facts and walks for the statement. -/
import Derived.Test.YteadfpkihhaadaaGreatDoorPz09
namespace Go.Proofs.YteadfpkihhaadaaGreatDoor
open Go.RowKit
theorem cur_below {w W0 w1 : World} {g q : Nat} {s : ByteArray} (b0 : Below w.heap.size w W0) (hg : w.heap.size ≤ g) (h : CurTo g s q W0 w1) : Below w.heap.size w w1 :=
 b0.grown h.2 b0.size (fun k hk => by have := Option.some.inj hk; omega)
theorem isEmpty_iff {s : ByteArray} {l : List UInt8} (h : s.data.toList = l) (hne : l ≠ []) : s.toList.isEmpty = false := by
 rw [Lib.toList_data, h]
 cases l with
 | nil => exact absurd rfl hne
 | cons _ _ => rfl
set_option maxHeartbeats 4000000 in
set_option maxRecDepth 100000 in
theorem closing_any (s : ByteArray) (hs : s.size ≤ 1000000) (w : World) (h2 : 2 ≤ s.size) :
  Calls Tryz.prog 91 #[.string s] w (StepP (Tk.cls s.data.toList) w) := by
 have hm : s.size ≤ maxLen := by unfold maxLen; omega
 obtain ⟨l, hl⟩ : ∃ l, l = s.data.toList := ⟨_, rfl⟩
 obtain ⟨n, hn⟩ : ∃ n, n = Nm.bg (l.drop 2) := ⟨_, rfl⟩
 have hnl := (Nm.bg_le (l.drop 2)).1
 rw [← hn, hl, List.length_drop, ← Lib.size_eq] at hnl
 obtain ⟨b, hb⟩ : ∃ b, b = Tk.bl (l.drop (2 + n)) := ⟨_, rfl⟩
 have hbl := Tk.bl_le (l.drop (2 + n))
 rw [← hb, hl, List.length_drop, ← Lib.size_eq] at hbl
 obtain ⟨N, hN⟩ : ∃ N : ByteArray, N = ⟨((l.drop 2).take n).toArray⟩ := ⟨_, rfl⟩
 have hz1 : (w.alloc (.cells zT 76)).heap.size = w.heap.size + 1 := by simp
 have hcur : IsCur (w.heap.size + 1) s 2 ((w.alloc (.cells zT 76)).alloc (.cells #[.string s, .int .i64 2] CT)) := by
  have := IsCur.new (w.alloc (.cells zT 76)) s 2
  rw [hz1] at this
  exact this
 have hblk : IsBlk ((w.alloc (.cells zT 76)).alloc (.cells #[.string s, .int .i64 2] CT)) w.heap.size 76 zT := (IsBlk.new w 76 zT).below ((Below.refl _ _).alloc (Nat.le_refl _) _) (by simp)
 have HB0 := Lib.hid (And.intro hblk (((Below.refl w.heap.size w).alloc (Nat.le_refl _) (.cells zT 76)).alloc (by simp) (.cells #[.string s, .int .i64 2] CT)))
 have HN := Lib.hid (name_any (w.heap.size + 1) s 2 _ hs h2 hcur)
 rw [← hl, ← hn, ← hN] at HN
 have HBL := Lib.hid (fun w0 (k : IsCur (w.heap.size + 1) s (2 + n) w0) => blanks_any (w.heap.size + 1) s (2 + n) w0 hm (by omega) k)
 rw [← hl, ← hb] at HBL
 rw [← hl]
 obtain ⟨S, hS⟩ : ∃ S, S = Tk.cls l := ⟨_, rfl⟩
 rw [← hS]
 unfold Tk.cls at hS
 rw [← hn, ← hb] at hS
 clear hcur hblk hz1
 by_cases hn0 : n = 0
 ·rw [if_pos (Or.inl hn0)] at hS
  have HS := Lib.hid hS
  have hNe : N = ⟨#[]⟩ := by rw [hN, hn0]; rfl
  rw [hNe] at HN
  clear hS hN hNe hl hn hb hn0
  go_enter Tryz.func91, Tryz.ntmps91
  go_wp2_with fail
  refine HN.out.mono ?_
  rintro e w1 ⟨rfl, h1⟩
  have H1 := Lib.hid h1
  clear h1
  go_wp2_with fail
  refine (HBL.out _ H1.out.1).mono ?_
  rintro e w2 ⟨rfl, h2⟩
  have H2 := Lib.hid (H1.out.trans h2)
  clear h2
  have kb := blk_cur HB0.out.1 (by omega) H2.out
  have k0 : w2.cell? ⟨w.heap.size, 0, none⟩ = some (.int .u8 0) := kb.at_ 0
  have k1 : w2.cell? ⟨w.heap.size, 1, none⟩ = some (.string ⟨#[]⟩) := kb.at_ 1
  have k2 : w2.cell? ⟨w.heap.size, 2, none⟩ = some (.slice none 0 0) := kb.at_ 2
  have k3 : w2.cell? ⟨w.heap.size, 3, none⟩ = some (.string ⟨#[]⟩) := kb.at_ 3
  have k4 : w2.cell? ⟨w.heap.size, 4, none⟩ = some (.int .i64 0) := kb.at_ 4
  have f0 := kb.fz 0
  have f1 := kb.fz 1
  have f2 := kb.fz 2
  have f3 := kb.fz 3
  have f4 := kb.fz 4
  clear kb
  go_wp2
  exact bodyPost_ret (v := .tuple #[.agg zT, .int .i64 0, .int .i64 40]) (by simp [results, Tryz.results91, go_sem, k0, k1, k2, k3, k4]) rfl (Or.inl ⟨by rw [HS.out]; decide, by rw [HS.out]; rfl, below_five (cur_below HB0.out.2 (by omega) H2.out) (Nat.le_refl _) _ _ _ _ _⟩)
 ·have hNs : N.data.toList = (l.drop 2).take n := by rw [hN]
  have hNne : N.data.toList ≠ [] := by
   rw [hNs]; exact Tk.take_ne hn0 (by rw [hl, List.length_drop, ← Lib.size_eq]; omega)
  have hNe : N.toList.isEmpty = false := isEmpty_iff rfl hNne
  have hNe2 : N.toList ≠ [] := by rw [Lib.toList_data]; exact hNne
  have HN1 := Lib.hid hN
  by_cases hq : (l.drop (2 + n + b)).head? = some 62
  ·have hlt : 2 + n + b + 1 ≤ s.size := drop_lt_of_head (c := 62) (by rw [← hl]; exact hq)
   have HSG := Lib.hid (fun w0 (k : IsCur (w.heap.size + 1) s (2 + n + b) w0) => sign_yes (w.heap.size + 1) s ⟨#[62]⟩ (2 + n + b) w0 hm (by omega) k hlt (hp_one.2 (by rw [← hl]; exact hq)))
   rw [if_neg (by rintro (h | h); exact hn0 h; exact h hq)] at hS
   have HS := Lib.hid hS
   clear hS hN hl hn hb hq hNs hNne hNe2
   go_enter Tryz.func91, Tryz.ntmps91
   go_wp2_with fail
   refine HN.out.mono ?_
   rintro e w1 ⟨rfl, h1⟩
   have H1 := Lib.hid h1
   clear h1
   go_wp2_with fail
   refine (HBL.out _ H1.out.1).mono ?_
   rintro e w2 ⟨rfl, h2⟩
   have H2 := Lib.hid (H1.out.trans h2)
   clear h2
   go_wp2_with fail
   refine (HSG.out _ H2.out.1).mono ?_
   rintro e w3 ⟨rfl, h3⟩
   have H3 := Lib.hid (H2.out.trans h3)
   clear h3
   have kb := blk_cur HB0.out.1 (by omega) H3.out
   have k0 : w3.cell? ⟨w.heap.size, 0, none⟩ = some (.int .u8 0) := kb.at_ 0
   have k1 : w3.cell? ⟨w.heap.size, 1, none⟩ = some (.string ⟨#[]⟩) := kb.at_ 1
   have k2 : w3.cell? ⟨w.heap.size, 2, none⟩ = some (.slice none 0 0) := kb.at_ 2
   have k3 : w3.cell? ⟨w.heap.size, 3, none⟩ = some (.string ⟨#[]⟩) := kb.at_ 3
   have k4 : w3.cell? ⟨w.heap.size, 4, none⟩ = some (.int .i64 0) := kb.at_ 4
   have f0 := kb.fz 0
   have f1 := kb.fz 1
   have f2 := kb.fz 2
   have f3 := kb.fz 3
   have f4 := kb.fz 4
   clear kb
   have kc : w3.cell? ⟨w.heap.size + 1, 1, none⟩ = some (.int .i64 ((2 + n + b + 1 : Nat) : Int)) := H3.out.1.c1
   go_wp2_with fail
   go_region
   all_goals
    go_wp2
    exact bodyPost_ret (v := .tuple #[.agg #[.int .u8 2, .string N, .slice none 0 0, .string ⟨#[]⟩, .int .i64 0], .int .i64 ((2 + n + b + 1 : Nat) : Int), .int .i64 0]) (by simp [results, Tryz.results91, go_sem, k0, k1, k2, k3, k4]) rfl (Or.inr ⟨by rw [HS.out], ⟨2, (l.drop 2).take n, [], [], 0⟩, .slice none 0 0, by rw [HS.out], World.ownsRow_nil _ _ _ _, by rw [HS.out, HN1.out]; rfl, below_five (cur_below HB0.out.2 (by omega) H3.out).drew (Nat.le_refl _) _ _ _ _ _⟩)
  ·have HSG := Lib.hid (fun w0 (k : IsCur (w.heap.size + 1) s (2 + n + b) w0) => sign_no (w.heap.size + 1) s ⟨#[62]⟩ (2 + n + b) w0 (by omega) k (hp_one_no (by rw [← hl]; exact hq)))
   rw [if_pos (Or.inr hq)] at hS
   have HS := Lib.hid hS
   clear hS hN hl hn hb hq hNs hNne hNe2
   go_enter Tryz.func91, Tryz.ntmps91
   go_wp2_with fail
   refine HN.out.mono ?_
   rintro e w1 ⟨rfl, h1⟩
   have H1 := Lib.hid h1
   clear h1
   go_wp2_with fail
   refine (HBL.out _ H1.out.1).mono ?_
   rintro e w2 ⟨rfl, h2⟩
   have H2 := Lib.hid (H1.out.trans h2)
   clear h2
   go_wp2_with fail
   refine (HSG.out _ H2.out.1).mono ?_
   rintro e w3 ⟨rfl, h3⟩
   have H3 := Lib.hid (H2.out.trans h3)
   clear h3
   have kb := blk_cur HB0.out.1 (by omega) H3.out
   have k0 : w3.cell? ⟨w.heap.size, 0, none⟩ = some (.int .u8 0) := kb.at_ 0
   have k1 : w3.cell? ⟨w.heap.size, 1, none⟩ = some (.string ⟨#[]⟩) := kb.at_ 1
   have k2 : w3.cell? ⟨w.heap.size, 2, none⟩ = some (.slice none 0 0) := kb.at_ 2
   have k3 : w3.cell? ⟨w.heap.size, 3, none⟩ = some (.string ⟨#[]⟩) := kb.at_ 3
   have k4 : w3.cell? ⟨w.heap.size, 4, none⟩ = some (.int .i64 0) := kb.at_ 4
   have f0 := kb.fz 0
   have f1 := kb.fz 1
   have f2 := kb.fz 2
   have f3 := kb.fz 3
   have f4 := kb.fz 4
   clear kb
   go_wp2
   exact bodyPost_ret (v := .tuple #[.agg zT, .int .i64 0, .int .i64 40]) (by simp [results, Tryz.results91, go_sem, k0, k1, k2, k3, k4]) rfl (Or.inl ⟨by rw [HS.out]; decide, by rw [HS.out]; rfl, below_five (cur_below HB0.out.2 (by omega) H3.out) (Nat.le_refl _) _ _ _ _ _⟩)
end Go.Proofs.YteadfpkihhaadaaGreatDoor
namespace Go.Proofs.YteadfpkihhaadaaGreatDoor
open Go.RowKit
theorem endz_cases (r : List UInt8) (q : Nat) : (endz r q).1 = 0 ∨ (endz r q).1 = 1 ∨ (endz r q).1 = 3 := by
 unfold endz; repeat' split
 all_goals simp
theorem ats_places {l : List UInt8} {acc : List Tk.A} {p i : Nat} {k : Int} (hp : p ≤ l.length) (h : Tk.ats (l.length + 1) (l.drop p) p [] = (acc, i, k)) : ∀ a ∈ acc, a.p + a.vl.length ≤ l.length := by
 have := Tk.ats_place (l.length + 1) (l.drop p) p [] l.length (by rw [List.length_drop]; omega) (fun a ha => by cases ha)
 rw [h] at this
 exact this
theorem opn_bad {l : List UInt8} (h : (Tk.tagO l).2.2 = 0) : Tk.opn l = ⟨none, 0, 40⟩ := by unfold Tk.opn; rw [if_pos h]; rfl
theorem tagO_zero {l : List UInt8} (h : Nm.bg (l.drop 1) = 0) : Tk.tagO l = ([], 0, 0) := by unfold Tk.tagO; rw [if_pos h]
theorem tagO_is {l : List UInt8} {n : Nat} (h : Nm.bg (l.drop 1) = n) (h0 : n ≠ 0) : Tk.tagO l = Tk.ats (l.length + 1) (l.drop (1 + n)) (1 + n) [] := by unfold Tk.tagO; rw [h, if_neg h0]
theorem opn_rd {l : List UInt8} {acc : List Tk.A} {i : Nat} {k : Int} (h : Tk.tagO l = (acc, i, k)) (hk : k ≠ 0) (he : (Tk.rdA acc []).2.2 ≠ 0) : Tk.opn l = ⟨none, (Tk.rdA acc []).2.1, (Tk.rdA acc []).2.2⟩ := by
 unfold Tk.opn; rw [h]; simp only; rw [if_neg hk, if_pos he]; rfl
theorem opn_many {l : List UInt8} {acc : List Tk.A} {i : Nat} {k : Int} (h : Tk.tagO l = (acc, i, k)) (hk : k ≠ 0) (he : (Tk.rdA acc []).2.2 = 0) (hm : 32 < acc.length) : Tk.opn l = ⟨none, 0, 3⟩ := by
 unfold Tk.opn; rw [h]; simp only; rw [if_neg hk, if_neg (by rw [he]; decide), if_pos hm]; rfl
theorem opn_good {l : List UInt8} {acc : List Tk.A} {i : Nat} {k : Int} (h : Tk.tagO l = (acc, i, k)) (hk : k ≠ 0) (he : (Tk.rdA acc []).2.2 = 0) (hm : ¬ 32 < acc.length) : Tk.opn l = ⟨some ⟨k, (l.drop 1).take (Nm.bg (l.drop 1)), (Tk.rdA acc []).1, [], 0⟩, i, 0⟩ := by
 unfold Tk.opn; rw [h]; simp only; rw [if_neg hk, if_neg (by rw [he]; decide), if_neg hm]
set_option maxHeartbeats 8000000 in
set_option maxRecDepth 100000 in
theorem opening_any (s : ByteArray) (hs : s.size ≤ 900000) (w : World) (T : Tb w) (h1 : 1 ≤ s.size) :
  Calls Tryz.prog 92 #[.string s] w (StepP (Tk.opn s.data.toList) w) := by
 have hm : s.size ≤ maxLen := by unfold maxLen; omega
 obtain ⟨l, hl⟩ : ∃ l, l = s.data.toList := ⟨_, rfl⟩
 have hls : l.length = s.size := by rw [hl, ← Lib.size_eq]
 obtain ⟨n, hn⟩ : ∃ n, n = Nm.bg (l.drop 1) := ⟨_, rfl⟩
 have hnl := (Nm.bg_le (l.drop 1)).1
 rw [← hn, hl, List.length_drop, ← Lib.size_eq] at hnl
 obtain ⟨N, hN⟩ : ∃ N : ByteArray, N = ⟨((l.drop 1).take n).toArray⟩ := ⟨_, rfl⟩
 have hz1 : (w.alloc (.cells zT 76)).heap.size = w.heap.size + 1 := by simp
 have hcur : IsCur (w.heap.size + 1) s 1 ((w.alloc (.cells zT 76)).alloc (.cells #[.string s, .int .i64 1] CT)) := by
  have := IsCur.new (w.alloc (.cells zT 76)) s 1
  rw [hz1] at this
  exact this
 have hblk : IsBlk ((w.alloc (.cells zT 76)).alloc (.cells #[.string s, .int .i64 1] CT)) w.heap.size 76 zT := (IsBlk.new w 76 zT).below ((Below.refl _ _).alloc (Nat.le_refl _) _) (by simp)
 have HB0 := Lib.hid (And.intro hblk (((Below.refl w.heap.size w).alloc (Nat.le_refl _) (.cells zT 76)).alloc (by simp) (.cells #[.string s, .int .i64 1] CT)))
 have HN := Lib.hid (name_any (w.heap.size + 1) s 1 _ (by omega) h1 hcur)
 rw [← hl, ← hn, ← hN] at HN
 have HAT := Lib.hid (fun w0 (k : IsCur (w.heap.size + 1) s (1 + n) w0) => attributes_any (w.heap.size + 1) s (1 + n) w0 (by omega) (by omega) k)
 have HEN := Lib.hid (fun w0 q (hq : q ≤ s.size) (k : IsCur (w.heap.size + 1) s q w0) => end_any (w.heap.size + 1) s q w0 (by omega) hq k)
 have HT := Lib.hid T
 rw [← hl]
 clear hcur hblk hz1 T
 by_cases hn0 : n = 0
 ·have HS := Lib.hid (opn_bad (l := l) (by rw [tagO_zero (by rw [← hn]; exact hn0)]))
  have hNe : N = ⟨#[]⟩ := by rw [hN, hn0]; rfl
  rw [hNe] at HN
  clear hN hNe hn
  go_enter Tryz.func92, Tryz.ntmps92
  go_wp2_with fail
  refine HN.out.mono ?_
  rintro e w1 ⟨rfl, h1⟩
  have H1 := Lib.hid h1
  clear h1
  go_wp2_with fail
  refine (HAT.out _ H1.out.1).mono ?_
  rintro e w2 hpost
  rcases hpost with ⟨_, rfl, q, hq, h2⟩ | ⟨acc, q, v, rfl, hown, hq, hal, h2, hE⟩
  ·have H2 := Lib.hid (H1.out.trans h2)
   clear h2
   go_wp2_with fail
   refine (HEN.out _ _ hq H2.out.1).mono ?_
   rintro e w3 ⟨rfl, h3⟩
   have H3 := Lib.hid (H2.out.trans h3)
   clear h3
   have kb := blk_cur HB0.out.1 (by omega) H3.out
   have k0 : w3.cell? ⟨w.heap.size, 0, none⟩ = some (.int .u8 0) := kb.at_ 0
   have k1 : w3.cell? ⟨w.heap.size, 1, none⟩ = some (.string ⟨#[]⟩) := kb.at_ 1
   have k2 : w3.cell? ⟨w.heap.size, 2, none⟩ = some (.slice none 0 0) := kb.at_ 2
   have k3 : w3.cell? ⟨w.heap.size, 3, none⟩ = some (.string ⟨#[]⟩) := kb.at_ 3
   have k4 : w3.cell? ⟨w.heap.size, 4, none⟩ = some (.int .i64 0) := kb.at_ 4
   have f0 := kb.fz 0
   have f1 := kb.fz 1
   have f2 := kb.fz 2
   have f3 := kb.fz 3
   have f4 := kb.fz 4
   clear kb
   go_wp2
   exact bodyPost_ret (v := .tuple #[.agg zT, .int .i64 0, .int .i64 40]) (by simp [results, Tryz.results92, go_sem, k0, k1, k2, k3, k4]) rfl (Or.inl ⟨by rw [HS.out]; decide, by rw [HS.out]; rfl, below_five (cur_below HB0.out.2 (by omega) H3.out) (Nat.le_refl _) _ _ _ _ _⟩)
  ·have H2 := Lib.hid (H1.out.trans h2)
   clear h2 hE hown
   go_wp2_with fail
   refine (HEN.out _ _ hq H2.out.1).mono ?_
   rintro e w3 ⟨rfl, h3⟩
   have H3 := Lib.hid (H2.out.trans h3)
   clear h3
   have kb := blk_cur HB0.out.1 (by omega) H3.out
   have k0 : w3.cell? ⟨w.heap.size, 0, none⟩ = some (.int .u8 0) := kb.at_ 0
   have k1 : w3.cell? ⟨w.heap.size, 1, none⟩ = some (.string ⟨#[]⟩) := kb.at_ 1
   have k2 : w3.cell? ⟨w.heap.size, 2, none⟩ = some (.slice none 0 0) := kb.at_ 2
   have k3 : w3.cell? ⟨w.heap.size, 3, none⟩ = some (.string ⟨#[]⟩) := kb.at_ 3
   have k4 : w3.cell? ⟨w.heap.size, 4, none⟩ = some (.int .i64 0) := kb.at_ 4
   have f0 := kb.fz 0
   have f1 := kb.fz 1
   have f2 := kb.fz 2
   have f3 := kb.fz 3
   have f4 := kb.fz 4
   clear kb
   go_wp2
   exact bodyPost_ret (v := .tuple #[.agg zT, .int .i64 0, .int .i64 40]) (by simp [results, Tryz.results92, go_sem, k0, k1, k2, k3, k4]) rfl (Or.inl ⟨by rw [HS.out]; decide, by rw [HS.out]; rfl, below_five (cur_below HB0.out.2 (by omega) H3.out) (Nat.le_refl _) _ _ _ _ _⟩)
 ·have htag := tagO_is (l := l) hn.symm hn0
  have hNs : N.data.toList = (l.drop 1).take n := by rw [hN]
  have hNne : N.data.toList ≠ [] := by
   rw [hNs]; exact Tk.take_ne hn0 (by rw [hl, List.length_drop, ← Lib.size_eq]; omega)
  have hNe : N.toList.isEmpty = false := isEmpty_iff rfl hNne
  have HN1 := Lib.hid hN
  have HTG := Lib.hid htag
  have HL := Lib.hid hl
  have HNN := Lib.hid hn
  clear hN hn htag hNs hNne hl
  go_enter Tryz.func92, Tryz.ntmps92
  go_wp2_with fail
  refine HN.out.mono ?_
  rintro e w1 ⟨rfl, h1⟩
  have H1 := Lib.hid h1
  clear h1
  go_wp2_with fail
  refine (HAT.out _ H1.out.1).mono ?_
  rintro e w2 hpost
  rcases hpost with ⟨hE, rfl, q, hq, h2⟩ | ⟨acc, q, v, rfl, hown, hq, hal, h2, hE⟩
  ·have H2 := Lib.hid (H1.out.trans h2)
   have HS := Lib.hid (opn_bad (l := l) (by rw [HTG.out, hls, HL.out, hE]))
   clear h2 hE
   go_wp2_with fail
   refine (HEN.out _ _ hq H2.out.1).mono ?_
   rintro e w3 ⟨rfl, h3⟩
   have H3 := Lib.hid (H2.out.trans h3)
   clear h3
   have kb := blk_cur HB0.out.1 (by omega) H3.out
   have k0 : w3.cell? ⟨w.heap.size, 0, none⟩ = some (.int .u8 0) := kb.at_ 0
   have k1 : w3.cell? ⟨w.heap.size, 1, none⟩ = some (.string ⟨#[]⟩) := kb.at_ 1
   have k2 : w3.cell? ⟨w.heap.size, 2, none⟩ = some (.slice none 0 0) := kb.at_ 2
   have k3 : w3.cell? ⟨w.heap.size, 3, none⟩ = some (.string ⟨#[]⟩) := kb.at_ 3
   have k4 : w3.cell? ⟨w.heap.size, 4, none⟩ = some (.int .i64 0) := kb.at_ 4
   have f0 := kb.fz 0
   have f1 := kb.fz 1
   have f2 := kb.fz 2
   have f3 := kb.fz 3
   have f4 := kb.fz 4
   clear kb
   go_wp2
   exact bodyPost_ret (v := .tuple #[.agg zT, .int .i64 0, .int .i64 40]) (by simp [results, Tryz.results92, go_sem, k0, k1, k2, k3, k4]) rfl (Or.inl ⟨by rw [HS.out]; decide, by rw [HS.out]; rfl, below_five (cur_below HB0.out.2 (by omega) H3.out) (Nat.le_refl _) _ _ _ _ _⟩)
  ·have H2 := Lib.hid (H1.out.trans h2)
   have HO2 := Lib.hid (And.intro hown h2.2)
   rw [fin_endz, ← HL.out, ← hls] at hE
   obtain ⟨z, hz⟩ : ∃ z, z = endz (l.drop q) q := ⟨_, rfl⟩
   have hzc := endz_cases (l.drop q) q
   rw [← hz] at hE hzc
   have HE2 := Lib.hid (HEN.out w2 q hq h2.1)
   rw [← HL.out, ← hz] at HE2
   obtain ⟨zk, zp⟩ := z
   simp only at hE hzc HE2
   by_cases hz0 : zk = 0
   ·subst hz0
    rw [if_pos rfl] at hE
    have HS := Lib.hid (opn_bad (l := l) (by rw [HTG.out, hE]))
    clear h2 hE hz hown hzc
    go_wp2_with fail
    refine HE2.out.mono ?_
    rintro e w3 ⟨rfl, h3⟩
    have H3 := Lib.hid (H2.out.trans h3)
    clear h3
    have kb := blk_cur HB0.out.1 (by omega) H3.out
    have k0 : w3.cell? ⟨w.heap.size, 0, none⟩ = some (.int .u8 0) := kb.at_ 0
    have k1 : w3.cell? ⟨w.heap.size, 1, none⟩ = some (.string ⟨#[]⟩) := kb.at_ 1
    have k2 : w3.cell? ⟨w.heap.size, 2, none⟩ = some (.slice none 0 0) := kb.at_ 2
    have k3 : w3.cell? ⟨w.heap.size, 3, none⟩ = some (.string ⟨#[]⟩) := kb.at_ 3
    have k4 : w3.cell? ⟨w.heap.size, 4, none⟩ = some (.int .i64 0) := kb.at_ 4
    have f0 := kb.fz 0
    have f1 := kb.fz 1
    have f2 := kb.fz 2
    have f3 := kb.fz 3
    have f4 := kb.fz 4
    clear kb
    go_wp2
    exact bodyPost_ret (v := .tuple #[.agg zT, .int .i64 0, .int .i64 40]) (by simp [results, Tryz.results92, go_sem, k0, k1, k2, k3, k4]) rfl (Or.inl ⟨by rw [HS.out]; decide, by rw [HS.out]; rfl, below_five (cur_below HB0.out.2 (by omega) H3.out) (Nat.le_refl _) _ _ _ _ _⟩)
   ·rw [if_neg hz0] at hE
    have htg : Tk.tagO l = (acc, zp, zk) := by rw [HTG.out, hE]
    have hpl := ats_places (l := l) (by omega) hE
    have HTG2 := Lib.hid htg
    have HPL := Lib.hid (show ∀ a ∈ acc, a.p + a.vl.length ≤ 1000000 from fun a ha => by have := hpl a ha; omega)
    have HK0 := Lib.hid hz0
    have hk0 : (zk == 0) = false := beq_eq_false_iff_ne.2 hz0
    have HRD := Lib.hid (fun w0 (T0 : Tb w0) (k : OwnA w1.heap.size w0 v acc) => decoded_any w1.heap.size v acc w0 T0 k (by omega) HPL.out)
    obtain ⟨D, hD⟩ : ∃ D, D = Tk.rdA acc [] := ⟨_, rfl⟩
    have HDD := Lib.hid hD
    have hDl : D.2.2 = 0 → D.1.length = acc.length := fun h0 => by
     have := Tk.rdA_len acc [] (by rw [← hD]; exact h0)
     rw [← hD] at this; simpa using this
    have HDL := Lib.hid hDl
    clear h2 hE hz hown hzc htg hpl hz0 hD hDl
    go_wp2_with fail
    refine HE2.out.mono ?_
    rintro e w3 ⟨rfl, h3⟩
    have H3 := Lib.hid (H2.out.trans h3)
    have hownA : OwnA w1.heap.size w3 v acc := HO2.out.1.kept h3.2 (Or.inr (fun e => by have h1 := (HO2.out.1.lt _ e).1; have h2 := H1.out.1.lt; omega))
    have T3 : Tb w3 := HT.out.below (cur_below HB0.out.2 (by omega) H3.out) (Nat.le_refl _)
    have HOA := Lib.hid hownA
    clear h3 hownA
    go_wp2_with fail
    refine (HRD.out _ T3 HOA.out).mono ?_
    rintro e w4 hpost
    unfold DecP at hpost
    rw [← HDD.out] at hpost
    clear T3
    rcases hpost with ⟨hd, rfl, h4⟩ | ⟨hd, av, rfl, hav, h4⟩
    ·have HS := Lib.hid (opn_rd HTG2.out HK0.out (by rw [← HDD.out]; exact hd))
     rw [← HDD.out] at HS
     have hd' : (D.2.2 == 0) = false := beq_eq_false_iff_ne.2 hd
     have HDN := Lib.hid hd
     have kb := (blk_cur HB0.out.1 (by omega) H3.out).below h4 (by have := (blk_cur HB0.out.1 (by omega) H3.out).lt; exact this)
     have B4 := Lib.hid ((cur_below HB0.out.2 (by omega) H3.out).trans (h4.mono (cur_below HB0.out.2 (by omega) H3.out).size))
     clear h4 hd
     have k0 : w4.cell? ⟨w.heap.size, 0, none⟩ = some (.int .u8 0) := kb.at_ 0
     have k1 : w4.cell? ⟨w.heap.size, 1, none⟩ = some (.string ⟨#[]⟩) := kb.at_ 1
     have k2 : w4.cell? ⟨w.heap.size, 2, none⟩ = some (.slice none 0 0) := kb.at_ 2
     have k3 : w4.cell? ⟨w.heap.size, 3, none⟩ = some (.string ⟨#[]⟩) := kb.at_ 3
     have k4 : w4.cell? ⟨w.heap.size, 4, none⟩ = some (.int .i64 0) := kb.at_ 4
     have f0 := kb.fz 0
     have f1 := kb.fz 1
     have f2 := kb.fz 2
     have f3 := kb.fz 3
     have f4 := kb.fz 4
     clear kb
     go_wp2
     exact bodyPost_ret (v := .tuple #[.agg zT, .int .i64 (D.2.1 : Int), .int .i64 D.2.2]) (by simp [results, Tryz.results92, go_sem, k0, k1, k2, k3, k4]) rfl (Or.inl ⟨by rw [HS.out]; exact HDN.out, by rw [HS.out], below_five B4.out (Nat.le_refl _) _ _ _ _ _⟩)
    ·obtain ⟨A, cap, hAv⟩ : ∃ A cap, av = .slice A D.1.length cap := by
      rcases hav.2 with ⟨e1, e2⟩ | ⟨g, cap, cur, e1, _⟩
      ·exact ⟨none, 0, by rw [e1, e2]⟩
      ·exact ⟨_, _, e1⟩
     have kb := (blk_cur HB0.out.1 (by omega) H3.out).below h4 (by have := (blk_cur HB0.out.1 (by omega) H3.out).lt; exact this)
     have kcur : w4.cell? ⟨w.heap.size + 1, 1, none⟩ = some (.int .i64 (zp : Int)) := (h4.cell (p := ⟨w.heap.size + 1, 1, none⟩) H3.out.1.lt).trans H3.out.1.c1
     have B3 := cur_below HB0.out.2 (by omega) H3.out
     have B4 := Lib.hid (B3.trans (h4.mono B3.size))
     have HAV := Lib.hid (show OwnT w.heap.size w4 av D.1 from ⟨hav.1, hav.2.imp id fun ⟨g, cap, cur, e1, e2, e3⟩ => ⟨g, cap, cur, e1, Nat.le_trans B3.size e2, e3⟩⟩)
     have hdl := HDL.out hd
     have KB := Lib.hid kb
     clear hav h4 B3
     subst hAv
     by_cases hlen : 32 < D.1.length
     ·have HS := Lib.hid (opn_many HTG2.out HK0.out (by rw [← HDD.out]; exact hd) (by omega))
      have hlen' : (32 : Int) < (D.1.length : Int) := by omega
      clear hd hdl
      have k0 : w4.cell? ⟨w.heap.size, 0, none⟩ = some (.int .u8 0) := kb.at_ 0
      have k1 : w4.cell? ⟨w.heap.size, 1, none⟩ = some (.string ⟨#[]⟩) := kb.at_ 1
      have k2 : w4.cell? ⟨w.heap.size, 2, none⟩ = some (.slice none 0 0) := kb.at_ 2
      have k3 : w4.cell? ⟨w.heap.size, 3, none⟩ = some (.string ⟨#[]⟩) := kb.at_ 3
      have k4 : w4.cell? ⟨w.heap.size, 4, none⟩ = some (.int .i64 0) := kb.at_ 4
      have f0 := kb.fz 0
      have f1 := kb.fz 1
      have f2 := kb.fz 2
      have f3 := kb.fz 3
      have f4 := kb.fz 4
      clear kb
      go_wp2
      exact bodyPost_ret (v := .tuple #[.agg zT, .int .i64 0, .int .i64 3]) (by simp [results, Tryz.results92, go_sem, k0, k1, k2, k3, k4]) rfl (Or.inl ⟨by rw [HS.out]; decide, by rw [HS.out]; rfl, below_five B4.out (Nat.le_refl _) _ _ _ _ _⟩)
     ·have HS := Lib.hid (opn_good HTG2.out HK0.out (by rw [← HDD.out]; exact hd) (by omega))
      rw [← HDD.out, ← HNN.out] at HS
      have hlen' : ¬ (32 : Int) < (D.1.length : Int) := by omega
      clear hd hdl
      have k0 : w4.cell? ⟨w.heap.size, 0, none⟩ = some (.int .u8 0) := kb.at_ 0
      have k1 : w4.cell? ⟨w.heap.size, 1, none⟩ = some (.string ⟨#[]⟩) := kb.at_ 1
      have k2 : w4.cell? ⟨w.heap.size, 2, none⟩ = some (.slice none 0 0) := kb.at_ 2
      have k3 : w4.cell? ⟨w.heap.size, 3, none⟩ = some (.string ⟨#[]⟩) := kb.at_ 3
      have k4 : w4.cell? ⟨w.heap.size, 4, none⟩ = some (.int .i64 0) := kb.at_ 4
      have f0 := kb.fz 0
      have f1 := kb.fz 1
      have f2 := kb.fz 2
      have f3 := kb.fz 3
      have f4 := kb.fz 4
      clear kb
      go_wp2_with fail
      go_region
      all_goals
       go_wp2
       exact bodyPost_ret (v := .tuple #[.agg #[.int .u8 zk, .string N, .slice A D.1.length cap, .string ⟨#[]⟩, .int .i64 0], .int .i64 (zp : Int), .int .i64 0]) (by simp [results, Tryz.results92, go_sem, k0, k1, k2, k3, k4]) rfl (Or.inr ⟨by rw [HS.out], ⟨zk, (l.drop 1).take n, D.1, [], 0⟩, .slice A D.1.length cap, by rw [HS.out], own_five (show OwnT w.heap.size w4.drew _ _ from HAV.out) (show IsBlk w4.drew _ _ _ from KB.out) _ _ _ _ _, by rw [HS.out, HN1.out]; rfl, below_five B4.out.drew (Nat.le_refl _) _ _ _ _ _⟩)
end Go.Proofs.YteadfpkihhaadaaGreatDoor
