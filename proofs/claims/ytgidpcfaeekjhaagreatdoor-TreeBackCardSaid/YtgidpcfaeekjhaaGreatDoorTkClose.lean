/- closing of package token, walked. Condition: a text's length fits (at most 1,000,000 bytes). -/
import Derived.Test.YtgidpcfaeekjhaaGreatDoorTkStep
namespace Go.Proofs.YtgidpcfaeekjhaaGreatDoor
open Go.RowKit

theorem blk_curN {g r : Nat} {s : ByteArray} {q : Nat} {w w1 : World} {t : TypeId} {cs : Array Value} (h : IsBlk w r t cs) (hne : r ≠ g) (k : CurTo g s q w w1) : IsBlk w1 r t cs := blk_cur h hne k
theorem cur_below {w W0 w1 : World} {g q : Nat} {s : ByteArray} (b0 : Below w.heap.size w W0) (hg : w.heap.size ≤ g) (h : CurTo g s q W0 w1) : Below w.heap.size w w1 :=
  b0.grown h.2 b0.size (fun k hk => by have := Option.some.inj hk; omega)
theorem isEmpty_iff {s : ByteArray} {l : List UInt8} (h : s.data.toList = l) (hne : l ≠ []) : s.toList.isEmpty = false := by
  rw [Lib.toList_data, h]
  cases l with
  | nil => exact absurd rfl hne
  | cons _ _ => rfl

set_option maxHeartbeats 4000000 in
set_option maxRecDepth 100000 in
theorem closing_any (s : ByteArray) (hs : s.size ≤ 1000000) (w : World) (h2 : 2 ≤ s.size) :
    Calls Tryz.prog 91 #[.string s] w (StepP (Tk.cls s.data.toList) w) := by
  have hm : s.size ≤ maxLen := by unfold maxLen; omega
  obtain ⟨l, hl⟩ : ∃ l, l = s.data.toList := ⟨_, rfl⟩
  obtain ⟨n, hn⟩ : ∃ n, n = Nm.bg (l.drop 2) := ⟨_, rfl⟩
  have hnl := (Nm.bg_le (l.drop 2)).1
  rw [← hn, hl, List.length_drop, ← Lib.size_eq] at hnl
  obtain ⟨b, hb⟩ : ∃ b, b = Tk.bl (l.drop (2 + n)) := ⟨_, rfl⟩
  have hbl := Tk.bl_le (l.drop (2 + n))
  rw [← hb, hl, List.length_drop, ← Lib.size_eq] at hbl
  obtain ⟨N, hN⟩ : ∃ N : ByteArray, N = ⟨((l.drop 2).take n).toArray⟩ := ⟨_, rfl⟩
  have hz1 : (w.alloc (.cells zT 76)).heap.size = w.heap.size + 1 := by simp
  have hcur : IsCur (w.heap.size + 1) s 2 ((w.alloc (.cells zT 76)).alloc (.cells #[.string s, .int .i64 2] CT)) := by
    have := IsCur.new (w.alloc (.cells zT 76)) s 2
    rw [hz1] at this
    exact this
  have hblk : IsBlk ((w.alloc (.cells zT 76)).alloc (.cells #[.string s, .int .i64 2] CT)) w.heap.size 76 zT := (IsBlk.new w 76 zT).below ((Below.refl _ _).alloc (Nat.le_refl _) _) (by simp)
  have HB0 := Lib.hid (And.intro hblk (((Below.refl w.heap.size w).alloc (Nat.le_refl _) (.cells zT 76)).alloc (by simp) (.cells #[.string s, .int .i64 2] CT)))
  have HN := Lib.hid (name_any (w.heap.size + 1) s 2 _ hs h2 hcur)
  rw [← hl, ← hn, ← hN] at HN
  have HBL := Lib.hid (fun w0 (k : IsCur (w.heap.size + 1) s (2 + n) w0) => blanks_any (w.heap.size + 1) s (2 + n) w0 hm (by omega) k)
  rw [← hl, ← hb] at HBL
  rw [← hl]
  obtain ⟨S, hS⟩ : ∃ S, S = Tk.cls l := ⟨_, rfl⟩
  rw [← hS]
  unfold Tk.cls at hS
  rw [← hn, ← hb] at hS
  clear hcur hblk hz1
  by_cases hn0 : n = 0
  · rw [if_pos (Or.inl hn0)] at hS
    have HS := Lib.hid hS
    have hNe : N = ⟨#[]⟩ := by rw [hN, hn0]; rfl
    rw [hNe] at HN
    clear hS hN hNe hl hn hb hn0
    go_enter Tryz.func91, Tryz.ntmps91
    go_wp2_with fail
    refine HN.out.mono ?_
    rintro e w1 ⟨rfl, h1⟩
    have H1 := Lib.hid h1
    clear h1
    go_wp2_with fail
    refine (HBL.out _ H1.out.1).mono ?_
    rintro e w2 ⟨rfl, h2⟩
    have H2 := Lib.hid (H1.out.trans h2)
    clear h2
    have kb := blk_cur HB0.out.1 (by omega) H2.out
    have k0 : w2.cell? ⟨w.heap.size, 0, none⟩ = some (.int .u8 0) := kb.at_ 0
    have k1 : w2.cell? ⟨w.heap.size, 1, none⟩ = some (.string ⟨#[]⟩) := kb.at_ 1
    have k2 : w2.cell? ⟨w.heap.size, 2, none⟩ = some (.slice none 0 0) := kb.at_ 2
    have k3 : w2.cell? ⟨w.heap.size, 3, none⟩ = some (.string ⟨#[]⟩) := kb.at_ 3
    have k4 : w2.cell? ⟨w.heap.size, 4, none⟩ = some (.int .i64 0) := kb.at_ 4
    have f0 := kb.fz 0
    have f1 := kb.fz 1
    have f2 := kb.fz 2
    have f3 := kb.fz 3
    have f4 := kb.fz 4
    clear kb
    go_wp2
    exact bodyPost_ret (v := .tuple #[.agg zT, .int .i64 0, .int .i64 40]) (by simp [results, Tryz.results91, go_sem, k0, k1, k2, k3, k4]) rfl (Or.inl ⟨by rw [HS.out]; decide, by rw [HS.out]; rfl, below_five (cur_below HB0.out.2 (by omega) H2.out) (Nat.le_refl _) _ _ _ _ _⟩)
  · have hNs : N.data.toList = (l.drop 2).take n := by rw [hN]
    have hNne : N.data.toList ≠ [] := by
      rw [hNs]; exact Tk.take_ne hn0 (by rw [hl, List.length_drop, ← Lib.size_eq]; omega)
    have hNe : N.toList.isEmpty = false := isEmpty_iff rfl hNne
    have hNe2 : N.toList ≠ [] := by rw [Lib.toList_data]; exact hNne
    have HN1 := Lib.hid hN
    by_cases hq : (l.drop (2 + n + b)).head? = some 62
    · have hlt : 2 + n + b + 1 ≤ s.size := drop_lt_of_head (c := 62) (by rw [← hl]; exact hq)
      have HSG := Lib.hid (fun w0 (k : IsCur (w.heap.size + 1) s (2 + n + b) w0) => sign_yes (w.heap.size + 1) s ⟨#[62]⟩ (2 + n + b) w0 hm (by omega) k hlt (hp_one.2 (by rw [← hl]; exact hq)))
      rw [if_neg (by rintro (h | h); exact hn0 h; exact h hq)] at hS
      have HS := Lib.hid hS
      clear hS hN hl hn hb hq hNs hNne hNe2
      go_enter Tryz.func91, Tryz.ntmps91
      go_wp2_with fail
      refine HN.out.mono ?_
      rintro e w1 ⟨rfl, h1⟩
      have H1 := Lib.hid h1
      clear h1
      go_wp2_with fail
      refine (HBL.out _ H1.out.1).mono ?_
      rintro e w2 ⟨rfl, h2⟩
      have H2 := Lib.hid (H1.out.trans h2)
      clear h2
      go_wp2_with fail
      refine (HSG.out _ H2.out.1).mono ?_
      rintro e w3 ⟨rfl, h3⟩
      have H3 := Lib.hid (H2.out.trans h3)
      clear h3
      have kb := blk_cur HB0.out.1 (by omega) H3.out
      have k0 : w3.cell? ⟨w.heap.size, 0, none⟩ = some (.int .u8 0) := kb.at_ 0
      have k1 : w3.cell? ⟨w.heap.size, 1, none⟩ = some (.string ⟨#[]⟩) := kb.at_ 1
      have k2 : w3.cell? ⟨w.heap.size, 2, none⟩ = some (.slice none 0 0) := kb.at_ 2
      have k3 : w3.cell? ⟨w.heap.size, 3, none⟩ = some (.string ⟨#[]⟩) := kb.at_ 3
      have k4 : w3.cell? ⟨w.heap.size, 4, none⟩ = some (.int .i64 0) := kb.at_ 4
      have f0 := kb.fz 0
      have f1 := kb.fz 1
      have f2 := kb.fz 2
      have f3 := kb.fz 3
      have f4 := kb.fz 4
      clear kb
      have kc : w3.cell? ⟨w.heap.size + 1, 1, none⟩ = some (.int .i64 ((2 + n + b + 1 : Nat) : Int)) := H3.out.1.c1
      go_wp2_with fail
      go_region
      all_goals
        go_wp2
        exact bodyPost_ret (v := .tuple #[.agg #[.int .u8 2, .string N, .slice none 0 0, .string ⟨#[]⟩, .int .i64 0], .int .i64 ((2 + n + b + 1 : Nat) : Int), .int .i64 0]) (by simp [results, Tryz.results91, go_sem, k0, k1, k2, k3, k4]) rfl (Or.inr ⟨by rw [HS.out], ⟨2, (l.drop 2).take n, [], [], 0⟩, .slice none 0 0, by rw [HS.out], World.ownsRow_nil _ _ _ _, by rw [HS.out, HN1.out]; rfl, below_five (cur_below HB0.out.2 (by omega) H3.out).drew (Nat.le_refl _) _ _ _ _ _⟩)
    · have HSG := Lib.hid (fun w0 (k : IsCur (w.heap.size + 1) s (2 + n + b) w0) => sign_no (w.heap.size + 1) s ⟨#[62]⟩ (2 + n + b) w0 (by omega) k (hp_one_no (by rw [← hl]; exact hq)))
      rw [if_pos (Or.inr hq)] at hS
      have HS := Lib.hid hS
      clear hS hN hl hn hb hq hNs hNne hNe2
      go_enter Tryz.func91, Tryz.ntmps91
      go_wp2_with fail
      refine HN.out.mono ?_
      rintro e w1 ⟨rfl, h1⟩
      have H1 := Lib.hid h1
      clear h1
      go_wp2_with fail
      refine (HBL.out _ H1.out.1).mono ?_
      rintro e w2 ⟨rfl, h2⟩
      have H2 := Lib.hid (H1.out.trans h2)
      clear h2
      go_wp2_with fail
      refine (HSG.out _ H2.out.1).mono ?_
      rintro e w3 ⟨rfl, h3⟩
      have H3 := Lib.hid (H2.out.trans h3)
      clear h3
      have kb := blk_cur HB0.out.1 (by omega) H3.out
      have k0 : w3.cell? ⟨w.heap.size, 0, none⟩ = some (.int .u8 0) := kb.at_ 0
      have k1 : w3.cell? ⟨w.heap.size, 1, none⟩ = some (.string ⟨#[]⟩) := kb.at_ 1
      have k2 : w3.cell? ⟨w.heap.size, 2, none⟩ = some (.slice none 0 0) := kb.at_ 2
      have k3 : w3.cell? ⟨w.heap.size, 3, none⟩ = some (.string ⟨#[]⟩) := kb.at_ 3
      have k4 : w3.cell? ⟨w.heap.size, 4, none⟩ = some (.int .i64 0) := kb.at_ 4
      have f0 := kb.fz 0
      have f1 := kb.fz 1
      have f2 := kb.fz 2
      have f3 := kb.fz 3
      have f4 := kb.fz 4
      clear kb
      go_wp2
      exact bodyPost_ret (v := .tuple #[.agg zT, .int .i64 0, .int .i64 40]) (by simp [results, Tryz.results91, go_sem, k0, k1, k2, k3, k4]) rfl (Or.inl ⟨by rw [HS.out]; decide, by rw [HS.out]; rfl, below_five (cur_below HB0.out.2 (by omega) H3.out) (Nat.le_refl _) _ _ _ _ _⟩)
end Go.Proofs.YtgidpcfaeekjhaaGreatDoor
