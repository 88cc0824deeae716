/- Rows of attributes in package token, walked: attributes (all that stand next), decoded (what their values say). Conditions: the cursor is a block of its own; a text's length fits (at most 1,000,000 bytes); for decoded the tables hold what their texts lay. -/
import Derived.Test.YtgidpcfaeekjhaaGreatDoorTkAttr
import Derived.Deep.AppendLies
import Derived.Deep.DrawnRows
namespace Go.Proofs.YtgidpcfaeekjhaaGreatDoor
open Go.RowKit
attribute [local go_sem ↓] Go.wp_at_zero Go.wp_at_succ

def rowV (al : List Tk.A) : List Value := al.flatMap fun a => [.string ⟨a.nm.toArray⟩, .string ⟨a.vl.toArray⟩, .int .i64 a.p]
theorem rowV_snoc (al : List Tk.A) (a : Tk.A) : rowV (al ++ [a]) = rowV al ++ [.string ⟨a.nm.toArray⟩, .string ⟨a.vl.toArray⟩, .int .i64 a.p] := by
  unfold rowV; rw [List.flatMap_append]; simp
theorem infoRow : (Tryz.prog.info? 216).map (fun i => (i.zero, i.size, i.bytes)) = some (some (.agg zA), 3, 40) := by kernel_rfl
/-- The place at which a cursor stands. -/
def curAt (g : Nat) (w : World) : Nat := (((w.cell? ⟨g, 1, none⟩).map intOf).getD 0).toNat
theorem IsCur.at_ {g : Nat} {s : ByteArray} {p : Nat} {w : World} (h : IsCur g s p w) : curAt g w = p := by unfold curAt; rw [h.c1]; simp [intOf]
def OwnA (B : Nat) (w : World) (v : Value) (al : List Tk.A) : Prop := w.ownsRow B 216 3 v al.length (rowV al)
theorem CurTo.grownNew {g : Nat} {s : ByteArray} {q : Nat} {w w1 w2 : World} (h : CurTo g s q w w1) (hg : g < w.heap.size) {r : Option Nat} (hw : w1.grownBy w2 r) (hr : ∀ k, r = some k → w.heap.size ≤ k) : CurTo g s q w w2 :=
  ⟨h.1.blk.grown hw (fun e => by have := hr g e.symm; omega), ⟨hw.os.trans h.2.os, hw.tape.trans h.2.tape, hw.output.trans h.2.output, Nat.le_trans h.2.size hw.size, fun k hk hn => (hw.block k (Nat.lt_of_lt_of_le hk h.2.size) (fun e => by have := hr k e.symm; omega)).trans (h.2.block k hk hn)⟩⟩
theorem CurTo.drewL {g : Nat} {s : ByteArray} {q : Nat} {w w1 : World} (h : CurTo g s q w.drew w1) : CurTo g s q w w1 := ⟨h.1, ⟨h.2.os, h.2.tape, h.2.output, h.2.size, h.2.block⟩⟩
def AtsP (g : Nat) (s : ByteArray) (p : Nat) (w : World) (e : Ending) (w' : World) : Prop :=
  (Tk.ats (s.size + 1) (s.data.toList.drop p) p [] = ([], 0, 0) ∧ e = .returned (.tuple #[.slice none 0 0, .bool false]) ∧ ∃ q, q ≤ s.size ∧ CurTo g s q w w') ∨
  (∃ acc q v, e = .returned (.tuple #[v, .bool true]) ∧ OwnA w.heap.size w' v acc ∧ q ≤ s.size ∧ acc.length ≤ s.size ∧ CurTo g s q w w' ∧ Tk.ats (s.size + 1) (s.data.toList.drop p) p [] = Tk.fin (s.data.toList.drop q) q acc)
/-- What holds at the head of the loop. -/
structure AtsR (g : Nat) (s : ByteArray) (p : Nat) (w : World) (v : Value) (wr : World) (q : Nat) (acc : List Tk.A) : Prop where
  hq : q ≤ s.size
  hl : acc.length ≤ q
  cur : CurTo g s q w wr
  own : OwnA w.heap.size wr v acc
  eq : Tk.ats (s.size + 1) (s.data.toList.drop p) p [] = Tk.ats (s.size + 1) (s.data.toList.drop q) q acc

set_option maxHeartbeats 4000000 in
set_option maxRecDepth 100000 in
theorem attributes_any (g : Nat) (s : ByteArray) (p : Nat) (w : World) (hs : s.size ≤ 1000000) (hp : p ≤ s.size) (h : IsCur g s p w) :
    Calls Tryz.prog 131 #[.pointer (some ⟨g, 0, none⟩)] w (AtsP g s p w) := by
  have hm : s.size ≤ maxLen := by unfold maxLen; omega
  have hgl := h.lt
  have HI := Lib.hid h
  clear h
  go_enter Tryz.func131, Tryz.ntmps131
  go_wp2
  go_loopw [4] (fun v wr => ∃ q acc, Hid (AtsR g s p w v wr q acc)) (fun _ wr => s.size - curAt g wr)
  case atStart => exact ⟨p, [], Lib.hid ⟨hp, Nat.zero_le _, ⟨HI.out, grown_refl _ _⟩, World.ownsRow_nil _ _ _ _, rfl⟩⟩
  case round =>
    obtain ⟨q, acc, HR⟩ := hrel
    obtain ⟨l, hl⟩ : ∃ l, l = s.data.toList.drop q := ⟨_, rfl⟩
    obtain ⟨b, hb⟩ : ∃ b, b = Tk.bl l := ⟨_, rfl⟩
    have hq := HR.out.hq
    have hbl := Tk.bl_le l
    rw [← hb, hl, List.length_drop, ← Lib.size_eq] at hbl
    have e1 : s.data.toList.drop (q + b) = l.drop b := by rw [hl, List.drop_drop]
    have HB := Lib.hid (fun w0 (k : IsCur g s q w0) => blanks_any g s q w0 hm hq k)
    have HC := Lib.hid (show IsCur g s q wr.drew from HR.out.cur.1)
    rw [← hl, ← hb] at HB
    have hg1 : Hid (wr.heap.size = wr.drew.heap.size) := rfl
    by_cases hb0 : b = 0
    · have HE := Lib.hid (show Tk.ats (s.size + 1) (s.data.toList.drop p) p [] = Tk.fin (s.data.toList.drop q) q acc by
        have h1 := Tk.ats_fin (f := s.size + 1) (l := s.data.toList.drop q) (i := q) (acc := acc) (by rw [List.length_drop, ← Lib.size_eq]; omega) (Or.inl (by rw [← hl, ← hb]; exact hb0))
        rw [HR.out.eq, h1, ← hl, ← hb, hb0]; rfl)
      have hbd : decide (0 < b) = false := decide_eq_false (by omega)
      rw [hbd] at HB
      have hb0' := Lib.hid hb0
      clear hl hb e1 hb0 hbd
      go_wp2_with fail
      refine wp_region_any (by kernel_rfl) ?_
      try (change wpAny _ _ _ _ _ _ _ (World.drew _))
      refine wpAny_take (i := 0) (v := .pointer (some ⟨g, 0, none⟩)) rfl (by kernel_rfl) (by kernel_rfl) (by kernel_rfl) (fun _ _ _ h => h) (Or.inl ⟨by rfl, by intro w; go_simp⟩) ?_
      simp only [Act.put, List.getElem_toArray, List.getElem_cons_zero, List.setIfInBounds_toArray, List.set_cons_zero, List.set_cons_succ]
      refine wpAny_ready (rs := [1]) (by kernel_rfl) (by simp) ?_
      refine AllReady.cons rfl (fun K hK => ?_) ?_
      · go_simp
        refine (HB.out _ HC.out).mono ?_
        rintro e w1 ⟨rfl, h1⟩
        have H1 := Lib.hid h1.drewL
        clear h1
        refine hK _ _ ?_
        clear hK K
        try simp only [Act.put, List.getElem_toArray, List.getElem_cons_succ, List.getElem_cons_zero, List.setIfInBounds_toArray, List.set_cons_zero, List.set_cons_succ]
        refine wpAny_take (i := 2) (v := .bool false) rfl (by kernel_rfl) (by kernel_rfl) (by kernel_rfl) (fun _ _ _ h => h) (Or.inl ⟨by rfl, by intro w; go_simp⟩) ?_
        simp only [Act.put, List.getElem_toArray, List.getElem_cons_succ, List.getElem_cons_zero, List.setIfInBounds_toArray, List.set_cons_zero, List.set_cons_succ]
        refine wpAny_take (i := 3) (v := undef) rfl (by kernel_rfl) (by kernel_rfl) (by kernel_rfl) (fun _ _ _ h => h) (Or.inr ⟨by simp [Region.wanted, yielded], rfl⟩) ?_
        simp only [Act.put, List.getElem_toArray, List.getElem_cons_succ, List.getElem_cons_zero, List.setIfInBounds_toArray, List.set_cons_zero, List.set_cons_succ]
        refine wpAny_take (i := 4) (v := undef) rfl (by kernel_rfl) (by kernel_rfl) (by kernel_rfl) (fun _ _ _ h => h) (Or.inr ⟨by simp [Region.wanted, yielded], rfl⟩) ?_
        simp only [Act.put, List.getElem_toArray, List.getElem_cons_succ, List.getElem_cons_zero, List.setIfInBounds_toArray, List.set_cons_zero, List.set_cons_succ]
        refine wpAny_take (i := 5) (v := undef) rfl (by kernel_rfl) (by kernel_rfl) (by kernel_rfl) (fun _ _ _ h => h) (Or.inr ⟨by simp [Region.wanted, yielded], rfl⟩) ?_
        simp only [Act.put, List.getElem_toArray, List.getElem_cons_succ, List.getElem_cons_zero, List.setIfInBounds_toArray, List.set_cons_zero, List.set_cons_succ]
        refine wpAny_take (i := 6) (v := undef) rfl (by kernel_rfl) (by kernel_rfl) (by kernel_rfl) (fun _ _ _ h => h) (Or.inr ⟨by simp [Region.wanted, yielded], rfl⟩) ?_
        simp only [Act.put, List.getElem_toArray, List.getElem_cons_succ, List.getElem_cons_zero, List.setIfInBounds_toArray, List.set_cons_zero, List.set_cons_succ]
        refine wpAny_take (i := 7) (v := undef) rfl (by kernel_rfl) (by kernel_rfl) (by kernel_rfl) (fun _ _ _ h => h) (Or.inr ⟨by simp [Region.wanted, yielded], rfl⟩) ?_
        simp only [Act.put, List.getElem_toArray, List.getElem_cons_succ, List.getElem_cons_zero, List.setIfInBounds_toArray, List.set_cons_zero, List.set_cons_succ]
        refine wpAny_take (i := 8) (v := undef) rfl (by kernel_rfl) (by kernel_rfl) (by kernel_rfl) (fun _ _ _ h => h) (Or.inr ⟨by simp [Region.wanted, yielded], rfl⟩) ?_
        simp only [Act.put, List.getElem_toArray, List.getElem_cons_succ, List.getElem_cons_zero, List.setIfInBounds_toArray, List.set_cons_zero, List.set_cons_succ]
        refine wpAny_take (i := 9) (v := undef) rfl (by kernel_rfl) (by kernel_rfl) (by kernel_rfl) (fun _ _ _ h => h) (Or.inr ⟨by simp [Region.wanted, yielded], rfl⟩) ?_
        simp only [Act.put, List.getElem_toArray, List.getElem_cons_succ, List.getElem_cons_zero, List.setIfInBounds_toArray, List.set_cons_zero, List.set_cons_succ]
        refine wpAny_take (i := 10) (v := undef) rfl (by kernel_rfl) (by kernel_rfl) (by kernel_rfl) (fun _ _ _ h => h) (Or.inr ⟨by simp [Region.wanted, yielded], rfl⟩) ?_
        simp only [Act.put, List.getElem_toArray, List.getElem_cons_succ, List.getElem_cons_zero, List.setIfInBounds_toArray, List.set_cons_zero, List.set_cons_succ]
        refine wpAny_take (i := 11) (v := undef) rfl (by kernel_rfl) (by kernel_rfl) (by kernel_rfl) (fun _ _ _ h => h) (Or.inr ⟨by simp [Region.wanted, yielded], rfl⟩) ?_
        simp only [Act.put, List.getElem_toArray, List.getElem_cons_succ, List.getElem_cons_zero, List.setIfInBounds_toArray, List.set_cons_zero, List.set_cons_succ]
        refine wpAny_take (i := 12) (v := undef) rfl (by kernel_rfl) (by kernel_rfl) (by kernel_rfl) (fun _ _ _ h => h) (Or.inr ⟨by simp [Region.wanted, yielded], rfl⟩) ?_
        simp only [Act.put, List.getElem_toArray, List.getElem_cons_succ, List.getElem_cons_zero, List.setIfInBounds_toArray, List.set_cons_zero, List.set_cons_succ]
        refine wpAny_take (i := 13) (v := undef) rfl (by kernel_rfl) (by kernel_rfl) (by kernel_rfl) (fun _ _ _ h => h) (Or.inr ⟨by simp [Region.wanted, yielded], rfl⟩) ?_
        simp only [Act.put, List.getElem_toArray, List.getElem_cons_succ, List.getElem_cons_zero, List.setIfInBounds_toArray, List.set_cons_zero, List.set_cons_succ]
        refine wpAny_take (i := 14) (v := .bool false) rfl (by kernel_rfl) (by kernel_rfl) (by kernel_rfl) (fun _ _ _ h => h) (Or.inl ⟨by rfl, by intro w; go_simp⟩) ?_
        simp only [Act.put, List.getElem_toArray, List.getElem_cons_succ, List.getElem_cons_zero, List.setIfInBounds_toArray, List.set_cons_zero, List.set_cons_succ]
        refine wpAny_done (by kernel_rfl) ?_ _
        go_wp2
        go_ret2
        refine Or.inr ⟨acc, q, _, rfl, ?_, hq, by have := HR.out.hl; omega, ?_, HE.out⟩
        · exact HR.out.own.kept H1.out.2 (Or.inr (fun e => by have := (HR.out.own.lt g e).1; omega))
        · have := HR.out.cur.trans H1.out
          rw [hb0'.out] at this
          exact this
      · exact AllReady.nil
    · have hbd : decide (0 < b) = true := decide_eq_true (by omega)
      rw [hbd] at HB
      have HG := Lib.hid (fun w0 => NmW.begin_any (s.extract (q + b) s.size) w0 (by have := extract_size s (q + b) s.size; omega))
      rw [drop_ext, e1] at HG
      have hq' : (q : Int) + (b : Int) ≤ (s.size : Int) := by omega
      have hfl : (s.data.toList.drop q).length < s.size + 1 := by rw [List.length_drop, ← Lib.size_eq]; omega
      by_cases hn : Nm.bg (l.drop b) = 0
      · rw [hn] at HG
        have HE := Lib.hid (show Tk.ats (s.size + 1) (s.data.toList.drop p) p [] = Tk.fin (s.data.toList.drop (q + b)) (q + b) acc by
          have h1 := Tk.ats_fin (f := s.size + 1) (l := s.data.toList.drop q) (i := q) (acc := acc) hfl (Or.inr (by rw [← hl, ← hb]; exact hn))
          rw [HR.out.eq, h1, ← hl, ← hb, e1])
        clear hl hb e1 hn hbd hfl
        go_wp2_with fail
        go_region_with (first | (go_at_call 129; refine (HB.out _ HC.out).mono ?_; rintro e w1 ⟨rfl, h1⟩; have k0 := h1.1.c0; have k1 := h1.1.c1; have H1 := Lib.hid h1.drewL; clear h1) | (go_at_call 160; refine (HG.out _).mono ?_; rintro e w1 ⟨rfl, rfl⟩))
        all_goals
          go_wp2
          go_ret2
          refine Or.inr ⟨acc, q + b, _, rfl, ?_, by omega, by have := HR.out.hl; omega, ?_, HE.out⟩
          · exact HR.out.own.kept H1.out.2 (Or.inr (fun e => by have := (HR.out.own.lt g e).1; omega))
          · exact HR.out.cur.trans H1.out
      · have hbn : Nm.bg ((s.data.toList.drop q).drop (Tk.bl (s.data.toList.drop q))) ≠ 0 := by rw [← hl, ← hb]; exact hn
        obtain ⟨R, hR⟩ : ∃ R, R = Tk.at1 (l.drop b) := ⟨_, rfl⟩
        have HA := Lib.hid (fun w0 (k : IsCur g s (q + b) w0) => attribute_any g s (q + b) w0 hs (by omega) k (by rw [e1]; exact hn))
        rw [e1, ← hR] at HA
        have hRl := Tk.at1_le (l.drop b)
        rw [← hR, hl, List.drop_drop, List.length_drop, ← Lib.size_eq] at hRl
        generalize hN : Nm.bg (l.drop b) = n at *
        have hn1 : 0 < n := by omega
        by_cases hR0 : R.2 = 0
        · have HE := Lib.hid (show Tk.ats (s.size + 1) (s.data.toList.drop p) p [] = ([], 0, 0) by
            rw [HR.out.eq, Tk.ats_bad hbn (by rw [← hl, ← hb, ← hR]; exact hR0)])
          have HA2 := Lib.hid (fun w0 (k : IsCur g s (q + b) w0) => show Calls Tryz.prog 163 #[.pointer (some ⟨g, 0, none⟩)] w0 (fun e w' => e = .returned (.tuple #[.agg #[.string ⟨#[]⟩, .string ⟨#[]⟩, .int .i64 0], .bool false]) ∧ ∃ q, q ≤ s.size ∧ CurTo g s q w0 w') from (HA.out w0 k).mono fun e w' hpost => by
            rcases hpost with ⟨_, he, hc⟩ | ⟨hne, _⟩
            · exact ⟨he, hc⟩
            · exact absurd hR0 hne)
          clear hl hb e1 hn hbd hfl hbn hR HA hRl hN hR0
          go_wp2_with fail
          go_region_with (first | (go_at_call 129; refine (HB.out _ HC.out).mono ?_; rintro e w1 ⟨rfl, h1⟩; have k0 := h1.1.c0; have k1 := h1.1.c1; have H1 := Lib.hid h1.drewL; clear h1) | (go_at_call 160; refine (HG.out _).mono ?_; rintro e w1 ⟨rfl, rfl⟩))
          all_goals
            go_wp2_with fail
            refine Calls.mono (HA2.out _ (by exact H1.out.1)) ?_
            rintro e w2 ⟨rfl, q2, hq2, h2⟩
            have H2 := Lib.hid (HR.out.cur.trans (H1.out.trans h2))
            clear h2
            go_wp2
            go_ret2
            exact Or.inl ⟨HE.out, rfl, q2, hq2, H2.out.alloc _⟩
        · have HE := Lib.hid (show Tk.ats (s.size + 1) (s.data.toList.drop p) p [] = Tk.ats (s.size + 1) (s.data.toList.drop (q + b + R.2)) (q + b + R.2) (acc ++ [Tk.sh R.1 (q + b)]) by
            rw [HR.out.eq, Tk.ats_good hfl (by rw [← hl, ← hb]; exact hb0) (by rw [← hl, ← hb, ← hR]; exact hR0), ← hl, ← hb, ← hR, ← e1, List.drop_drop])
          have HA2 := Lib.hid (fun w0 (k : IsCur g s (q + b) w0) => show Calls Tryz.prog 163 #[.pointer (some ⟨g, 0, none⟩)] w0 (fun e w' => e = .returned (.tuple #[attV (q + b) R.1, .bool true]) ∧ CurTo g s (q + b + R.2) w0 w') from (HA.out w0 k).mono fun e w' hpost => by
            rcases hpost with ⟨h0, _⟩ | ⟨_, he, hc⟩
            · exact absurd h0 hR0
            · exact ⟨he, hc⟩)
          unfold attV at HA2
          clear hl hb e1 hn hbd hfl hbn hR HA hN
          go_wp2_with fail
          go_region_with (first | (go_at_call 129; refine (HB.out _ HC.out).mono ?_; rintro e w1 ⟨rfl, h1⟩; have k0 := h1.1.c0; have k1 := h1.1.c1; have H1 := Lib.hid h1.drewL; clear h1) | (go_at_call 160; refine (HG.out _).mono ?_; rintro e w1 ⟨rfl, rfl⟩))
          all_goals
            go_wp2_with fail
            refine Calls.mono (HA2.out _ (by exact H1.out.1)) ?_
            rintro e w2 ⟨rfl, h2⟩
            have H2 := Lib.hid (HR.out.cur.trans (H1.out.trans h2))
            have hown2 : w2.ownsRow w.heap.size 216 3 _ acc.length (rowV acc) := HR.out.own.kept (H1.out.trans h2).2 (Or.inr (fun e => by have := (HR.out.own.lt g e).1; omega))
            clear h2
            obtain ⟨i0, hi, hz0, hz1, hz2⟩ := info_parts infoRow
            have hal := HR.out.hl
            have hbig : acc.length + 1 ≤ maxLen := by unfold maxLen; omega
            have hsz := H2.out.2.size
            go_wp2_with (at_builtin; go_loud (refine wpList_append_own _ rfl _ _ _ rfl w.heap.size 216 i0 _ 3 40 Tryz.underlying179 hi hz0 hz1 hz2 rfl (by omega) _ acc.length (rowV acc) (by rfl) (by exact (hown2.alloc _).alloc _) _ 1 _ [.string ⟨R.1.nm.toArray⟩, .string ⟨R.1.vl.toArray⟩, .int .i64 ((R.1.p : Int) + ((q : Int) + (b : Int)))] (by rfl) rfl (by intro j u hu; exact news_at _ _ _ _ (by simp) j u hu) (by intro u hu; simp at hu; rcases hu with rfl | rfl | rfl <;> rfl) hbig (by omega) (by simp; omega) ?_); intro v3 w3 hown3 hgr3 _)
            have C3 := Lib.hid (((H2.out.alloc _).alloc _).grownNew hgl hgr3 (fun k hk => (hown2.lt k hk).1))
            have HM := Lib.hid (show s.size - curAt g w3 < s.size - curAt g wr by rw [C3.out.1.at_, HR.out.cur.1.at_]; omega)
            go_roundw
            case rel => exact ⟨q + b + R.2, acc ++ [Tk.sh R.1 (q + b)], Lib.hid ⟨by omega, by rw [List.length_append]; simp; omega, C3.out, by
              unfold OwnA
              rw [rowV_snoc, List.length_append]
              exact hown3, HE.out⟩⟩
            case measure => exact HM.out
end Go.Proofs.YtgidpcfaeekjhaaGreatDoor
