/- Facts and walks for the statement. -/
import Derived.Test.YteadfpkihhaadaaGreatDoorPz05
import Derived.Deep.AppendLies
import Derived.Deep.DrawnRows
import Derived.Test.YteadfpkihhaadaaGreatDoorPz00
import Derived.Test.YteadfpkihhaadaaGreatDoorPz01
import Derived.WalkKit
import Derived.WalkLawsBesides
import Derived.Outline
import Derived.Handy
import Derived.Lib.OthersKept
import Derived.Lib.Hide
import Derived.WalkSmall
import Derived.Deep.DeepFit
import Derived.Deep.QuietTactic
import Derived.BigQuiet
import Derived.WalkSpells
import Derived.Laws.BytesArg
import Derived.PlainAid
import Derived.Deep.RegionWith
import Derived.Deep.DeepCutAuto
namespace Go.Proofs.YteadfpkihhaadaaGreatDoor
open Go.RowKit
attribute [local go_sem ↓] Go.wp_at_zero Go.wp_at_succ
def rowV (al : List Tk.A) : List Value := al.flatMap fun a => [.string ⟨a.nm.toArray⟩, .string ⟨a.vl.toArray⟩, .int .i64 a.p]
theorem rowV_snoc (al : List Tk.A) (a : Tk.A) : rowV (al ++ [a]) = rowV al ++ [.string ⟨a.nm.toArray⟩, .string ⟨a.vl.toArray⟩, .int .i64 a.p] := by
 unfold rowV; rw [List.flatMap_append]; simp
theorem infoRow : (Tryz.prog.info? 216).map (fun i => (i.zero, i.size, i.bytes)) = some (some (.agg zA), 3, 40) := by kernel_rfl
def curAt (g : Nat) (w : World) : Nat := (((w.cell? ⟨g, 1, none⟩).map intOf).getD 0).toNat
theorem IsCur.at_ {g : Nat} {s : ByteArray} {p : Nat} {w : World} (h : IsCur g s p w) : curAt g w = p := by unfold curAt; rw [h.c1]; simp [intOf]
def OwnA (B : Nat) (w : World) (v : Value) (al : List Tk.A) : Prop := w.ownsRow B 216 3 v al.length (rowV al)
theorem CurTo.grownNew {g : Nat} {s : ByteArray} {q : Nat} {w w1 w2 : World} (h : CurTo g s q w w1) (hg : g < w.heap.size) {r : Option Nat} (hw : w1.grownBy w2 r) (hr : ∀ k, r = some k → w.heap.size ≤ k) : CurTo g s q w w2 :=
 ⟨h.1.blk.grown hw (fun e => by have := hr g e.symm; omega), ⟨hw.os.trans h.2.os, hw.tape.trans h.2.tape, hw.output.trans h.2.output, Nat.le_trans h.2.size hw.size, fun k hk hn => (hw.block k (Nat.lt_of_lt_of_le hk h.2.size) (fun e => by have := hr k e.symm; omega)).trans (h.2.block k hk hn)⟩⟩
theorem CurTo.drewL {g : Nat} {s : ByteArray} {q : Nat} {w w1 : World} (h : CurTo g s q w.drew w1) : CurTo g s q w w1 := ⟨h.1, ⟨h.2.os, h.2.tape, h.2.output, h.2.size, h.2.block⟩⟩
def AtsP (g : Nat) (s : ByteArray) (p : Nat) (w : World) (e : Ending) (w' : World) : Prop :=
 (Tk.ats (s.size + 1) (s.data.toList.drop p) p [] = ([], 0, 0) ∧ e = .returned (.tuple #[.slice none 0 0, .bool false]) ∧ ∃ q, q ≤ s.size ∧ CurTo g s q w w') ∨
 (∃ acc q v, e = .returned (.tuple #[v, .bool true]) ∧ OwnA w.heap.size w' v acc ∧ q ≤ s.size ∧ acc.length ≤ s.size ∧ CurTo g s q w w' ∧ Tk.ats (s.size + 1) (s.data.toList.drop p) p [] = Tk.fin (s.data.toList.drop q) q acc)
structure AtsR (g : Nat) (s : ByteArray) (p : Nat) (w : World) (v : Value) (wr : World) (q : Nat) (acc : List Tk.A) : Prop where
 hq : q ≤ s.size
 hl : acc.length ≤ q
 cur : CurTo g s q w wr
 own : OwnA w.heap.size wr v acc
 eq : Tk.ats (s.size + 1) (s.data.toList.drop p) p [] = Tk.ats (s.size + 1) (s.data.toList.drop q) q acc
set_option maxHeartbeats 4000000 in
set_option maxRecDepth 100000 in
theorem attributes_any (g : Nat) (s : ByteArray) (p : Nat) (w : World) (hs : s.size ≤ 1000000) (hp : p ≤ s.size) (h : IsCur g s p w) :
  Calls Tryz.prog 131 #[.pointer (some ⟨g, 0, none⟩)] w (AtsP g s p w) := by
 have hm : s.size ≤ maxLen := by unfold maxLen; omega
 have hgl := h.lt
 have HI := Lib.hid h
 clear h
 go_enter Tryz.func131, Tryz.ntmps131
 go_wp2
 go_loopw [4] (fun v wr => ∃ q acc, Hid (AtsR g s p w v wr q acc)) (fun _ wr => s.size - curAt g wr)
 case atStart => exact ⟨p, [], Lib.hid ⟨hp, Nat.zero_le _, ⟨HI.out, grown_refl _ _⟩, World.ownsRow_nil _ _ _ _, rfl⟩⟩
 case round =>
  obtain ⟨q, acc, HR⟩ := hrel
  obtain ⟨l, hl⟩ : ∃ l, l = s.data.toList.drop q := ⟨_, rfl⟩
  obtain ⟨b, hb⟩ : ∃ b, b = Tk.bl l := ⟨_, rfl⟩
  have hq := HR.out.hq
  have hbl := Tk.bl_le l
  rw [← hb, hl, List.length_drop, ← Lib.size_eq] at hbl
  have e1 : s.data.toList.drop (q + b) = l.drop b := by rw [hl, List.drop_drop]
  have HB := Lib.hid (fun w0 (k : IsCur g s q w0) => blanks_any g s q w0 hm hq k)
  have HC := Lib.hid (show IsCur g s q wr.drew from HR.out.cur.1)
  rw [← hl, ← hb] at HB
  have hg1 : Hid (wr.heap.size = wr.drew.heap.size) := rfl
  by_cases hb0 : b = 0
  ·have HE := Lib.hid (show Tk.ats (s.size + 1) (s.data.toList.drop p) p [] = Tk.fin (s.data.toList.drop q) q acc by
    have h1 := Tk.ats_fin (f := s.size + 1) (l := s.data.toList.drop q) (i := q) (acc := acc) (by rw [List.length_drop, ← Lib.size_eq]; omega) (Or.inl (by rw [← hl, ← hb]; exact hb0))
    rw [HR.out.eq, h1, ← hl, ← hb, hb0]; rfl)
   have hbd : decide (0 < b) = false := decide_eq_false (by omega)
   rw [hbd] at HB
   have hb0' := Lib.hid hb0
   clear hl hb e1 hb0 hbd
   go_wp2_with fail
   refine wp_region_any (by kernel_rfl) ?_
   try (change wpAny _ _ _ _ _ _ _ (World.drew _))
   refine wpAny_take (i := 0) (v := .pointer (some ⟨g, 0, none⟩)) rfl (by kernel_rfl) (by kernel_rfl) (by kernel_rfl) (fun _ _ _ h => h) (Or.inl ⟨by rfl, by intro w; go_simp⟩) ?_
   simp only [Act.put, List.getElem_toArray, List.getElem_cons_zero, List.setIfInBounds_toArray, List.set_cons_zero, List.set_cons_succ]
   refine wpAny_ready (rs := [1]) (by kernel_rfl) (by simp) ?_
   refine AllReady.cons rfl (fun K hK => ?_) ?_
   ·go_simp
    refine (HB.out _ HC.out).mono ?_
    rintro e w1 ⟨rfl, h1⟩
    have H1 := Lib.hid h1.drewL
    clear h1
    refine hK _ _ ?_
    clear hK K
    try simp only [Act.put, List.getElem_toArray, List.getElem_cons_succ, List.getElem_cons_zero, List.setIfInBounds_toArray, List.set_cons_zero, List.set_cons_succ]
    refine wpAny_take (i := 2) (v := .bool false) rfl (by kernel_rfl) (by kernel_rfl) (by kernel_rfl) (fun _ _ _ h => h) (Or.inl ⟨by rfl, by intro w; go_simp⟩) ?_
    simp only [Act.put, List.getElem_toArray, List.getElem_cons_succ, List.getElem_cons_zero, List.setIfInBounds_toArray, List.set_cons_zero, List.set_cons_succ]
    refine wpAny_take (i := 3) (v := undef) rfl (by kernel_rfl) (by kernel_rfl) (by kernel_rfl) (fun _ _ _ h => h) (Or.inr ⟨by simp [Region.wanted, yielded], rfl⟩) ?_
    simp only [Act.put, List.getElem_toArray, List.getElem_cons_succ, List.getElem_cons_zero, List.setIfInBounds_toArray, List.set_cons_zero, List.set_cons_succ]
    refine wpAny_take (i := 4) (v := undef) rfl (by kernel_rfl) (by kernel_rfl) (by kernel_rfl) (fun _ _ _ h => h) (Or.inr ⟨by simp [Region.wanted, yielded], rfl⟩) ?_
    simp only [Act.put, List.getElem_toArray, List.getElem_cons_succ, List.getElem_cons_zero, List.setIfInBounds_toArray, List.set_cons_zero, List.set_cons_succ]
    refine wpAny_take (i := 5) (v := undef) rfl (by kernel_rfl) (by kernel_rfl) (by kernel_rfl) (fun _ _ _ h => h) (Or.inr ⟨by simp [Region.wanted, yielded], rfl⟩) ?_
    simp only [Act.put, List.getElem_toArray, List.getElem_cons_succ, List.getElem_cons_zero, List.setIfInBounds_toArray, List.set_cons_zero, List.set_cons_succ]
    refine wpAny_take (i := 6) (v := undef) rfl (by kernel_rfl) (by kernel_rfl) (by kernel_rfl) (fun _ _ _ h => h) (Or.inr ⟨by simp [Region.wanted, yielded], rfl⟩) ?_
    simp only [Act.put, List.getElem_toArray, List.getElem_cons_succ, List.getElem_cons_zero, List.setIfInBounds_toArray, List.set_cons_zero, List.set_cons_succ]
    refine wpAny_take (i := 7) (v := undef) rfl (by kernel_rfl) (by kernel_rfl) (by kernel_rfl) (fun _ _ _ h => h) (Or.inr ⟨by simp [Region.wanted, yielded], rfl⟩) ?_
    simp only [Act.put, List.getElem_toArray, List.getElem_cons_succ, List.getElem_cons_zero, List.setIfInBounds_toArray, List.set_cons_zero, List.set_cons_succ]
    refine wpAny_take (i := 8) (v := undef) rfl (by kernel_rfl) (by kernel_rfl) (by kernel_rfl) (fun _ _ _ h => h) (Or.inr ⟨by simp [Region.wanted, yielded], rfl⟩) ?_
    simp only [Act.put, List.getElem_toArray, List.getElem_cons_succ, List.getElem_cons_zero, List.setIfInBounds_toArray, List.set_cons_zero, List.set_cons_succ]
    refine wpAny_take (i := 9) (v := undef) rfl (by kernel_rfl) (by kernel_rfl) (by kernel_rfl) (fun _ _ _ h => h) (Or.inr ⟨by simp [Region.wanted, yielded], rfl⟩) ?_
    simp only [Act.put, List.getElem_toArray, List.getElem_cons_succ, List.getElem_cons_zero, List.setIfInBounds_toArray, List.set_cons_zero, List.set_cons_succ]
    refine wpAny_take (i := 10) (v := undef) rfl (by kernel_rfl) (by kernel_rfl) (by kernel_rfl) (fun _ _ _ h => h) (Or.inr ⟨by simp [Region.wanted, yielded], rfl⟩) ?_
    simp only [Act.put, List.getElem_toArray, List.getElem_cons_succ, List.getElem_cons_zero, List.setIfInBounds_toArray, List.set_cons_zero, List.set_cons_succ]
    refine wpAny_take (i := 11) (v := undef) rfl (by kernel_rfl) (by kernel_rfl) (by kernel_rfl) (fun _ _ _ h => h) (Or.inr ⟨by simp [Region.wanted, yielded], rfl⟩) ?_
    simp only [Act.put, List.getElem_toArray, List.getElem_cons_succ, List.getElem_cons_zero, List.setIfInBounds_toArray, List.set_cons_zero, List.set_cons_succ]
    refine wpAny_take (i := 12) (v := undef) rfl (by kernel_rfl) (by kernel_rfl) (by kernel_rfl) (fun _ _ _ h => h) (Or.inr ⟨by simp [Region.wanted, yielded], rfl⟩) ?_
    simp only [Act.put, List.getElem_toArray, List.getElem_cons_succ, List.getElem_cons_zero, List.setIfInBounds_toArray, List.set_cons_zero, List.set_cons_succ]
    refine wpAny_take (i := 13) (v := undef) rfl (by kernel_rfl) (by kernel_rfl) (by kernel_rfl) (fun _ _ _ h => h) (Or.inr ⟨by simp [Region.wanted, yielded], rfl⟩) ?_
    simp only [Act.put, List.getElem_toArray, List.getElem_cons_succ, List.getElem_cons_zero, List.setIfInBounds_toArray, List.set_cons_zero, List.set_cons_succ]
    refine wpAny_take (i := 14) (v := .bool false) rfl (by kernel_rfl) (by kernel_rfl) (by kernel_rfl) (fun _ _ _ h => h) (Or.inl ⟨by rfl, by intro w; go_simp⟩) ?_
    simp only [Act.put, List.getElem_toArray, List.getElem_cons_succ, List.getElem_cons_zero, List.setIfInBounds_toArray, List.set_cons_zero, List.set_cons_succ]
    refine wpAny_done (by kernel_rfl) ?_ _
    go_wp2
    go_ret2
    refine Or.inr ⟨acc, q, _, rfl, ?_, hq, by have := HR.out.hl; omega, ?_, HE.out⟩
    ·exact HR.out.own.kept H1.out.2 (Or.inr (fun e => by have := (HR.out.own.lt g e).1; omega))
    ·have := HR.out.cur.trans H1.out
     rw [hb0'.out] at this
     exact this
   ·exact AllReady.nil
  ·have hbd : decide (0 < b) = true := decide_eq_true (by omega)
   rw [hbd] at HB
   have HG := Lib.hid (fun w0 => NmW.begin_any (s.extract (q + b) s.size) w0 (by have := extract_size s (q + b) s.size; omega))
   rw [drop_ext, e1] at HG
   have hq' : (q : Int) + (b : Int) ≤ (s.size : Int) := by omega
   have hfl : (s.data.toList.drop q).length < s.size + 1 := by rw [List.length_drop, ← Lib.size_eq]; omega
   by_cases hn : Nm.bg (l.drop b) = 0
   ·rw [hn] at HG
    have HE := Lib.hid (show Tk.ats (s.size + 1) (s.data.toList.drop p) p [] = Tk.fin (s.data.toList.drop (q + b)) (q + b) acc by
     have h1 := Tk.ats_fin (f := s.size + 1) (l := s.data.toList.drop q) (i := q) (acc := acc) hfl (Or.inr (by rw [← hl, ← hb]; exact hn))
     rw [HR.out.eq, h1, ← hl, ← hb, e1])
    clear hl hb e1 hn hbd hfl
    go_wp2_with fail
    go_region_with (first | (go_at_call 129; refine (HB.out _ HC.out).mono ?_; rintro e w1 ⟨rfl, h1⟩; have k0 := h1.1.c0; have k1 := h1.1.c1; have H1 := Lib.hid h1.drewL; clear h1) | (go_at_call 160; refine (HG.out _).mono ?_; rintro e w1 ⟨rfl, rfl⟩))
    all_goals
     go_wp2
     go_ret2
     refine Or.inr ⟨acc, q + b, _, rfl, ?_, by omega, by have := HR.out.hl; omega, ?_, HE.out⟩
     ·exact HR.out.own.kept H1.out.2 (Or.inr (fun e => by have := (HR.out.own.lt g e).1; omega))
     ·exact HR.out.cur.trans H1.out
   ·have hbn : Nm.bg ((s.data.toList.drop q).drop (Tk.bl (s.data.toList.drop q))) ≠ 0 := by rw [← hl, ← hb]; exact hn
    obtain ⟨R, hR⟩ : ∃ R, R = Tk.at1 (l.drop b) := ⟨_, rfl⟩
    have HA := Lib.hid (fun w0 (k : IsCur g s (q + b) w0) => attribute_any g s (q + b) w0 hs (by omega) k (by rw [e1]; exact hn))
    rw [e1, ← hR] at HA
    have hRl := Tk.at1_le (l.drop b)
    rw [← hR, hl, List.drop_drop, List.length_drop, ← Lib.size_eq] at hRl
    generalize hN : Nm.bg (l.drop b) = n at *
    have hn1 : 0 < n := by omega
    by_cases hR0 : R.2 = 0
    ·have HE := Lib.hid (show Tk.ats (s.size + 1) (s.data.toList.drop p) p [] = ([], 0, 0) by
      rw [HR.out.eq, Tk.ats_bad hbn (by rw [← hl, ← hb, ← hR]; exact hR0)])
     have HA2 := Lib.hid (fun w0 (k : IsCur g s (q + b) w0) => show Calls Tryz.prog 163 #[.pointer (some ⟨g, 0, none⟩)] w0 (fun e w' => e = .returned (.tuple #[.agg #[.string ⟨#[]⟩, .string ⟨#[]⟩, .int .i64 0], .bool false]) ∧ ∃ q, q ≤ s.size ∧ CurTo g s q w0 w') from (HA.out w0 k).mono fun e w' hpost => by
      rcases hpost with ⟨_, he, hc⟩ | ⟨hne, _⟩
      ·exact ⟨he, hc⟩
      ·exact absurd hR0 hne)
     clear hl hb e1 hn hbd hfl hbn hR HA hRl hN hR0
     go_wp2_with fail
     go_region_with (first | (go_at_call 129; refine (HB.out _ HC.out).mono ?_; rintro e w1 ⟨rfl, h1⟩; have k0 := h1.1.c0; have k1 := h1.1.c1; have H1 := Lib.hid h1.drewL; clear h1) | (go_at_call 160; refine (HG.out _).mono ?_; rintro e w1 ⟨rfl, rfl⟩))
     all_goals
      go_wp2_with fail
      refine Calls.mono (HA2.out _ (by exact H1.out.1)) ?_
      rintro e w2 ⟨rfl, q2, hq2, h2⟩
      have H2 := Lib.hid (HR.out.cur.trans (H1.out.trans h2))
      clear h2
      go_wp2
      go_ret2
      exact Or.inl ⟨HE.out, rfl, q2, hq2, H2.out.alloc _⟩
    ·have HE := Lib.hid (show Tk.ats (s.size + 1) (s.data.toList.drop p) p [] = Tk.ats (s.size + 1) (s.data.toList.drop (q + b + R.2)) (q + b + R.2) (acc ++ [Tk.sh R.1 (q + b)]) by
      rw [HR.out.eq, Tk.ats_good hfl (by rw [← hl, ← hb]; exact hb0) (by rw [← hl, ← hb, ← hR]; exact hR0), ← hl, ← hb, ← hR, ← e1, List.drop_drop])
     have HA2 := Lib.hid (fun w0 (k : IsCur g s (q + b) w0) => show Calls Tryz.prog 163 #[.pointer (some ⟨g, 0, none⟩)] w0 (fun e w' => e = .returned (.tuple #[attV (q + b) R.1, .bool true]) ∧ CurTo g s (q + b + R.2) w0 w') from (HA.out w0 k).mono fun e w' hpost => by
      rcases hpost with ⟨h0, _⟩ | ⟨_, he, hc⟩
      ·exact absurd h0 hR0
      ·exact ⟨he, hc⟩)
     unfold attV at HA2
     clear hl hb e1 hn hbd hfl hbn hR HA hN
     go_wp2_with fail
     go_region_with (first | (go_at_call 129; refine (HB.out _ HC.out).mono ?_; rintro e w1 ⟨rfl, h1⟩; have k0 := h1.1.c0; have k1 := h1.1.c1; have H1 := Lib.hid h1.drewL; clear h1) | (go_at_call 160; refine (HG.out _).mono ?_; rintro e w1 ⟨rfl, rfl⟩))
     all_goals
      go_wp2_with fail
      refine Calls.mono (HA2.out _ (by exact H1.out.1)) ?_
      rintro e w2 ⟨rfl, h2⟩
      have H2 := Lib.hid (HR.out.cur.trans (H1.out.trans h2))
      have hown2 : w2.ownsRow w.heap.size 216 3 _ acc.length (rowV acc) := HR.out.own.kept (H1.out.trans h2).2 (Or.inr (fun e => by have := (HR.out.own.lt g e).1; omega))
      clear h2
      obtain ⟨i0, hi, hz0, hz1, hz2⟩ := info_parts infoRow
      have hal := HR.out.hl
      have hbig : acc.length + 1 ≤ maxLen := by unfold maxLen; omega
      have hsz := H2.out.2.size
      go_wp2_with (at_builtin; go_loud (refine wpList_append_own _ rfl _ _ _ rfl w.heap.size 216 i0 _ 3 40 Tryz.underlying179 hi hz0 hz1 hz2 rfl (by omega) _ acc.length (rowV acc) (by rfl) (by exact (hown2.alloc _).alloc _) _ 1 _ [.string ⟨R.1.nm.toArray⟩, .string ⟨R.1.vl.toArray⟩, .int .i64 ((R.1.p : Int) + ((q : Int) + (b : Int)))] (by rfl) rfl (by intro j u hu; exact news_at _ _ _ _ (by simp) j u hu) (by intro u hu; simp at hu; rcases hu with rfl | rfl | rfl <;> rfl) hbig (by omega) (by simp; omega) ?_); intro v3 w3 hown3 hgr3 _)
      have C3 := Lib.hid (((H2.out.alloc _).alloc _).grownNew hgl hgr3 (fun k hk => (hown2.lt k hk).1))
      have HM := Lib.hid (show s.size - curAt g w3 < s.size - curAt g wr by rw [C3.out.1.at_, HR.out.cur.1.at_]; omega)
      go_roundw
      case rel => exact ⟨q + b + R.2, acc ++ [Tk.sh R.1 (q + b)], Lib.hid ⟨by omega, by rw [List.length_append]; simp; omega, C3.out, by
       unfold OwnA
       rw [rowV_snoc, List.length_append]
       exact hown3, HE.out⟩⟩
      case measure => exact HM.out
end Go.Proofs.YteadfpkihhaadaaGreatDoor
namespace Go.Proofs.YteadfpkihhaadaaGreatDoor
open Go.RowKit
theorem ret_bool {a b : Bool} (h : a = b) : Ending.returned (.bool a) = .returned (.bool b) := by rw [h]
theorem isCh_no {c : Int} (h : ¬ (c = 9 ∨ c = 10 ∨ c = 13 ∨ (32 ≤ c ∧ c ≤ 55295) ∨ (57344 ≤ c ∧ c ≤ 65533) ∨ (65536 ≤ c ∧ c ≤ 1114111))) : U8.isCh c = false := decide_eq_false h
structure Tabs (w : World) : Prop where
 u : Lib.Utf8Tabs 1 2 w
 c0 : w.cell? ⟨0, 0, none⟩ = some (.int .i32 9)
 c1 : w.cell? ⟨0, 1, none⟩ = some (.int .i32 10)
 c2 : w.cell? ⟨0, 2, none⟩ = some (.int .i32 13)
 c3 : w.cell? ⟨0, 3, none⟩ = some (.int .i32 13)
 c4 : w.cell? ⟨0, 4, none⟩ = some (.int .i32 32)
 c5 : w.cell? ⟨0, 5, none⟩ = some (.int .i32 55295)
 c6 : w.cell? ⟨0, 6, none⟩ = some (.int .i32 57344)
 c7 : w.cell? ⟨0, 7, none⟩ = some (.int .i32 65533)
 c8 : w.cell? ⟨0, 8, none⟩ = some (.int .i32 65536)
 c9 : w.cell? ⟨0, 9, none⟩ = some (.int .i32 1114111)
theorem block_lt {w : World} {a : Addr} {v : Value} (hc : w.cell? a = some v) : a.block < w.heap.size := by
 rcases Nat.lt_or_ge a.block w.heap.size with h | h
 ·exact h
 ·simp [World.cell?, Array.getElem?_eq_none h] at hc
theorem cell_below {B : Nat} {w w' : World} (hb : Below B w w') (hB : w.heap.size ≤ B) {a : Addr} {v : Value} (hc : w.cell? a = some v) : w'.cell? a = some v := by
 rw [hb.cell (Nat.lt_of_lt_of_le (block_lt hc) hB)]; exact hc
theorem Tabs.below {B : Nat} {w w' : World} (h : Tabs w) (hb : Below B w w') (hB : w.heap.size ≤ B) : Tabs w' :=
 ⟨Utf8Tabs_below h.u (hb.mono hB), cell_below hb hB h.c0, cell_below hb hB h.c1, cell_below hb hB h.c2, cell_below hb hB h.c3, cell_below hb hB h.c4, cell_below hb hB h.c5, cell_below hb hB h.c6, cell_below hb hB h.c7, cell_below hb hB h.c8, cell_below hb hB h.c9⟩
/-! ### Go's decoder on what is left of a text -/
theorem get!_getD (s : ByteArray) (i : Nat) : s.get! i = s.data.toList.getD i 0 := by
 obtain ⟨⟨l⟩⟩ := s
 show (Array.mk l)[i]! = _
 by_cases h : i < l.length
 ·simp [h]
 ·simp [h]; rfl
theorem bn_drop (l : List UInt8) (i k : Nat) : U8.bn (l.drop i) k = (l.getD (i + k) 0).toNat := by
 unfold U8.bn; simp [List.getD_eq_getElem?_getD]
theorem decode_drop (s : ByteArray) (i : Nat) : Utf8.decode s i = U8.dec (s.data.toList.drop i) := by
 rw [Lib.decode_at]
 unfold U8.dec
 rw [bn_drop, bn_drop, bn_drop, bn_drop, get!_getD, get!_getD, get!_getD, get!_getD, List.length_drop, ← Lib.size_eq]
 rfl
theorem decodeGo_dec (s : ByteArray) (h : s.data.toList ≠ []) : Lib.decodeGo s = U8.dec s.data.toList := by
 have hz : s.size ≠ 0 := by rw [Lib.size_eq]; intro e; exact h (List.eq_nil_of_length_eq_zero e)
 unfold Lib.decodeGo
 rw [if_neg hz, decode_drop, List.drop_zero]
theorem dec_le (l : List UInt8) : ((U8.dec l).1 : Int) ≤ 2097151 ∧ 1 ≤ (U8.dec l).2 := by
 have b0 := U8.bn_lt l 0; have b1 := U8.bn_lt l 1; have b2 := U8.bn_lt l 2; have b3 := U8.bn_lt l 3
 rcases U8.decN_cases l.length (U8.bn l 0) (U8.bn l 1) (U8.bn l 2) (U8.bn l 3) with ⟨hd, _⟩ | ⟨hd, _⟩ | ⟨hd, _⟩ | ⟨hd, _⟩ | ⟨hd, _⟩
 all_goals
  have e1 : (U8.dec l).1 = _ := congrArg Prod.fst hd
  have e2 : (U8.dec l).2 = _ := congrArg Prod.snd hd
  simp only at e1 e2
  omega
theorem valid_of {n : Nat} (h : n < 55296 ∨ (57344 ≤ n ∧ n ≤ 1114111)) : Utf8.valid (n : Int) = true := by
 have h' : ((n : Int) < 55296) ∨ (57344 ≤ (n : Int) ∧ (n : Int) ≤ 1114111) := by omega
 have h0 : 0 ≤ (n : Int) := by omega
 unfold Utf8.valid
 rcases h' with h | ⟨h1, h2⟩
 ·rw [decide_eq_true h0, decide_eq_true h]; rfl
 ·rw [decide_eq_true h1, decide_eq_true h2]; simp
def encN (n : Nat) : List UInt8 :=
 if n < 128 then [UInt8.ofNat n] else if n < 2048 then [UInt8.ofNat (192 + n / 64), UInt8.ofNat (128 + n % 64)]
 else if n < 65536 then [UInt8.ofNat (224 + n / 4096), UInt8.ofNat (128 + n / 64 % 64), UInt8.ofNat (128 + n % 64)]
 else [UInt8.ofNat (240 + n / 262144), UInt8.ofNat (128 + n / 4096 % 64), UInt8.ofNat (128 + n / 64 % 64), UInt8.ofNat (128 + n % 64)]
theorem encode_encN {n : Nat} (h : Utf8.valid (n : Int) = true) : (Utf8.encode (n : Int)).data.toList = encN n := by
 unfold Utf8.encode encN
 simp only [h, if_true, Int.toNat_natCast]
 by_cases h1 : n < 128
 ·simp only [h1, if_true]
 ·by_cases h2 : n < 2048
  ·simp only [h1, h2, if_true, if_false]
  ·by_cases h3 : n < 65536
   ·simp only [h1, h2, h3, if_true, if_false]
   ·simp only [h1, h2, h3, if_false]
theorem toB_ofNat {x : Int} {m : Nat} (h : x.toNat = m) : U8.toB x = UInt8.ofNat m := by rw [← h]; rfl
theorem put_encN {n : Nat} (h : U8.isCh (n : Int) = true) : U8.put (n : Int) = encN n := by
 unfold U8.put U8.putZ encN
 rw [if_pos h]
 by_cases h1 : n < 128
 ·rw [if_pos h1, if_pos (by omega), List.map_cons, List.map_nil, toB_ofNat (m := n) (by omega)]
 ·rw [if_neg h1, if_neg (by omega)]
  by_cases h2 : n < 2048
  ·rw [if_pos h2, if_pos (by omega)]
   simp only [List.map_cons, List.map_nil]
   rw [toB_ofNat (x := 192 + (n : Int) / 64) (m := 192 + n / 64) (by omega), toB_ofNat (x := 128 + (n : Int) % 64) (m := 128 + n % 64) (by omega)]
  ·rw [if_neg h2, if_neg (by omega)]
   by_cases h3 : n < 65536
   ·rw [if_pos h3, if_pos (by omega)]
    simp only [List.map_cons, List.map_nil]
    rw [toB_ofNat (x := 224 + (n : Int) / 4096) (m := 224 + n / 4096) (by omega), toB_ofNat (x := 128 + (n : Int) / 64 % 64) (m := 128 + n / 64 % 64) (by omega), toB_ofNat (x := 128 + (n : Int) % 64) (m := 128 + n % 64) (by omega)]
   ·rw [if_neg h3, if_neg (by omega)]
    simp only [List.map_cons, List.map_nil]
    rw [toB_ofNat (x := 240 + (n : Int) / 262144) (m := 240 + n / 262144) (by omega), toB_ofNat (x := 128 + (n : Int) / 4096 % 64) (m := 128 + n / 4096 % 64) (by omega), toB_ofNat (x := 128 + (n : Int) / 64 % 64) (m := 128 + n / 64 % 64) (by omega), toB_ofNat (x := 128 + (n : Int) % 64) (m := 128 + n % 64) (by omega)]
theorem encode_put {c : Int} (h : U8.isCh c = true) : (Utf8.encode c).data.toList = U8.put c := by
 have hb := U8.isCh_lo h
 have hc := (U8.isCh_iff c).1 h
 obtain ⟨n, rfl⟩ := Int.eq_ofNat_of_zero_le (show 0 ≤ c by omega)
 rw [encode_encN (valid_of (by omega)), put_encN h]
theorem encode_err : (Utf8.encode 65533).data.toList = [239, 191, 189] := by rw [encode_put (by decide)]; decide
/-! ### the walks -/
set_option maxHeartbeats 1000000 in
theorem isCharacter_any (c : Int) (w : World) (T : Tabs w) (h0 : -2147483648 ≤ c) (h1 : c ≤ 2147483647) :
  Calls Tryz.prog 155 #[.int .i32 c] w fun e w' => e = .returned (.bool (U8.isCh c)) ∧ Below w.heap.size w w' := by
 obtain ⟨_, c0, c1, c2, c3, c4, c5, c6, c7, c8, c9⟩ := T
 have i0 : ∀ w, (Instr.index 223 (.agg #[.int .i32 9, .int .i32 10, .int .i32 13, .int .i32 13, .int .i32 32, .int .i32 55295, .int .i32 57344, .int .i32 65533, .int .i32 65536, .int .i32 1114111]) (.int .i64 0)).run Tryz.prog w = .ok (.agg #[.int .i32 9, .int .i32 10]) w := fun _ => by kernel_rfl
 have i1 : ∀ w, (Instr.index 223 (.agg #[.int .i32 9, .int .i32 10, .int .i32 13, .int .i32 13, .int .i32 32, .int .i32 55295, .int .i32 57344, .int .i32 65533, .int .i32 65536, .int .i32 1114111]) (.int .i64 1)).run Tryz.prog w = .ok (.agg #[.int .i32 13, .int .i32 13]) w := fun _ => by kernel_rfl
 have i2 : ∀ w, (Instr.index 223 (.agg #[.int .i32 9, .int .i32 10, .int .i32 13, .int .i32 13, .int .i32 32, .int .i32 55295, .int .i32 57344, .int .i32 65533, .int .i32 65536, .int .i32 1114111]) (.int .i64 2)).run Tryz.prog w = .ok (.agg #[.int .i32 32, .int .i32 55295]) w := fun _ => by kernel_rfl
 have i3 : ∀ w, (Instr.index 223 (.agg #[.int .i32 9, .int .i32 10, .int .i32 13, .int .i32 13, .int .i32 32, .int .i32 55295, .int .i32 57344, .int .i32 65533, .int .i32 65536, .int .i32 1114111]) (.int .i64 3)).run Tryz.prog w = .ok (.agg #[.int .i32 57344, .int .i32 65533]) w := fun _ => by kernel_rfl
 have i4 : ∀ w, (Instr.index 223 (.agg #[.int .i32 9, .int .i32 10, .int .i32 13, .int .i32 13, .int .i32 32, .int .i32 55295, .int .i32 57344, .int .i32 65533, .int .i32 65536, .int .i32 1114111]) (.int .i64 4)).run Tryz.prog w = .ok (.agg #[.int .i32 65536, .int .i32 1114111]) w := fun _ => by kernel_rfl
 go_enter Tryz.func155, Tryz.ntmps155
 go_wp2
 go_rounds 6
 all_goals go_ret
 all_goals refine ⟨ret_bool ?_, by go_grown⟩
 all_goals first
  | exact ((U8.isCh_iff c).2 (by omega)).symm
  | exact (isCh_no (by omega)).symm
set_option maxHeartbeats 1000000 in
theorem begins_any (s : ByteArray) (c : Int) (w : World) (T : Tabs w) (h0 : -2147483648 ≤ c) (h1 : c ≤ 2147483647) :
  Calls Tryz.prog 124 #[.string s, .int .i32 c] w fun e w' => e = .returned (.bool (U8.begB s.data.toList c)) ∧ Below w.heap.size w w' := by
 by_cases hc : c = 65533
 ·subst hc
  go_enter Tryz.func124, Tryz.ntmps124
  go_wp2_with fail
  refine (Tryz.strings_HasPrefix _ _ _).mono ?_
  rintro e w' ⟨rfl, rfl⟩
  go_wp2
  go_ret
  exact ⟨ret_bool (by rw [encode_err]; rfl), Below.refl _ _⟩
 ·have hb : (c == 65533) = false := by simpa using hc
  have he : U8.begB s.data.toList c = U8.isCh c := by unfold U8.begB; rw [if_neg hc]
  rw [he]
  clear he
  go_enter Tryz.func124, Tryz.ntmps124
  go_wp2_with fail
  refine (isCharacter_any c _ T h0 h1).mono ?_
  rintro e w' ⟨rfl, hw⟩
  go_wp2
  go_ret
  exact ⟨rfl, hw⟩
theorem decode_any (s : ByteArray) (w : World) (T : Tabs w) (hne : s.data.toList ≠ []) :
  Calls Tryz.prog 151 #[.string s] w fun e w' => e = .returned (.tuple #[.int .i32 (U8.dec s.data.toList).1, .int .i64 (U8.dec s.data.toList).2]) ∧ Below w.heap.size w w' := by
 have := Tryz.utf8_DecodeRuneInString s w T.u
 rw [decodeGo_dec s hne] at this
 exact this
set_option maxHeartbeats 1000000 in
theorem next_any (s : ByteArray) (w : World) (T : Tabs w) :
  Calls Tryz.prog 113 #[.string s] w fun e w' => e = .returned (.tuple #[.int .i32 (U8.nx s.data.toList).1, .int .i64 (U8.nx s.data.toList).2.1, .int .i64 (U8.nx s.data.toList).2.2]) ∧ Below w.heap.size w w' := by
 by_cases h0 : s.data.toList = []
 ·have hne : s.toList = [] := by rw [Lib.toList_data]; exact h0
  rw [h0, show U8.nx [] = (0, 0, 0) from rfl]
  go_enter Tryz.func113, Tryz.ntmps113
  go_wp2
  go_ret3
  exact ⟨rfl, Below.refl _ _⟩
 ·have hne : s.toList.isEmpty = false := by
   rw [Lib.toList_data]
   cases h : s.data.toList with
   | nil => exact absurd h h0
   | cons _ _ => rfl
  have hd := dec_le s.data.toList
  have hD := decode_any s w T h0
  have hB := fun w T => begins_any s ((U8.dec s.data.toList).1 : Nat) w T (by omega) (by omega)
  have hN := Lib.hid (U8.nx_dec h0)
  generalize U8.dec s.data.toList = d at *
  obtain ⟨r, k⟩ := d
  generalize U8.nx s.data.toList = n at *
  simp only at hD hB hd
  have HB := Lib.hid hB; clear hB
  have HD := Lib.hid hD; clear hD
  generalize hb : U8.begB s.data.toList (r : Int) = b at *
  clear hb h0
  go_enter Tryz.func113, Tryz.ntmps113
  go_wp2_with fail
  refine HD.out.mono ?_
  rintro e w1 ⟨rfl, hw1⟩
  go_wp2_with fail
  refine (HB.out _ (T.below hw1 (Nat.le_refl _))).mono ?_
  rintro e w2 ⟨rfl, hw2⟩
  have hw := hw1.trans (hw2.mono hw1.size)
  have e := hN.out
  cases b with
  | true =>
   simp only [if_true] at e
   subst e
   go_wp2
   go_ret3
   exact ⟨rfl, hw⟩
  | false =>
   simp only [Bool.false_eq_true, if_false] at e
   subst e
   go_wp2
   go_ret3
   exact ⟨rfl, hw⟩
set_option maxHeartbeats 1000000 in
theorem put_any (c : Int) (w : World) (T : Tabs w) (h0 : -2147483648 ≤ c) (h1 : c ≤ 2147483647) :
  Calls Tryz.prog 152 #[.int .i32 c] w fun e w' => e = .returned (.string ⟨(U8.put c).toArray⟩) ∧ Below w.heap.size w w' := by
 cases hc : U8.isCh c with
 | true =>
  have e : Utf8.encode c = ⟨(U8.put c).toArray⟩ := by rw [← encode_put hc]
  have hI := Lib.hid (isCharacter_any c w T h0 h1)
  rw [hc] at hI
  have E := Lib.hid e; clear e hc
  go_enter Tryz.func152, Tryz.ntmps152
  go_wp2_with fail
  refine hI.out.mono ?_
  rintro e w1 ⟨rfl, hw1⟩
  go_wp2
  go_ret
  exact ⟨by rw [E.out]; rfl, hw1⟩
 | false =>
  have hI := Lib.hid (isCharacter_any c w T h0 h1)
  rw [hc] at hI
  rw [U8.put_no hc]
  clear hc
  go_enter Tryz.func152, Tryz.ntmps152
  go_wp2_with fail
  refine hI.out.mono ?_
  rintro e w1 ⟨rfl, hw1⟩
  go_wp2
  go_ret
  exact ⟨rfl, hw1⟩
end Go.Proofs.YteadfpkihhaadaaGreatDoor
namespace Go.Proofs.YteadfpkihhaadaaGreatDoor
open Go.RowKit
theorem string_toList_ne {s : ByteArray} (h : s.data.toList ≠ []) : s.toList.isEmpty = false := by
 rw [Lib.toList_data]
 cases e : s.data.toList with
 | nil => exact absurd e h
 | cons _ _ => rfl
set_option maxHeartbeats 1000000 in
set_option maxRecDepth 100000 in
theorem leading_any (s : ByteArray) (w : World) (T : Tabs w) (hs : s.size ≤ maxLen) :
  Calls Tryz.prog 88 #[.string s] w fun e w' => e = .returned (.tuple #[.int .i64 (U8.lead s.data.toList).1, .int .i64 (U8.lead s.data.toList).2]) ∧ Below w.heap.size w w' := by
 unfold maxLen at hs
 have hle := U8.lead_le _ s.data.toList (Nat.le_refl _)
 have hlen : s.data.toList.length ≤ s.size ∧ s.size ≤ s.data.toList.length := by rw [Lib.size_eq]; exact ⟨Nat.le_refl _, Nat.le_refl _⟩
 go_enter Tryz.func88, Tryz.ntmps88
 go_wp2
 go_loopw [2] (fun v wr => ∃ pos n : Nat, v = .int .i64 n ∧ wr.heap[w.heap.size]? = some (.stringIter s pos) ∧ Below w.heap.size w wr ∧ pos ≤ s.size ∧ n ≤ pos ∧ Hid (U8.lead s.data.toList = (n + (U8.lead (s.data.toList.drop pos)).1, pos + (U8.lead (s.data.toList.drop pos)).2))) (fun _ wr => s.size - wr.iterPos w.heap.size)
 case atStart => exact ⟨0, 0, rfl, World.iter_heap w s 0, (Below.refl _ _).alloc (Nat.le_refl _) _, Nat.zero_le _, Nat.le_refl _, Lib.hid (by simp)⟩
 case round =>
  obtain ⟨pos, n, rfl, hit, hbw, hps, hnp, HS⟩ := hrel
  have hpos0 := Lib.hid (iterPos_of hit)
  by_cases hp : pos < s.size
  ·have hnx : ∀ ty, (Instr.next (.pointer (some ⟨w.heap.size, 0, none⟩)) true ty).run Tryz.prog wr = _ := fun ty => Lib.run_next_any_at wr w.heap.size s pos ty hit hp
   have hit2 := Lib.iterAt_heap wr w.heap.size s pos (pos + (Utf8.decode s pos).2) hit
   have hbw2 := Lib.below_iterAt hbw (k := w.heap.size) (Nat.le_refl _) s (pos + (Utf8.decode s pos).2)
   have hz2 : wr.heap.size = (wr.iterAt w.heap.size s (pos + (Utf8.decode s pos).2)).heap.size := (Lib.iterAt_size _ _ _ _).symm
   obtain ⟨W1, hW1⟩ : ∃ W1, W1 = wr.iterAt w.heap.size s (pos + (Utf8.decode s pos).2) := ⟨_, rfl⟩
   rw [← hW1] at hnx hit2 hbw2 hz2
   rw [decode_drop] at hnx hit2
   have hne : s.data.toList.drop pos ≠ [] := by intro e; have := congrArg List.length e; simp at this; omega
   have hdl := dec_le (s.data.toList.drop pos)
   have hBW : w.heap.size < W1.heap.size := lt_of_block hit2
   have HB := Lib.hid (fun (w0 : World) (T0 : Tabs w0) => begins_any (s.extract pos s.size) ((U8.dec (s.data.toList.drop pos)).1 : Nat) w0 T0 (by omega) (by omega))
   rw [Lib.extract_to_end] at HB
   have HN := Lib.hid (U8.nx_dec hne)
   have T1 : Tabs W1 := T.below hbw2 (Nat.le_refl _)
   generalize U8.dec (s.data.toList.drop pos) = d at *
   obtain ⟨r, k⟩ := d
   simp only at hnx hit2 HB hdl
   generalize hb : U8.begB (s.data.toList.drop pos) (r : Int) = b at *
   have HZ := Lib.hid hz2
   clear hb hW1 hz2 hit hbw
   go_wp2_with fail
   refine (HB.out _ T1).mono ?_
   rintro e w2 ⟨rfl, hw2⟩
   have hit3 : w2.heap[w.heap.size]? = some (.stringIter s (pos + k)) := by rw [hw2.block _ hBW]; exact hit2
   have hbw3 : Below w.heap.size w w2 := hbw2.trans (hw2.mono (by omega))
   have hn := HN.out
   cases b with
   | true =>
    simp only [if_true] at hn
    have hok := U8.nx_ok hne (by rw [hn])
    have hgood := Lib.hid (U8.lead_good hne (by rw [hn]))
    rw [hn] at hok hgood
    have hlk : pos + k ≤ s.size := by have := hok.2.2.2.1; simp at this; omega
    have hk1 : 1 ≤ k := hok.2.2.1
    clear hok hn HN HB T1 hit2 hbw2 hw2 hnx hBW hle
    go_wp2
    go_roundw
    case rel =>
     refine ⟨pos + k, n + 1, by go_num, hit3, hbw3, hlk, by omega, Lib.hid ?_⟩
     rw [HS.out, hgood.out, List.drop_drop]
     simp only [Prod.mk.injEq]
     omega
    case measure =>
     rw [iterPos_of hit3, hpos0.out]
     omega
   | false =>
    simp only [Bool.false_eq_true, if_false] at hn
    have hl := U8.lead_bad (l := s.data.toList.drop pos) (by rw [hn]; decide)
    have hfin := HS.out
    rw [hl] at hfin
    have HF := Lib.hid hfin
    clear hn HN HB T1 hit2 hbw2 hw2 hnx hBW hl hfin
    go_wp2
    go_ret2
    exact ⟨by rw [HF.out]; rfl, hbw3⟩
  ·have hnx : ∀ ty, (Instr.next (.pointer (some ⟨w.heap.size, 0, none⟩)) true ty).run Tryz.prog wr = _ := fun ty => Lib.run_next_end_at wr w.heap.size s pos ty hit hp
   have hfin := HS.out
   have hnil : s.data.toList.drop pos = [] := List.drop_of_length_le (by omega)
   rw [hnil, U8.lead_nil] at hfin
   have hpe : pos = s.size := by omega
   rw [hpe] at hfin
   have HF := Lib.hid hfin
   clear hfin hnil hpe HS
   go_wp2
   go_ret2
   exact ⟨by rw [HF.out]; rfl, hbw⟩
def vld (l : List UInt8) : Int × Int := if (U8.lead l).2 < l.length then (((U8.lead l).2 : Int), 10) else (0, 0)
set_option maxHeartbeats 1000000 in
theorem valid_any (s : ByteArray) (w : World) (T : Tabs w) (hs : s.size ≤ maxLen) :
  Calls Tryz.prog 53 #[.string s] w fun e w' => e = .returned (.tuple #[.int .i64 (vld s.data.toList).1, .int .i64 (vld s.data.toList).2]) ∧ Below w.heap.size w w' := by
 have HL := Lib.hid (leading_any s w T hs)
 have hlen : s.data.toList.length = s.size := (Lib.size_eq s).symm
 have hle := (U8.lead_le _ s.data.toList (Nat.le_refl _)).2
 have hv : vld s.data.toList = if (U8.lead s.data.toList).2 < s.size then (((U8.lead s.data.toList).2 : Int), 10) else (0, 0) := by unfold vld; rw [hlen]
 rw [hlen] at hle
 unfold maxLen at hs
 clear hlen
 rw [hv]
 clear hv
 generalize U8.lead s.data.toList = d at *
 obtain ⟨n, z⟩ := d
 simp only at HL hle ⊢
 by_cases hz : z < s.size
 ·rw [if_pos hz]
  have hz' : (z : Int) < (s.size : Int) := by omega
  go_enter Tryz.func53, Tryz.ntmps53
  go_wp2_with fail
  refine HL.out.mono ?_
  rintro e w1 ⟨rfl, hw1⟩
  go_wp2
  go_ret2
  exact ⟨rfl, hw1⟩
 ·rw [if_neg hz]
  have hz' : ¬ (z : Int) < (s.size : Int) := by omega
  go_enter Tryz.func53, Tryz.ntmps53
  go_wp2_with fail
  refine HL.out.mono ?_
  rintro e w1 ⟨rfl, hw1⟩
  go_wp2
  go_ret2
  exact ⟨rfl, hw1⟩
end Go.Proofs.YteadfpkihhaadaaGreatDoor
namespace Go.Proofs.YteadfpkihhaadaaGreatDoor
open Go.RowKit
set_option maxHeartbeats 400000 in
theorem is_any (c : Int) (w : World) (h0 : -2147483648 ≤ c) (h1 : c ≤ 2147483647) :
  Calls Tryz.prog 119 #[.int .i64 c] w fun e w' => e = .returned (.bool (U8.isCh c)) ∧ w = w' := by
 go_enter Tryz.func119, Tryz.ntmps119
 go_wp2
 all_goals go_ret
 all_goals exact ⟨ret_bool (by rw [Bool.eq_iff_iff, U8.isCh_iff]; simp; try omega), rfl⟩
theorem conv_new (w : World) (xs : List Int) (cap : Nat) :
  (convert 91 9 (.slice (some ⟨w.heap.size, 0, none⟩) xs.length cap)).run Tryz.prog (w.alloc (.cells (xs.map (Value.int .u8)).toArray 5)) = .ok (.string ⟨(xs.map U8.toB).toArray⟩) (w.alloc (.cells (xs.map (Value.int .u8)).toArray 5)) := by
 have h := run_convert_bytes_arg (P := Tryz.prog) (w.alloc (.cells (xs.map (Value.int .u8)).toArray 5)) 91 5 Tryz.underlying91 Tryz.underlying5 w.heap.size 0 xs.length cap xs rfl (fun i hi => by
  have := World.cell?_alloc_mark w (xs.map (Value.int .u8)).toArray 5 (0, 0) (0 + i)
  rw [this]
  simp [hi]) 9 Tryz.underlying9
 exact h
theorem conv1 (w : World) (a : Int) : (convert 91 9 (.slice (some ⟨w.heap.size, 0, none⟩) 1 1)).run Tryz.prog (w.alloc (.cells #[.int .u8 a] 5)) = .ok (.string ⟨#[U8.toB a]⟩) (w.alloc (.cells #[.int .u8 a] 5)) := conv_new w [a] 1
theorem conv2 (w : World) (a b : Int) : (convert 91 9 (.slice (some ⟨w.heap.size, 0, none⟩) 2 2)).run Tryz.prog (w.alloc (.cells #[.int .u8 a, .int .u8 b] 5)) = .ok (.string ⟨#[U8.toB a, U8.toB b]⟩) (w.alloc (.cells #[.int .u8 a, .int .u8 b] 5)) := conv_new w [a, b] 2
theorem conv3 (w : World) (a b c : Int) : (convert 91 9 (.slice (some ⟨w.heap.size, 0, none⟩) 3 3)).run Tryz.prog (w.alloc (.cells #[.int .u8 a, .int .u8 b, .int .u8 c] 5)) = .ok (.string ⟨#[U8.toB a, U8.toB b, U8.toB c]⟩) (w.alloc (.cells #[.int .u8 a, .int .u8 b, .int .u8 c] 5)) := conv_new w [a, b, c] 3
theorem conv4 (w : World) (a b c d : Int) : (convert 91 9 (.slice (some ⟨w.heap.size, 0, none⟩) 4 4)).run Tryz.prog (w.alloc (.cells #[.int .u8 a, .int .u8 b, .int .u8 c, .int .u8 d] 5)) = .ok (.string ⟨#[U8.toB a, U8.toB b, U8.toB c, U8.toB d]⟩) (w.alloc (.cells #[.int .u8 a, .int .u8 b, .int .u8 c, .int .u8 d] 5)) := conv_new w [a, b, c, d] 4
set_option maxHeartbeats 1000000 in
theorem rput_any (c : Int) (w : World) (h0 : -2147483648 ≤ c) (h1 : c ≤ 2147483647) :
  Calls Tryz.prog 120 #[.int .i64 c] w fun e w' => e = .returned (.string ⟨(U8.put c).toArray⟩) ∧ Below w.heap.size w w' := by
 have hI := Lib.hid (is_any c w h0 h1)
 cases hc : U8.isCh c with
 | false =>
  rw [hc] at hI
  rw [U8.put_no hc]
  clear hc
  go_enter Tryz.func120, Tryz.ntmps120
  go_wp2_with fail
  refine hI.out.mono ?_
  rintro e w1 ⟨rfl, rfl⟩
  go_wp2
  go_ret
  exact ⟨rfl, Below.refl _ _⟩
 | true =>
  rw [hc] at hI
  have hb := U8.isCh_lo hc
  have HC := Lib.hid hc
  clear hc
  go_enter Tryz.func120, Tryz.ntmps120
  go_wp2_with fail
  refine hI.out.mono ?_
  rintro e w1 ⟨rfl, rfl⟩
  have k1 := conv1; have k2 := conv2; have k3 := conv3; have k4 := conv4
  have hp := Lib.hid (show U8.put c = (U8.putZ c).map U8.toB by unfold U8.put; rw [HC.out]; rfl)
  by_cases g1 : c ≤ 127
  ·go_wp2
   go_ret
   exact ⟨by rw [hp.out, U8.putZ, if_pos (by omega)]; rfl, by go_grown⟩
  ·by_cases g2 : c ≤ 2047
   ·go_wp2
    go_ret
    exact ⟨by rw [hp.out, U8.putZ, if_neg (by omega), if_pos (by omega)]; rfl, by go_grown⟩
   ·by_cases g3 : c ≤ 65535
    ·go_wp2
     go_ret
     exact ⟨by rw [hp.out, U8.putZ, if_neg (by omega), if_neg (by omega), if_pos (by omega)]; rfl, by go_grown⟩
    ·go_wp2
     go_ret
     exact ⟨by rw [hp.out, U8.putZ, if_neg (by omega), if_neg (by omega), if_neg (by omega)]; rfl, by go_grown⟩
end Go.Proofs.YteadfpkihhaadaaGreatDoor
namespace Go.Proofs.YteadfpkihhaadaaGreatDoor
open Go.RowKit Go.PlainAid
theorem bt_bn (s : ByteArray) (k : Nat) : bt s k = U8.bn s.data.toList k := by
 unfold bt U8.bn
 by_cases h : k < s.size
 ·rw [dif_pos h, List.getD_eq_getElem?_getD, Lib.data_getElem? s k h]; rfl
 ·rw [dif_neg h, List.getD_eq_getElem?_getD, List.getElem?_eq_none (by rw [← Lib.size_eq]; omega)]; rfl
theorem ret_int {k : IntKind} {a b : Int} (h : a = b) : Ending.returned (.int k a) = .returned (.int k b) := by rw [h]
set_option maxHeartbeats 1000000 in
theorem number1 (s : ByteArray) (w : World) (hs : 1 ≤ s.size) :
  Calls Tryz.prog 118 #[.string s, .int .i64 1] w fun e w' => e = .returned (.int .i64 (U8.num s.data.toList 1)) ∧ Below w.heap.size w w' := by
 have hz : (0 : Int) < (s.size : Int) := by omega
 have e0 := Lib.hid (bt_bn s 0)
 have b0 := bt_nonneg s 0; have b0' := bt_le s 0
 have hb := get_bt s
 go_enter Tryz.func118, Tryz.ntmps118
 go_wp2
 go_ret
 exact ⟨by rw [e0.out]; rfl, by go_grown⟩
set_option maxHeartbeats 1000000 in
theorem number2 (s : ByteArray) (w : World) (hs : 2 ≤ s.size) :
  Calls Tryz.prog 118 #[.string s, .int .i64 2] w fun e w' => e = .returned (.int .i64 (U8.num s.data.toList 2)) ∧ Below w.heap.size w w' := by
 have hz0 : (0 : Int) < (s.size : Int) := by omega
 have hz1 : (1 : Int) < (s.size : Int) := by omega
 have e0 := Lib.hid (bt_bn s 0)
 have b0 := bt_nonneg s 0; have c0 := bt_le s 0
 have e1 := Lib.hid (bt_bn s 1)
 have b1 := bt_nonneg s 1; have c1 := bt_le s 1
 have hb := get_bt s
 go_enter Tryz.func118, Tryz.ntmps118
 go_wp2
 go_quiet (fail)
 go_wp2
 go_rounds 4
 go_ret
 exact ⟨ret_int (by rw [e0.out, e1.out]; rfl), below_drewN (by go_grown) _⟩
set_option maxHeartbeats 1000000 in
theorem number3 (s : ByteArray) (w : World) (hs : 3 ≤ s.size) :
  Calls Tryz.prog 118 #[.string s, .int .i64 3] w fun e w' => e = .returned (.int .i64 (U8.num s.data.toList 3)) ∧ Below w.heap.size w w' := by
 have hz0 : (0 : Int) < (s.size : Int) := by omega
 have hz1 : (1 : Int) < (s.size : Int) := by omega
 have hz2 : (2 : Int) < (s.size : Int) := by omega
 have e0 := Lib.hid (bt_bn s 0)
 have b0 := bt_nonneg s 0; have c0 := bt_le s 0
 have e1 := Lib.hid (bt_bn s 1)
 have b1 := bt_nonneg s 1; have c1 := bt_le s 1
 have e2 := Lib.hid (bt_bn s 2)
 have b2 := bt_nonneg s 2; have c2 := bt_le s 2
 have hb := get_bt s
 go_enter Tryz.func118, Tryz.ntmps118
 go_wp2
 go_quiet (fail)
 go_wp2
 go_rounds 4
 go_ret
 exact ⟨ret_int (by rw [e0.out, e1.out, e2.out]; rfl), below_drewN (by go_grown) _⟩
set_option maxHeartbeats 1000000 in
theorem number4 (s : ByteArray) (w : World) (hs : 4 ≤ s.size) :
  Calls Tryz.prog 118 #[.string s, .int .i64 4] w fun e w' => e = .returned (.int .i64 (U8.num s.data.toList 4)) ∧ Below w.heap.size w w' := by
 have hz0 : (0 : Int) < (s.size : Int) := by omega
 have hz1 : (1 : Int) < (s.size : Int) := by omega
 have hz2 : (2 : Int) < (s.size : Int) := by omega
 have hz3 : (3 : Int) < (s.size : Int) := by omega
 have e0 := Lib.hid (bt_bn s 0)
 have b0 := bt_nonneg s 0; have c0 := bt_le s 0
 have e1 := Lib.hid (bt_bn s 1)
 have b1 := bt_nonneg s 1; have c1 := bt_le s 1
 have e2 := Lib.hid (bt_bn s 2)
 have b2 := bt_nonneg s 2; have c2 := bt_le s 2
 have e3 := Lib.hid (bt_bn s 3)
 have b3 := bt_nonneg s 3; have c3 := bt_le s 3
 have hb := get_bt s
 go_enter Tryz.func118, Tryz.ntmps118
 go_wp2
 go_quiet (fail)
 go_wp2
 go_rounds 4
 go_ret
 exact ⟨ret_int (by rw [e0.out, e1.out, e2.out, e3.out]; rfl), below_drewN (by go_grown) _⟩
theorem number_any (s : ByteArray) (n : Nat) (w : World) (h1 : 1 ≤ n) (h4 : n ≤ 4) (hs : n ≤ s.size) :
  Calls Tryz.prog 118 #[.string s, .int .i64 n] w fun e w' => e = .returned (.int .i64 (U8.num s.data.toList n)) ∧ Below w.heap.size w w' := by
 have : n = 1 ∨ n = 2 ∨ n = 3 ∨ n = 4 := by omega
 rcases this with rfl | rfl | rfl | rfl
 ·exact number1 s w hs
 ·exact number2 s w hs
 ·exact number3 s w hs
 ·exact number4 s w hs
theorem num_bd (l : List UInt8) (n : Nat) : -2147483648 ≤ U8.num l n ∧ U8.num l n ≤ 2147483647 := by
 have b0 := U8.bn_lt l 0; have b1 := U8.bn_lt l 1; have b2 := U8.bn_lt l 2; have b3 := U8.bn_lt l 3
 unfold U8.num
 split
 ·omega
 ·split
  ·omega
  ·split <;> omega
/-! ### Next -/
theorem hit_false {l : List UInt8} {n : Nat} (h : U8.isCh (U8.num l n) = false) : U8.hit l n = false := by
 unfold U8.hit; rw [h]; simp
theorem hit_eq {l : List UInt8} {n : Nat} (hn : n ≤ l.length) (h : U8.isCh (U8.num l n) = true) : U8.hit l n = (U8.put (U8.num l n) == l.take n) := by
 unfold U8.hit; rw [h, decide_eq_true hn]; simp
end Go.Proofs.YteadfpkihhaadaaGreatDoor
namespace Go.Proofs.YteadfpkihhaadaaGreatDoor
open Go.RowKit Go.PlainAid
theorem below_ofDrew {w w' : World} (h : Below w.drew.heap.size w.drew w') : Below w.heap.size w w' := (Below.refl w.heap.size w).drew.trans h
theorem nx_hit {l : List UInt8} {n : Nat} (h : U8.hit l n = true) : U8.nx l = (U8.num l n, n, 0) := by
 obtain ⟨h1, h2, _, h4⟩ := U8.hit_put h
 have := U8.nx_put h1 (l.drop n)
 rw [h2, ← h4] at this
 exact this
theorem nx_none {l : List UInt8} (hne : l ≠ []) (h : ∀ m, 1 ≤ m → m ≤ 4 → U8.hit l m = false) : U8.nx l = (0, 0, 10) := by
 unfold U8.nx
 rw [if_neg hne, h 1 (by omega) (by omega), h 2 (by omega) (by omega), h 3 (by omega) (by omega), h 4 (by omega) (by omega)]
 rfl
theorem hit_long {l : List UInt8} {n : Nat} (h : l.length < n) : U8.hit l n = false := by
 unfold U8.hit
 rw [decide_eq_false (by omega)]; rfl
set_option maxHeartbeats 2000000 in
set_option maxRecDepth 100000 in
theorem rnext_any (s : ByteArray) (w : World) (_hs : s.size ≤ maxLen) :
  Calls Tryz.prog 81 #[.string s] w fun e w' => e = .returned (.tuple #[.int .i64 (U8.nx s.data.toList).1, .int .i64 (U8.nx s.data.toList).2.1, .int .i64 (U8.nx s.data.toList).2.2]) ∧ Below w.heap.size w w' := by
 unfold maxLen at _hs
 have hlen := Lib.hid (Lib.size_eq s)
 by_cases h0 : s.data.toList = []
 ·have hne : s.toList = [] := by rw [Lib.toList_data]; exact h0
  rw [h0, show U8.nx [] = (0, 0, 0) from rfl]
  go_enter Tryz.func81, Tryz.ntmps81
  go_wp2
  go_ret3
  exact ⟨rfl, Below.refl _ _⟩
 ·have hne : s.toList.isEmpty = false := string_toList_ne h0
  go_enter Tryz.func81, Tryz.ntmps81
  go_wp2
  go_loopw [5] (fun v wr => ∃ n : Nat, v = .int .i64 n ∧ 1 ≤ n ∧ n ≤ 5 ∧ Below w.heap.size w wr ∧ Hid (∀ m, 1 ≤ m → m < n → U8.hit s.data.toList m = false)) (fun v _ => 5 - (intOf v).toNat)
  case atStart => exact ⟨1, rfl, Nat.le_refl _, by omega, Below.refl _ _, Lib.hid (fun m h1 h2 => by omega)⟩
  case round =>
   obtain ⟨n, rfl, hn1, hn5, hbw, HH⟩ := hrel
   by_cases hin : n ≤ 4 ∧ n ≤ s.size
   ·obtain ⟨hn4, hns⟩ := hin
    have hn4' : (n : Int) ≤ 4 := by omega
    have hns' : (n : Int) ≤ (s.size : Int) := by omega
    have HN := Lib.hid (fun w0 => number_any s n w0 hn1 hn4 hns)
    have hbd := num_bd s.data.toList n
    obtain ⟨c, hc⟩ : ∃ c, c = U8.num s.data.toList n := ⟨_, rfl⟩
    rw [← hc] at HN hbd
    have HI := Lib.hid (fun w0 => is_any c w0 hbd.1 hbd.2)
    have HP := Lib.hid (fun w0 => rput_any c w0 hbd.1 hbd.2)
    have HC := Lib.hid hc
    cases hch : U8.isCh c with
    | false =>
     rw [hch] at HI
     have HX := Lib.hid (hit_false (l := s.data.toList) (n := n) (by rw [← hc]; exact hch))
     clear hc hch
     go_wp2_with fail
     refine (HN.out _).mono ?_
     rintro e w1 ⟨rfl, hw1⟩
     go_wp2_with fail
     go_quiet ((go_at_call 119; exact Calls.quiet_of_same ((HI.out _).mono fun _ _ h => ⟨h.1, h.2.symm⟩)))
     go_wp2
     go_roundw
     case rel =>
      refine ⟨n + 1, by go_num, by omega, by omega, below_drewN (hbw.trans (hw1.mono hbw.size)) _, Lib.hid (fun m h1 h2 => ?_)⟩
      by_cases hm : m < n
      ·exact HH.out m h1 hm
      ·obtain rfl : m = n := by omega
       exact HX.out
     case measure => simp [intOf]; omega
    | true =>
     rw [hch] at HI
     have HX := Lib.hid (hit_eq (l := s.data.toList) (n := n) (by have := hlen.out; omega) (by rw [← hc]; exact hch))
     rw [← hc] at HX
     have hx : (s.extract 0 n).toList = s.data.toList.take n := by rw [Lib.extract_toList]; rfl
     have hq : (U8.put c == (s.extract 0 n).toList) = U8.hit s.data.toList n := by rw [hx, HX.out]
     clear hx HX hch
     generalize hh : U8.hit s.data.toList n = hit at *
     have HB := Lib.hid hh
     clear hc hh
     go_wp2_with fail
     refine (HN.out _).mono ?_
     rintro e w1 ⟨rfl, hw1⟩
     go_wp2_with fail
     go_region_with (first | (go_at_call 119; refine (HI.out _).mono ?_; rintro e w2 ⟨rfl, rfl⟩) | (go_at_call 120; refine (HP.out _).mono ?_; rintro e w2 ⟨rfl, hw2⟩))
     cases hit with
     | true =>
      have hnx := nx_hit HB.out
      rw [← HC.out] at hnx
      have HF := Lib.hid hnx; clear hnx
      go_wp2
      go_ret3
      exact ⟨by rw [HF.out]; rfl, (hbw.trans (hw1.mono hbw.size)).trans ((below_ofDrew hw2).mono (by have := hw1.size; have := hbw.size; omega))⟩
     | false =>
      go_wp2
      refine ⟨⟨n + 1, by go_num, by omega, by omega, (hbw.trans (hw1.mono hbw.size)).trans ((below_ofDrew hw2).mono (by have := hw1.size; have := hbw.size; omega)), Lib.hid (fun m h1 h2 => ?_)⟩, by simp [intOf]; omega⟩
      by_cases hm : m < n
      ·exact HH.out m h1 hm
      ·obtain rfl : m = n := by omega
       exact HB.out
   ·have hnx := nx_none h0 (fun m h1 h4 => by
     by_cases hm : m < n
     ·exact HH.out m h1 hm
     ·exact hit_long (by have := hlen.out; omega))
    have HF := Lib.hid hnx; clear hnx h0
    by_cases hn4 : n ≤ 4
    ·have hn4' : (n : Int) ≤ 4 := by omega
     have hns' : ¬ (n : Int) ≤ (s.size : Int) := by omega
     clear hin
     go_wp2
     go_ret3
     exact ⟨by rw [HF.out]; rfl, hbw⟩
    ·have hn4' : ¬ (n : Int) ≤ 4 := by omega
     clear hin
     go_wp2
     go_ret3
     exact ⟨by rw [HF.out]; rfl, hbw⟩
set_option maxHeartbeats 1000000 in
theorem rvalid_any (s : ByteArray) (w : World) (hs : s.size ≤ maxLen) :
  Calls Tryz.prog 45 #[.string s] w fun e w' => e = .returned (.tuple #[.int .i64 (vld s.data.toList).1, .int .i64 (vld s.data.toList).2]) ∧ Below w.heap.size w w' := by
 have hlen := Lib.hid (Lib.size_eq s)
 have hle := Lib.hid (U8.lead_le _ s.data.toList (Nat.le_refl _)).2
 have hsm := Lib.hid hs
 unfold maxLen at hs
 go_enter Tryz.func45, Tryz.ntmps45
 go_wp2
 go_loopw [4] (fun v wr => ∃ at_ : Nat, v = .int .i64 at_ ∧ at_ ≤ s.size ∧ Below w.heap.size w wr ∧ Hid ((U8.lead s.data.toList).2 = at_ + (U8.lead (s.data.toList.drop at_)).2)) (fun v _ => s.size - (intOf v).toNat)
 case atStart => exact ⟨0, rfl, Nat.zero_le _, Below.refl _ _, Lib.hid (by simp)⟩
 case round =>
  obtain ⟨p, rfl, hp, hbw, HS⟩ := hrel
  by_cases hlt : p < s.size
  ·have hlt' : (p : Int) < (s.size : Int) := by omega
   have hne : s.data.toList.drop p ≠ [] := by intro e; have := congrArg List.length e; have := hlen.out; simp at *; omega
   have HN := Lib.hid (fun w0 => rnext_any (s.extract p s.size) w0 (by have := hsm.out; have h2 := Lib.size_eq (s.extract p s.size); rw [Lib.extract_to_end, List.length_drop, ← Lib.size_eq] at h2; unfold maxLen at this ⊢; omega))
   rw [Lib.extract_to_end] at HN
   by_cases hok : (U8.nx (s.data.toList.drop p)).2.2 = 0
   ·have h1 := U8.nx_ok hne hok
    have h2 := Lib.hid (U8.lead_good hne hok)
    have hk : p + (U8.nx (s.data.toList.drop p)).2.1 ≤ s.size := by have := h1.2.2.2.1; have := hlen.out; simp at *; omega
    have hk1 := h1.2.2.1
    rw [hok] at HN
    clear h1 hok hne
    generalize U8.nx (s.data.toList.drop p) = d at *
    obtain ⟨c, k, z⟩ := d
    simp only at HN h2 hk hk1
    go_wp2_with fail
    refine (HN.out _).mono ?_
    rintro e w1 ⟨rfl, hw1⟩
    go_wp2
    go_roundw
    case rel => exact ⟨p + k, by go_num, hk, hbw.trans (hw1.mono hbw.size), Lib.hid (by rw [HS.out, h2.out, List.drop_drop]; simp only; omega)⟩
    case measure => simp [intOf]; omega
   ·have hz : (U8.nx (s.data.toList.drop p)).2.2 = 10 := (U8.nx_err).resolve_left hok
    have hb := U8.lead_bad hok
    have hv : vld s.data.toList = ((p : Int), 10) := by
     have h3 := HS.out
     rw [hb] at h3
     unfold vld
     rw [if_pos (by have := hlen.out; omega), h3]; rfl
    have HV := Lib.hid hv
    rw [hz] at HN
    clear hz hb hv hok hne
    generalize U8.nx (s.data.toList.drop p) = d at *
    obtain ⟨c, k, z⟩ := d
    simp only at HN
    go_wp2_with fail
    refine (HN.out _).mono ?_
    rintro e w1 ⟨rfl, hw1⟩
    go_wp2
    go_ret2
    exact ⟨by rw [HV.out]; rfl, hbw.trans (hw1.mono hbw.size)⟩
  ·have hlt' : ¬ (p : Int) < (s.size : Int) := by omega
   have hv : vld s.data.toList = (0, 0) := by
    unfold vld
    have h3 := HS.out
    rw [List.drop_of_length_le (by have := hlen.out; omega), U8.lead_nil] at h3
    rw [if_neg (by have := hlen.out; omega)]
   have HV := Lib.hid hv
   clear hv hlt
   go_wp2
   go_ret2
   exact ⟨by rw [HV.out]; rfl, hbw⟩
end Go.Proofs.YteadfpkihhaadaaGreatDoor
