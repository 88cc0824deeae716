/- Facts and walks for the statement. -/
import Derived.Test.YtdcjpinbflmikaaGreatDoorPzW15
import Derived.Maps.Own
import Derived.WideMake
import Derived.Deep.RegionHeld3
namespace Go.Proofs.YtdcjpinbflmikaaGreatDoor
open Go.RowKit Ex Go.Maps
set_option maxHeartbeats 1000000 in
set_option maxRecDepth 100000 in
theorem named_any (A : Option Addr) (n c mb pb : Nat) (w : World) (m : Nat) (bs : List Ev.Bd) (hm : NmM w mb m bs) (q : Ty.Nm) (hq : q.length ≤ 1000000) (N : ByteArray) (hN : N = ⟨q.toArray⟩) :
    Calls Tryz.prog 190 #[rkA A n c mb pb, .string N] w fun e w' => e = endN (Ev.nmd (Ev.look bs q)) ∧ Below w.heap.size w w' := by
  obtain ⟨W1, hW1⟩ : ∃ W1, W1 = w.alloc (.cells #[.slice A n c, .map (some mb), .map (some pb)] 152) := ⟨_, rfl⟩
  have hb1 : Below w.heap.size w W1 := by rw [hW1]; exact (Below.refl _ _).alloc (Nat.le_refl _) _
  have kr : IsBlk W1 w.heap.size 152 #[.slice A n c, .map (some mb), .map (some pb)] := by rw [hW1]; exact IsBlk.new _ _ _
  have hkey : keyOf Tryz.prog 9 (.string N) = some (.string q) := by
    rw [Go.WideMaps.keyOf_string_mk Tryz.underlying9 (show N.size ≤ maxLen by rw [Lib.size_eq, hN]; unfold maxLen; simp only; omega), hN]
  obtain ⟨D, hown, hD, hhas⟩ := hm.below hb1
  obtain ⟨h1, h2⟩ := hhas q
  have x1 := kr.at_ 1
  simp only [List.getElem?_toArray, List.getElem?_cons_zero, List.getElem?_cons_succ] at x1
  have HB1 := Lib.hid hb1
  have HW1 := Lib.hid hW1
  rw [hW1] at x1
  unfold rkA
  clear hb1 kr hW1 hhas hD hm hq hN
  cases hl : Ev.look bs q with
  | none =>
    rw [hl] at h1
    have h1 : Maps.has D (.string q) = false := h1
    clear h2 hl
    show Calls _ _ _ _ fun e w' => e = endN (.er 90) ∧ _
    simp only [endN, pan]
    go_enter Tryz.func190, Tryz.ntmps190
    go_wp2_with (first | (at_lookup; refine wpList_lookup_own_ok_int _ rfl _ _ 147 rfl 9 2 .i64 lawS Tryz.underlying147 Tryz.underlying2 (zeroI _) mb m D rfl (by rw [← HW1.out]; exact hown) _ _ rfl hkey ?_; rw [h1]; intro cz _ _) | fail)
    rw [← HW1.out]
    exact ⟨rfl, rfl, HB1.out⟩
  | some x =>
    rw [hl] at h1
    have h1 : Maps.has D (.string q) = true := h1
    have h2 := h2 x hl
    have HX := Lib.hid h2
    clear hl h2
    show Calls _ _ _ _ fun e w' => e = .returned (.int .i64 x) ∧ _
    go_enter Tryz.func190, Tryz.ntmps190
    go_wp2_with (first | (at_lookup; refine wpList_lookup_own_ok_int _ rfl _ _ 147 rfl 9 2 .i64 lawS Tryz.underlying147 Tryz.underlying2 (zeroI _) mb m D rfl (by rw [← HW1.out]; exact hown) _ _ rfl hkey ?_; rw [h1]; intro cz hcz _; have HZ := Lib.hid (hcz.symm.trans HX.out); clear hcz) | fail)
    rw [← HW1.out]
    go_ret
    have e0 := HZ.out
    injection e0 with e0
    injection e0 with _ e0
    exact ⟨by rw [e0]; rfl, HB1.out⟩
set_option maxHeartbeats 2000000 in
set_option maxRecDepth 100000 in
theorem firstOnes_any (w : World) (A : Option Addr) (c : Nat) (bs : List Ev.Bd) (hb : BdR w w.heap.size A bs) (hc : bs.length ≤ c) (hf : FitB bs) :
    Calls Tryz.prog 78 #[.slice A bs.length c] w fun e w' => e = .returned (.map (some w.heap.size)) ∧ NmM w' w.heap.size bs.length bs ∧ Below w.heap.size w w' := by
  obtain ⟨m, hml⟩ : ∃ m, m = bs.length := ⟨_, rfl⟩
  rw [← hml] at hc ⊢
  have HN := Lib.hid hml
  have hcI : (m : Int) ≤ (c : Int) := by omega
  have hmN : (m : Int) ≤ 1000000 := by have := hf.1; omega
  have HG := Lib.hid (And.intro hb hf)
  have hmm := @run_makeMap Tryz.prog
  clear hml hb hf hc
  go_enter Tryz.func78, Tryz.ntmps78
  go_wp2
  go_loopw [11] (fun iv wr => ∃ i : Nat, iv = .int .i64 i ∧ i ≤ m ∧ Hid (NmM wr w.heap.size i (bs.take i) ∧ Below w.heap.size w wr)) (fun iv _ => m - (intOf iv).toNat)
  case atStart => exact ⟨0, rfl, Nat.zero_le _, Lib.hid ⟨NmM.made w, (Below.refl _ _).alloc (Nat.le_refl _) _⟩⟩
  case round =>
    obtain ⟨i, rfl, hi1, HI⟩ := hrel
    by_cases him : i < m
    · have him' : (i : Int) < (m : Int) := by omega
      have hin : i < bs.length := by rw [← HN.out]; exact him
      obtain ⟨g, o, hA, hg, q0, q1⟩ := HG.out.1 i hin
      subst hA
      have z0 : wr.cell? ⟨g, o + i * 2, none⟩ = some (.string ⟨bs[i].1.toArray⟩) := (HI.out.2.cell (p := ⟨g, _, none⟩) hg).trans q0
      have z1 : wr.cell? ⟨g, o + i * 2 + 1, none⟩ = some (.int .i64 bs[i].2) := (HI.out.2.cell (p := ⟨g, _, none⟩) hg).trans q1
      have hfq := HG.out.2.2 _ (List.getElem_mem hin)
      have HTK := Lib.hid (show bs.take (i + 1) = bs.take i ++ [bs[i]] from List.take_succ_eq_append_getElem hin)
      generalize bs[i] = q at *
      obtain ⟨s, v⟩ := q
      simp only at z0 z1 hfq
      obtain ⟨N, hN⟩ : ∃ N : ByteArray, N = ⟨s.toArray⟩ := ⟨_, rfl⟩
      rw [← hN] at z0
      have HKEY := Lib.hid (show keyOf Tryz.prog 9 (.string N) = some (.string s) from by
        rw [Go.WideMaps.keyOf_string_mk Tryz.underlying9 (show N.size ≤ maxLen by rw [Lib.size_eq, hN]; have := hfq.1; unfold maxLen; simp only; omega), hN])
      have HV := Lib.hid (show plainElem (H := Unit) Tryz.prog 2 (.int .i64 v) = some (.lit (.int .i64 v), []) from plainElem_int Tryz.underlying2 (by
        have h5 := hfq.2
        unfold Nu.fits at h5
        simp [Lit.wf, IntKind.min, IntKind.max, IntKind.signed, IntKind.bits]; omega))
      obtain ⟨W2, hW2⟩ : ∃ W2, W2 = wr.alloc (.cells #[.string N, .int .i64 v] 143) := ⟨_, rfl⟩
      have hb2 : Below wr.heap.size wr W2 := by rw [hW2]; exact (Below.refl _ _).alloc (Nat.le_refl _) _
      have kb : IsBlk W2 wr.heap.size 143 #[.string N, .int .i64 v] := by rw [hW2]; exact IsBlk.new _ _ _
      have b0 := kb.at_ 0
      have b1 := kb.at_ 1
      simp only [List.getElem?_toArray, List.getElem?_cons_zero, List.getElem?_cons_succ] at b0 b1
      have HM := Lib.hid (HI.out.1.below hb2)
      have HB2 := Lib.hid (HI.out.2.trans (hb2.mono HI.out.2.size))
      obtain ⟨D, hown, hD, hhas⟩ := HI.out.1.below hb2
      obtain ⟨h1, -⟩ := hhas s
      have HDD := Lib.hid (And.intro hD hhas)
      have HIM := Lib.hid him
      have HI6 := Lib.hid (show i < maxLen by have := HG.out.2.1; unfold maxLen; omega)
      have HW2 := Lib.hid hW2
      rw [hW2] at b0 b1
      clear q0 q1 hfq hN hD hhas HI him hW2 hb2 kb
      cases hl : Ev.look (bs.take i) s with
      | some x =>
        rw [hl] at h1
        have h1 : Maps.has D (.string s) = true := h1
        have HS := Lib.hid (show NmM W2 w.heap.size (i + 1) (bs.take (i + 1)) from by
          rw [HTK.out]; exact (HM.out.skip (q := (s, v)) (by rw [hl]; rfl)).up (Nat.le_succ _))
        clear hl
        go_wp2_with (first | (at_lookup; refine wpList_lookup_own_ok_int _ rfl _ _ 147 rfl 9 2 .i64 lawS Tryz.underlying147 Tryz.underlying2 (zeroI _) w.heap.size i D rfl (by rw [← HW2.out]; exact hown) _ _ rfl HKEY.out ?_; rw [h1]; intro cz _ _) | fail)
        rw [← HW2.out]
        go_roundw
        case rel => exact ⟨i + 1, by go_num, HIM.out, Lib.hid ⟨HS.out, HB2.out⟩⟩
        case measure => have := HIM.out; simp [intOf]; omega
      | none =>
        rw [hl] at h1
        have h1 : Maps.has D (.string s) = false := h1
        have HNO := Lib.hid hl
        clear hl
        go_wp2_with (first | (at_lookup; refine wpList_lookup_own_ok_int _ rfl _ _ 147 rfl 9 2 .i64 lawS Tryz.underlying147 Tryz.underlying2 (zeroI _) w.heap.size i D rfl (by rw [← HW2.out]; exact hown) _ _ rfl HKEY.out ?_; rw [h1]; intro cz _ _) | (at_mapUpdate; refine wpList_mapUpdate_own _ rfl _ _ _ 147 rfl 9 2 lawS Tryz.underlying147 (plainElem Tryz.prog 2) w.heap.size i D rfl (by rw [← HW2.out]; exact hown) HI6.out _ _ _ rfl rfl HKEY.out _ _ HV.out ?_; intro w3 hown3 hgr3; have HO3 := Lib.hid (And.intro hown3 hgr3); clear hown3 hgr3) | fail)
        go_roundw
        case rel => exact ⟨i + 1, by go_num, HIM.out, Lib.hid ⟨⟨_, HO3.out.1, HDD.out.1.put _ _, fun x => by rw [HTK.out]; exact look_put HDD.out.1 HDD.out.2 (s, v) HNO.out x⟩, HB2.out.grown (by rw [HW2.out]; exact HO3.out.2) HB2.out.size (fun k hk => by cases hk; exact Nat.le_refl _)⟩⟩
        case measure => have := HIM.out; simp [intOf]; omega
    · obtain rfl : i = m := by omega
      have him' : ¬ (i : Int) < (i : Int) := by omega
      have HST := Lib.hid (show NmM wr w.heap.size i bs ∧ Below w.heap.size w wr from by
        have q := HI.out
        rw [List.take_of_length_le (by rw [← HN.out]; exact Nat.le_refl _)] at q
        exact q)
      clear him HI
      go_wp2
      go_ret
      exact ⟨rfl, HST.out.1, HST.out.2⟩
end Go.Proofs.YtdcjpinbflmikaaGreatDoor
namespace Go.Proofs.YtdcjpinbflmikaaGreatDoor
open Go.RowKit Ex
theorem set_push10 {α : Type} (a : Array α) (o o' : α) : (a.push o).setIfInBounds a.size o' = a.push o' := by
  apply Array.ext'
  rw [Array.toList_setIfInBounds, Array.toList_push, Array.toList_push, ← Array.length_toList, List.set_append_right _ _ (Nat.le_refl _)]
  simp
theorem set_alloc10 (w : World) (o o' : Obj) : ({ heap := (w.alloc o).heap.setIfInBounds w.heap.size o', tape := w.tape, drawn := w.drawn, os := (w.alloc o).os, output := (w.alloc o).output } : World) = w.alloc o' := by
  have h : (w.alloc o).heap.setIfInBounds w.heap.size o' = w.heap.push o' := set_push10 w.heap o o'
  rw [h]; rfl
theorem update_new8 (es : Array MapEntry) (c : Nat) (o : Int) (val : Value) (w : World) (hf : Instr.findNow (.int .u8) (.int .u8 o) es.toList 0 = some none) :
    (Instr.mapUpdate 149 (.map (some w.heap.size)) (.int .u8 o) val).run Tryz.prog (w.alloc (.map es c)) = .ok () (w.alloc (.map (es.push ⟨.int .u8 o, val, c⟩) (c + 1))) := by
  have hk : Tryz.prog.underlying 5 = some (.int .u8) := Tryz.underlying5
  have hb : (w.alloc (.map es c)).heap[w.heap.size]? = some (.map es c) := heap_alloc_new w _
  have hc : (Instr.checkKey false 10000 5 (.int .u8 o)).run Tryz.prog (w.alloc (.map es c)) = .ok () (w.alloc (.map es c)) := MapKept.run_checkKey (k := .int .u8 o) hk (by simp [MapKept.IsKey]) false 9999
  have e := set_alloc10 w (.map es c) (.map (es.push ⟨.int .u8 o, val, c⟩) (c + 1))
  simp [Instr.mapUpdate, run_underlying Tryz.underlying149, MapKept.run_getObj_map hb, hc, MapKept.run_findKey hk hf, MapKept.run_setObj_map _ hb, Result.andThen, e]
theorem look_hit (b : Nat) (o : Int) (w : World) (h : PaM w b) {i : Nat} {v : Value} (hf : Instr.findNow (.int .u8) (.int .u8 o) pairE.toList 0 = some (some (i, v))) :
    (Instr.lookup 149 (.map (some b)) (.int .u8 o) true).run Tryz.prog w = .ok (.tuple #[v, .bool true]) w := by
  have hk : Tryz.prog.underlying 5 = some (.int .u8) := Tryz.underlying5
  have hb : w.heap[b]? = some (.map pairE 9) := h
  have hne : pairE.isEmpty = false := rfl
  have hc : (Instr.checkKey false 10000 5 (.int .u8 o)).run Tryz.prog w = .ok () w := MapKept.run_checkKey (k := .int .u8 o) hk (by simp [MapKept.IsKey]) false 9999
  simp [Instr.lookup, run_underlying Tryz.underlying149, MapKept.run_getObj_map hb, hne, hc, MapKept.run_findKey hk hf, Result.andThen]
theorem look_miss (b : Nat) (o : Int) (w : World) (h : PaM w b) (hf : Instr.findNow (.int .u8) (.int .u8 o) pairE.toList 0 = some none) :
    (Instr.lookup 149 (.map (some b)) (.int .u8 o) true).run Tryz.prog w = .ok (.tuple #[.nilFunc, .bool false]) w := by
  have hk : Tryz.prog.underlying 5 = some (.int .u8) := Tryz.underlying5
  have hb : w.heap[b]? = some (.map pairE 9) := h
  have hne : pairE.isEmpty = false := rfl
  have hc : (Instr.checkKey false 10000 5 (.int .u8 o)).run Tryz.prog w = .ok () w := MapKept.run_checkKey (k := .int .u8 o) hk (by simp [MapKept.IsKey]) false 9999
  simp [Instr.lookup, run_underlying Tryz.underlying149, MapKept.run_getObj_map hb, hne, hc, MapKept.run_findKey hk hf, Result.andThen]
theorem look7 (b : Nat) (w : World) (h : PaM w b) : (Instr.lookup 149 (.map (some b)) (.int .u8 7) true).run Tryz.prog w = .ok (.tuple #[.func (.func 122) #[] #[], .bool true]) w := look_hit b 7 w h rfl
theorem look8 (b : Nat) (w : World) (h : PaM w b) : (Instr.lookup 149 (.map (some b)) (.int .u8 8) true).run Tryz.prog w = .ok (.tuple #[.func (.func 125) #[] #[], .bool true]) w := look_hit b 8 w h rfl
theorem look9 (b : Nat) (w : World) (h : PaM w b) : (Instr.lookup 149 (.map (some b)) (.int .u8 9) true).run Tryz.prog w = .ok (.tuple #[.func (.func 127) #[] #[], .bool true]) w := look_hit b 9 w h rfl
theorem look10 (b : Nat) (w : World) (h : PaM w b) : (Instr.lookup 149 (.map (some b)) (.int .u8 10) true).run Tryz.prog w = .ok (.tuple #[.func (.func 129) #[] #[], .bool true]) w := look_hit b 10 w h rfl
theorem look11 (b : Nat) (w : World) (h : PaM w b) : (Instr.lookup 149 (.map (some b)) (.int .u8 11) true).run Tryz.prog w = .ok (.tuple #[.func (.func 131) #[] #[], .bool true]) w := look_hit b 11 w h rfl
theorem look12 (b : Nat) (w : World) (h : PaM w b) : (Instr.lookup 149 (.map (some b)) (.int .u8 12) true).run Tryz.prog w = .ok (.tuple #[.func (.func 133) #[] #[], .bool true]) w := look_hit b 12 w h rfl
theorem look13 (b : Nat) (w : World) (h : PaM w b) : (Instr.lookup 149 (.map (some b)) (.int .u8 13) true).run Tryz.prog w = .ok (.tuple #[.func (.func 135) #[] #[], .bool true]) w := look_hit b 13 w h rfl
theorem look14 (b : Nat) (w : World) (h : PaM w b) : (Instr.lookup 149 (.map (some b)) (.int .u8 14) true).run Tryz.prog w = .ok (.tuple #[.func (.func 136) #[] #[], .bool true]) w := look_hit b 14 w h rfl
theorem look15 (b : Nat) (w : World) (h : PaM w b) : (Instr.lookup 149 (.map (some b)) (.int .u8 15) true).run Tryz.prog w = .ok (.tuple #[.func (.func 137) #[] #[], .bool true]) w := look_hit b 15 w h rfl
theorem look3 (b : Nat) (w : World) (h : PaM w b) : (Instr.lookup 149 (.map (some b)) (.int .u8 3) true).run Tryz.prog w = .ok (.tuple #[.nilFunc, .bool false]) w := look_miss b 3 w h rfl
theorem look4 (b : Nat) (w : World) (h : PaM w b) : (Instr.lookup 149 (.map (some b)) (.int .u8 4) true).run Tryz.prog w = .ok (.tuple #[.nilFunc, .bool false]) w := look_miss b 4 w h rfl
theorem look6 (b : Nat) (w : World) (h : PaM w b) : (Instr.lookup 149 (.map (some b)) (.int .u8 6) true).run Tryz.prog w = .ok (.tuple #[.nilFunc, .bool false]) w := look_miss b 6 w h rfl
theorem look16 (b : Nat) (w : World) (h : PaM w b) : (Instr.lookup 149 (.map (some b)) (.int .u8 16) true).run Tryz.prog w = .ok (.tuple #[.nilFunc, .bool false]) w := look_miss b 16 w h rfl
theorem look17 (b : Nat) (w : World) (h : PaM w b) : (Instr.lookup 149 (.map (some b)) (.int .u8 17) true).run Tryz.prog w = .ok (.tuple #[.nilFunc, .bool false]) w := look_miss b 17 w h rfl
theorem look18 (b : Nat) (w : World) (h : PaM w b) : (Instr.lookup 149 (.map (some b)) (.int .u8 18) true).run Tryz.prog w = .ok (.tuple #[.nilFunc, .bool false]) w := look_miss b 18 w h rfl
theorem look19 (b : Nat) (w : World) (h : PaM w b) : (Instr.lookup 149 (.map (some b)) (.int .u8 19) true).run Tryz.prog w = .ok (.tuple #[.nilFunc, .bool false]) w := look_miss b 19 w h rfl
theorem look20 (b : Nat) (w : World) (h : PaM w b) : (Instr.lookup 149 (.map (some b)) (.int .u8 20) true).run Tryz.prog w = .ok (.tuple #[.nilFunc, .bool false]) w := look_miss b 20 w h rfl
theorem look21 (b : Nat) (w : World) (h : PaM w b) : (Instr.lookup 149 (.map (some b)) (.int .u8 21) true).run Tryz.prog w = .ok (.tuple #[.nilFunc, .bool false]) w := look_miss b 21 w h rfl
set_option maxHeartbeats 1000000 in
theorem pairs_any (w : World) :
    Calls Tryz.prog 79 #[] w fun e w' => e = .returned (.map (some w.heap.size)) ∧ w' = w.alloc (.map pairE 9) := by
  have hmm := @run_makeMap Tryz.prog
  have u1 := update_new8 #[] 0 7 (.func (.func 122) #[] #[]) w rfl
  have u2 := update_new8 (pairE.extract 0 1) 1 8 (.func (.func 125) #[] #[]) w rfl
  have u3 := update_new8 (pairE.extract 0 2) 2 9 (.func (.func 127) #[] #[]) w rfl
  have u4 := update_new8 (pairE.extract 0 3) 3 10 (.func (.func 129) #[] #[]) w rfl
  have u5 := update_new8 (pairE.extract 0 4) 4 11 (.func (.func 131) #[] #[]) w rfl
  have u6 := update_new8 (pairE.extract 0 5) 5 12 (.func (.func 133) #[] #[]) w rfl
  have u7 := update_new8 (pairE.extract 0 6) 6 13 (.func (.func 135) #[] #[]) w rfl
  have u8 := update_new8 (pairE.extract 0 7) 7 14 (.func (.func 136) #[] #[]) w rfl
  have u9 := update_new8 (pairE.extract 0 8) 8 15 (.func (.func 137) #[] #[]) w rfl
  simp only [pairE, Array.push, List.concat_eq_append, List.nil_append, List.cons_append, Nat.reduceAdd, Nat.zero_add, List.extract_toArray, List.extract_eq_take_drop, List.drop_zero, Nat.sub_zero, List.take_succ_cons, List.take_zero] at u1 u2 u3 u4 u5 u6 u7 u8 u9
  go_enter Tryz.func79, Tryz.ntmps79
  go_wp2
  go_ret
  exact ⟨rfl, rfl⟩
end Go.Proofs.YtdcjpinbflmikaaGreatDoor
namespace Go.Proofs.YtdcjpinbflmikaaGreatDoor
open Go.RowKit Ex
theorem eqV (k1 k2 : Nat) (n1 n2 : Int) (b1 b2 : Bool) : decide ((⟨k1, n1, b1⟩ : Ev.Vl) = ⟨k2, n2, b2⟩) = (decide (k1 = k2) && (decide (n1 = n2) && decide (b1 = b2))) := by simp
theorem run_eqlV (k1 k2 : Nat) (n1 n2 : Int) (b1 b2 : Bool) (w : World) : (binOp BinOp.eql 67 (.agg #[.int .u8 (k1 : Nat), .int .i64 n1, .bool b1]) (.agg #[.int .u8 (k2 : Nat), .int .i64 n2, .bool b2])).run Tryz.prog w = .ok (.bool (decide ((⟨k1, n1, b1⟩ : Ev.Vl) = ⟨k2, n2, b2⟩))) w := by
  simp [go_sem, Tryz.underlying67]
  by_cases e1 : k1 = k2
  · by_cases e2 : n1 = n2
    · by_cases e3 : b1 = b2
      · simp [e1, e2, e3]
      · simp [e1, e2, e3]
    · simp [e1, e2]
  · rw [if_neg (by omega)]; simp [e1]
def ndW (o : Nat) (num : Int) (N : ByteArray) (na nb nc : Int) : Value := .agg #[.int .u8 (o : Int), .int .i64 num, .string N, .int .i64 na, .int .i64 nb, .int .i64 nc]
def sameR (RA RB : Ev.Rz) : Ev.Rz := Ev.thn RA fun v => Ev.thn (Ev.prt RB v.k) fun u => .ok (Ev.vb (decide (v = u)))
structure Bx2 (w : World) (g : Nat) (A : Option Addr) (n c mb pb : Nat) (o : Nat) (num : Int) (N : ByteArray) (na nb nc : Int) : Prop where
  rk : IsBlk w g 152 #[.slice A n c, .map (some mb), .map (some pb)]
  nd : IsBlk w (g + 1) 34 #[.int .u8 (o : Int), .int .i64 num, .string N, .int .i64 na, .int .i64 nb, .int .i64 nc]
theorem Bx2.below {w w' : World} {g : Nat} {A : Option Addr} {n c mb pb : Nat} {o : Nat} {num : Int} {N : ByteArray} {na nb nc : Int} (h : Bx2 w g A n c mb pb o num N na nb nc) (hb : Below w.heap.size w w') : Bx2 w' g A n c mb pb o num N na nb nc := ⟨h.rk.below hb h.rk.lt, h.nd.below hb h.nd.lt⟩
theorem Bx2.new (w : World) (A : Option Addr) (n c mb pb : Nat) (o : Nat) (num : Int) (N : ByteArray) (na nb nc : Int) : Bx2 ((w.alloc (.cells #[.slice A n c, .map (some mb), .map (some pb)] 152)).alloc (.cells #[.int .u8 (o : Int), .int .i64 num, .string N, .int .i64 na, .int .i64 nb, .int .i64 nc] 34)) w.heap.size A n c mb pb o num N na nb nc := by
  refine ⟨(IsBlk.new _ _ _).below ((Below.refl _ _).alloc (Nat.le_refl _) _) (IsBlk.new w _ _).lt, ?_⟩
  rw [show w.heap.size + 1 = (w.alloc (.cells #[.slice A n c, .map (some mb), .map (some pb)] 152)).heap.size by simp]
  exact IsBlk.new _ _ _
theorem Bx2.cells {w : World} {g : Nat} {A : Option Addr} {n c mb pb : Nat} {o : Nat} {num : Int} {N : ByteArray} {na nb nc : Int} (h : Bx2 w g A n c mb pb o num N na nb nc) :
    (w.cell? ⟨g, 0, none⟩ = some (.slice A n c) ∧ w.cell? ⟨g, 1, none⟩ = some (.map (some mb)) ∧ w.cell? ⟨g, 2, none⟩ = some (.map (some pb))) ∧ w.cell? ⟨g + 1, 0, none⟩ = some (.int .u8 (o : Int)) ∧ w.cell? ⟨g + 1, 1, none⟩ = some (.int .i64 num) ∧ w.cell? ⟨g + 1, 2, none⟩ = some (.string N) ∧ w.cell? ⟨g + 1, 3, none⟩ = some (.int .i64 na) ∧ w.cell? ⟨g + 1, 4, none⟩ = some (.int .i64 nb) ∧ w.cell? ⟨g + 1, 5, none⟩ = some (.int .i64 nc) :=
  ⟨⟨h.rk.at_ 0, h.rk.at_ 1, h.rk.at_ 2⟩, h.nd.at_ 0, h.nd.at_ 1, h.nd.at_ 2, h.nd.at_ 3, h.nd.at_ 4, h.nd.at_ 5⟩
set_option maxHeartbeats 1000000 in
set_option maxRecDepth 100000 in
theorem same10_any (A : Option Addr) (n c mb pb : Nat) (w : World) (o : Nat) (num : Int) (N : ByteArray) (na nb nc : Int) (RA RB : Ev.Rz) (hA : WoC (rkA A n c mb pb) w na RA) (hB : WoC (rkA A n c mb pb) w nb RB) (w' : World) (hb' : Below w.heap.size w w') :
    Calls Tryz.prog 221 #[rkA A n c mb pb, ndW o num N na nb nc] w' fun e w'' => e = endB (sameR RA RB) ∧ Below w'.heap.size w' w'' := by
  obtain ⟨W2, hW2⟩ : ∃ W2, W2 = (w'.alloc (.cells #[.slice A n c, .map (some mb), .map (some pb)] 152)).alloc (.cells #[.int .u8 (o : Int), .int .i64 num, .string N, .int .i64 na, .int .i64 nb, .int .i64 nc] 34) := ⟨_, rfl⟩
  have hb2 : Below w'.heap.size w' W2 := by rw [hW2]; exact ((Below.refl _ _).alloc (Nat.le_refl _) _).alloc (by simp) _
  have hx : Bx2 W2 w'.heap.size A n c mb pb o num N na nb nc := by rw [hW2]; exact Bx2.new _ _ _ _ _ _ _ _ _ _ _ _
  have HC := Lib.hid (hA W2 (hb'.trans (hb2.mono hb'.size)))
  have HP := Lib.hid (fun k w0 (h0 : Below W2.heap.size W2 w0) => evpart_any A n c mb pb w nb RB hB k w0 (hb'.trans ((hb2.trans (h0.mono hb2.size)).mono hb'.size)))
  obtain ⟨⟨x0, x1, x2⟩, y0, y1, y2, y3, y4, y5⟩ := hx.cells
  have HX := Lib.hid hx
  have HB2 := Lib.hid hb2
  have HW2 := Lib.hid hW2
  unfold rkA at HC HP ⊢
  unfold ndW
  clear hb2 hx hA hB hb'
  rw [hW2] at x0 x1 x2 y0 y1 y2 y3 y4 y5
  clear hW2
  cases RA with
  | er z =>
    simp only [endZ, pan] at HC
    show Calls _ _ _ _ fun e w'' => e = endB (.er z) ∧ _
    simp only [endB, pan]
    go_enter Tryz.func221, Tryz.ntmps221
    go_wp2_with fail
    rw [← HW2.out]
    refine HC.out.mono ?_
    rintro e w1 ⟨rfl, hb⟩
    have HB := Lib.hid (HB2.out.trans (hb.mono HB2.out.size))
    clear hb
    go_simp
    exact ⟨rfl, rfl, HB.out⟩
  | ok v =>
    obtain ⟨vk, vn, vb⟩ := v
    simp only [endZ, vlA] at HC
    have e0 : sameR (.ok ⟨vk, vn, vb⟩) RB = Ev.thn (Ev.prt RB vk) fun u => .ok (Ev.vb (decide (⟨vk, vn, vb⟩ = u))) := rfl
    rw [e0]
    have HQ := Lib.hid (HP.out vk)
    clear HP e0
    generalize Ev.prt RB vk = Q at *
    cases Q with
    | er z =>
      simp only [endZ, pan] at HQ
      rw [thn_er]
      simp only [endB, pan]
      go_enter Tryz.func221, Tryz.ntmps221
      go_wp2_with fail
      rw [← HW2.out]
      refine HC.out.mono ?_
      rintro e w1 ⟨rfl, hb⟩
      obtain ⟨W3, hW3⟩ : ∃ W3, W3 = w1.alloc (.cells #[.int .u8 (vk : Nat), .int .i64 vn, .bool vb] 67) := ⟨_, rfl⟩
      have hb3 : Below W2.heap.size W2 W3 := by rw [hW3]; exact hb.alloc hb.size _
      have kv : IsBlk W3 w1.heap.size 67 #[.int .u8 (vk : Nat), .int .i64 vn, .bool vb] := by rw [hW3]; exact IsBlk.new _ _ _
      obtain ⟨⟨x0, x1, x2⟩, -, -, -, -, y4, -⟩ := (HX.out.below hb3).cells
      have v0 := kv.at_ 0
      have v1 := kv.at_ 1
      have v2 := kv.at_ 2
      simp only [List.getElem?_toArray, List.getElem?_cons_zero, List.getElem?_cons_succ] at v0 v1 v2
      have HS := Lib.hid (fun w0 (h0 : Below W3.heap.size W3 w0) => (show (w0.cell? ⟨w'.heap.size, 0, none⟩ = some (.slice A n c) ∧ w0.cell? ⟨w'.heap.size, 1, none⟩ = some (.map (some mb)) ∧ w0.cell? ⟨w'.heap.size, 2, none⟩ = some (.map (some pb))) ∧ w0.cell? ⟨w'.heap.size + 1, 4, none⟩ = some (.int .i64 nb) ∧ w0.cell? ⟨w1.heap.size, 0, none⟩ = some (.int .u8 (vk : Nat)) ∧ w0.cell? ⟨w1.heap.size, 1, none⟩ = some (.int .i64 vn) ∧ w0.cell? ⟨w1.heap.size, 2, none⟩ = some (.bool vb) from by
        have q := ((HX.out.below hb3).below h0).cells
        have k := kv.below h0 kv.lt
        exact ⟨q.1, q.2.2.2.2.2.1, k.at_ 0, k.at_ 1, k.at_ 2⟩))
      have HB3 := Lib.hid hb3
      have HBA := Lib.hid (HB2.out.trans (hb3.mono HB2.out.size))
      have HW3 := Lib.hid hW3
      rw [hW3] at x0 x1 x2 y4 v0 v1 v2
      clear hb hb3 kv hW3
      have HY := Lib.hid (HS.out W3.drew (Below.refl _ _).drew)
      go_wp2_with fail
      rw [← HW3.out]
      refine wp_region_held_drew (S := fun w0 => (w0.cell? ⟨w'.heap.size, 0, none⟩ = some (.slice A n c) ∧ w0.cell? ⟨w'.heap.size, 1, none⟩ = some (.map (some mb)) ∧ w0.cell? ⟨w'.heap.size, 2, none⟩ = some (.map (some pb))) ∧ w0.cell? ⟨w'.heap.size + 1, 4, none⟩ = some (.int .i64 nb) ∧ w0.cell? ⟨w1.heap.size, 0, none⟩ = some (.int .u8 (vk : Nat)) ∧ w0.cell? ⟨w1.heap.size, 1, none⟩ = some (.int .i64 vn) ∧ w0.cell? ⟨w1.heap.size, 2, none⟩ = some (.bool vb)) (by kernel_rfl) HY.out (fun hHeld => ?_)
      refine wpAnyH_take (i := 0) (v := .agg #[.int .u8 (vk : Nat), .int .i64 vn, .bool vb]) rfl (by kernel_rfl) (by kernel_rfl) (by kernel_rfl) (fun _ _ _ h => h) (Or.inl ⟨by rfl, by (intro w hS; try (obtain ⟨⟨s0, s1, s2⟩, s3, s4, s5, s6⟩ := hS); go_simp)⟩) hHeld ?_
      try simp only [Act.put, List.getElem_toArray, List.getElem_cons_zero, List.setIfInBounds_toArray, List.set_cons_zero, List.set_cons_succ]
      refine wpAnyH_take (i := 1) (v := .agg #[.slice A n c, .map (some mb), .map (some pb)]) rfl (by kernel_rfl) (by kernel_rfl) (by kernel_rfl) (fun _ _ _ h => h) (Or.inl ⟨by rfl, by (intro w hS; try (obtain ⟨⟨s0, s1, s2⟩, s3, s4, s5, s6⟩ := hS); go_simp)⟩) hHeld ?_
      try simp only [Act.put, List.getElem_toArray, List.getElem_cons_succ, List.getElem_cons_zero, List.setIfInBounds_toArray, List.set_cons_zero, List.set_cons_succ]
      refine wpAnyH_take (i := 2) (v := .pointer (some ⟨w'.heap.size + 1, 4, none⟩)) rfl (by kernel_rfl) (by kernel_rfl) (by kernel_rfl) (fun _ _ _ h => h) (Or.inl ⟨by rfl, by (intro w hS; try (obtain ⟨⟨s0, s1, s2⟩, s3, s4, s5, s6⟩ := hS); go_simp)⟩) hHeld ?_
      try simp only [Act.put, List.getElem_toArray, List.getElem_cons_succ, List.getElem_cons_zero, List.setIfInBounds_toArray, List.set_cons_zero, List.set_cons_succ]
      refine wpAnyH_take (i := 3) (v := .int .i64 nb) rfl (by kernel_rfl) (by kernel_rfl) (by kernel_rfl) (fun _ _ _ h => h) (Or.inl ⟨by rfl, by (intro w hS; try (obtain ⟨⟨s0, s1, s2⟩, s3, s4, s5, s6⟩ := hS); go_simp)⟩) hHeld ?_
      try simp only [Act.put, List.getElem_toArray, List.getElem_cons_succ, List.getElem_cons_zero, List.setIfInBounds_toArray, List.set_cons_zero, List.set_cons_succ]
      refine wpAnyH_take (i := 4) (v := .pointer (some ⟨w1.heap.size, 0, none⟩)) rfl (by kernel_rfl) (by kernel_rfl) (by kernel_rfl) (fun _ _ _ h => h) (Or.inl ⟨by rfl, by (intro w hS; try (obtain ⟨⟨s0, s1, s2⟩, s3, s4, s5, s6⟩ := hS); go_simp)⟩) hHeld ?_
      try simp only [Act.put, List.getElem_toArray, List.getElem_cons_succ, List.getElem_cons_zero, List.setIfInBounds_toArray, List.set_cons_zero, List.set_cons_succ]
      refine wpAnyH_take (i := 5) (v := .int .u8 (vk : Nat)) rfl (by kernel_rfl) (by kernel_rfl) (by kernel_rfl) (fun _ _ _ h => h) (Or.inl ⟨by rfl, by (intro w hS; try (obtain ⟨⟨s0, s1, s2⟩, s3, s4, s5, s6⟩ := hS); go_simp)⟩) hHeld ?_
      try simp only [Act.put, List.getElem_toArray, List.getElem_cons_succ, List.getElem_cons_zero, List.setIfInBounds_toArray, List.set_cons_zero, List.set_cons_succ]
      refine wpAnyH_ready (rs := [6]) (by kernel_rfl) (by simp) ?_
      refine AllReadyH.cons rfl (fun K hK => ?_) AllReadyH.nil
      go_simp
      refine (HQ.out _ HB3.out.drew).mono ?_
      rintro e w5 ⟨rfl, hb5⟩
      exact ⟨rfl, rfl, HBA.out.drew.trans (hb5.mono HBA.out.drew.size)⟩
    | ok u =>
      obtain ⟨uk, un, ub⟩ := u
      simp only [endZ, vlA] at HQ
      have heq := run_eqlV vk uk vn un vb ub
      rw [thn_ok]
      unfold Ev.vb
      simp only [endB]
      rw [eqV] at heq ⊢
      go_enter Tryz.func221, Tryz.ntmps221
      go_wp2_with fail
      rw [← HW2.out]
      refine HC.out.mono ?_
      rintro e w1 ⟨rfl, hb⟩
      obtain ⟨W3, hW3⟩ : ∃ W3, W3 = w1.alloc (.cells #[.int .u8 (vk : Nat), .int .i64 vn, .bool vb] 67) := ⟨_, rfl⟩
      have hb3 : Below W2.heap.size W2 W3 := by rw [hW3]; exact hb.alloc hb.size _
      have kv : IsBlk W3 w1.heap.size 67 #[.int .u8 (vk : Nat), .int .i64 vn, .bool vb] := by rw [hW3]; exact IsBlk.new _ _ _
      obtain ⟨⟨x0, x1, x2⟩, -, -, -, -, y4, -⟩ := (HX.out.below hb3).cells
      have v0 := kv.at_ 0
      have v1 := kv.at_ 1
      have v2 := kv.at_ 2
      simp only [List.getElem?_toArray, List.getElem?_cons_zero, List.getElem?_cons_succ] at v0 v1 v2
      have HS := Lib.hid (fun w0 (h0 : Below W3.heap.size W3 w0) => (show (w0.cell? ⟨w'.heap.size, 0, none⟩ = some (.slice A n c) ∧ w0.cell? ⟨w'.heap.size, 1, none⟩ = some (.map (some mb)) ∧ w0.cell? ⟨w'.heap.size, 2, none⟩ = some (.map (some pb))) ∧ w0.cell? ⟨w'.heap.size + 1, 4, none⟩ = some (.int .i64 nb) ∧ w0.cell? ⟨w1.heap.size, 0, none⟩ = some (.int .u8 (vk : Nat)) ∧ w0.cell? ⟨w1.heap.size, 1, none⟩ = some (.int .i64 vn) ∧ w0.cell? ⟨w1.heap.size, 2, none⟩ = some (.bool vb) from by
        have q := ((HX.out.below hb3).below h0).cells
        have k := kv.below h0 kv.lt
        exact ⟨q.1, q.2.2.2.2.2.1, k.at_ 0, k.at_ 1, k.at_ 2⟩))
      have HB3 := Lib.hid hb3
      have HBA := Lib.hid (HB2.out.trans (hb3.mono HB2.out.size))
      have HW3 := Lib.hid hW3
      rw [hW3] at x0 x1 x2 y4 v0 v1 v2
      clear hb hb3 kv hW3
      have HY := Lib.hid (HS.out W3.drew (Below.refl _ _).drew)
      go_wp2_with fail
      rw [← HW3.out]
      go_region_held3 (fun w0 => (w0.cell? ⟨w'.heap.size, 0, none⟩ = some (.slice A n c) ∧ w0.cell? ⟨w'.heap.size, 1, none⟩ = some (.map (some mb)) ∧ w0.cell? ⟨w'.heap.size, 2, none⟩ = some (.map (some pb))) ∧ w0.cell? ⟨w'.heap.size + 1, 4, none⟩ = some (.int .i64 nb) ∧ w0.cell? ⟨w1.heap.size, 0, none⟩ = some (.int .u8 (vk : Nat)) ∧ w0.cell? ⟨w1.heap.size, 1, none⟩ = some (.int .i64 vn) ∧ w0.cell? ⟨w1.heap.size, 2, none⟩ = some (.bool vb)) (first | with_reducible exact HY.out | with_reducible exact HQ5.out.2) (first | (go_at_call 220; refine (HQ.out _ HB3.out.drew).mono ?_; rintro e w5 ⟨rfl, hb5⟩; have HQ5 := Lib.hid (And.intro (HBA.out.drew.trans (hb5.mono HBA.out.drew.size)) (HS.out _ ((Below.refl _ _).drew.trans hb5))); clear hb5))
      go_wp2
      go_ret
      exact ⟨rfl, HQ5.out.1⟩
def holdR (o : Nat) (RA RB : Ev.Rz) : Ev.Rz :=
  if o = 3 then .ok (Ev.vb true) else if o = 4 then .ok (Ev.vb false)
  else if o = 6 then Ev.thn (Ev.prt RA 2) fun v => .ok (Ev.vb (!v.b)) else if o = 16 then sameR RA RB else if o = 17 then Ev.thn (sameR RA RB) fun v => .ok (Ev.vb (!v.b)) else Ev.two o RA RB
set_option maxRecDepth 100000 in
theorem hold3_any (A : Option Addr) (n c mb pb : Nat) (num : Int) (N : ByteArray) (na nb nc : Int) (RA RB : Ev.Rz) (w' : World) :
    Calls Tryz.prog 193 #[rkA A n c mb pb, ndW 3 num N na nb nc] w' fun e w'' => e = endB (holdR 3 RA RB) ∧ Below w'.heap.size w' w'' := by
  obtain ⟨W2, hW2⟩ : ∃ W2, W2 = (w'.alloc (.cells #[.slice A n c, .map (some mb), .map (some pb)] 152)).alloc (.cells #[.int .u8 3, .int .i64 num, .string N, .int .i64 na, .int .i64 nb, .int .i64 nc] 34) := ⟨_, rfl⟩
  have hb2 : Below w'.heap.size w' W2 := by rw [hW2]; exact ((Below.refl _ _).alloc (Nat.le_refl _) _).alloc (by simp) _
  have hx : Bx2 W2 w'.heap.size A n c mb pb 3 num N na nb nc := by rw [hW2]; exact Bx2.new _ _ _ _ _ _ _ _ _ _ _ _
  have hb' := hb2
  have hq := hb2
  obtain ⟨⟨x0, x1, x2⟩, y0, y1, y2, y3, y4, y5⟩ := hx.cells
  have HX := Lib.hid hx
  have HB2 := Lib.hid hb2
  have HW2 := Lib.hid hW2
  unfold ndW
  clear hb2 hx hq hb'
  rw [hW2] at x0 x1 x2 y0 y1 y2 y3 y4 y5
  clear hW2
  show Calls _ _ _ _ fun e w'' => e = .returned (.bool true) ∧ _
  unfold rkA
  go_enter Tryz.func193, Tryz.ntmps193
  go_wp2
  go_ret
  rw [← HW2.out]
  exact ⟨rfl, HB2.out⟩
set_option maxRecDepth 100000 in
theorem hold4_any (A : Option Addr) (n c mb pb : Nat) (num : Int) (N : ByteArray) (na nb nc : Int) (RA RB : Ev.Rz) (w' : World) :
    Calls Tryz.prog 193 #[rkA A n c mb pb, ndW 4 num N na nb nc] w' fun e w'' => e = endB (holdR 4 RA RB) ∧ Below w'.heap.size w' w'' := by
  obtain ⟨W2, hW2⟩ : ∃ W2, W2 = (w'.alloc (.cells #[.slice A n c, .map (some mb), .map (some pb)] 152)).alloc (.cells #[.int .u8 4, .int .i64 num, .string N, .int .i64 na, .int .i64 nb, .int .i64 nc] 34) := ⟨_, rfl⟩
  have hb2 : Below w'.heap.size w' W2 := by rw [hW2]; exact ((Below.refl _ _).alloc (Nat.le_refl _) _).alloc (by simp) _
  have hx : Bx2 W2 w'.heap.size A n c mb pb 4 num N na nb nc := by rw [hW2]; exact Bx2.new _ _ _ _ _ _ _ _ _ _ _ _
  have hb' := hb2
  have hq := hb2
  obtain ⟨⟨x0, x1, x2⟩, y0, y1, y2, y3, y4, y5⟩ := hx.cells
  have HX := Lib.hid hx
  have HB2 := Lib.hid hb2
  have HW2 := Lib.hid hW2
  unfold ndW
  clear hb2 hx hq hb'
  rw [hW2] at x0 x1 x2 y0 y1 y2 y3 y4 y5
  clear hW2
  show Calls _ _ _ _ fun e w'' => e = .returned (.bool false) ∧ _
  unfold rkA
  go_enter Tryz.func193, Tryz.ntmps193
  go_wp2
  go_ret
  rw [← HW2.out]
  exact ⟨rfl, HB2.out⟩
set_option maxRecDepth 100000 in
theorem hold6_any (A : Option Addr) (n c mb pb : Nat) (w : World) (num : Int) (N : ByteArray) (na nb nc : Int) (RA RB : Ev.Rz) (hA : WoC (rkA A n c mb pb) w na RA) (w' : World) (hb' : Below w.heap.size w w') :
    Calls Tryz.prog 193 #[rkA A n c mb pb, ndW 6 num N na nb nc] w' fun e w'' => e = endB (holdR 6 RA RB) ∧ Below w'.heap.size w' w'' := by
  obtain ⟨W2, hW2⟩ : ∃ W2, W2 = (w'.alloc (.cells #[.slice A n c, .map (some mb), .map (some pb)] 152)).alloc (.cells #[.int .u8 6, .int .i64 num, .string N, .int .i64 na, .int .i64 nb, .int .i64 nc] 34) := ⟨_, rfl⟩
  have hb2 : Below w'.heap.size w' W2 := by rw [hW2]; exact ((Below.refl _ _).alloc (Nat.le_refl _) _).alloc (by simp) _
  have hx : Bx2 W2 w'.heap.size A n c mb pb 6 num N na nb nc := by rw [hW2]; exact Bx2.new _ _ _ _ _ _ _ _ _ _ _ _
  have HT := Lib.hid (evtruth_any A n c mb pb w na RA hA W2 (hb'.trans (hb2.mono hb'.size)))
  obtain ⟨⟨x0, x1, x2⟩, y0, y1, y2, y3, y4, y5⟩ := hx.cells
  have HX := Lib.hid hx
  have HB2 := Lib.hid hb2
  have HW2 := Lib.hid hW2
  unfold ndW
  clear hb2 hx hA hb'
  rw [hW2] at x0 x1 x2 y0 y1 y2 y3 y4 y5
  clear hW2
  have e0 : holdR 6 RA RB = Ev.thn (Ev.prt RA 2) fun v => .ok (Ev.vb (!v.b)) := rfl
  rw [e0]
  clear e0
  generalize Ev.prt RA 2 = Q at *
  unfold rkA at *
  cases Q with
  | er z =>
    simp only [endB, pan] at HT
    rw [thn_er]
    simp only [endB, pan]
    go_enter Tryz.func193, Tryz.ntmps193
    go_wp2_with fail
    rw [← HW2.out]
    refine HT.out.mono ?_
    rintro e w1 ⟨rfl, hb⟩
    have HB := Lib.hid (HB2.out.trans (hb.mono HB2.out.size))
    clear hb
    go_simp
    exact ⟨rfl, rfl, HB.out⟩
  | ok v =>
    obtain ⟨vk, vn, vb⟩ := v
    simp only [endB] at HT
    rw [thn_ok]
    unfold Ev.vb
    simp only [endB]
    go_enter Tryz.func193, Tryz.ntmps193
    go_wp2_with fail
    rw [← HW2.out]
    refine HT.out.mono ?_
    rintro e w1 ⟨rfl, hb⟩
    have HB := Lib.hid (HB2.out.trans (hb.mono HB2.out.size))
    clear hb
    go_wp2
    go_ret
    exact ⟨rfl, HB.out⟩
set_option maxRecDepth 100000 in
theorem hold16_any (A : Option Addr) (n c mb pb : Nat) (w : World) (num : Int) (N : ByteArray) (na nb nc : Int) (RA RB : Ev.Rz) (hA : WoC (rkA A n c mb pb) w na RA) (hB : WoC (rkA A n c mb pb) w nb RB) (w' : World) (hb' : Below w.heap.size w w') :
    Calls Tryz.prog 193 #[rkA A n c mb pb, ndW 16 num N na nb nc] w' fun e w'' => e = endB (holdR 16 RA RB) ∧ Below w'.heap.size w' w'' := by
  obtain ⟨W2, hW2⟩ : ∃ W2, W2 = (w'.alloc (.cells #[.slice A n c, .map (some mb), .map (some pb)] 152)).alloc (.cells #[.int .u8 16, .int .i64 num, .string N, .int .i64 na, .int .i64 nb, .int .i64 nc] 34) := ⟨_, rfl⟩
  have hb2 : Below w'.heap.size w' W2 := by rw [hW2]; exact ((Below.refl _ _).alloc (Nat.le_refl _) _).alloc (by simp) _
  have hx : Bx2 W2 w'.heap.size A n c mb pb 16 num N na nb nc := by rw [hW2]; exact Bx2.new _ _ _ _ _ _ _ _ _ _ _ _
  have HT := Lib.hid (same10_any A n c mb pb w 16 num N na nb nc RA RB hA hB W2 (hb'.trans (hb2.mono hb'.size)))
  unfold ndW at HT
  obtain ⟨⟨x0, x1, x2⟩, y0, y1, y2, y3, y4, y5⟩ := hx.cells
  have HX := Lib.hid hx
  have HB2 := Lib.hid hb2
  have HW2 := Lib.hid hW2
  unfold ndW
  clear hb2 hx hA hB hb'
  rw [hW2] at x0 x1 x2 y0 y1 y2 y3 y4 y5
  clear hW2
  have e0 : holdR 16 RA RB = sameR RA RB := rfl
  rw [e0]
  clear e0
  generalize sameR RA RB = Q at *
  unfold rkA at *
  cases Q with
  | er z =>
    simp only [endB, pan] at HT
    try rw [thn_er]
    simp only [endB, pan]
    go_enter Tryz.func193, Tryz.ntmps193
    go_wp2_with fail
    rw [← HW2.out]
    refine HT.out.mono ?_
    rintro e w1 ⟨rfl, hb⟩
    have HB := Lib.hid (HB2.out.trans (hb.mono HB2.out.size))
    clear hb
    go_simp
    exact ⟨rfl, rfl, HB.out⟩
  | ok v =>
    obtain ⟨vk, vn, vb⟩ := v
    simp only [endB] at HT
    try (rw [thn_ok]; unfold Ev.vb)
    simp only [endB]
    go_enter Tryz.func193, Tryz.ntmps193
    go_wp2_with fail
    rw [← HW2.out]
    refine HT.out.mono ?_
    rintro e w1 ⟨rfl, hb⟩
    have HB := Lib.hid (HB2.out.trans (hb.mono HB2.out.size))
    clear hb
    go_wp2
    go_ret
    exact ⟨rfl, HB.out⟩
set_option maxRecDepth 100000 in
theorem hold17_any (A : Option Addr) (n c mb pb : Nat) (w : World) (num : Int) (N : ByteArray) (na nb nc : Int) (RA RB : Ev.Rz) (hA : WoC (rkA A n c mb pb) w na RA) (hB : WoC (rkA A n c mb pb) w nb RB) (w' : World) (hb' : Below w.heap.size w w') :
    Calls Tryz.prog 193 #[rkA A n c mb pb, ndW 17 num N na nb nc] w' fun e w'' => e = endB (holdR 17 RA RB) ∧ Below w'.heap.size w' w'' := by
  obtain ⟨W2, hW2⟩ : ∃ W2, W2 = (w'.alloc (.cells #[.slice A n c, .map (some mb), .map (some pb)] 152)).alloc (.cells #[.int .u8 17, .int .i64 num, .string N, .int .i64 na, .int .i64 nb, .int .i64 nc] 34) := ⟨_, rfl⟩
  have hb2 : Below w'.heap.size w' W2 := by rw [hW2]; exact ((Below.refl _ _).alloc (Nat.le_refl _) _).alloc (by simp) _
  have hx : Bx2 W2 w'.heap.size A n c mb pb 17 num N na nb nc := by rw [hW2]; exact Bx2.new _ _ _ _ _ _ _ _ _ _ _ _
  have HT := Lib.hid (same10_any A n c mb pb w 17 num N na nb nc RA RB hA hB W2 (hb'.trans (hb2.mono hb'.size)))
  unfold ndW at HT
  obtain ⟨⟨x0, x1, x2⟩, y0, y1, y2, y3, y4, y5⟩ := hx.cells
  have HX := Lib.hid hx
  have HB2 := Lib.hid hb2
  have HW2 := Lib.hid hW2
  unfold ndW
  clear hb2 hx hA hB hb'
  rw [hW2] at x0 x1 x2 y0 y1 y2 y3 y4 y5
  clear hW2
  have e0 : holdR 17 RA RB = Ev.thn (sameR RA RB) fun v => .ok (Ev.vb (!v.b)) := rfl
  rw [e0]
  clear e0
  generalize sameR RA RB = Q at *
  unfold rkA at *
  cases Q with
  | er z =>
    simp only [endB, pan] at HT
    try rw [thn_er]
    simp only [endB, pan]
    go_enter Tryz.func193, Tryz.ntmps193
    go_wp2_with fail
    rw [← HW2.out]
    refine HT.out.mono ?_
    rintro e w1 ⟨rfl, hb⟩
    have HB := Lib.hid (HB2.out.trans (hb.mono HB2.out.size))
    clear hb
    go_simp
    exact ⟨rfl, rfl, HB.out⟩
  | ok v =>
    obtain ⟨vk, vn, vb⟩ := v
    simp only [endB] at HT
    try (rw [thn_ok]; unfold Ev.vb)
    simp only [endB]
    go_enter Tryz.func193, Tryz.ntmps193
    go_wp2_with fail
    rw [← HW2.out]
    refine HT.out.mono ?_
    rintro e w1 ⟨rfl, hb⟩
    have HB := Lib.hid (HB2.out.trans (hb.mono HB2.out.size))
    clear hb
    go_wp2
    go_ret
    exact ⟨rfl, HB.out⟩
set_option maxHeartbeats 1000000 in
set_option maxRecDepth 100000 in
theorem hold18_any (A : Option Addr) (n c mb pb : Nat) (w : World) (num : Int) (N : ByteArray) (na nb nc : Int) (RA RB : Ev.Rz) (hA : WoC (rkA A n c mb pb) w na RA) (hB : WoC (rkA A n c mb pb) w nb RB) (w' : World) (hb' : Below w.heap.size w w') :
    Calls Tryz.prog 193 #[rkA A n c mb pb, ndW 18 num N na nb nc] w' fun e w'' => e = endB (holdR 18 RA RB) ∧ Below w'.heap.size w' w'' := by
  obtain ⟨W2, hW2⟩ : ∃ W2, W2 = (w'.alloc (.cells #[.slice A n c, .map (some mb), .map (some pb)] 152)).alloc (.cells #[.int .u8 18, .int .i64 num, .string N, .int .i64 na, .int .i64 nb, .int .i64 nc] 34) := ⟨_, rfl⟩
  have hb2 : Below w'.heap.size w' W2 := by rw [hW2]; exact ((Below.refl _ _).alloc (Nat.le_refl _) _).alloc (by simp) _
  have hx : Bx2 W2 w'.heap.size A n c mb pb 18 num N na nb nc := by rw [hW2]; exact Bx2.new _ _ _ _ _ _ _ _ _ _ _ _
  have HT := Lib.hid (evtruth_any A n c mb pb w na RA hA W2 (hb'.trans (hb2.mono hb'.size)))
  have HT2 := Lib.hid (fun w0 (h0 : Below W2.heap.size W2 w0) => evtruth_any A n c mb pb w nb RB hB w0 (hb'.trans ((hb2.trans (h0.mono hb2.size)).mono hb'.size)))
  obtain ⟨⟨x0, x1, x2⟩, y0, y1, y2, y3, y4, y5⟩ := hx.cells
  have HX := Lib.hid hx
  have HB2 := Lib.hid hb2
  have HW2 := Lib.hid hW2
  unfold ndW
  clear hb2 hx hA hB hb'
  rw [hW2] at x0 x1 x2 y0 y1 y2 y3 y4 y5
  clear hW2
  have e0 : holdR 18 RA RB = Ev.two 18 RA RB := rfl
  rw [e0]
  have e1 : Ev.two 18 RA RB = Ev.thn (Ev.prt RA 2) fun v => if v.b = true then Ev.thn (Ev.prt RB 2) fun u => .ok (Ev.vb u.b) else .ok (Ev.vb false) := by
    unfold Ev.two
    refine congrArg (Ev.thn (Ev.prt RA 2)) (funext fun v => ?_)
    cases v.b <;> rfl
  rw [e1]
  clear e0 e1
  generalize Ev.prt RA 2 = Q at *
  generalize Ev.prt RB 2 = Q2 at *
  unfold rkA at *
  cases Q with
  | er z =>
    simp only [endB, pan] at HT
    rw [thn_er]
    simp only [endB, pan]
    go_enter Tryz.func193, Tryz.ntmps193
    go_wp2_with fail
    rw [← HW2.out]
    refine HT.out.mono ?_
    rintro e w1 ⟨rfl, hb⟩
    have HB := Lib.hid (HB2.out.trans (hb.mono HB2.out.size))
    clear hb
    go_simp
    exact ⟨rfl, rfl, HB.out⟩
  | ok v =>
    obtain ⟨vk, vn, vb⟩ := v
    simp only [endB] at HT
    rw [thn_ok]
    by_cases hv : vb = true
    · subst hv
      rw [if_pos rfl]
      cases Q2 with
      | er z =>
        simp only [endB, pan] at HT2
        rw [thn_er]
        simp only [endB, pan]
        go_enter Tryz.func193, Tryz.ntmps193
        go_wp2_with fail
        rw [← HW2.out]
        refine HT.out.mono ?_
        rintro e w1 ⟨rfl, hb⟩
        obtain ⟨⟨x0, x1, x2⟩, -, -, -, y3, y4, -⟩ := (HX.out.below hb).cells
        have HB := Lib.hid (HB2.out.trans (hb.mono HB2.out.size))
        have HT3 := Lib.hid (HT2.out _ hb)
        clear hb HT2
        go_wp2_with fail
        refine HT3.out.mono ?_
        rintro e w2 ⟨rfl, hb⟩
        have HB3 := Lib.hid (HB.out.trans (hb.mono HB.out.size))
        clear hb
        go_simp
        exact ⟨rfl, rfl, HB3.out⟩
      | ok u =>
        obtain ⟨uk, un, ub⟩ := u
        simp only [endB] at HT2
        rw [thn_ok]
        unfold Ev.vb
        simp only [endB]
        go_enter Tryz.func193, Tryz.ntmps193
        go_wp2_with fail
        rw [← HW2.out]
        refine HT.out.mono ?_
        rintro e w1 ⟨rfl, hb⟩
        obtain ⟨⟨x0, x1, x2⟩, -, -, -, y3, y4, -⟩ := (HX.out.below hb).cells
        have HB := Lib.hid (HB2.out.trans (hb.mono HB2.out.size))
        have HT3 := Lib.hid (HT2.out _ hb)
        clear hb HT2
        go_wp2_with fail
        refine HT3.out.mono ?_
        rintro e w2 ⟨rfl, hb⟩
        have HB3 := Lib.hid (HB.out.trans (hb.mono HB.out.size))
        clear hb
        go_wp2
        go_ret
        exact ⟨rfl, HB3.out⟩
    · have hv2 : vb = !true := by revert hv; cases vb <;> simp
      rw [if_neg hv]
      unfold Ev.vb
      simp only [endB]
      subst hv2
      clear hv
      go_enter Tryz.func193, Tryz.ntmps193
      go_wp2_with fail
      rw [← HW2.out]
      refine HT.out.mono ?_
      rintro e w1 ⟨rfl, hb⟩
      have HB := Lib.hid (HB2.out.trans (hb.mono HB2.out.size))
      clear hb
      go_wp2
      go_ret
      exact ⟨rfl, HB.out⟩
set_option maxHeartbeats 1000000 in
set_option maxRecDepth 100000 in
theorem hold19_any (A : Option Addr) (n c mb pb : Nat) (w : World) (num : Int) (N : ByteArray) (na nb nc : Int) (RA RB : Ev.Rz) (hA : WoC (rkA A n c mb pb) w na RA) (hB : WoC (rkA A n c mb pb) w nb RB) (w' : World) (hb' : Below w.heap.size w w') :
    Calls Tryz.prog 193 #[rkA A n c mb pb, ndW 19 num N na nb nc] w' fun e w'' => e = endB (holdR 19 RA RB) ∧ Below w'.heap.size w' w'' := by
  obtain ⟨W2, hW2⟩ : ∃ W2, W2 = (w'.alloc (.cells #[.slice A n c, .map (some mb), .map (some pb)] 152)).alloc (.cells #[.int .u8 19, .int .i64 num, .string N, .int .i64 na, .int .i64 nb, .int .i64 nc] 34) := ⟨_, rfl⟩
  have hb2 : Below w'.heap.size w' W2 := by rw [hW2]; exact ((Below.refl _ _).alloc (Nat.le_refl _) _).alloc (by simp) _
  have hx : Bx2 W2 w'.heap.size A n c mb pb 19 num N na nb nc := by rw [hW2]; exact Bx2.new _ _ _ _ _ _ _ _ _ _ _ _
  have HT := Lib.hid (evtruth_any A n c mb pb w na RA hA W2 (hb'.trans (hb2.mono hb'.size)))
  have HT2 := Lib.hid (fun w0 (h0 : Below W2.heap.size W2 w0) => evtruth_any A n c mb pb w nb RB hB w0 (hb'.trans ((hb2.trans (h0.mono hb2.size)).mono hb'.size)))
  obtain ⟨⟨x0, x1, x2⟩, y0, y1, y2, y3, y4, y5⟩ := hx.cells
  have HX := Lib.hid hx
  have HB2 := Lib.hid hb2
  have HW2 := Lib.hid hW2
  unfold ndW
  clear hb2 hx hA hB hb'
  rw [hW2] at x0 x1 x2 y0 y1 y2 y3 y4 y5
  clear hW2
  have e0 : holdR 19 RA RB = Ev.two 19 RA RB := rfl
  rw [e0]
  have e1 : Ev.two 19 RA RB = Ev.thn (Ev.prt RA 2) fun v => if v.b = false then Ev.thn (Ev.prt RB 2) fun u => .ok (Ev.vb u.b) else .ok (Ev.vb true) := by
    unfold Ev.two
    refine congrArg (Ev.thn (Ev.prt RA 2)) (funext fun v => ?_)
    cases v.b <;> rfl
  rw [e1]
  clear e0 e1
  generalize Ev.prt RA 2 = Q at *
  generalize Ev.prt RB 2 = Q2 at *
  unfold rkA at *
  cases Q with
  | er z =>
    simp only [endB, pan] at HT
    rw [thn_er]
    simp only [endB, pan]
    go_enter Tryz.func193, Tryz.ntmps193
    go_wp2_with fail
    rw [← HW2.out]
    refine HT.out.mono ?_
    rintro e w1 ⟨rfl, hb⟩
    have HB := Lib.hid (HB2.out.trans (hb.mono HB2.out.size))
    clear hb
    go_simp
    exact ⟨rfl, rfl, HB.out⟩
  | ok v =>
    obtain ⟨vk, vn, vb⟩ := v
    simp only [endB] at HT
    rw [thn_ok]
    by_cases hv : vb = false
    · subst hv
      rw [if_pos rfl]
      cases Q2 with
      | er z =>
        simp only [endB, pan] at HT2
        rw [thn_er]
        simp only [endB, pan]
        go_enter Tryz.func193, Tryz.ntmps193
        go_wp2_with fail
        rw [← HW2.out]
        refine HT.out.mono ?_
        rintro e w1 ⟨rfl, hb⟩
        obtain ⟨⟨x0, x1, x2⟩, -, -, -, y3, y4, -⟩ := (HX.out.below hb).cells
        have HB := Lib.hid (HB2.out.trans (hb.mono HB2.out.size))
        have HT3 := Lib.hid (HT2.out _ hb)
        clear hb HT2
        go_wp2_with fail
        refine HT3.out.mono ?_
        rintro e w2 ⟨rfl, hb⟩
        have HB3 := Lib.hid (HB.out.trans (hb.mono HB.out.size))
        clear hb
        go_simp
        exact ⟨rfl, rfl, HB3.out⟩
      | ok u =>
        obtain ⟨uk, un, ub⟩ := u
        simp only [endB] at HT2
        rw [thn_ok]
        unfold Ev.vb
        simp only [endB]
        go_enter Tryz.func193, Tryz.ntmps193
        go_wp2_with fail
        rw [← HW2.out]
        refine HT.out.mono ?_
        rintro e w1 ⟨rfl, hb⟩
        obtain ⟨⟨x0, x1, x2⟩, -, -, -, y3, y4, -⟩ := (HX.out.below hb).cells
        have HB := Lib.hid (HB2.out.trans (hb.mono HB2.out.size))
        have HT3 := Lib.hid (HT2.out _ hb)
        clear hb HT2
        go_wp2_with fail
        refine HT3.out.mono ?_
        rintro e w2 ⟨rfl, hb⟩
        have HB3 := Lib.hid (HB.out.trans (hb.mono HB.out.size))
        clear hb
        go_wp2
        go_ret
        exact ⟨rfl, HB3.out⟩
    · have hv2 : vb = !false := by revert hv; cases vb <;> simp
      rw [if_neg hv]
      unfold Ev.vb
      simp only [endB]
      subst hv2
      clear hv
      go_enter Tryz.func193, Tryz.ntmps193
      go_wp2_with fail
      rw [← HW2.out]
      refine HT.out.mono ?_
      rintro e w1 ⟨rfl, hb⟩
      have HB := Lib.hid (HB2.out.trans (hb.mono HB2.out.size))
      clear hb
      go_wp2
      go_ret
      exact ⟨rfl, HB.out⟩
set_option maxHeartbeats 1000000 in
set_option maxRecDepth 100000 in
theorem hold21_any (A : Option Addr) (n c mb pb : Nat) (w : World) (num : Int) (N : ByteArray) (na nb nc : Int) (RA RB : Ev.Rz) (hA : WoC (rkA A n c mb pb) w na RA) (hB : WoC (rkA A n c mb pb) w nb RB) (w' : World) (hb' : Below w.heap.size w w') :
    Calls Tryz.prog 193 #[rkA A n c mb pb, ndW 21 num N na nb nc] w' fun e w'' => e = endB (holdR 21 RA RB) ∧ Below w'.heap.size w' w'' := by
  obtain ⟨W2, hW2⟩ : ∃ W2, W2 = (w'.alloc (.cells #[.slice A n c, .map (some mb), .map (some pb)] 152)).alloc (.cells #[.int .u8 21, .int .i64 num, .string N, .int .i64 na, .int .i64 nb, .int .i64 nc] 34) := ⟨_, rfl⟩
  have hb2 : Below w'.heap.size w' W2 := by rw [hW2]; exact ((Below.refl _ _).alloc (Nat.le_refl _) _).alloc (by simp) _
  have hx : Bx2 W2 w'.heap.size A n c mb pb 21 num N na nb nc := by rw [hW2]; exact Bx2.new _ _ _ _ _ _ _ _ _ _ _ _
  have HT := Lib.hid (evtruth_any A n c mb pb w na RA hA W2 (hb'.trans (hb2.mono hb'.size)))
  have HT2 := Lib.hid (fun w0 (h0 : Below W2.heap.size W2 w0) => evtruth_any A n c mb pb w nb RB hB w0 (hb'.trans ((hb2.trans (h0.mono hb2.size)).mono hb'.size)))
  obtain ⟨⟨x0, x1, x2⟩, y0, y1, y2, y3, y4, y5⟩ := hx.cells
  have HX := Lib.hid hx
  have HB2 := Lib.hid hb2
  have HW2 := Lib.hid hW2
  unfold ndW
  clear hb2 hx hA hB hb'
  rw [hW2] at x0 x1 x2 y0 y1 y2 y3 y4 y5
  clear hW2
  have e0 : holdR 21 RA RB = Ev.two 21 RA RB := rfl
  rw [e0]
  have e1 : Ev.two 21 RA RB = Ev.thn (Ev.prt RA 2) fun v => if v.b = true then Ev.thn (Ev.prt RB 2) fun u => .ok (Ev.vb u.b) else .ok (Ev.vb true) := by
    unfold Ev.two
    refine congrArg (Ev.thn (Ev.prt RA 2)) (funext fun v => ?_)
    cases v.b <;> rfl
  rw [e1]
  clear e0 e1
  generalize Ev.prt RA 2 = Q at *
  generalize Ev.prt RB 2 = Q2 at *
  unfold rkA at *
  cases Q with
  | er z =>
    simp only [endB, pan] at HT
    rw [thn_er]
    simp only [endB, pan]
    go_enter Tryz.func193, Tryz.ntmps193
    go_wp2_with fail
    rw [← HW2.out]
    refine HT.out.mono ?_
    rintro e w1 ⟨rfl, hb⟩
    have HB := Lib.hid (HB2.out.trans (hb.mono HB2.out.size))
    clear hb
    go_simp
    exact ⟨rfl, rfl, HB.out⟩
  | ok v =>
    obtain ⟨vk, vn, vb⟩ := v
    simp only [endB] at HT
    rw [thn_ok]
    by_cases hv : vb = true
    · subst hv
      rw [if_pos rfl]
      cases Q2 with
      | er z =>
        simp only [endB, pan] at HT2
        rw [thn_er]
        simp only [endB, pan]
        go_enter Tryz.func193, Tryz.ntmps193
        go_wp2_with fail
        rw [← HW2.out]
        refine HT.out.mono ?_
        rintro e w1 ⟨rfl, hb⟩
        obtain ⟨⟨x0, x1, x2⟩, -, -, -, y3, y4, -⟩ := (HX.out.below hb).cells
        have HB := Lib.hid (HB2.out.trans (hb.mono HB2.out.size))
        have HT3 := Lib.hid (HT2.out _ hb)
        clear hb HT2
        go_wp2_with fail
        refine HT3.out.mono ?_
        rintro e w2 ⟨rfl, hb⟩
        have HB3 := Lib.hid (HB.out.trans (hb.mono HB.out.size))
        clear hb
        go_simp
        exact ⟨rfl, rfl, HB3.out⟩
      | ok u =>
        obtain ⟨uk, un, ub⟩ := u
        simp only [endB] at HT2
        rw [thn_ok]
        unfold Ev.vb
        simp only [endB]
        go_enter Tryz.func193, Tryz.ntmps193
        go_wp2_with fail
        rw [← HW2.out]
        refine HT.out.mono ?_
        rintro e w1 ⟨rfl, hb⟩
        obtain ⟨⟨x0, x1, x2⟩, -, -, -, y3, y4, -⟩ := (HX.out.below hb).cells
        have HB := Lib.hid (HB2.out.trans (hb.mono HB2.out.size))
        have HT3 := Lib.hid (HT2.out _ hb)
        clear hb HT2
        go_wp2_with fail
        refine HT3.out.mono ?_
        rintro e w2 ⟨rfl, hb⟩
        have HB3 := Lib.hid (HB.out.trans (hb.mono HB.out.size))
        clear hb
        go_wp2
        go_ret
        exact ⟨rfl, HB3.out⟩
    · have hv2 : vb = !true := by revert hv; cases vb <;> simp
      rw [if_neg hv]
      unfold Ev.vb
      simp only [endB]
      subst hv2
      clear hv
      go_enter Tryz.func193, Tryz.ntmps193
      go_wp2_with fail
      rw [← HW2.out]
      refine HT.out.mono ?_
      rintro e w1 ⟨rfl, hb⟩
      have HB := Lib.hid (HB2.out.trans (hb.mono HB2.out.size))
      clear hb
      go_wp2
      go_ret
      exact ⟨rfl, HB.out⟩
set_option maxHeartbeats 1000000 in
set_option maxRecDepth 100000 in
theorem hold20_any (A : Option Addr) (n c mb pb : Nat) (w : World) (num : Int) (N : ByteArray) (na nb nc : Int) (RA RB : Ev.Rz) (hA : WoC (rkA A n c mb pb) w na RA) (hB : WoC (rkA A n c mb pb) w nb RB) (w' : World) (hb' : Below w.heap.size w w') :
    Calls Tryz.prog 193 #[rkA A n c mb pb, ndW 20 num N na nb nc] w' fun e w'' => e = endB (holdR 20 RA RB) ∧ Below w'.heap.size w' w'' := by
  obtain ⟨W2, hW2⟩ : ∃ W2, W2 = (w'.alloc (.cells #[.slice A n c, .map (some mb), .map (some pb)] 152)).alloc (.cells #[.int .u8 20, .int .i64 num, .string N, .int .i64 na, .int .i64 nb, .int .i64 nc] 34) := ⟨_, rfl⟩
  have hb2 : Below w'.heap.size w' W2 := by rw [hW2]; exact ((Below.refl _ _).alloc (Nat.le_refl _) _).alloc (by simp) _
  have hx : Bx2 W2 w'.heap.size A n c mb pb 20 num N na nb nc := by rw [hW2]; exact Bx2.new _ _ _ _ _ _ _ _ _ _ _ _
  have HT := Lib.hid (fun w0 (h0 : Below W2.heap.size W2 w0) => evtruth_any A n c mb pb w na RA hA w0 (hb'.trans ((hb2.trans (h0.mono hb2.size)).mono hb'.size)))
  have HT2 := Lib.hid (fun w0 (h0 : Below W2.heap.size W2 w0) => evtruth_any A n c mb pb w nb RB hB w0 (hb'.trans ((hb2.trans (h0.mono hb2.size)).mono hb'.size)))
  have HS := Lib.hid (fun w0 (h0 : Below W2.heap.size W2 w0) => (show (w0.cell? ⟨w'.heap.size, 0, none⟩ = some (.slice A n c) ∧ w0.cell? ⟨w'.heap.size, 1, none⟩ = some (.map (some mb)) ∧ w0.cell? ⟨w'.heap.size, 2, none⟩ = some (.map (some pb))) ∧ w0.cell? ⟨w'.heap.size + 1, 3, none⟩ = some (.int .i64 na) ∧ w0.cell? ⟨w'.heap.size + 1, 4, none⟩ = some (.int .i64 nb) from by
    have q := (hx.below h0).cells
    exact ⟨q.1, q.2.2.2.2.1, q.2.2.2.2.2.1⟩))
  have HY := Lib.hid (HS.out W2.drew (Below.refl _ _).drew)
  obtain ⟨⟨x0, x1, x2⟩, y0, y1, y2, y3, y4, y5⟩ := hx.cells
  have HX := Lib.hid hx
  have HB2 := Lib.hid hb2
  have HW2 := Lib.hid hW2
  unfold ndW
  clear hb2 hx hA hB hb'
  rw [hW2] at x0 x1 x2 y0 y1 y2 y3 y4 y5
  clear hW2
  have e1 : holdR 20 RA RB = Ev.thn (Ev.prt RA 2) fun v => Ev.thn (Ev.prt RB 2) fun u => .ok (Ev.vb (v.b != u.b)) := rfl
  rw [e1]
  clear e1
  generalize Ev.prt RA 2 = Q at *
  generalize Ev.prt RB 2 = Q2 at *
  unfold rkA at *
  have HBD := Lib.hid (fun w0 (h0 : Below W2.heap.size W2 w0) => HB2.out.trans (h0.mono HB2.out.size))
  cases Q with
  | er z =>
    simp only [endB, pan] at HT
    rw [thn_er]
    simp only [endB, pan]
    go_enter Tryz.func193, Tryz.ntmps193
    go_wp2_with fail
    rw [← HW2.out]
    refine wp_region_held_drew (S := fun w0 => (w0.cell? ⟨w'.heap.size, 0, none⟩ = some (.slice A n c) ∧ w0.cell? ⟨w'.heap.size, 1, none⟩ = some (.map (some mb)) ∧ w0.cell? ⟨w'.heap.size, 2, none⟩ = some (.map (some pb))) ∧ w0.cell? ⟨w'.heap.size + 1, 3, none⟩ = some (.int .i64 na) ∧ w0.cell? ⟨w'.heap.size + 1, 4, none⟩ = some (.int .i64 nb)) (by kernel_rfl) HY.out (fun hHeld => ?_)
    refine wpAnyH_take (i := 0) (v := .agg #[.slice A n c, .map (some mb), .map (some pb)]) rfl (by kernel_rfl) (by kernel_rfl) (by kernel_rfl) (fun _ _ _ h => h) (Or.inl ⟨by rfl, by (intro w hS; try (obtain ⟨⟨s0, s1, s2⟩, s3, s4⟩ := hS); go_simp)⟩) hHeld ?_
    try simp only [Act.put, List.getElem_toArray, List.getElem_cons_zero, List.setIfInBounds_toArray, List.set_cons_zero, List.set_cons_succ]
    refine wpAnyH_take (i := 1) (v := .pointer (some ⟨w'.heap.size + 1, 3, none⟩)) rfl (by kernel_rfl) (by kernel_rfl) (by kernel_rfl) (fun _ _ _ h => h) (Or.inl ⟨by rfl, by (intro w hS; try (obtain ⟨⟨s0, s1, s2⟩, s3, s4⟩ := hS); go_simp)⟩) hHeld ?_
    try simp only [Act.put, List.getElem_toArray, List.getElem_cons_succ, List.getElem_cons_zero, List.setIfInBounds_toArray, List.set_cons_zero, List.set_cons_succ]
    refine wpAnyH_take (i := 2) (v := .int .i64 na) rfl (by kernel_rfl) (by kernel_rfl) (by kernel_rfl) (fun _ _ _ h => h) (Or.inl ⟨by rfl, by (intro w hS; try (obtain ⟨⟨s0, s1, s2⟩, s3, s4⟩ := hS); go_simp)⟩) hHeld ?_
    try simp only [Act.put, List.getElem_toArray, List.getElem_cons_succ, List.getElem_cons_zero, List.setIfInBounds_toArray, List.set_cons_zero, List.set_cons_succ]
    refine wpAnyH_take (i := 4) (v := .agg #[.slice A n c, .map (some mb), .map (some pb)]) rfl (by kernel_rfl) (by kernel_rfl) (by kernel_rfl) (fun _ _ _ h => h) (Or.inl ⟨by rfl, by (intro w hS; try (obtain ⟨⟨s0, s1, s2⟩, s3, s4⟩ := hS); go_simp)⟩) hHeld ?_
    try simp only [Act.put, List.getElem_toArray, List.getElem_cons_succ, List.getElem_cons_zero, List.setIfInBounds_toArray, List.set_cons_zero, List.set_cons_succ]
    refine wpAnyH_take (i := 5) (v := .pointer (some ⟨w'.heap.size + 1, 4, none⟩)) rfl (by kernel_rfl) (by kernel_rfl) (by kernel_rfl) (fun _ _ _ h => h) (Or.inl ⟨by rfl, by (intro w hS; try (obtain ⟨⟨s0, s1, s2⟩, s3, s4⟩ := hS); go_simp)⟩) hHeld ?_
    try simp only [Act.put, List.getElem_toArray, List.getElem_cons_succ, List.getElem_cons_zero, List.setIfInBounds_toArray, List.set_cons_zero, List.set_cons_succ]
    refine wpAnyH_take (i := 6) (v := .int .i64 nb) rfl (by kernel_rfl) (by kernel_rfl) (by kernel_rfl) (fun _ _ _ h => h) (Or.inl ⟨by rfl, by (intro w hS; try (obtain ⟨⟨s0, s1, s2⟩, s3, s4⟩ := hS); go_simp)⟩) hHeld ?_
    try simp only [Act.put, List.getElem_toArray, List.getElem_cons_succ, List.getElem_cons_zero, List.setIfInBounds_toArray, List.set_cons_zero, List.set_cons_succ]
    refine wpAnyH_ready (rs := [3]) (by kernel_rfl) (by simp) ?_
    refine AllReadyH.cons rfl (fun K hK => ?_) AllReadyH.nil
    go_simp
    refine (HT.out _ (Below.refl _ _).drew).mono ?_
    rintro e w5 ⟨rfl, hb5⟩
    exact ⟨rfl, rfl, HBD.out _ ((Below.refl _ _).drew.trans hb5)⟩
  | ok v =>
    obtain ⟨vk, vn, vb⟩ := v
    simp only [endB] at HT
    rw [thn_ok]
    cases Q2 with
    | er z =>
      simp only [endB, pan] at HT2
      rw [thn_er]
      simp only [endB, pan]
      go_enter Tryz.func193, Tryz.ntmps193
      go_wp2_with fail
      rw [← HW2.out]
      refine wp_region_held_drew (S := fun w0 => (w0.cell? ⟨w'.heap.size, 0, none⟩ = some (.slice A n c) ∧ w0.cell? ⟨w'.heap.size, 1, none⟩ = some (.map (some mb)) ∧ w0.cell? ⟨w'.heap.size, 2, none⟩ = some (.map (some pb))) ∧ w0.cell? ⟨w'.heap.size + 1, 3, none⟩ = some (.int .i64 na) ∧ w0.cell? ⟨w'.heap.size + 1, 4, none⟩ = some (.int .i64 nb)) (by kernel_rfl) HY.out (fun hHeld => ?_)
      refine wpAnyH_take (i := 0) (v := .agg #[.slice A n c, .map (some mb), .map (some pb)]) rfl (by kernel_rfl) (by kernel_rfl) (by kernel_rfl) (fun _ _ _ h => h) (Or.inl ⟨by rfl, by (intro w hS; try (obtain ⟨⟨s0, s1, s2⟩, s3, s4⟩ := hS); go_simp)⟩) hHeld ?_
      try simp only [Act.put, List.getElem_toArray, List.getElem_cons_zero, List.setIfInBounds_toArray, List.set_cons_zero, List.set_cons_succ]
      refine wpAnyH_take (i := 1) (v := .pointer (some ⟨w'.heap.size + 1, 3, none⟩)) rfl (by kernel_rfl) (by kernel_rfl) (by kernel_rfl) (fun _ _ _ h => h) (Or.inl ⟨by rfl, by (intro w hS; try (obtain ⟨⟨s0, s1, s2⟩, s3, s4⟩ := hS); go_simp)⟩) hHeld ?_
      try simp only [Act.put, List.getElem_toArray, List.getElem_cons_succ, List.getElem_cons_zero, List.setIfInBounds_toArray, List.set_cons_zero, List.set_cons_succ]
      refine wpAnyH_take (i := 2) (v := .int .i64 na) rfl (by kernel_rfl) (by kernel_rfl) (by kernel_rfl) (fun _ _ _ h => h) (Or.inl ⟨by rfl, by (intro w hS; try (obtain ⟨⟨s0, s1, s2⟩, s3, s4⟩ := hS); go_simp)⟩) hHeld ?_
      try simp only [Act.put, List.getElem_toArray, List.getElem_cons_succ, List.getElem_cons_zero, List.setIfInBounds_toArray, List.set_cons_zero, List.set_cons_succ]
      refine wpAnyH_take (i := 4) (v := .agg #[.slice A n c, .map (some mb), .map (some pb)]) rfl (by kernel_rfl) (by kernel_rfl) (by kernel_rfl) (fun _ _ _ h => h) (Or.inl ⟨by rfl, by (intro w hS; try (obtain ⟨⟨s0, s1, s2⟩, s3, s4⟩ := hS); go_simp)⟩) hHeld ?_
      try simp only [Act.put, List.getElem_toArray, List.getElem_cons_succ, List.getElem_cons_zero, List.setIfInBounds_toArray, List.set_cons_zero, List.set_cons_succ]
      refine wpAnyH_take (i := 5) (v := .pointer (some ⟨w'.heap.size + 1, 4, none⟩)) rfl (by kernel_rfl) (by kernel_rfl) (by kernel_rfl) (fun _ _ _ h => h) (Or.inl ⟨by rfl, by (intro w hS; try (obtain ⟨⟨s0, s1, s2⟩, s3, s4⟩ := hS); go_simp)⟩) hHeld ?_
      try simp only [Act.put, List.getElem_toArray, List.getElem_cons_succ, List.getElem_cons_zero, List.setIfInBounds_toArray, List.set_cons_zero, List.set_cons_succ]
      refine wpAnyH_take (i := 6) (v := .int .i64 nb) rfl (by kernel_rfl) (by kernel_rfl) (by kernel_rfl) (fun _ _ _ h => h) (Or.inl ⟨by rfl, by (intro w hS; try (obtain ⟨⟨s0, s1, s2⟩, s3, s4⟩ := hS); go_simp)⟩) hHeld ?_
      try simp only [Act.put, List.getElem_toArray, List.getElem_cons_succ, List.getElem_cons_zero, List.setIfInBounds_toArray, List.set_cons_zero, List.set_cons_succ]
      refine wpAnyH_ready (rs := [3]) (by kernel_rfl) (by simp) ?_
      refine AllReadyH.cons rfl (fun K hK => ?_) AllReadyH.nil
      go_simp
      refine (HT.out _ (Below.refl _ _).drew).mono ?_
      rintro e w5 ⟨rfl, hb5⟩
      have HB5 := Lib.hid ((Below.refl W2.heap.size W2).drew.trans hb5)
      clear hb5
      refine hK _ _ (HS.out _ HB5.out) (fun hHeld => ?_)
      clear hK K
      try simp only [Act.put, List.getElem_toArray, List.getElem_cons_succ, List.getElem_cons_zero, List.setIfInBounds_toArray, List.set_cons_zero, List.set_cons_succ]
      refine wpAnyH_ready (rs := [7]) (by kernel_rfl) (by simp) ?_
      refine AllReadyH.cons rfl (fun K hK => ?_) AllReadyH.nil
      go_simp
      refine (HT2.out _ HB5.out).mono ?_
      rintro e w6 ⟨rfl, hb6⟩
      exact ⟨rfl, rfl, HBD.out _ (HB5.out.trans (hb6.mono HB5.out.size))⟩
    | ok u =>
      obtain ⟨uk, un, ub⟩ := u
      simp only [endB] at HT2
      rw [thn_ok]
      unfold Ev.vb
      simp only [endB]
      go_enter Tryz.func193, Tryz.ntmps193
      go_wp2_with fail
      rw [← HW2.out]
      go_region_held3 (fun w0 => (w0.cell? ⟨w'.heap.size, 0, none⟩ = some (.slice A n c) ∧ w0.cell? ⟨w'.heap.size, 1, none⟩ = some (.map (some mb)) ∧ w0.cell? ⟨w'.heap.size, 2, none⟩ = some (.map (some pb))) ∧ w0.cell? ⟨w'.heap.size + 1, 3, none⟩ = some (.int .i64 na) ∧ w0.cell? ⟨w'.heap.size + 1, 4, none⟩ = some (.int .i64 nb)) (first | with_reducible exact HY.out | with_reducible exact HS.out _ HQ5.out | with_reducible exact HS.out _ HQ6.out) (first | (go_at_call 192; refine (HT.out _ (Below.refl _ _).drew).mono ?_; rintro e w5 ⟨rfl, hb5⟩; have HQ5 := Lib.hid ((Below.refl W2.heap.size W2).drew.trans hb5); clear hb5 HT) | (go_at_call 192; refine (HT2.out _ HQ5.out).mono ?_; rintro e w6 ⟨rfl, hb6⟩; have HQ6 := Lib.hid (HQ5.out.trans (hb6.mono HQ5.out.size)); clear hb6 HT2))
      go_wp2
      go_ret
      exact ⟨rfl, HBD.out _ HQ6.out⟩
end Go.Proofs.YtdcjpinbflmikaaGreatDoor
