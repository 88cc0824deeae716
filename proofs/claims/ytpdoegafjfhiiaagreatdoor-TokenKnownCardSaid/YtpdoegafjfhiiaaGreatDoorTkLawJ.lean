/- The statement TokenJoins, walked: it answers true. Conditions: the tables hold what their texts lay; internal/bytealg.MaxLen holds a number; texts' lengths fit. -/
import Derived.Test.YtpdoegafjfhiiaaGreatDoorTkSame
import Derived.Test.YtpdoegafjfhiiaaGreatDoorTkLawO
import Derived.Test.YtpdoegafjfhiiaaGreatDoorTkBack
import Derived.Test.YtpdoegafjfhiiaaGreatDoorU8Next
namespace Go.Proofs.YtpdoegafjfhiiaaGreatDoor
open Go.RowKit

theorem flat_split (ps : List (Tk.T × Value)) (n : Nat) : ps.flatMap tokV = (ps.take n).flatMap tokV ++ (ps.drop n).flatMap tokV := by
  rw [← List.flatMap_append, List.take_append_drop]
theorem flat_len (ps : List (Tk.T × Value)) : (ps.flatMap tokV).length = ps.length * 5 := by
  induction ps with
  | nil => rfl
  | cons x ps ih => rw [List.flatMap_cons, List.length_append, ih, List.length_cons]; show 5 + _ = _; omega
/-- What a row of tokens that were cut gives to a reader. -/
theorem reads_of {w : World} {B cap : Nat} {A : Option Addr} {ps : List (Tk.T × Value)} (h : TokRow B w (.slice A ps.length cap) ps) : ReadsT w w.heap.size A ps := fun h0 => by
  obtain ⟨A3, c3, hv, hc, _⟩ := own_slice h.own
  injection hv with e1 _ _
  subst e1
  obtain ⟨g, rfl, hg, _, hcc⟩ := hc h0
  exact ⟨g, 0, rfl, hg, fun j u hu => by rw [Nat.zero_add]; exact hcc j u hu⟩
theorem atts_of {w : World} {B : Nat} {v : Value} {ps : List (Tk.T × Value)} {L : List UInt8} {n : Nat} (h : TokRow B w v ps) (ho : Tk.Ord L n (ps.map (·.1))) : AttsT w w.heap.size ps := fun x hx => by
  have hl := (ho.1 _ (List.mem_map_of_mem hx)).1.2.2.2.2.1
  obtain ⟨A, cap, hv, hc, hn, hl2, hl3⟩ := own_slice (h.att x hx)
  refine ⟨A, cap, hv, fun h0 => ?_, by omega, fun e => (hn e).1, hl2, hl3⟩
  obtain ⟨g, rfl, hg, _, hcc⟩ := hc h0
  have hf := fun k hk j hj => flat_at (fun a : List UInt8 × List UInt8 => [Value.string ⟨a.1.toArray⟩, .string ⟨a.2.toArray⟩]) 2 (fun _ => rfl) (Tk.T.as x.1) k j hk hj
  exact ⟨g, rfl, hg, fun k hk => ⟨hcc _ _ (hf k hk 0 (by omega)), hcc _ _ (hf k hk 1 (by omega))⟩⟩
theorem ReadsT.take {w : World} {B : Nat} {A : Option Addr} {ps : List (Tk.T × Value)} (h : ReadsT w B A ps) (n : Nat) : ReadsT w B A (ps.take n) := fun h0 => by
  obtain ⟨g, o, e, hg, hc⟩ := h (by rw [List.length_take] at h0; omega)
  refine ⟨g, o, e, hg, fun j u hu => hc j u ?_⟩
  rw [flat_split ps n, List.getElem?_append_left (by
    rcases Nat.lt_or_ge j ((ps.take n).flatMap tokV).length with h1 | h1
    · exact h1
    · rw [List.getElem?_eq_none h1] at hu; cases hu)]
  exact hu
theorem ReadsT.dropN {w : World} {B g o : Nat} {ps : List (Tk.T × Value)} (h : ReadsT w B (some ⟨g, o, none⟩) ps) {n : Nat} (hn : n ≤ ps.length) : ReadsT w B (some ⟨g, o + n * 5, none⟩) (ps.drop n) := fun h0 => by
  obtain ⟨g', o', e, hg, hc⟩ := h (by rw [List.length_drop] at h0; omega)
  injection e with e
  injection e with e1 e2
  subst e1 e2
  refine ⟨g, o + n * 5, rfl, hg, fun j u hu => ?_⟩
  have hl : ((ps.take n).flatMap tokV).length = n * 5 := by rw [flat_len, List.length_take, Nat.min_eq_left hn]
  have := hc (n * 5 + j) u (by
    rw [flat_split ps n, List.getElem?_append_right (by rw [hl]; omega), hl, Nat.add_sub_cancel_left]
    exact hu)
  rw [show o + n * 5 + j = o + (n * 5 + j) by omega]
  exact this
theorem AttsT.sub {w : World} {B : Nat} {ps qs : List (Tk.T × Value)} (h : AttsT w B ps) (hs : ∀ x ∈ qs, x ∈ ps) : AttsT w B qs := fun x hx => h x (hs x hx)
theorem ReadsT.more {w : World} {B B' : Nat} {A : Option Addr} {ps : List (Tk.T × Value)} (h : ReadsT w B A ps) (hB : B ≤ B') : ReadsT w B' A ps := fun h0 => by
  obtain ⟨g, o, e, hg, hc⟩ := h h0
  exact ⟨g, o, e, by omega, hc⟩
theorem AttsT.more {w : World} {B B' : Nat} {ps : List (Tk.T × Value)} (h : AttsT w B ps) (hB : B ≤ B') : AttsT w B' ps := fun x hx => by
  obtain ⟨A, cap, e, hr, hl⟩ := h x hx
  exact ⟨A, cap, e, hr.more hB, hl⟩
theorem app_data (a b : ByteArray) : (a ++ b).data.toList = a.data.toList ++ b.data.toList := by rw [ByteArray.data_append, Array.toList_append]
theorem app_size (a b : ByteArray) : (a ++ b).size = a.size + b.size := by rw [Lib.size_eq, app_data, List.length_append, ← Lib.size_eq, ← Lib.size_eq]

/-- What the statement asks about: the two texts are short, characters, the second begins with a <. -/
structure Asks (a b : ByteArray) : Prop where
  la : a.size ≤ 400
  lb : b.size ≤ 400
  va : (U8.lead a.data.toList).2 = a.data.toList.length
  vb : (U8.lead b.data.toList).2 = b.data.toList.length
  hb : b.data.toList.head? = some 60
theorem Asks.toks {a b : ByteArray} (h : Asks a b) (h0 : (Tk.toks a.data.toList).2.2 = 0) :
    Tk.toks (a ++ b).data.toList = if (Tk.toks b.data.toList).2.2 = 0 then ((Tk.toks a.data.toList).1 ++ (Tk.toks b.data.toList).1.map (Tk.mv a.size), 0, 0) else ([], a.size + (Tk.toks b.data.toList).2.1, (Tk.toks b.data.toList).2.2) := by
  obtain ⟨t, ht⟩ : ∃ t, b.data.toList = 60 :: t := by
    have := h.hb
    cases e : b.data.toList with
    | nil => rw [e] at this; cases this
    | cons c t =>
      rw [e] at this
      simp only [List.head?_cons, Option.some.injEq] at this
      exact ⟨t, by rw [this]⟩
  have hl : a.data.toList.length + (60 :: t).length ≤ 65536 := by
    rw [← ht, ← Lib.size_eq, ← Lib.size_eq]
    have := h.la
    have := h.lb
    omega
  have := Tk.toks_join (a := a.data.toList) (t := t) h.va (by rw [← ht]; exact h.vb) hl h0
  rw [app_data, ht, this, ← Lib.size_eq]

theorem mv_zero (t : Tk.T) : Tk.mv 0 t = t := rfl
theorem join_ab {ps1 ps2 ps3 : List (Tk.T × Value)} {n : Nat} (h : ps3.map (·.1) = ps1.map (·.1) ++ (ps2.map (·.1)).map (Tk.mv n)) :
    (∀ (k : Nat) (hk : k < ps1.length) {h3 : k < (ps3.take ps1.length).length}, (ps3.take ps1.length)[k].1 = Tk.mv 0 ps1[k].1) ∧ (∀ (k : Nat) (hk : k < ps2.length) {h3 : k < (ps3.drop ps1.length).length}, (ps3.drop ps1.length)[k].1 = Tk.mv n ps2[k].1) ∧ ps3.length = ps1.length + ps2.length := by
  have hl : ps3.length = ps1.length + ps2.length := by
    have := congrArg List.length h
    simpa using this
  have hg : ∀ (k : Nat) (hk : k < ps3.length), ps3[k].1 = (ps1.map (·.1) ++ (ps2.map (·.1)).map (Tk.mv n))[k]'(by simp; omega) := fun k hk => by
    have h1 : (ps3.map (·.1))[k]? = some ps3[k].1 := by rw [List.getElem?_map, List.getElem?_eq_getElem hk]; rfl
    rw [h] at h1
    have := List.getElem?_eq_some_iff.1 h1
    exact this.2.symm
  refine ⟨fun k hk h3 => ?_, fun k hk h3 => ?_, hl⟩
  · rw [List.getElem_take, hg k (by omega), List.getElem_append_left (by simpa using hk), List.getElem_map]; rfl
  · rw [List.getElem_drop, hg (ps1.length + k) (by omega), List.getElem_append_right (by simp)]
    simp

set_option maxHeartbeats 8000000 in
set_option maxRecDepth 100000 in
theorem lawJoins (a b : ByteArray) (w : World) (T : Tb w) (hmx : Mx w) (hsa : a.size ≤ maxLen) (hsb : b.size ≤ maxLen) :
    Calls Tryz.prog 5 #[.string a, .string b] w fun e w' => e = .returned (.bool true) ∧ Below w.heap.size w w' := by
  have HW := Lib.hid (fun w0 (T0 : Tb w0) (M0 : Mx w0) => works_tk w0 T0 M0)
  have HVA := Lib.hid (rvalid_any a w hsa)
  have HVB := Lib.hid (fun w0 => rvalid_any b w0 hsb)
  have HT := Lib.hid (And.intro T hmx)
  have hla : a.data.toList.length = a.size := (Lib.size_eq a).symm
  have hlb : b.data.toList.length = b.size := (Lib.size_eq b).symm
  have hca : (vld a.data.toList).2 = 0 → (U8.lead a.data.toList).2 = a.data.toList.length := by
    unfold vld
    have := (U8.lead_le a.data.toList.length a.data.toList (Nat.le_refl _)).2
    split
    · intro h; cases h
    · intro _; omega
  have hcb : (vld b.data.toList).2 = 0 → (U8.lead b.data.toList).2 = b.data.toList.length := by
    unfold vld
    have := (U8.lead_le b.data.toList.length b.data.toList (Nat.le_refl _)).2
    split
    · intro h; cases h
    · intro _; omega
  have HCA := Lib.hid hca
  have HCB := Lib.hid hcb
  generalize vld a.data.toList = va at *
  generalize vld b.data.toList = vb at *
  obtain ⟨ka, ca⟩ := va
  obtain ⟨kb, cb⟩ := vb
  simp only at HVA HVB HCA HCB
  clear hca hcb T hmx
  by_cases g1 : 400 < a.size
  · have g1' : (400 : Int) < (a.size : Int) := by omega
    clear g1 hla hlb
    go_enter Tryz.func5, Tryz.ntmps5
    go_wp2_with fail
    refine HVA.out.mono ?_
    rintro e w1 ⟨rfl, h1⟩
    have HT1 := Lib.hid (And.intro (HT.out.1.below h1 (Nat.le_refl _)) (HT.out.2.below h1))
    have B1 := Lib.hid h1
    clear h1
    go_wp2_with fail
    refine (HVB.out _).mono ?_
    rintro e w2 ⟨rfl, h2⟩
    have HT2 := Lib.hid (And.intro (HT1.out.1.below h2 (Nat.le_refl _)) (HT1.out.2.below h2))
    have B2 := Lib.hid (B1.out.trans (h2.mono B1.out.size))
    clear h2
    go_wp2_with fail
    refine (HW.out _ HT2.out.1 HT2.out.2).mono ?_
    rintro e wx ⟨rfl, hx⟩
    have BX := Lib.hid (B2.out.trans (hx.mono B2.out.size))
    clear hx
    go_wp2
    go_ret
    exact ⟨rfl, BX.out⟩
  have g1' : ¬ (400 : Int) < (a.size : Int) := by omega
  by_cases g2 : 400 < b.size
  · have g2' : (400 : Int) < (b.size : Int) := by omega
    clear g1 g2 hla hlb
    go_enter Tryz.func5, Tryz.ntmps5
    go_wp2_with fail
    refine HVA.out.mono ?_
    rintro e w1 ⟨rfl, h1⟩
    have HT1 := Lib.hid (And.intro (HT.out.1.below h1 (Nat.le_refl _)) (HT.out.2.below h1))
    have B1 := Lib.hid h1
    clear h1
    go_wp2_with fail
    refine (HVB.out _).mono ?_
    rintro e w2 ⟨rfl, h2⟩
    have HT2 := Lib.hid (And.intro (HT1.out.1.below h2 (Nat.le_refl _)) (HT1.out.2.below h2))
    have B2 := Lib.hid (B1.out.trans (h2.mono B1.out.size))
    clear h2
    go_wp2_with fail
    refine (HW.out _ HT2.out.1 HT2.out.2).mono ?_
    rintro e wx ⟨rfl, hx⟩
    have BX := Lib.hid (B2.out.trans (hx.mono B2.out.size))
    clear hx
    go_wp2
    go_ret
    exact ⟨rfl, BX.out⟩
  have g2' : ¬ (400 : Int) < (b.size : Int) := by omega
  by_cases g3 : b.size = 0
  · have hbe : b = ⟨#[]⟩ := by
      apply ba_eq
      exact List.eq_nil_of_length_eq_zero (by omega)
    subst hbe
    clear g1 g2 g3 hla hlb
    go_enter Tryz.func5, Tryz.ntmps5
    go_wp2_with fail
    refine HVA.out.mono ?_
    rintro e w1 ⟨rfl, h1⟩
    have HT1 := Lib.hid (And.intro (HT.out.1.below h1 (Nat.le_refl _)) (HT.out.2.below h1))
    have B1 := Lib.hid h1
    clear h1
    go_wp2_with fail
    refine (HVB.out _).mono ?_
    rintro e w2 ⟨rfl, h2⟩
    have HT2 := Lib.hid (And.intro (HT1.out.1.below h2 (Nat.le_refl _)) (HT1.out.2.below h2))
    have B2 := Lib.hid (B1.out.trans (h2.mono B1.out.size))
    clear h2
    go_wp2_with fail
    refine (HW.out _ HT2.out.1 HT2.out.2).mono ?_
    rintro e wx ⟨rfl, hx⟩
    have BX := Lib.hid (B2.out.trans (hx.mono B2.out.size))
    clear hx
    go_wp2
    go_ret
    exact ⟨rfl, BX.out⟩
  have g3' : (0 : Int) < (b.size : Int) := by omega
  have hb0 : 0 < b.size := by omega
  have hbl : b.data.toList ≠ [] := by intro e; rw [e] at hlb; simp at hlb; omega
  have hbe : b.toList.isEmpty = false := isEmpty_iff rfl hbl
  have hbe2 : b.toList ≠ [] := by intro e; rw [e] at hbe; cases hbe
  by_cases g4 : b[0] = 60
  · have t1 : ((b[0].toNat : Int) == 60) = true := by rw [g4]; rfl
    have t2 : ((b[0].toNat : Int) != 60) = false := by rw [g4]; rfl
    have hhd : b.data.toList.head? = some 60 := by rw [List.head?_eq_getElem?, Lib.data_getElem? b 0 hb0, g4]
    by_cases g5 : ca = 0
    · by_cases g6 : cb = 0
      · subst g5 g6
        have hA : Asks a b := ⟨by omega, by omega, HCA.out rfl, HCB.out rfl, hhd⟩
        have hj := hA.toks
        have HTK1 := Lib.hid (fun w0 (T0 : Tb w0) (M0 : Mx w0) => tokens_any a hsa w0 T0 M0)
        have HTK2 := Lib.hid (fun w0 (T0 : Tb w0) (M0 : Mx w0) => tokens_any b hsb w0 T0 M0)
        have HTK3 := Lib.hid (fun w0 (T0 : Tb w0) (M0 : Mx w0) => tokens_any (a ++ b) (by rw [app_size]; unfold maxLen; omega) w0 T0 M0)
        obtain ⟨o1, o1b⟩ := Tk.toks_ord a.data.toList
        obtain ⟨o2, o2b⟩ := Tk.toks_ord b.data.toList
        obtain ⟨o3, _⟩ := Tk.toks_ord (a ++ b).data.toList
        obtain ⟨R1, hR1⟩ : ∃ R, R = Tk.toks a.data.toList := ⟨_, rfl⟩
        obtain ⟨R2, hR2⟩ : ∃ R, R = Tk.toks b.data.toList := ⟨_, rfl⟩
        obtain ⟨R3, hR3⟩ : ∃ R, R = Tk.toks (a ++ b).data.toList := ⟨_, rfl⟩
        rw [← hR1] at HTK1 hj o1 o1b
        rw [← hR2] at HTK2 hj o2 o2b
        rw [← hR3] at HTK3 hj o3
        obtain ⟨ts1, p1, E1⟩ := R1
        obtain ⟨ts2, p2, E2⟩ := R2
        obtain ⟨ts3, p3, E3⟩ := R3
        simp only at hj o1 o1b o2 o2b o3
        clear hA hR1 hR2 hR3 g1 g2 g3 g4 hhd hbl HCA HCB
        by_cases e1 : E1 = 0
        · subst e1
          have hj := hj rfl
          obtain ⟨o1x, hp1z⟩ := o1 rfl
          subst hp1z
          have O1 := Lib.hid o1x
          clear o1 o1b o1x
          by_cases e2 : E2 = 0
          · subst e2
            rw [if_pos rfl] at hj
            obtain ⟨rfl, rfl, rfl⟩ : ts3 = ts1 ++ ts2.map (Tk.mv a.size) ∧ p3 = 0 ∧ E3 = 0 := by
              simp only [Prod.mk.injEq] at hj
              exact hj
            obtain ⟨o2x, hp2z⟩ := o2 rfl
            subst hp2z
            have O2 := Lib.hid o2x
            obtain ⟨o3x, _⟩ := o3 rfl
            have O3 := Lib.hid o3x
            clear o2 o2b hj hla hlb o3 o2x o3x
            go_enter Tryz.func5, Tryz.ntmps5
            go_wp2_with fail
            refine HVA.out.mono ?_
            rintro e w1 ⟨rfl, h1⟩
            have HT1 := Lib.hid (And.intro (HT.out.1.below h1 (Nat.le_refl _)) (HT.out.2.below h1))
            have B1 := Lib.hid h1
            clear h1
            go_wp2_with fail
            refine (HVB.out _).mono ?_
            rintro e w2 ⟨rfl, h2⟩
            have HT2 := Lib.hid (And.intro (HT1.out.1.below h2 (Nat.le_refl _)) (HT1.out.2.below h2))
            have B2 := Lib.hid (B1.out.trans (h2.mono B1.out.size))
            clear h2
            go_wp2_with fail
            refine (HTK1.out _ HT2.out.1 HT2.out.2).mono ?_
            rintro e w3 ⟨v1, ps1, hm1, hr1, rfl, hb3⟩
            have HT3 := Lib.hid (And.intro (HT2.out.1.below hb3 (Nat.le_refl _)) (HT2.out.2.below hb3))
            have B3 := Lib.hid (B2.out.trans (hb3.mono B2.out.size))
            have HM1 := Lib.hid (And.intro hm1 hr1)
            clear hm1 hr1 hb3
            go_wp2_with fail
            refine (HTK2.out _ HT3.out.1 HT3.out.2).mono ?_
            rintro e w4 ⟨v2, ps2, hm2, hr2, rfl, hb4⟩
            have HT4 := Lib.hid (And.intro (HT3.out.1.below hb4 (Nat.le_refl _)) (HT3.out.2.below hb4))
            have B4 := Lib.hid (B3.out.trans (hb4.mono B3.out.size))
            have HM2 := Lib.hid (And.intro hm2 (And.intro hr2 (HM1.out.2.below hb4)))
            clear hm2 hr2 hb4
            go_wp2_with fail
            refine (HTK3.out _ HT4.out.1 HT4.out.2).mono ?_
            rintro e w5 ⟨v3, ps3, hm3, hr3, rfl, hb5⟩
            have HT5 := Lib.hid (And.intro (HT4.out.1.below hb5 (Nat.le_refl _)) (HT4.out.2.below hb5))
            have B5 := Lib.hid (B4.out.trans (hb5.mono B4.out.size))
            have q1 : ps1.map (·.1) = ts1 := HM1.out.1
            have q2 : ps2.map (·.1) = ts2 := HM2.out.1
            have q3 : ps3.map (·.1) = ts1 ++ ts2.map (Tk.mv a.size) := hm3
            have r1 := HM2.out.2.2.below hb5
            have r2 := HM2.out.2.1.below hb5
            have r3 := hr3
            rw [← q1, ← q2] at q3
            have hO1 : Tk.Ord a.data.toList a.data.toList.length (ps1.map (·.1)) := by rw [q1]; exact O1.out
            have hO2 : Tk.Ord b.data.toList b.data.toList.length (ps2.map (·.1)) := by rw [q2]; exact O2.out
            have hO3 : Tk.Ord (a ++ b).data.toList (a ++ b).data.toList.length (ps3.map (·.1)) := by rw [hm3]; exact O3.out
            have HJ := join_ab q3
            have hn1 : ps1.length ≤ 400 := by have := ord_len hO1; rw [List.length_map, ← Lib.size_eq] at this; omega
            have hn2 : ps2.length ≤ 400 := by have := ord_len hO2; rw [List.length_map, ← Lib.size_eq] at this; omega
            have hp1 : ∀ x ∈ ps1, x.1.p ≤ 1000000 := fun x hx => by have := (hO1.1 _ (List.mem_map_of_mem hx)).2; rw [← Lib.size_eq] at this; omega
            have hp2 : ∀ x ∈ ps2, x.1.p ≤ 1000000 := fun x hx => by have := (hO2.1 _ (List.mem_map_of_mem hx)).2; rw [← Lib.size_eq] at this; omega
            obtain ⟨A1, c1, hv1, _, _, _, _⟩ := own_slice r1.own
            obtain ⟨A2, c2, hv2, _, _, _, _⟩ := own_slice r2.own
            have t1a := atts_of r1 hO1
            have t2a := atts_of r2 hO2
            have t3a := atts_of r3 hO3
            subst hv1 hv2
            have R1 := reads_of r1
            have R2 := reads_of r2
            have hl3 := HJ.2.2
            have own3 := r3.own
            rcases own3.2 with ⟨hv3, h30⟩ | ⟨g3, c3, cur3, hv3, _, hg3, hle3, _⟩
            · have h1n : ps1 = [] := List.eq_nil_of_length_eq_zero (by omega)
              have h2n : ps2 = [] := List.eq_nil_of_length_eq_zero (by omega)
              have h3n : ps3 = [] := List.eq_nil_of_length_eq_zero h30
              subst h1n h2n h3n hv3
              have z0 : ∀ (w0 : World) (A : Option Addr), ReadsT w0 w0.heap.size A [] := fun _ _ h => absurd h (by simp)
              have y0 : ∀ (w0 : World), AttsT w0 w0.heap.size [] := fun _ x hx => by cases hx
              have HS1 := Lib.hid (fun (w0 : World) (cA : Nat) => (show Calls Tryz.prog 19 #[.slice none 0 0, .slice A1 0 cA, .int .i64 0] w0 (fun e w' => e = .returned (.bool true) ∧ Below w0.heap.size w0 w') from
                same_yes w0 0 none A1 0 cA [] [] rfl (by simp) (by omega) (fun x hx => by cases hx) (z0 _ _) (z0 _ _) (y0 _) (y0 _) (fun k hk => absurd hk (by simp))))
              have HS2 := Lib.hid (fun (w0 : World) (cA : Nat) => (show Calls Tryz.prog 19 #[.slice none 0 0, .slice A2 0 cA, .int .i64 a.size] w0 (fun e w' => e = .returned (.bool true) ∧ Below w0.heap.size w0 w') from
                same_yes w0 a.size none A2 0 cA [] [] rfl (by simp) (by omega) (fun x hx => by cases hx) (z0 _ _) (z0 _ _) (y0 _) (y0 _) (fun k hk => absurd hk (by simp))))
              clear q1 q2 q3 r1 r2 r3 hO1 hO2 hO3 hp1 hp2 hm3 hr3 hb5 t1a t2a t3a R1 R2 HJ hl3 own3 h30 hn1 hn2 z0 y0
              go_wp2_with fail
              refine (HS1.out _ _).mono ?_
              rintro e w6 ⟨rfl, h6⟩
              have HT6 := Lib.hid (And.intro (HT5.out.1.below h6 (Nat.le_refl _)) (HT5.out.2.below h6))
              have B6 := Lib.hid (B5.out.trans (h6.mono B5.out.size))
              clear h6
              go_wp2_with fail
              refine (HS2.out _ _).mono ?_
              rintro e w7 ⟨rfl, h7⟩
              have HT7 := Lib.hid (And.intro (HT6.out.1.below h7 (Nat.le_refl _)) (HT6.out.2.below h7))
              have B7 := Lib.hid (B6.out.trans (h7.mono B6.out.size))
              clear h7
              go_wp2_with fail
              refine (HW.out _ HT7.out.1 HT7.out.2).mono ?_
              rintro e wx ⟨rfl, hx⟩
              have BX := Lib.hid (B7.out.trans (hx.mono B7.out.size))
              clear hx
              go_wp2
              go_ret
              exact ⟨rfl, BX.out⟩
            · subst hv3
              have R3 := reads_of r3
              have HR := Lib.hid (And.intro R1 (And.intro R2 (And.intro R3 (And.intro t1a (And.intro t2a t3a)))))
              have HS1 := Lib.hid (fun w0 (q1 : ReadsT w0 w0.heap.size (some ⟨g3, 0, none⟩) (ps3.take ps1.length)) (q2 : ReadsT w0 w0.heap.size A1 ps1) (q3 : AttsT w0 w0.heap.size (ps3.take ps1.length)) (q4 : AttsT w0 w0.heap.size ps1) =>
                (show Calls Tryz.prog 19 #[.slice (some ⟨g3, 0, none⟩) ps1.length c3, .slice A1 ps1.length c1, .int .i64 0] w0 (fun e w' => e = .returned (.bool true) ∧ Below w0.heap.size w0 w') from
                  same_yes w0 0 (some ⟨g3, 0, none⟩) A1 c3 c1 (ps3.take ps1.length) ps1 (by rw [List.length_take]; omega) (by omega) (by omega) hp1 q1 q2 q3 q4 (fun k hk => HJ.1 k hk)))
              have HS2 := Lib.hid (fun w0 A4 c4 (q1 : ReadsT w0 w0.heap.size A4 (ps3.drop ps1.length)) (q2 : ReadsT w0 w0.heap.size A2 ps2) (q3 : AttsT w0 w0.heap.size (ps3.drop ps1.length)) (q4 : AttsT w0 w0.heap.size ps2) =>
                same_yes w0 a.size A4 A2 c4 c2 (ps3.drop ps1.length) ps2 (by rw [List.length_drop]; omega) (by omega) (by omega) hp2 q1 q2 q3 q4 (fun k hk => HJ.2.1 k hk))
              rw [hl3]
              have hle3' : (ps1.length : Int) + (ps2.length : Int) ≤ (c3 : Int) := by omega
              have hle4 : (ps1.length : Int) ≤ (c3 : Int) := by omega
              have hb400 : (ps2.length : Int) ≤ 400 := by omega
              have ha400 : (ps1.length : Int) ≤ 400 := by omega
              have HL3 := Lib.hid hl3
              have HSUB := Lib.hid (And.intro (show ∀ x ∈ ps3.take ps1.length, x ∈ ps3 from fun x hx => List.mem_of_mem_take hx) (show ∀ x ∈ ps3.drop ps1.length, x ∈ ps3 from fun x hx => List.mem_of_mem_drop hx))
              clear q1 q2 q3 r1 r2 r3 hO1 hO2 hO3 hp1 hp2 hm3 hr3 hb5 t1a t2a t3a R1 R2 R3 HJ hl3 own3 hg3
              go_wp2_with fail
              refine (HS1.out _ (HR.out.2.2.1.take _) HR.out.1 (HR.out.2.2.2.2.2.sub HSUB.out.1) HR.out.2.2.2.1).mono ?_
              rintro e w6 ⟨rfl, h6⟩
              have HT6 := Lib.hid (And.intro (HT5.out.1.below h6 (Nat.le_refl _)) (HT5.out.2.below h6))
              have B6 := Lib.hid (B5.out.trans (h6.mono B5.out.size))
              have H6 := Lib.hid h6
              clear h6
              by_cases hcc : c3 = ps1.length
              ·
                go_wp2_with fail
                have RD : ReadsT w6 w6.heap.size (some ⟨g3, 0, none⟩) (ps3.drop ps1.length) := fun h => by rw [List.length_drop] at h; have := HL3.out; omega
                have RB : ReadsT w6 w6.heap.size A2 ps2 := (HR.out.2.1.below H6.out).more H6.out.size
                have AD : AttsT w6 w6.heap.size (ps3.drop ps1.length) := ((HR.out.2.2.2.2.2.sub HSUB.out.2).below H6.out).more H6.out.size
                have AB : AttsT w6 w6.heap.size ps2 := (HR.out.2.2.2.2.1.below H6.out).more H6.out.size
                refine (HS2.out _ _ _ RD RB AD AB).mono ?_
                rintro e w7 ⟨rfl, h7⟩
                have HT7 := Lib.hid (And.intro (HT6.out.1.below h7 (Nat.le_refl _)) (HT6.out.2.below h7))
                have B7 := Lib.hid (B6.out.trans (h7.mono B6.out.size))
                clear h7 RD RB AD AB
                go_wp2_with fail
                refine (HW.out _ HT7.out.1 HT7.out.2).mono ?_
                rintro e wx ⟨rfl, hx⟩
                have BX := Lib.hid (B7.out.trans (hx.mono B7.out.size))
                clear hx
                go_wp2
                go_ret
                exact ⟨rfl, BX.out⟩
              · have hcc' : ¬ ps1.length = c3 := fun e => hcc e.symm
                go_wp2_with fail
                have RD : ReadsT w6 w6.heap.size (some ⟨g3, ps1.length * 5, none⟩) (ps3.drop ps1.length) := by
                  have h := ((HR.out.2.2.1.below H6.out).more H6.out.size).dropN (n := ps1.length) (by have := HL3.out; omega)
                  rw [Nat.zero_add] at h
                  exact h
                have RB : ReadsT w6 w6.heap.size A2 ps2 := (HR.out.2.1.below H6.out).more H6.out.size
                have AD : AttsT w6 w6.heap.size (ps3.drop ps1.length) := ((HR.out.2.2.2.2.2.sub HSUB.out.2).below H6.out).more H6.out.size
                have AB : AttsT w6 w6.heap.size ps2 := (HR.out.2.2.2.2.1.below H6.out).more H6.out.size
                refine (HS2.out _ _ _ RD RB AD AB).mono ?_
                rintro e w7 ⟨rfl, h7⟩
                have HT7 := Lib.hid (And.intro (HT6.out.1.below h7 (Nat.le_refl _)) (HT6.out.2.below h7))
                have B7 := Lib.hid (B6.out.trans (h7.mono B6.out.size))
                clear h7 RD RB AD AB
                go_wp2_with fail
                refine (HW.out _ HT7.out.1 HT7.out.2).mono ?_
                rintro e wx ⟨rfl, hx⟩
                have BX := Lib.hid (B7.out.trans (hx.mono B7.out.size))
                clear hx
                go_wp2
                go_ret
                exact ⟨rfl, BX.out⟩
          · rw [if_neg e2] at hj
            obtain ⟨rfl, rfl, rfl⟩ : ts3 = [] ∧ p3 = a.size + p2 ∧ E3 = E2 := by
              simp only [Prod.mk.injEq] at hj
              exact hj
            have hp2 := (o2b e2).2
            rw [hlb] at hp2
            have e2' : (E3 == 0) = false := beq_eq_false_iff_ne.2 e2
            have e2'' : (E3 != 0) = true := by simp [bne, e2']
            have hp2' : (p2 : Int) ≤ 400 := by omega
            clear o2 o2b hj hla hlb e2 hp2
            go_enter Tryz.func5, Tryz.ntmps5
            go_wp2_with fail
            refine HVA.out.mono ?_
            rintro e w1 ⟨rfl, h1⟩
            have HT1 := Lib.hid (And.intro (HT.out.1.below h1 (Nat.le_refl _)) (HT.out.2.below h1))
            have B1 := Lib.hid h1
            clear h1
            go_wp2_with fail
            refine (HVB.out _).mono ?_
            rintro e w2 ⟨rfl, h2⟩
            have HT2 := Lib.hid (And.intro (HT1.out.1.below h2 (Nat.le_refl _)) (HT1.out.2.below h2))
            have B2 := Lib.hid (B1.out.trans (h2.mono B1.out.size))
            clear h2
            go_wp2_with fail
            refine (HTK1.out _ HT2.out.1 HT2.out.2).mono ?_
            rintro e w3 ⟨v1, ps1, hm1, hr1, rfl, hb3⟩
            have HT3 := Lib.hid (And.intro (HT2.out.1.below hb3 (Nat.le_refl _)) (HT2.out.2.below hb3))
            have B3 := Lib.hid (B2.out.trans (hb3.mono B2.out.size))
            clear hm1 hr1 hb3
            go_wp2_with fail
            refine (HTK2.out _ HT3.out.1 HT3.out.2).mono ?_
            rintro e w4 ⟨v2, ps2, hm2, hr2, rfl, hb4⟩
            have HT4 := Lib.hid (And.intro (HT3.out.1.below hb4 (Nat.le_refl _)) (HT3.out.2.below hb4))
            have B4 := Lib.hid (B3.out.trans (hb4.mono B3.out.size))
            clear hm2 hr2 hb4
            go_wp2_with fail
            refine (HTK3.out _ HT4.out.1 HT4.out.2).mono ?_
            rintro e w5 ⟨v3, ps3, hm3, hr3, rfl, hb5⟩
            obtain rfl := map_nil_ hm3
            obtain ⟨A3, cap3, rfl, _, _, _, _⟩ := own_slice hr3.own
            have HT5 := Lib.hid (And.intro (HT4.out.1.below hb5 (Nat.le_refl _)) (HT4.out.2.below hb5))
            have B5 := Lib.hid (B4.out.trans (hb5.mono B4.out.size))
            clear hm3 hr3 hb5
            go_wp2_with fail
            refine (HW.out _ HT5.out.1 HT5.out.2).mono ?_
            rintro e wx ⟨rfl, hx⟩
            have BX := Lib.hid (B5.out.trans (hx.mono B5.out.size))
            clear hx
            go_wp2
            go_ret
            exact ⟨rfl, BX.out⟩
        · have e1' : (E1 == 0) = false := beq_eq_false_iff_ne.2 e1
          have e1'' : (E1 != 0) = true := by simp [bne, e1']
          clear o1 o1b o2 o2b hj hla hlb e1 HTK2 HTK3
          go_enter Tryz.func5, Tryz.ntmps5
          go_wp2_with fail
          refine HVA.out.mono ?_
          rintro e w1 ⟨rfl, h1⟩
          have HT1 := Lib.hid (And.intro (HT.out.1.below h1 (Nat.le_refl _)) (HT.out.2.below h1))
          have B1 := Lib.hid h1
          clear h1
          go_wp2_with fail
          refine (HVB.out _).mono ?_
          rintro e w2 ⟨rfl, h2⟩
          have HT2 := Lib.hid (And.intro (HT1.out.1.below h2 (Nat.le_refl _)) (HT1.out.2.below h2))
          have B2 := Lib.hid (B1.out.trans (h2.mono B1.out.size))
          clear h2
          go_wp2_with fail
          refine (HTK1.out _ HT2.out.1 HT2.out.2).mono ?_
          rintro e w3 ⟨v1, ps1, hm1, hr1, rfl, hb3⟩
          have HT3 := Lib.hid (And.intro (HT2.out.1.below hb3 (Nat.le_refl _)) (HT2.out.2.below hb3))
          have B3 := Lib.hid (B2.out.trans (hb3.mono B2.out.size))
          clear hm1 hr1 hb3
          go_wp2_with fail
          refine (HW.out _ HT3.out.1 HT3.out.2).mono ?_
          rintro e wx ⟨rfl, hx⟩
          have BX := Lib.hid (B3.out.trans (hx.mono B3.out.size))
          clear hx
          go_wp2
          go_ret
          exact ⟨rfl, BX.out⟩
      · have g6' : (cb == 0) = false := beq_eq_false_iff_ne.2 g6
        have g6'' : (cb != 0) = true := by simp [bne, g6']
        subst g5
        clear g1 g2 g3 g4 g6 hhd hbl hla hlb
        go_enter Tryz.func5, Tryz.ntmps5
        go_wp2_with fail
        refine HVA.out.mono ?_
        rintro e w1 ⟨rfl, h1⟩
        have HT1 := Lib.hid (And.intro (HT.out.1.below h1 (Nat.le_refl _)) (HT.out.2.below h1))
        have B1 := Lib.hid h1
        clear h1
        go_wp2_with fail
        refine (HVB.out _).mono ?_
        rintro e w2 ⟨rfl, h2⟩
        have HT2 := Lib.hid (And.intro (HT1.out.1.below h2 (Nat.le_refl _)) (HT1.out.2.below h2))
        have B2 := Lib.hid (B1.out.trans (h2.mono B1.out.size))
        clear h2
        go_wp2_with fail
        refine (HW.out _ HT2.out.1 HT2.out.2).mono ?_
        rintro e wx ⟨rfl, hx⟩
        have BX := Lib.hid (B2.out.trans (hx.mono B2.out.size))
        clear hx
        go_wp2
        go_ret
        exact ⟨rfl, BX.out⟩
    · have g5' : (ca == 0) = false := beq_eq_false_iff_ne.2 g5
      have g5'' : (ca != 0) = true := by simp [bne, g5']
      clear g1 g2 g3 g4 g5 hhd hbl hla hlb
      go_enter Tryz.func5, Tryz.ntmps5
      go_wp2_with fail
      refine HVA.out.mono ?_
      rintro e w1 ⟨rfl, h1⟩
      have HT1 := Lib.hid (And.intro (HT.out.1.below h1 (Nat.le_refl _)) (HT.out.2.below h1))
      have B1 := Lib.hid h1
      clear h1
      go_wp2_with fail
      refine (HVB.out _).mono ?_
      rintro e w2 ⟨rfl, h2⟩
      have HT2 := Lib.hid (And.intro (HT1.out.1.below h2 (Nat.le_refl _)) (HT1.out.2.below h2))
      have B2 := Lib.hid (B1.out.trans (h2.mono B1.out.size))
      clear h2
      go_wp2_with fail
      refine (HW.out _ HT2.out.1 HT2.out.2).mono ?_
      rintro e wx ⟨rfl, hx⟩
      have BX := Lib.hid (B2.out.trans (hx.mono B2.out.size))
      clear hx
      go_wp2
      go_ret
      exact ⟨rfl, BX.out⟩
  · have t1 : ((b[0].toNat : Int) == 60) = false := by
      apply beq_eq_false_iff_ne.2
      intro e; apply g4; apply UInt8.toNat_inj.1
      show b[0].toNat = 60
      omega
    have t2 : ((b[0].toNat : Int) != 60) = true := by simp [bne, t1]
    clear g1 g2 g3 g4 hbl hla hlb
    go_enter Tryz.func5, Tryz.ntmps5
    go_wp2_with fail
    refine HVA.out.mono ?_
    rintro e w1 ⟨rfl, h1⟩
    have HT1 := Lib.hid (And.intro (HT.out.1.below h1 (Nat.le_refl _)) (HT.out.2.below h1))
    have B1 := Lib.hid h1
    clear h1
    go_wp2_with fail
    refine (HVB.out _).mono ?_
    rintro e w2 ⟨rfl, h2⟩
    have HT2 := Lib.hid (And.intro (HT1.out.1.below h2 (Nat.le_refl _)) (HT1.out.2.below h2))
    have B2 := Lib.hid (B1.out.trans (h2.mono B1.out.size))
    clear h2
    go_wp2_with fail
    refine (HW.out _ HT2.out.1 HT2.out.2).mono ?_
    rintro e wx ⟨rfl, hx⟩
    have BX := Lib.hid (B2.out.trans (hx.mono B2.out.size))
    clear hx
    go_wp2
    go_ret
    exact ⟨rfl, BX.out⟩
end Go.Proofs.YtpdoegafjfhiiaaGreatDoor
