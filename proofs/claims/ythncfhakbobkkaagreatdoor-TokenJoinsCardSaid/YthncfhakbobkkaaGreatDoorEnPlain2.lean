/- Plain facts on references in a text, more: what characters are written as; there and back; piece by piece. No program is named here. No conditions. -/
import Derived.Test.YthncfhakbobkkaaGreatDoorEnPlain
namespace Go.Proofs.YthncfhakbobkkaaGreatDoor.En
open Go

/-- What a character is written as. -/
def wr (attr : Bool) (c : Int) : List UInt8 :=
  if c = 38 then [38, 97, 109, 112, 59] else if c = 60 then [38, 108, 116, 59] else if c = 62 then [38, 103, 116, 59] else if c = 13 then [38, 35, 49, 51, 59]
  else if attr = true ∧ c = 34 then [38, 113, 117, 111, 116, 59] else if attr = true ∧ c = 9 then [38, 35, 57, 59] else if attr = true ∧ c = 10 then [38, 35, 49, 48, 59] else U8.put c
def dF : Piece := fun l => if l.head? = some 38 then (if (rf l).2 = 0 then ([], 0, 30) else ((rf l).1, (rf l).2, 0)) else (l.take (U8.nx l).2.1, (U8.nx l).2.1, (U8.nx l).2.2)
def eF (attr : Bool) : Piece := fun l => (wr attr (U8.nx l).1, (U8.nx l).2.1, (U8.nx l).2.2)
theorem dF_amp {l : List UInt8} (h : l.head? = some 38) : dF l = if (rf l).2 = 0 then ([], 0, 30) else ((rf l).1, (rf l).2, 0) := by unfold dF; rw [if_pos h]
theorem dF_no {l : List UInt8} (h : l.head? ≠ some 38) : dF l = (l.take (U8.nx l).2.1, (U8.nx l).2.1, (U8.nx l).2.2) := by unfold dF; rw [if_neg h]
theorem put_le (c : Int) : (U8.put c).length ≤ 4 := by
  cases h : U8.isCh c with
  | true => rw [U8.put_length h]; exact (U8.width_bd c).2
  | false => rw [U8.put_no h]; exact Nat.zero_le _
theorem wr_le (attr : Bool) (c : Int) : (wr attr c).length ≤ 6 := by
  unfold wr
  repeat' split
  all_goals first | (simp; done) | (have := put_le c; omega)
theorem rf_bd (l : List UInt8) : (rf l).1.length ≤ 4 ∧ ((rf l).2 ≠ 0 → 2 ≤ (rf l).2 ∧ (rf l).2 ≤ l.length) := by
  cases l with
  | nil => exact ⟨Nat.zero_le _, fun h => absurd rfl h⟩
  | cons a b =>
    by_cases ha : a = 38
    · subst ha
      rw [rf_amp]
      by_cases h : (rfb b).2 = 0
      · refine ⟨?_, fun h' => absurd h h'⟩
        rcases idx_cases b 59 with hj | ⟨j, hj⟩
        · rw [rfb_miss hj]; exact Nat.zero_le _
        · rw [rfb_hit hj] at h ⊢
          by_cases hc : U8.put (said (b.take j)) = []
          · rw [if_pos hc]; exact Nat.zero_le _
          · rw [if_neg hc]; exact put_le _
      · obtain ⟨j, hj, e, _⟩ := rfb_ok h
        have := idx_lt hj
        rw [e]
        exact ⟨put_le _, fun _ => ⟨by simp, by simp; omega⟩⟩
    · rw [rf_no (by simpa using ha)]; exact ⟨Nat.zero_le _, fun h => absurd rfl h⟩
theorem moves_dF : Moves dF := by
  intro l hne h
  by_cases ha : l.head? = some 38
  · rw [dF_amp ha] at h ⊢
    by_cases h0 : (rf l).2 = 0
    · rw [if_pos h0] at h; cases h
    · rw [if_neg h0]
      have := (rf_bd l).2 h0
      exact ⟨by simp only; omega, this.2⟩
  · rw [dF_no ha] at h ⊢
    have := U8.nx_ok hne h
    exact ⟨this.2.2.1, this.2.2.2.1⟩
theorem moves_eF (attr : Bool) : Moves (eF attr) := by
  intro l hne h
  have := U8.nx_ok hne h
  exact ⟨this.2.2.1, this.2.2.2.1⟩
theorem long_dF {l : List UInt8} (_hne : l ≠ []) (h : (dF l).2.2 = 0) : (dF l).1.length ≤ 6 * (dF l).2.1 := by
  by_cases ha : l.head? = some 38
  · rw [dF_amp ha] at h ⊢
    by_cases h0 : (rf l).2 = 0
    · rw [if_pos h0] at h; cases h
    · rw [if_neg h0]
      have := rf_bd l
      have h2 := this.2 h0
      simp only; omega
  · rw [dF_no ha]; simp only [List.length_take]; omega
theorem long_eF {attr : Bool} {l : List UInt8} (_hne : l ≠ []) (h : (eF attr l).2.2 = 0) : (eF attr l).1.length ≤ 6 * (eF attr l).2.1 := by
  have h1 := (moves_eF attr l _hne h).1
  have h2 : (eF attr l).1.length ≤ 6 := wr_le _ _
  omega
/-! ### a byte at a time -/
def wrB (attr : Bool) (b : UInt8) : List UInt8 :=
  if b = 38 then [38, 97, 109, 112, 59] else if b = 60 then [38, 108, 116, 59] else if b = 62 then [38, 103, 116, 59] else if b = 13 then [38, 35, 49, 51, 59]
  else if attr = true ∧ b = 34 then [38, 113, 117, 111, 116, 59] else if attr = true ∧ b = 9 then [38, 35, 57, 59] else if attr = true ∧ b = 10 then [38, 35, 49, 48, 59] else [b]
def encB (attr : Bool) (l : List UInt8) : List UInt8 := l.flatMap (wrB attr)
theorem encB_append (attr : Bool) (a b : List UInt8) : encB attr (a ++ b) = encB attr a ++ encB attr b := List.flatMap_append
theorem encB_cons (attr : Bool) (b : UInt8) (l : List UInt8) : encB attr (b :: l) = wrB attr b ++ encB attr l := rfl
theorem toB_toNat {c : Int} (h0 : 0 ≤ c) (h1 : c < 256) : ((U8.toB c).toNat : Int) = c := by rw [U8.toB_nat h0 h1]; omega
theorem toB_eq {c : Int} (h0 : 0 ≤ c) (h1 : c < 256) (n : Nat) (hn : n < 256) : U8.toB c = n.toUInt8 ↔ c = n := by
  have hn' : n.toUInt8.toNat = n := by simp only [Nat.toUInt8, UInt8.toNat_ofNat']; omega
  have hc := toB_toNat h0 h1
  constructor
  · intro e; rw [e, hn'] at hc; exact hc.symm
  · intro e; apply UInt8.toNat_inj.1; rw [hn']; omega
theorem put_low {c : Int} (h : U8.isCh c = true) (h1 : c ≤ 127) : U8.put c = [U8.toB c] := by
  unfold U8.put U8.putZ; rw [if_pos h, if_pos h1]; rfl
theorem put_high {c : Int} (h : U8.isCh c = true) (h1 : 128 ≤ c) : ∀ b ∈ U8.put c, 128 ≤ b.toNat := by
  have hb := U8.isCh_lo h
  intro b hm
  unfold U8.put U8.putZ at hm
  rw [if_pos h, if_neg (by omega)] at hm
  have key : ∀ x : Int, 128 ≤ x → x < 256 → 128 ≤ (U8.toB x).toNat := fun x a d => by rw [U8.toB_nat (by omega) d]; omega
  split at hm
  · simp only [List.map_cons, List.map_nil, List.mem_cons, List.not_mem_nil, or_false] at hm
    rcases hm with rfl | rfl <;> exact key _ (by omega) (by omega)
  · split at hm
    · simp only [List.map_cons, List.map_nil, List.mem_cons, List.not_mem_nil, or_false] at hm
      rcases hm with rfl | rfl | rfl <;> exact key _ (by omega) (by omega)
    · simp only [List.map_cons, List.map_nil, List.mem_cons, List.not_mem_nil, or_false] at hm
      rcases hm with rfl | rfl | rfl | rfl <;> exact key _ (by omega) (by omega)
theorem ne_of_nat {b : UInt8} {n : Nat} (hn : n < 256) (h : b.toNat ≠ n) : b ≠ n.toUInt8 := fun e => h (by rw [e]; simp only [Nat.toUInt8, UInt8.toNat_ofNat']; omega)
theorem wrB_high {attr : Bool} {b : UInt8} (h : 128 ≤ b.toNat) : wrB attr b = [b] := by
  unfold wrB
  have k : ∀ n : Nat, n < 128 → b ≠ n.toUInt8 := fun n hn => ne_of_nat (by omega) (by omega)
  have k38 : b ≠ 38 := k 38 (by omega)
  have k60 : b ≠ 60 := k 60 (by omega)
  have k62 : b ≠ 62 := k 62 (by omega)
  have k13 : b ≠ 13 := k 13 (by omega)
  have k34 : b ≠ 34 := k 34 (by omega)
  have k9 : b ≠ 9 := k 9 (by omega)
  have k10 : b ≠ 10 := k 10 (by omega)
  rw [if_neg k38, if_neg k60, if_neg k62, if_neg k13, if_neg (fun e => k34 e.2), if_neg (fun e => k9 e.2), if_neg (fun e => k10 e.2)]
theorem encB_high {attr : Bool} {l : List UInt8} (h : ∀ b ∈ l, 128 ≤ b.toNat) : encB attr l = l := by
  induction l with
  | nil => rfl
  | cons b l ih => rw [encB_cons, wrB_high (h b (by simp)), ih (fun x hx => h x (by simp [hx]))]; rfl
theorem wr_put {attr : Bool} {c : Int} (h : U8.isCh c = true) : wr attr c = encB attr (U8.put c) := by
  have hb := U8.isCh_lo h
  by_cases h1 : c ≤ 127
  · rw [put_low h h1, encB_cons]
    show _ = wrB attr (U8.toB c) ++ []
    rw [List.append_nil]
    have k : ∀ n : Nat, n < 256 → (U8.toB c = n.toUInt8 ↔ c = n) := fun n hn => toB_eq (by omega) (by omega) n hn
    have k38 := k 38 (by omega); have k60 := k 60 (by omega); have k62 := k 62 (by omega); have k13 := k 13 (by omega); have k34 := k 34 (by omega); have k9 := k 9 (by omega); have k10 := k 10 (by omega)
    unfold wr wrB
    rw [put_low h h1]
    simp only [show (38 : Nat).toUInt8 = (38 : UInt8) from rfl, show (60 : Nat).toUInt8 = (60 : UInt8) from rfl, show (62 : Nat).toUInt8 = (62 : UInt8) from rfl, show (13 : Nat).toUInt8 = (13 : UInt8) from rfl, show (34 : Nat).toUInt8 = (34 : UInt8) from rfl, show (9 : Nat).toUInt8 = (9 : UInt8) from rfl, show (10 : Nat).toUInt8 = (10 : UInt8) from rfl] at k38 k60 k62 k13 k34 k9 k10
    simp only [k38, k60, k62, k13, k34, k9, k10]
    rfl
  · rw [encB_high (put_high h (by omega))]
    unfold wr
    rw [if_neg (by omega), if_neg (by omega), if_neg (by omega), if_neg (by omega), if_neg (fun e => by omega), if_neg (fun e => by omega), if_neg (fun e => by omega)]

/-! ### which texts are characters -/
def validL (l : List UInt8) : Prop := (U8.lead l).2 = l.length
theorem validL_put {c : Int} (h : U8.isCh c = true) {t : List UInt8} (ht : validL t) : validL (U8.put c ++ t) := by
  have hl := U8.put_length h
  have hw := U8.width_bd c
  have hne : U8.put c ++ t ≠ [] := by intro e; have := congrArg List.length e; rw [List.length_append, hl] at this; simp at this; omega
  have hn := U8.nx_put h t
  have hg := U8.lead_good hne (by rw [hn])
  rw [hn] at hg
  simp only at hg
  rw [← hl, List.drop_left] at hg
  unfold validL at ht ⊢
  rw [hg, List.length_append]; simp only; omega
theorem validL_nil : validL [] := rfl
/-- A text is encoded just if it is characters. -/
theorem rep_eF (attr : Bool) : ∀ (n : Nat) (l : List UInt8), l.length ≤ n → (validL l ∧ rep (eF attr) l = (encB attr l, 0, 0)) ∨ (¬ validL l ∧ (rep (eF attr) l).1 = [] ∧ (rep (eF attr) l).2.2 = 10) := by
  intro n
  induction n with
  | zero =>
    intro l hl
    have : l = [] := List.eq_nil_of_length_eq_zero (by omega)
    subst this; exact Or.inl ⟨rfl, rfl⟩
  | succ n ih =>
    intro l hl
    by_cases hne : l = []
    · subst hne; exact Or.inl ⟨rfl, rfl⟩
    · by_cases hz : (U8.nx l).2.2 = 0
      · have hok := U8.nx_ok hne hz
        obtain ⟨g1, g2⟩ := rep_good (moves_eF attr) hne (show (eF attr l).2.2 = 0 from hz)
        have e1 : (eF attr l).2.1 = (U8.nx l).2.1 := rfl
        have e2 : (eF attr l).1 = encB attr (U8.put (U8.nx l).1) := wr_put hok.1
        rw [e1] at g1 g2
        have hg := U8.lead_good hne hz
        have hv : validL l ↔ validL (l.drop (U8.nx l).2.1) := by
          unfold validL; rw [hg, List.length_drop]; simp only; omega
        rcases ih (l.drop (U8.nx l).2.1) (by rw [List.length_drop]; omega) with ⟨h1, h2⟩ | ⟨h1, h2, h3⟩
        · left
          refine ⟨hv.2 h1, ?_⟩
          rw [g1 (by rw [h2]), h2, e2]
          simp only
          rw [← encB_append, hok.2.2.2.2]
        · right
          have := g2 (by rw [h3]; decide)
          exact ⟨fun h => h1 (hv.1 h), by rw [this], by rw [this]; exact h3⟩
      · right
        have hb := rep_bad hne (show (eF attr l).2.2 ≠ 0 from hz)
        refine ⟨fun h => ?_, by rw [hb], by rw [hb]; exact (U8.nx_err).resolve_left hz⟩
        unfold validL at h
        rw [U8.lead_bad hz] at h
        simp only at h
        exact hne (List.eq_nil_of_length_eq_zero h.symm)
theorem rep_eF_ok {attr : Bool} {l : List UInt8} (h : (rep (eF attr) l).2.2 = 0) : validL l ∧ (rep (eF attr) l) = (encB attr l, 0, 0) := by
  rcases rep_eF attr l.length l (Nat.le_refl _) with h1 | ⟨_, _, h3⟩
  · exact h1
  · rw [h3] at h; cases h
theorem rep_eF_of {attr : Bool} {l : List UInt8} (h : validL l) : rep (eF attr) l = (encB attr l, 0, 0) := by
  rcases rep_eF attr l.length l (Nat.le_refl _) with h1 | ⟨h1, _⟩
  · exact h1.2
  · exact absurd h h1

/-! ### what stands for a text's beginning hangs on no more than it -/
theorem idx_append {a r : List UInt8} {c : UInt8} {j : Nat} (h : Lib.indexByte a c = j) : Lib.indexByte (a ++ r) c = j := by
  have hl := idx_lt h
  obtain ⟨h1, h2⟩ := Lib.indexByte_some h
  exact idx_of (by rw [List.getElem?_append_left hl]; exact h1) (fun k hk => by rw [List.getElem?_append_left (by omega)]; exact h2 k hk)
theorem rfb_local {b : List UInt8} (r : List UInt8) (h : (rfb b).2 ≠ 0) : rfb (b ++ r) = rfb b := by
  obtain ⟨j, hj, e, hc⟩ := rfb_ok h
  have hl := idx_lt hj
  rw [e, rfb_hit (idx_append hj), List.take_append_of_le_length (by omega), if_neg hc]
theorem local_dF : Local dF := by
  intro l r hne h
  cases l with
  | nil => exact absurd rfl hne
  | cons a b =>
    by_cases ha : a = 38
    · subst ha
      have h1 : (38 :: b : List UInt8).head? = some 38 := rfl
      have h2 : ((38 :: b : List UInt8) ++ r).head? = some 38 := rfl
      rw [dF_amp h1] at h ⊢
      rw [dF_amp h2]
      by_cases h0 : (rf (38 :: b)).2 = 0
      · rw [if_pos h0] at h; cases h
      · have : rf ((38 :: b) ++ r) = rf (38 :: b) := by
          rw [List.cons_append, rf_amp, rf_amp]; exact rfb_local r (by rw [rf_amp] at h0; exact h0)
        rw [this]
    · have h1 : (a :: b : List UInt8).head? ≠ some 38 := by simpa using ha
      have h2 : ((a :: b : List UInt8) ++ r).head? ≠ some 38 := by simpa using ha
      rw [dF_no h1] at h ⊢
      rw [dF_no h2]
      have hm := U8.nx_more (b := r) hne h
      have hok := U8.nx_ok hne h
      rw [hm, List.take_append_of_le_length hok.2.2.2.1]
theorem local_eF (attr : Bool) : Local (eF attr) := by
  intro l r hne h
  have hm := U8.nx_more (b := r) hne (show (U8.nx l).2.2 = 0 from h)
  unfold eF; rw [hm]

/-! ### there and back -/
theorem dF_ref {nm : List UInt8} {c : List UInt8} {n : Nat} {r : List UInt8} (h : rfb (nm ++ r) = (c, n)) (hn : n ≠ 0) : dF (38 :: (nm ++ r)) = (c, n, 0) := by
  rw [dF_amp rfl, rf_amp, h, if_neg hn]
theorem rfb_num {d : List UInt8} (hd : okD 10 7 d = true) (h59 : ∀ k, k < d.length → d[k]? ≠ some 59) (h120 : d.head? ≠ some 120) {c : List UInt8} (hc : U8.put (val 10 d) = c) (hne : c ≠ []) (r : List UInt8) : rfb (35 :: (d ++ 59 :: r)) = (c, d.length + 3) := by
  have hj : Lib.indexByte (d ++ 59 :: r) 59 = d.length := idx_of (by simp) (fun k hk => by rw [List.getElem?_append_left hk]; exact h59 k hk)
  have h1 : (d ++ 59 :: r).head? ≠ some 120 := by
    cases d with
    | nil => simp
    | cons a t => exact h120
  rw [rfb_dec _ h1, num_hit hj, List.take_left, if_pos hd, hc]
  simp only
  rw [if_neg hne]
theorem head_put {c : Int} (h : U8.isCh c = true) (h38 : c ≠ 38) (r : List UInt8) : (U8.put c ++ r).head? ≠ some 38 := by
  have hb := U8.isCh_lo h
  by_cases h1 : c ≤ 127
  · rw [put_low h h1]
    intro e
    have e2 : U8.toB c = 38 := by simpa using e
    exact h38 ((toB_eq (by omega) (by omega) 38 (by omega)).1 e2)
  · have hl := U8.put_length h
    have hw := U8.width_bd c
    cases hp : U8.put c with
    | nil => rw [hp] at hl; simp at hl; omega
    | cons a t =>
      have := put_high h (by omega) a (by rw [hp]; simp)
      intro e
      have e2 : a = 38 := by simpa using e
      rw [e2] at this
      exact absurd this (by decide)
theorem dF_wr {attr : Bool} {c : Int} (h : U8.isCh c = true) (r : List UInt8) : dF (wr attr c ++ r) = (U8.put c, (wr attr c).length, 0) := by
  unfold wr
  by_cases c1 : c = 38
  · subst c1; rw [if_pos rfl]
    exact dF_ref (nm := [97, 109, 112, 59]) (by rw [show U8.put 38 = U8.put (named [97, 109, 112]) by decide]; exact rfb_name (nm := [97, 109, 112]) (r := r) (by decide) (by decide) (by decide)) (by decide)
  rw [if_neg c1]
  by_cases c2 : c = 60
  · subst c2; rw [if_pos rfl]
    exact dF_ref (nm := [108, 116, 59]) (by rw [show U8.put 60 = U8.put (named [108, 116]) by decide]; exact rfb_name (nm := [108, 116]) (r := r) (by decide) (by decide) (by decide)) (by decide)
  rw [if_neg c2]
  by_cases c3 : c = 62
  · subst c3; rw [if_pos rfl]
    exact dF_ref (nm := [103, 116, 59]) (by rw [show U8.put 62 = U8.put (named [103, 116]) by decide]; exact rfb_name (nm := [103, 116]) (r := r) (by decide) (by decide) (by decide)) (by decide)
  rw [if_neg c3]
  by_cases c4 : c = 13
  · subst c4; rw [if_pos rfl]
    exact dF_ref (nm := [35, 49, 51, 59]) (rfb_num (d := [49, 51]) (by decide) (by decide) (by decide) (by decide) (by decide) r) (by decide)
  rw [if_neg c4]
  by_cases c5 : attr = true ∧ c = 34
  · rw [if_pos c5, c5.2]
    exact dF_ref (nm := [113, 117, 111, 116, 59]) (by rw [show U8.put 34 = U8.put (named [113, 117, 111, 116]) by decide]; exact rfb_name (nm := [113, 117, 111, 116]) (r := r) (by decide) (by decide) (by decide)) (by decide)
  rw [if_neg c5]
  by_cases c6 : attr = true ∧ c = 9
  · rw [if_pos c6, c6.2]
    exact dF_ref (nm := [35, 57, 59]) (rfb_num (d := [57]) (by decide) (by decide) (by decide) (by decide) (by decide) r) (by decide)
  rw [if_neg c6]
  by_cases c7 : attr = true ∧ c = 10
  · rw [if_pos c7, c7.2]
    exact dF_ref (nm := [35, 49, 48, 59]) (rfb_num (d := [49, 48]) (by decide) (by decide) (by decide) (by decide) (by decide) r) (by decide)
  rw [if_neg c7, dF_no (head_put h c1 r), U8.nx_put h r, ← U8.put_length h, List.take_left]
/-- WHAT IS ENCODED IS DECODED AS IT WAS. -/
theorem dec_enc {attr : Bool} {l : List UInt8} (h : (rep (eF attr) l).2.2 = 0) : rep dF (rep (eF attr) l).1 = (l, 0, 0) := by
  refine rep_ind (moves_eF attr) (Q := fun l w => rep dF w = (l, 0, 0)) rfl ?_ l.length l (Nat.le_refl _) h
  intro l q hne hz _ hq
  have hok := U8.nx_ok hne (show (U8.nx l).2.2 = 0 from hz)
  have hd := dF_wr (attr := attr) hok.1 q
  have hl : 1 ≤ (wr attr (U8.nx l).1).length := by
    rw [wr_put hok.1]
    have hl2 := U8.put_length hok.1
    have hw := U8.width_bd (U8.nx l).1
    cases hp : U8.put (U8.nx l).1 with
    | nil => rw [hp] at hl2; simp at hl2; omega
    | cons a t =>
      rw [encB_cons, List.length_append]
      have : 1 ≤ (wrB attr a).length := by unfold wrB; repeat' split
                                           all_goals simp
      omega
  have hne2 : wr attr (U8.nx l).1 ++ q ≠ [] := by
    intro e
    have h1 := congrArg List.length e
    rw [List.length_append] at h1
    have h2 : ([] : List UInt8).length = 0 := rfl
    omega
  obtain ⟨g1, _⟩ := rep_good moves_dF hne2 (by rw [hd])
  rw [hd] at g1
  simp only at g1
  rw [List.drop_left, hq] at g1
  show rep dF (wr attr (U8.nx l).1 ++ q) = _
  rw [g1 rfl]
  simp only
  have e1 : (eF attr l).2.1 = (U8.nx l).2.1 := rfl
  rw [e1, hok.2.2.2.2]
/-- What may not stand in a text that is written. -/
def good (attr : Bool) (b : UInt8) : Bool := !(b == 60 || b == 62 || b == 13 || attr && (b == 34 || b == 9 || b == 10))
theorem wrB_good (attr : Bool) (b : UInt8) : (wrB attr b).all (good attr) = true := by
  unfold wrB
  by_cases b1 : b = 38
  · rw [if_pos b1]; cases attr <;> decide
  rw [if_neg b1]
  by_cases b2 : b = 60
  · rw [if_pos b2]; cases attr <;> decide
  rw [if_neg b2]
  by_cases b3 : b = 62
  · rw [if_pos b3]; cases attr <;> decide
  rw [if_neg b3]
  by_cases b4 : b = 13
  · rw [if_pos b4]; cases attr <;> decide
  rw [if_neg b4]
  cases attr with
  | false => simp [good, b2, b3, b4]
  | true =>
    by_cases b5 : b = 34
    · rw [if_pos ⟨rfl, b5⟩]; decide
    rw [if_neg (fun e => b5 e.2)]
    by_cases b6 : b = 9
    · rw [if_pos ⟨rfl, b6⟩]; decide
    rw [if_neg (fun e => b6 e.2)]
    by_cases b7 : b = 10
    · rw [if_pos ⟨rfl, b7⟩]; decide
    rw [if_neg (fun e => b7 e.2)]
    simp [good, b2, b3, b4, b5, b6, b7]
theorem encB_good (attr : Bool) (l : List UInt8) : (encB attr l).all (good attr) = true := by
  induction l with
  | nil => rfl
  | cons b l ih => rw [encB_cons, List.all_append, wrB_good, ih]; rfl
/-- WHAT IS DECODED MAY BE ENCODED. -/
theorem dec_valid {l : List UInt8} (h : (rep dF l).2.2 = 0) : validL (rep dF l).1 := by
  refine rep_ind moves_dF (Q := fun _ t => validL t) validL_nil ?_ l.length l (Nat.le_refl _) h
  intro l q hne hz _ hq
  have key : ∃ c, U8.isCh c = true ∧ (dF l).1 = U8.put c := by
    cases l with
    | nil => exact absurd rfl hne
    | cons a b =>
      by_cases ha : a = 38
      · subst ha
        rw [dF_amp rfl] at hz ⊢
        by_cases h0 : (rf (38 :: b)).2 = 0
        · rw [if_pos h0] at hz; cases hz
        · rw [if_neg h0]
          rw [rf_amp] at h0 ⊢
          obtain ⟨j, _, e, hc⟩ := rfb_ok h0
          rw [e]
          refine ⟨_, ?_, rfl⟩
          cases hch : U8.isCh (said (b.take j)) with
          | true => rfl
          | false => exact absurd (U8.put_no hch) hc
      · have h1 : (a :: b : List UInt8).head? ≠ some 38 := by simpa using ha
        rw [dF_no h1] at hz ⊢
        have hok := U8.nx_ok hne hz
        refine ⟨(U8.nx (a :: b)).1, hok.1, ?_⟩
        have hl := U8.put_length hok.1
        have e := hok.2.2.2.2
        have e3 : ((a :: b).take (U8.nx (a :: b)).2.1) = (U8.put (U8.nx (a :: b)).1 ++ (a :: b).drop (U8.nx (a :: b)).2.1).take (U8.nx (a :: b)).2.1 := by rw [e]
        simp only
        rw [e3, hok.2.1, ← hl, List.take_left]
  obtain ⟨c, hch, e⟩ := key
  rw [e]
  exact validL_put hch hq
end Go.Proofs.YthncfhakbobkkaaGreatDoor.En
