/- Facts and walks for the statement. -/
import Derived.Laws.Closers25
import Derived.Lib.ItoaNum
import Derived.Lib.ParseIntBCases
import Derived.Test.YtmmdigeciphglaaGreatDoorPzB01
import Derived.Test.YtmmdigeciphglaaGreatDoorPzB00
namespace Go.Proofs.YtmmdigeciphglaaGreatDoor
namespace Nu
def dig (n : Nat) : List Nat := if h : n = 0 then [] else n % 10 :: dig (n / 10)
termination_by n
decreasing_by omega
theorem dig_zero : dig 0 = [] := by rw [dig]; rfl
theorem dig_pos {n : Nat} (h : n ≠ 0) : dig n = n % 10 :: dig (n / 10) := by rw [dig, dif_neg h]
theorem dig_len_le {n k : Nat} (h : n < 10 ^ k) : (dig n).length ≤ k := by
  induction k generalizing n with
  | zero => have : n = 0 := by simp at h; exact h
            subst this; rw [dig_zero]; exact Nat.le_refl _
  | succ k ih =>
    by_cases hn : n = 0
    · subst hn; rw [dig_zero]; exact Nat.zero_le _
    · rw [dig_pos hn, List.length_cons]
      have := ih (n := n / 10) (by rw [Nat.pow_succ] at h; omega)
      omega
def fits (z : Int) : Prop := -9223372036854775808 ≤ z ∧ z ≤ 9223372036854775807
instance (z : Int) : Decidable (fits z) := by unfold fits; infer_instance
def tell (z : Int) : Int × Int := if fits z then (z, 0) else (0, 60)
theorem tell_in {z : Int} (h : fits z) : tell z = (z, 0) := if_pos h
theorem tell_out {z : Int} (h : ¬ fits z) : tell z = (0, 60) := if_neg h
end Nu
end Go.Proofs.YtmmdigeciphglaaGreatDoor
namespace Go.Proofs.YtmmdigeciphglaaGreatDoor
namespace Nu
def isDg (c : UInt8) : Bool := decide (48 ≤ c.toNat ∧ c.toNat ≤ 57)
def allDg (l : List UInt8) : Bool := l.all isDg
def magF (acc : Nat) (l : List UInt8) : Nat := l.foldl (fun a c => a * 10 + (c.toNat - 48)) acc
theorem magF_nil (acc : Nat) : magF acc [] = acc := by
  unfold magF
  rw [List.foldl_nil]
theorem magF_cons (acc : Nat) (c : UInt8) (r : List UInt8) : magF acc (c :: r) = magF (acc * 10 + (c.toNat - 48)) r := by
  unfold magF
  rw [List.foldl_cons]
theorem magF_ge (l : List UInt8) (acc : Nat) : acc ≤ magF acc l := by
  induction l generalizing acc with
  | nil => rw [magF_nil]; exact Nat.le_refl _
  | cons c r ih =>
    have := ih (acc * 10 + (c.toNat - 48))
    rw [magF_cons]
    omega
theorem magF_app (l m : List UInt8) (acc : Nat) : magF acc (l ++ m) = magF (magF acc l) m := by
  induction l generalizing acc with
  | nil => rw [magF_nil]; rfl
  | cons c l ih => rw [List.cons_append, magF_cons, magF_cons]; exact ih _
theorem parse10 (l : List UInt8) (acc : Nat) (h : allDg l = true) (ha : acc < 18446744073709551616) : Lib.parseUint10 acc l = if magF acc l < 18446744073709551616 then .ok (magF acc l) else .range := by
  induction l generalizing acc with
  | nil => rw [magF_nil, if_pos ha, Lib.parseUint10]
  | cons c r ih =>
    unfold allDg at h
    rw [List.all_cons, Bool.and_eq_true] at h
    have hc := of_decide_eq_true h.1
    have hg := magF_ge r (acc * 10 + (c.toNat - 48))
    rw [magF_cons]
    unfold Lib.parseUint10
    rw [if_pos hc]
    by_cases h1 : 1844674407370955162 ≤ acc
    · rw [if_pos h1, if_neg (by omega)]
    · rw [if_neg h1]
      by_cases h2 : 18446744073709551616 ≤ acc * 10 + (c.toNat - 48)
      · rw [if_pos h2, if_neg (by omega)]
      · rw [if_neg h2]
        exact ih _ h.2 (by omega)
def strip : List UInt8 → List UInt8
  | 45 :: r => r
  | l => l
def below (l : List UInt8) : Bool := l.head? == some 45
def isW (l : List UInt8) : Bool := l == [48] || (!(strip l).isEmpty && (strip l).head? != some 48 && allDg (strip l))
def worth (l : List UInt8) : Int := if below l then -(magF 0 (strip l) : Int) else (magF 0 (strip l) : Int)
def prs (l : List UInt8) : Int × Int := if isW l then tell (worth l) else (0, 2)
theorem strip_other {l : List UInt8} (h : below l = false) : strip l = l := by
  unfold below at h
  unfold strip
  split
  · simp at h
  · rfl
theorem strip_minus {l : List UInt8} (h : below l = true) : l = 45 :: strip l := by
  unfold below at h
  cases l with
  | nil => simp at h
  | cons c r =>
    simp at h
    subst h
    rfl
theorem isW_ne {l : List UInt8} (h : isW l = true) : strip l ≠ [] ∧ allDg (strip l) = true := by
  unfold isW at h
  rw [Bool.or_eq_true] at h
  rcases h with h | h
  · have := eq_of_beq h
    subst this
    exact ⟨by decide, by decide⟩
  · rw [Bool.and_eq_true, Bool.and_eq_true] at h
    refine ⟨fun e => ?_, h.2⟩
    rw [e] at h
    exact absurd h.1.1 (by decide)
theorem worth_b {l : List UInt8} (h : below l = true) : worth l = -(magF 0 (strip l) : Int) := by unfold worth; rw [h]; rfl
theorem worth_n {l : List UInt8} (h : below l = false) : worth l = (magF 0 (strip l) : Int) := by unfold worth; rw [h]; rfl
theorem fits_iff (z : Int) : fits z ↔ (-9223372036854775808 ≤ z ∧ z ≤ 9223372036854775807) := Iff.rfl
theorem parseB {l : List UInt8} (h : isW l = true) : Lib.parseIntB 64 l = if fits (worth l) then .ok (worth l) else .range := by
  obtain ⟨hne, hd⟩ := isW_ne h
  have hu : Lib.parseUintB 64 (strip l) = if magF 0 (strip l) < 18446744073709551616 then .ok (magF 0 (strip l)) else .range := by
    rw [Lib.parseUintB_64]
    unfold Lib.parseMag
    rw [if_neg hne]
    exact parse10 _ 0 hd (by omega)
  cases hb : below l with
  | true =>
    have e := strip_minus hb
    rw [e, Lib.parseIntB_minus, ← e, hu]
    rw [worth_b hb]
    generalize magF 0 (strip l) = u
    simp only [fits_iff]
    by_cases h1 : u < 18446744073709551616
    · rw [if_pos h1]
      simp only [Lib.signedC]
      by_cases h2 : 2 ^ (64 - 1) < u
      · rw [if_pos h2, if_neg (by omega)]
      · rw [if_neg h2, if_pos (by omega)]
    · rw [if_neg h1, if_neg (by omega)]
      rfl
  | false =>
    have e := strip_other hb
    rw [worth_n hb]
    rw [e] at hu hd hne ⊢
    cases l with
    | nil => exact absurd rfl hne
    | cons c r =>
      have hc : isDg c = true := by simp only [allDg, List.all_cons, Bool.and_eq_true] at hd; exact hd.1
      have hc2 := of_decide_eq_true hc
      rw [Lib.parseIntB_plain 64 c r (by omega) (by omega), hu]
      generalize magF 0 (c :: r) = u
      simp only [fits_iff]
      by_cases h1 : u < 18446744073709551616
      · rw [if_pos h1]
        simp only [Lib.signlessC]
        by_cases h2 : 2 ^ (64 - 1) ≤ u
        · rw [if_pos h2, if_neg (by omega)]
        · rw [if_neg h2, if_pos (by omega)]
      · rw [if_neg h1, if_neg (by omega)]
        rfl
/-! ### how a number is written -/
theorem head_app {α : Type} {l m : List α} (h : l ≠ []) : (l ++ m).head? = l.head? := by
  cases l with
  | nil => exact absurd rfl h
  | cons a r => rfl
theorem dec_dig {u : Nat} (h : u ≠ 0) : Lib.decDigits u = (dig u).reverse.map (fun d => UInt8.ofNat (48 + d)) := by
  induction u using Nat.strongRecOn with
  | _ u ih =>
    rw [Lib.decDigits, dig_pos h]
    by_cases h10 : u < 10
    · rw [dif_pos h10, show u / 10 = 0 by omega, show u % 10 = u by omega, dig_zero]
      rfl
    · rw [dif_neg h10, ih (u / 10) (by omega) (by omega)]
      simp
theorem toNat_dig {d : Nat} (h : d < 10) : (UInt8.ofNat (48 + d)).toNat = 48 + d := by
  rw [UInt8.toNat_ofNat']; omega
theorem dec_mag (u : Nat) : magF 0 (Lib.decDigits u) = u ∧ allDg (Lib.decDigits u) = true ∧ Lib.decDigits u ≠ [] ∧ (u ≠ 0 → (Lib.decDigits u).head? ≠ some 48) := by
  induction u using Nat.strongRecOn with
  | _ u ih =>
    rw [Lib.decDigits]
    by_cases h10 : u < 10
    · rw [dif_pos h10]
      have e := toNat_dig h10
      refine ⟨by rw [magF_cons, magF_nil]; omega, ?_, by simp, fun h0 => ?_⟩
      · simp only [allDg, List.all_cons, List.all_nil, Bool.and_true, isDg]
        exact decide_eq_true (by omega)
      · intro hh
        simp only [List.head?_cons, Option.some.injEq] at hh
        have := congrArg UInt8.toNat hh
        rw [e] at this
        have h48 : (48 : UInt8).toNat = 48 := rfl
        omega
    · rw [dif_neg h10]
      obtain ⟨h1, h2, h3, h4⟩ := ih (u / 10) (by omega)
      have e := toNat_dig (d := u % 10) (Nat.mod_lt _ (by decide))
      refine ⟨?_, ?_, by simp, fun _ => ?_⟩
      · rw [magF_app, h1]
        rw [magF_cons, magF_nil, e]; omega
      · unfold allDg at h2 ⊢
        rw [List.all_append, h2]
        simp only [List.all_cons, List.all_nil, Bool.and_true, Bool.true_and, isDg]
        exact decide_eq_true (by omega)
      · rw [head_app h3]
        exact h4 (by omega)
theorem below_dig {l : List UInt8} (h : allDg l = true) : below l = false := by
  cases l with
  | nil => rfl
  | cons c r =>
    simp only [allDg, List.all_cons, Bool.and_eq_true] at h
    have := of_decide_eq_true h.1
    unfold below
    simp only [List.head?_cons]
    rw [beq_eq_false_iff_ne]
    intro e
    injection e with e
    subst e
    exact absurd this (by decide)
end Nu
end Go.Proofs.YtmmdigeciphglaaGreatDoor
namespace Go.Proofs.YtmmdigeciphglaaGreatDoor
namespace Ex
theorem dg_len {n : Nat} (h : n ≤ 9223372036854775807) : (dg n).length ≤ 20 := by
  by_cases h0 : n = 0
  · subst h0; unfold dg; rw [Lib.decDigits]; simp
  · have h1 := Nu.dig_len_le (n := n) (k := 20) (Nat.lt_of_le_of_lt h (by decide))
    unfold dg
    rw [Nu.dec_dig h0, List.length_map, List.length_reverse]
    exact h1
theorem isDg_isD {l : List UInt8} (h : Nu.allDg l = true) : l.all Lx.isD = true := h
theorem is_num {l : List UInt8} (h : l.all Lx.isD = true) (hne : l ≠ []) (hl : l.length ≤ 64) : Lx.is l = 1 := by
  unfold Lx.is
  rw [if_neg (by omega)]
  unfold Lx.whole
  have hs : ∀ w ∈ Lx.signs, w.all Lx.isD = false := by decide
  have hw : ∀ w ∈ Lx.words, w.all Lx.isD = false := by decide
  rw [if_neg (fun e => by have := hs _ (List.contains_iff_mem.1 e); rw [h] at this; cases this), if_neg (fun e => by have := hw _ (List.contains_iff_mem.1 e); rw [h] at this; cases this), if_neg hne, if_pos h]
theorem numv_dg {n : Nat} (h : n ≤ 9223372036854775807) : numv (dg n) = some n := by
  have h1 := (Nu.dec_mag n).1
  unfold Nu.magF at h1
  unfold numv dg
  simp only
  rw [h1, if_pos h]
theorem numv_le {s : List UInt8} {v : Nat} (h : numv s = some v) : v ≤ 9223372036854775807 := by
  unfold numv at h
  simp only at h
  split at h
  · rename_i hv; cases h; exact hv
  · cases h
def small : E → Prop
  | .num n => n ≤ 9223372036854775807
  | .un _ a => small a
  | .bin _ a b => small a ∧ small b
  | .ite a b c => small a ∧ small b ∧ small c
  | _ => True
theorem wf_of : ∀ {x : E}, wr x → small x → wf x
  | .num n, _, h => ⟨numv_dg h, is_num (isDg_isD (Nu.dec_mag n).2.1) (Nu.dec_mag n).2.2.1 (Nat.le_trans (dg_len h) (by decide))⟩
  | .name _, h, _ => h
  | .tt, _, _ => True.intro
  | .ff, _, _ => True.intro
  | .un _ _, h, q => ⟨h.1, wf_of h.2 q⟩
  | .bin _ _ _, h, q => ⟨h.1, h.2.1, wf_of h.2.2.1 q.1, wf_of h.2.2.2 q.2⟩
  | .ite _ _ _, h, q => ⟨wf_of h.1 q.1, wf_of h.2.1 q.2.1, wf_of h.2.2 q.2.2⟩
def Fine (m : Md) (x : E) : Prop := match m with
  | .loop _ a => wr a → small a → wr x ∧ small x
  | _ => wr x ∧ small x
theorem kd_name {ts : List Tk} (h : nx ts ≠ []) (hk : kd ts = 2) : Lx.is (nx ts) = 2 := by
  cases ts with
  | nil => exact absurd rfl h
  | cons t r =>
    have hk : t.1 = 2 := hk
    unfold nx at h ⊢
    simp only at h ⊢
    split at h
    · rename_i e; rw [if_pos e, e, hk]
    · exact absurd rfl h
theorem rd_fine : ∀ (f : Nat) (m : Md) (ts r : List Tk) (x : E), rd f m ts = .ok r x → Fine m x
  | 0, _, _, _, _, h => by cases h
  | f + 1, .lev n, ts, r, x, h => by
    unfold rd at h
    split at h
    · exact rd_fine f .pri _ _ _ h
    · split at h
      · exact rd_fine f .una _ _ _ h
      · obtain ⟨r1, a1, h1, h2⟩ := then2_ok h
        have e1 : wr a1 ∧ small a1 := rd_fine f (.lev (n + 1)) _ _ _ h1
        exact rd_fine f (.loop n a1) _ _ _ h2 e1.1 e1.2
  | f + 1, .loop n a, ts, r, x, h => fun wa sa => by
    unfold rd at h
    split at h
    · cases h; exact ⟨wa, sa⟩
    · rename_i hop
      obtain ⟨t1, t2, _, _⟩ := of2_tells hop
      obtain ⟨r1, b1, h1, h2⟩ := then2_ok h
      have e1 : wr b1 ∧ small b1 := rd_fine f (.lev (n + 1)) _ _ _ h1
      exact rd_fine f (.loop n (.bin (of2 n (nx ts)) a b1)) _ _ _ h2 ⟨t1, t2, wa, e1.1⟩ ⟨sa, e1.2⟩
  | f + 1, .una, ts, r, x, h => by
    unfold rd at h
    split at h
    · obtain ⟨r1, a1, h1, h2⟩ := then2_ok h
      have e1 : wr a1 ∧ small a1 := rd_fine f .una _ _ _ h1
      cases h2
      exact ⟨⟨Or.inl rfl, e1.1⟩, e1.2⟩
    · split at h
      · obtain ⟨r1, a1, h1, h2⟩ := then2_ok h
        have e1 : wr a1 ∧ small a1 := rd_fine f .una _ _ _ h1
        cases h2
        exact ⟨⟨Or.inr rfl, e1.1⟩, e1.2⟩
      · exact rd_fine f .pri _ _ _ h
  | f + 1, .pri, ts, r, x, h => by
    unfold rd at h
    split at h
    · obtain ⟨r1, a1, h1, h2⟩ := then2_ok h
      obtain ⟨_, _, e4⟩ := eat_ok (by simp) h2
      have e1 : wr a1 ∧ small a1 := rd_fine f (.lev 1) _ _ _ h1
      cases e4
      exact e1
    · split at h
      · exact rd_fine f .bra _ _ _ h
      · split at h
        · cases h; exact ⟨True.intro, True.intro⟩
        · split at h
          · cases h; exact ⟨True.intro, True.intro⟩
          · split at h
            · cases hv : numv (nx ts) with
              | none => rw [hv] at h; cases h
              | some v => rw [hv] at h; cases h; exact ⟨True.intro, numv_le hv⟩
            · split at h
              · rename_i q; cases h; exact ⟨kd_name q.1 q.2, True.intro⟩
              · cases h
  | f + 1, .bra, ts, r, x, h => by
    unfold rd at h
    obtain ⟨r1, a1, h1, h2⟩ := then2_ok h
    obtain ⟨_, _, h3⟩ := eat_ok (by simp) h2
    obtain ⟨r4, a4, h4, h5⟩ := then2_ok h3
    obtain ⟨_, _, h6⟩ := eat_ok (by simp) h5
    obtain ⟨r7, a7, h7, h8⟩ := then2_ok h6
    obtain ⟨_, _, h9⟩ := eat_ok (by simp) h8
    have q1 : wr a1 ∧ small a1 := rd_fine f (.lev 1) _ _ _ h1
    have q4 : wr a4 ∧ small a4 := rd_fine f (.lev 1) _ _ _ h4
    have q7 : wr a7 ∧ small a7 := rd_fine f (.lev 1) _ _ _ h7
    cases h9
    exact ⟨⟨q1.1, q4.1, q7.1⟩, ⟨q1.2, q4.2, q7.2⟩⟩
end Ex
end Go.Proofs.YtmmdigeciphglaaGreatDoor
namespace Go.Proofs.YtmmdigeciphglaaGreatDoor
namespace Lx
def run (p : UInt8 → Bool) : List UInt8 → Nat
  | [] => 0
  | c :: r => if p c then 1 + run p r else 0
theorem run_le (p : UInt8 → Bool) : ∀ l : List UInt8, run p l ≤ l.length
  | [] => Nat.le_refl _
  | c :: r => by
    have := run_le p r
    unfold run
    split <;> simp <;> omega
theorem run_all (p : UInt8 → Bool) : ∀ (l : List UInt8) (k : Nat), k ≤ l.length → ((l.take k).all p = true ↔ k ≤ run p l)
  | [], k, h => by simp at h; subst h; simp
  | c :: r, 0, _ => by simp
  | c :: r, k + 1, h => by
    have := run_all p r k (by simpa using h)
    unfold run
    rw [List.take_succ_cons, List.all_cons, Bool.and_eq_true]
    cases hc : p c with
    | true => rw [if_pos rfl]; simp only [true_and]; rw [this]; omega
    | false => rw [if_neg (by decide)]; simp
theorem isD_not {c : UInt8} (h : isD c = true) : isL c = false := by
  have := of_decide_eq_true h
  exact decide_eq_false (by omega)
theorem words_all : ∀ w ∈ words, lead w = true ∧ w.all isN = true := by decide
theorem signs_len : ∀ w ∈ signs, w ≠ [] ∧ w.length ≤ 2 ∧ lead w = false ∧ w.all isD = false := by decide
theorem signs_head : ∀ w ∈ signs, ∀ c ∈ w.head?, isD c = false ∧ isL c = false := by decide
theorem whole_ne (l : List UInt8) : whole l ≠ 0 ↔ l ∈ signs ∨ (l ≠ [] ∧ l.all isD = true) ∨ (lead l = true ∧ l.all isN = true) := by
  unfold whole
  by_cases h1 : l ∈ signs
  · rw [if_pos (List.contains_iff_mem.2 h1)]
    exact ⟨fun _ => Or.inl h1, fun _ => by decide⟩
  · rw [if_neg (fun h => h1 (List.contains_iff_mem.1 h))]
    by_cases h2 : l ∈ words
    · rw [if_pos (List.contains_iff_mem.2 h2)]
      exact ⟨fun _ => Or.inr (Or.inr (words_all l h2)), fun _ => by decide⟩
    · rw [if_neg (fun h => h2 (List.contains_iff_mem.1 h))]
      by_cases h3 : l = []
      · subst h3; simp [lead, signs]
      · rw [if_neg h3]
        by_cases h4 : l.all isD = true
        · rw [if_pos h4]
          exact ⟨fun _ => Or.inr (Or.inl ⟨h3, h4⟩), fun _ => by decide⟩
        · rw [if_neg h4]
          by_cases h5 : (lead l && l.all isN) = true
          · rw [if_pos h5]
            rw [Bool.and_eq_true] at h5
            exact ⟨fun _ => Or.inr (Or.inr h5), fun _ => by decide⟩
          · rw [if_neg h5]
            rw [Bool.and_eq_true] at h5
            constructor
            · intro h; exact absurd rfl h
            · rintro (h | h | h)
              · exact absurd h h1
              · exact absurd h.2 h4
              · exact absurd h h5
theorem kind_digit {c : UInt8} {r : List UInt8} (h : isD c = true) : whole (c :: r) ≠ 0 ↔ (c :: r).all isD = true := by
  rw [whole_ne]
  constructor
  · rintro (h1 | h1 | h1)
    · have := (signs_head _ h1 c rfl).1
      rw [h] at this; cases this
    · exact h1.2
    · have : isL c = true := h1.1
      rw [isD_not h] at this; cases this
  · intro h1; exact Or.inr (Or.inl ⟨by simp, h1⟩)
theorem kind_letter {c : UInt8} {r : List UInt8} (h : isL c = true) : whole (c :: r) ≠ 0 ↔ (c :: r).all isN = true := by
  rw [whole_ne]
  constructor
  · rintro (h1 | h1 | h1)
    · have := (signs_head _ h1 c rfl).2
      rw [h] at this; cases this
    · have h2 := h1.2
      rw [List.all_cons, Bool.and_eq_true] at h2
      have := isD_not h2.1
      rw [h] at this; cases this
    · exact h1.2
  · intro h1; exact Or.inr (Or.inr ⟨h, h1⟩)
theorem kind_other {c : UInt8} {r : List UInt8} (h : isD c = false) (h' : isL c = false) : whole (c :: r) ≠ 0 ↔ c :: r ∈ signs := by
  rw [whole_ne]
  constructor
  · rintro (h1 | h1 | h1)
    · exact h1
    · have h2 := h1.2
      rw [List.all_cons, h] at h2; cases h2
    · have : isL c = true := h1.1
      rw [h'] at this; cases this
  · intro h1; exact Or.inl h1
theorem lngo_no {l : List UInt8} : ∀ (f k n : Nat), (∀ j, k ≤ j → j ≤ l.length → whole (l.take j) = 0) → lngo l f k n = n
  | 0, _, _, _ => rfl
  | f + 1, k, n, h => by
    unfold lngo
    split
    · rfl
    · rename_i hk
      split
      · rfl
      · rw [if_neg (by rw [h k (Nat.le_refl _) (by omega)]; simp)]
        exact lngo_no f (k + 1) n (fun j hj hl => h j (by omega) hl)
theorem lngo_run {l : List UInt8} {m : Nat} (hm : m ≤ l.length) (h1 : ∀ j, 1 ≤ j → j ≤ m → whole (l.take j) ≠ 0) (h2 : ∀ j, m < j → j ≤ l.length → whole (l.take j) = 0) : ∀ (f k : Nat), 1 ≤ k → k ≤ m + 1 → m + 1 ≤ f + k → lngo l f k (k - 1) = m
  | 0, k, hk, hkm, hf => by unfold lngo; omega
  | f + 1, k, hk, hkm, hf => by
    by_cases hkm2 : k = m + 1
    · subst hkm2
      exact lngo_no _ _ _ (fun j hj hl => h2 j (by omega) hl)
    · unfold lngo
      rw [if_neg (by omega), if_neg (by omega), if_pos (h1 k hk (by omega))]
      have := lngo_run hm h1 h2 f (k + 1) (by omega) (by omega) (by omega)
      simpa using this
theorem lng_run {l : List UInt8} {m : Nat} (hm : m ≤ l.length) (h1 : ∀ j, 1 ≤ j → j ≤ m → whole (l.take j) ≠ 0) (h2 : ∀ j, m < j → j ≤ l.length → whole (l.take j) = 0) : lng l = m :=
  lngo_run hm h1 h2 _ 1 (Nat.le_refl _) (by omega) (by omega)
theorem lng_digit {c : UInt8} {r : List UInt8} (h : isD c = true) : lng (c :: r) = run isD (c :: r) := by
  have hk : ∀ j, 1 ≤ j → j ≤ (c :: r).length → (whole ((c :: r).take j) ≠ 0 ↔ j ≤ run isD (c :: r)) := fun j hj hl => by
    rw [← run_all isD (c :: r) j hl]
    obtain ⟨j, rfl⟩ : ∃ i, j = i + 1 := ⟨j - 1, by omega⟩
    rw [List.take_succ_cons]
    exact kind_digit h
  refine lng_run (run_le _ _) (fun j hj hl => (hk j hj (Nat.le_trans hl (run_le _ _))).2 hl) (fun j hj hl => ?_)
  refine Decidable.byContradiction fun hn => ?_
  have := (hk j (by omega) hl).1 hn
  omega
theorem lng_letter {c : UInt8} {r : List UInt8} (h : isL c = true) : lng (c :: r) = run isN (c :: r) := by
  have hk : ∀ j, 1 ≤ j → j ≤ (c :: r).length → (whole ((c :: r).take j) ≠ 0 ↔ j ≤ run isN (c :: r)) := fun j hj hl => by
    rw [← run_all isN (c :: r) j hl]
    obtain ⟨j, rfl⟩ : ∃ i, j = i + 1 := ⟨j - 1, by omega⟩
    rw [List.take_succ_cons]
    exact kind_letter h
  refine lng_run (run_le _ _) (fun j hj hl => (hk j hj (Nat.le_trans hl (run_le _ _))).2 hl) (fun j hj hl => ?_)
  refine Decidable.byContradiction fun hn => ?_
  have := (hk j (by omega) hl).1 hn
  omega
def sgn : List UInt8 → Nat
  | [] => 0
  | [c] => if signs.contains [c] then 1 else 0
  | c :: d :: _ => if signs.contains [c, d] then 2 else if signs.contains [c] then 1 else 0
theorem lng_other {c : UInt8} {r : List UInt8} (h : isD c = false) (h' : isL c = false) : lng (c :: r) = sgn (c :: r) := by
  have h3 : ∀ j, 3 ≤ j → j ≤ (c :: r).length → whole ((c :: r).take j) = 0 := fun j hj hl => by
    refine Decidable.byContradiction fun hn => ?_
    obtain ⟨j, rfl⟩ : ∃ i, j = i + 1 := ⟨j - 1, by omega⟩
    rw [List.take_succ_cons] at hn
    have := (signs_len _ ((kind_other h h').1 hn)).2.1
    rw [List.length_cons, List.length_take] at this
    simp at hl
    omega
  have k1 : whole [c] ≠ 0 ↔ [c] ∈ signs := kind_other h h'
  cases r with
  | nil =>
    show lng [c] = if signs.contains [c] then 1 else 0
    by_cases hc : [c] ∈ signs
    · rw [if_pos (List.contains_iff_mem.2 hc)]
      refine lng_run (by simp) (fun j hj hl => ?_) (fun j hj hl => by simp at hl; omega)
      obtain rfl : j = 1 := by omega
      exact k1.2 hc
    · rw [if_neg (fun e => hc (List.contains_iff_mem.1 e))]
      refine lng_run (by simp) (fun j hj hl => by omega) (fun j hj hl => ?_)
      obtain rfl : j = 1 := by simp at hl; omega
      exact Decidable.byContradiction fun hn => hc (k1.1 hn)
  | cons d r =>
    have k2 : whole [c, d] ≠ 0 ↔ [c, d] ∈ signs := kind_other h h'
    show lng (c :: d :: r) = if signs.contains [c, d] then 2 else if signs.contains [c] then 1 else 0
    by_cases h2 : [c, d] ∈ signs
    · rw [if_pos (List.contains_iff_mem.2 h2)]
      unfold lng
      rw [show (c :: d :: r).length + 1 = (r.length + 1) + 1 + 1 by simp]
      rw [lngo, if_neg (by simp), if_neg (by omega), lngo, if_neg (by simp), if_neg (by omega), if_pos (show whole (List.take (1 + 1) (c :: d :: r)) ≠ 0 from k2.2 h2)]
      exact lngo_no _ _ _ (fun j hj hl => h3 j (by omega) hl)
    · rw [if_neg (fun e => h2 (List.contains_iff_mem.1 e))]
      have n2 : whole [c, d] = 0 := Decidable.byContradiction fun hn => h2 (k2.1 hn)
      by_cases hc : [c] ∈ signs
      · rw [if_pos (List.contains_iff_mem.2 hc)]
        refine lng_run (by simp) (fun j hj hl => ?_) (fun j hj hl => ?_)
        · obtain rfl : j = 1 := by omega
          exact k1.2 hc
        · by_cases hj3 : 3 ≤ j
          · exact h3 j hj3 hl
          · obtain rfl : j = 2 := by omega
            exact n2
      · rw [if_neg (fun e => hc (List.contains_iff_mem.1 e))]
        have n1 : whole [c] = 0 := Decidable.byContradiction fun hn => hc (k1.1 hn)
        refine lng_run (by simp) (fun j hj hl => by omega) (fun j hj hl => ?_)
        by_cases hj3 : 3 ≤ j
        · exact h3 j hj3 hl
        · by_cases hj2 : j = 2
          · subst hj2; exact n2
          · obtain rfl : j = 1 := by omega
            exact n1
end Lx
end Go.Proofs.YtmmdigeciphglaaGreatDoor
namespace Go.Proofs.YtmmdigeciphglaaGreatDoor
namespace Lx
theorem lngo_good (l : List UInt8) : ∀ (f k n : Nat), (n ≠ 0 → whole (l.take n) ≠ 0) → lngo l f k n ≠ 0 → whole (l.take (lngo l f k n)) ≠ 0
  | 0, _, _, h, h0 => h h0
  | f + 1, k, n, h, h0 => by
    unfold lngo at h0 ⊢
    split
    · rename_i hk; rw [if_pos hk] at h0; exact h h0
    · rename_i hk
      rw [if_neg hk] at h0
      split
      · rename_i hk2; rw [if_pos hk2] at h0; exact h h0
      · rename_i hk2
        rw [if_neg hk2] at h0
        refine lngo_good l f _ _ ?_ h0
        intro hn
        by_cases hw : whole (l.take k) ≠ 0
        · rw [if_pos hw] at hn ⊢; exact hw
        · rw [if_neg hw] at hn ⊢; exact h hn
theorem lng_good {l : List UInt8} (h : lng l ≠ 0) : whole (l.take (lng l)) ≠ 0 := lngo_good l _ _ _ (fun h => absurd rfl h) h
theorem sign2 : ∀ w ∈ signs, sgn w = w.length := by decide
theorem lng_tok {x : List UInt8} (h : whole x ≠ 0) : lng x = x.length := by
  cases x with
  | nil => exact absurd rfl h
  | cons c r =>
    cases hd : isD c with
    | true =>
      rw [lng_digit hd]
      have h2 := (kind_digit hd).1 h
      have h3 := (run_all isD (c :: r) (c :: r).length (Nat.le_refl _)).1 (by rw [List.take_length]; exact h2)
      have := run_le isD (c :: r)
      omega
    | false =>
      cases hl : isL c with
      | true =>
        rw [lng_letter hl]
        have h2 := (kind_letter hl).1 h
        have h3 := (run_all isN (c :: r) (c :: r).length (Nat.le_refl _)).1 (by rw [List.take_length]; exact h2)
        have := run_le isN (c :: r)
        omega
      | false =>
        rw [lng_other hd hl]
        exact sign2 _ ((kind_other hd hl).1 h)
def isQ (q : UInt8) : Prop := q = 10 ∨ q = 32
theorem run_sep {p : UInt8 → Bool} {q : UInt8} (h : p q = false) (y : List UInt8) : ∀ x : List UInt8, run p (x ++ q :: y) = run p x
  | [] => by show (if p q then _ else _) = 0; rw [h]; rfl
  | c :: r => by
    show (if p c then 1 + run p (r ++ q :: y) else 0) = if p c then 1 + run p r else 0
    rw [run_sep h y r]
theorem sign_sep : ∀ w ∈ signs, w.contains 10 = false ∧ w.contains 32 = false := by decide
theorem lng_sep {q : UInt8} (hq : isQ q) {x : List UInt8} (hx : x ≠ []) (y : List UInt8) : lng (x ++ q :: y) = lng x := by
  have q1 : isD q = false := by rcases hq with rfl | rfl <;> decide
  have q2 : isN q = false := by rcases hq with rfl | rfl <;> decide
  cases x with
  | nil => exact absurd rfl hx
  | cons c r =>
    rw [List.cons_append]
    cases hd : isD c with
    | true => rw [lng_digit hd, lng_digit hd, ← List.cons_append, run_sep q1]
    | false =>
      cases hl : isL c with
      | true => rw [lng_letter hl, lng_letter hl, ← List.cons_append, run_sep q2]
      | false =>
        rw [lng_other hd hl, lng_other hd hl]
        cases r with
        | nil =>
          show (if signs.contains [c, q] then 2 else if signs.contains [c] then 1 else 0) = if signs.contains [c] then 1 else 0
          rw [if_neg]
          intro h
          have := sign_sep _ (List.contains_iff_mem.1 h)
          rcases hq with rfl | rfl
          · have h1 := this.1; simp at h1
          · have h1 := this.2; simp at h1
        | cons d r => rfl
theorem blk_cat (y : List UInt8) : ∀ (m : Bool) (x : List UInt8), blk m (x ++ 10 :: y) = if blk m x = x.length then x.length + 1 + blk false y else blk m x
  | true, [] => by simp [blk]
  | false, [] => by simp [blk, isB]
  | true, c :: r => by
    have h1 := blk_cat y false r
    have h2 := blk_cat y true r
    have e : blk true (c :: r) = if c.toNat = 10 then 1 + blk false r else 1 + blk true r := rfl
    have e' : blk true (c :: r ++ 10 :: y) = if c.toNat = 10 then 1 + blk false (r ++ 10 :: y) else 1 + blk true (r ++ 10 :: y) := rfl
    rw [e, e', h1, h2, List.length_cons]
    by_cases hc : c.toNat = 10
    · rw [if_pos hc, if_pos hc]
      split <;> split <;> omega
    · rw [if_neg hc, if_neg hc]
      split <;> split <;> omega
  | false, c :: r => by
    have h1 := blk_cat y false r
    have h2 := blk_cat y true r
    have e : blk false (c :: r) = if isB c then 1 + blk false r else if c.toNat = 45 ∧ r.head? = some 45 then 1 + blk true r else 0 := rfl
    have e' : blk false (c :: r ++ 10 :: y) = if isB c then 1 + blk false (r ++ 10 :: y) else if c.toNat = 45 ∧ (r ++ 10 :: y).head? = some 45 then 1 + blk true (r ++ 10 :: y) else 0 := rfl
    have hh : (r ++ 10 :: y).head? = some 45 ↔ r.head? = some 45 := by
      cases r with
      | nil => simp
      | cons d r => simp
    rw [e, e', h1, h2, List.length_cons]
    by_cases hb : isB c = true
    · rw [if_pos hb, if_pos hb]
      split <;> split <;> omega
    · rw [if_neg hb, if_neg hb]
      by_cases hc : c.toNat = 45 ∧ r.head? = some 45
      · rw [if_pos hc, if_pos ⟨hc.1, hh.2 hc.2⟩]
        split <;> split <;> omega
      · rw [if_neg hc, if_neg (fun h => hc ⟨h.1, hh.1 h.2⟩)]
        split <;> omega
theorem tok_head : ∀ w ∈ signs, ∀ c ∈ w.head?, isB c = false := by decide
theorem tok_dash : ∀ w ∈ signs, w.head? = some 45 → w = [45] := by decide
theorem blk_tok {x : List UInt8} (h : whole x ≠ 0) (y : List UInt8) : blk false (x ++ 32 :: y) = 0 ∧ blk false x = 0 := by
  cases x with
  | nil => exact absurd rfl h
  | cons c r =>
    have e : ∀ r : List UInt8, blk false (c :: r) = if isB c then 1 + blk false r else if c.toNat = 45 ∧ r.head? = some 45 then 1 + blk true r else 0 := fun _ => rfl
    have hb : isB c = false ∧ (c.toNat = 45 → r = []) := by
      cases hd : isD c with
      | true =>
        have := of_decide_eq_true hd
        exact ⟨decide_eq_false (by omega), fun h => by omega⟩
      | false =>
        cases hl : isL c with
        | true =>
          have := of_decide_eq_true hl
          exact ⟨decide_eq_false (by omega), fun h => by omega⟩
        | false =>
          have hs := (kind_other hd hl).1 h
          refine ⟨tok_head _ hs c rfl, fun h45 => ?_⟩
          have hc : c = 45 := UInt8.toNat_inj.1 h45
          have := tok_dash _ hs (by rw [hc]; rfl)
          injection this
    constructor
    · rw [List.cons_append, e, if_neg (by rw [hb.1]; decide), if_neg]
      rintro ⟨h45, hh⟩
      rw [hb.2 h45] at hh
      cases hh
    · rw [e, if_neg (by rw [hb.1]; decide), if_neg]
      rintro ⟨h45, hh⟩
      rw [hb.2 h45] at hh
      cases hh
end Lx
end Go.Proofs.YtmmdigeciphglaaGreatDoor
