/- Plain facts on the writings of numbers: which texts are some, what they are worth, and how a number is written. No program is named here; no condition. -/
import Derived.Test.YtdcjpinbflmikaaGreatDoorNuPlain
import Derived.Lib.ItoaNum
import Derived.Lib.ParseIntBCases
namespace Go.Proofs.YtdcjpinbflmikaaGreatDoor
namespace Nu

def isDg (c : UInt8) : Bool := decide (48 ≤ c.toNat ∧ c.toNat ≤ 57)
def allDg (l : List UInt8) : Bool := l.all isDg
/-- What digits are worth, the first one being the greatest. -/
def magF (acc : Nat) (l : List UInt8) : Nat := l.foldl (fun a c => a * 10 + (c.toNat - 48)) acc
theorem magF_nil (acc : Nat) : magF acc [] = acc := by
  unfold magF
  rw [List.foldl_nil]
theorem magF_cons (acc : Nat) (c : UInt8) (r : List UInt8) : magF acc (c :: r) = magF (acc * 10 + (c.toNat - 48)) r := by
  unfold magF
  rw [List.foldl_cons]
theorem magF_ge (l : List UInt8) (acc : Nat) : acc ≤ magF acc l := by
  induction l generalizing acc with
  | nil => rw [magF_nil]; exact Nat.le_refl _
  | cons c r ih =>
    have := ih (acc * 10 + (c.toNat - 48))
    rw [magF_cons]
    omega
theorem magF_app (l m : List UInt8) (acc : Nat) : magF acc (l ++ m) = magF (magF acc l) m := by
  induction l generalizing acc with
  | nil => rw [magF_nil]; rfl
  | cons c l ih => rw [List.cons_append, magF_cons, magF_cons]; exact ih _
theorem parse10 (l : List UInt8) (acc : Nat) (h : allDg l = true) (ha : acc < 18446744073709551616) : Lib.parseUint10 acc l = if magF acc l < 18446744073709551616 then .ok (magF acc l) else .range := by
  induction l generalizing acc with
  | nil => rw [magF_nil, if_pos ha, Lib.parseUint10]
  | cons c r ih =>
    unfold allDg at h
    rw [List.all_cons, Bool.and_eq_true] at h
    have hc := of_decide_eq_true h.1
    have hg := magF_ge r (acc * 10 + (c.toNat - 48))
    rw [magF_cons]
    unfold Lib.parseUint10
    rw [if_pos hc]
    by_cases h1 : 1844674407370955162 ≤ acc
    · rw [if_pos h1, if_neg (by omega)]
    · rw [if_neg h1]
      by_cases h2 : 18446744073709551616 ≤ acc * 10 + (c.toNat - 48)
      · rw [if_pos h2, if_neg (by omega)]
      · rw [if_neg h2]
        exact ih _ h.2 (by omega)
/-- The digits of a writing, without its sign. -/
def strip : List UInt8 → List UInt8
  | 45 :: r => r
  | l => l
def below (l : List UInt8) : Bool := l.head? == some 45
/-- Is it a writing, were there no bounds? -/
def isW (l : List UInt8) : Bool := l == [48] || (!(strip l).isEmpty && (strip l).head? != some 48 && allDg (strip l))
def worth (l : List UInt8) : Int := if below l then -(magF 0 (strip l) : Int) else (magF 0 (strip l) : Int)
/-- What Parse tells. -/
def prs (l : List UInt8) : Int × Int := if isW l then tell (worth l) else (0, 2)
theorem isDg_45 : isDg 45 = false := by decide
theorem strip_other {l : List UInt8} (h : below l = false) : strip l = l := by
  unfold below at h
  unfold strip
  split
  · simp at h
  · rfl
theorem strip_minus {l : List UInt8} (h : below l = true) : l = 45 :: strip l := by
  unfold below at h
  cases l with
  | nil => simp at h
  | cons c r =>
    simp at h
    subst h
    rfl
theorem isW_ne {l : List UInt8} (h : isW l = true) : strip l ≠ [] ∧ allDg (strip l) = true := by
  unfold isW at h
  rw [Bool.or_eq_true] at h
  rcases h with h | h
  · have := eq_of_beq h
    subst this
    exact ⟨by decide, by decide⟩
  · rw [Bool.and_eq_true, Bool.and_eq_true] at h
    refine ⟨fun e => ?_, h.2⟩
    rw [e] at h
    exact absurd h.1.1 (by decide)
theorem worth_b {l : List UInt8} (h : below l = true) : worth l = -(magF 0 (strip l) : Int) := by unfold worth; rw [h]; rfl
theorem worth_n {l : List UInt8} (h : below l = false) : worth l = (magF 0 (strip l) : Int) := by unfold worth; rw [h]; rfl
theorem fits_iff (z : Int) : fits z ↔ (-9223372036854775808 ≤ z ∧ z ≤ 9223372036854775807) := Iff.rfl
theorem parseB {l : List UInt8} (h : isW l = true) : Lib.parseIntB 64 l = if fits (worth l) then .ok (worth l) else .range := by
  obtain ⟨hne, hd⟩ := isW_ne h
  have hu : Lib.parseUintB 64 (strip l) = if magF 0 (strip l) < 18446744073709551616 then .ok (magF 0 (strip l)) else .range := by
    rw [Lib.parseUintB_64]
    unfold Lib.parseMag
    rw [if_neg hne]
    exact parse10 _ 0 hd (by omega)
  cases hb : below l with
  | true =>
    have e := strip_minus hb
    rw [e, Lib.parseIntB_minus, ← e, hu]
    rw [worth_b hb]
    generalize magF 0 (strip l) = u
    simp only [fits_iff]
    by_cases h1 : u < 18446744073709551616
    · rw [if_pos h1]
      simp only [Lib.signedC]
      by_cases h2 : 2 ^ (64 - 1) < u
      · rw [if_pos h2, if_neg (by omega)]
      · rw [if_neg h2, if_pos (by omega)]
    · rw [if_neg h1, if_neg (by omega)]
      rfl
  | false =>
    have e := strip_other hb
    rw [worth_n hb]
    rw [e] at hu hd hne ⊢
    cases l with
    | nil => exact absurd rfl hne
    | cons c r =>
      have hc : isDg c = true := by simp only [allDg, List.all_cons, Bool.and_eq_true] at hd; exact hd.1
      have hc2 := of_decide_eq_true hc
      rw [Lib.parseIntB_plain 64 c r (by omega) (by omega), hu]
      generalize magF 0 (c :: r) = u
      simp only [fits_iff]
      by_cases h1 : u < 18446744073709551616
      · rw [if_pos h1]
        simp only [Lib.signlessC]
        by_cases h2 : 2 ^ (64 - 1) ≤ u
        · rw [if_pos h2, if_neg (by omega)]
        · rw [if_neg h2, if_pos (by omega)]
      · rw [if_neg h1, if_neg (by omega)]
        rfl
/-! ### how a number is written -/
theorem head_app {α : Type} {l m : List α} (h : l ≠ []) : (l ++ m).head? = l.head? := by
  cases l with
  | nil => exact absurd rfl h
  | cons a r => rfl
theorem dec_dig {u : Nat} (h : u ≠ 0) : Lib.decDigits u = (dig u).reverse.map (fun d => UInt8.ofNat (48 + d)) := by
  induction u using Nat.strongRecOn with
  | _ u ih =>
    rw [Lib.decDigits, dig_pos h]
    by_cases h10 : u < 10
    · rw [dif_pos h10, show u / 10 = 0 by omega, show u % 10 = u by omega, dig_zero]
      rfl
    · rw [dif_neg h10, ih (u / 10) (by omega) (by omega)]
      simp
theorem toNat_dig {d : Nat} (h : d < 10) : (UInt8.ofNat (48 + d)).toNat = 48 + d := by
  rw [UInt8.toNat_ofNat']; omega
theorem dec_mag (u : Nat) : magF 0 (Lib.decDigits u) = u ∧ allDg (Lib.decDigits u) = true ∧ Lib.decDigits u ≠ [] ∧ (u ≠ 0 → (Lib.decDigits u).head? ≠ some 48) := by
  induction u using Nat.strongRecOn with
  | _ u ih =>
    rw [Lib.decDigits]
    by_cases h10 : u < 10
    · rw [dif_pos h10]
      have e := toNat_dig h10
      refine ⟨by rw [magF_cons, magF_nil]; omega, ?_, by simp, fun h0 => ?_⟩
      · simp only [allDg, List.all_cons, List.all_nil, Bool.and_true, isDg]
        exact decide_eq_true (by omega)
      · intro hh
        simp only [List.head?_cons, Option.some.injEq] at hh
        have := congrArg UInt8.toNat hh
        rw [e] at this
        have h48 : (48 : UInt8).toNat = 48 := rfl
        omega
    · rw [dif_neg h10]
      obtain ⟨h1, h2, h3, h4⟩ := ih (u / 10) (by omega)
      have e := toNat_dig (d := u % 10) (Nat.mod_lt _ (by decide))
      refine ⟨?_, ?_, by simp, fun _ => ?_⟩
      · rw [magF_app, h1]
        rw [magF_cons, magF_nil, e]; omega
      · unfold allDg at h2 ⊢
        rw [List.all_append, h2]
        simp only [List.all_cons, List.all_nil, Bool.and_true, Bool.true_and, isDg]
        exact decide_eq_true (by omega)
      · rw [head_app h3]
        exact h4 (by omega)
theorem below_dig {l : List UInt8} (h : allDg l = true) : below l = false := by
  cases l with
  | nil => rfl
  | cons c r =>
    simp only [allDg, List.all_cons, Bool.and_eq_true] at h
    have := of_decide_eq_true h.1
    unfold below
    simp only [List.head?_cons]
    rw [beq_eq_false_iff_ne]
    intro e
    injection e with e
    subst e
    exact absurd this (by decide)
/-- What is put is parsed as it was. -/
theorem prs_itoa {n : Int} (h : fits n) : prs (Lib.itoa n) = (n, 0) := by
  unfold Lib.itoa
  by_cases h0 : n < 0
  · rw [if_pos h0]
    obtain ⟨h1, h2, h3, h4⟩ := dec_mag n.natAbs
    have hb : below (45 :: Lib.decDigits n.natAbs) = true := rfl
    have hs : strip (45 :: Lib.decDigits n.natAbs) = Lib.decDigits n.natAbs := rfl
    have hw : isW (45 :: Lib.decDigits n.natAbs) = true := by
      unfold isW
      rw [hs, h2]
      simp [h3, h4 (by omega)]
    unfold prs worth
    rw [hw, hb, hs, h1]
    simp only [if_true]
    rw [show -(n.natAbs : Int) = n by omega, tell_in h]
  · rw [if_neg h0]
    obtain ⟨h1, h2, h3, h4⟩ := dec_mag n.toNat
    have hb := below_dig h2
    have hs := strip_other hb
    have hw : isW (Lib.decDigits n.toNat) = true := by
      unfold isW
      rw [hs, h2]
      by_cases hz : n.toNat = 0
      · rw [hz, show Lib.decDigits 0 = [48] by rw [Lib.decDigits]; rfl]; rfl
      · simp [h3, h4 hz]
    unfold prs worth
    rw [hw, hb, hs, h1]
    simp only [if_true, Bool.false_eq_true, if_false]
    rw [show ((n.toNat : Nat) : Int) = n by omega, tell_in h]
theorem dec_of_mag {l : List UInt8} (hne : l ≠ []) (hd : allDg l = true) (h0 : l.head? ≠ some 48 ∨ l = [48]) : Lib.decDigits (magF 0 l) = l ∧ (l.head? ≠ some 48 → magF 0 l ≠ 0) := by
  induction hn : l.length using Nat.strongRecOn generalizing l with
  | _ n ih =>
    obtain ⟨m, c, rfl⟩ : ∃ m c, l = m ++ [c] := ⟨l.dropLast, l.getLast hne, (List.dropLast_concat_getLast hne).symm⟩
    unfold allDg at hd
    rw [List.all_append, Bool.and_eq_true] at hd
    have hc : 48 ≤ c.toNat ∧ c.toNat ≤ 57 := by
      have := hd.2
      simp only [List.all_cons, List.all_nil, Bool.and_true] at this
      exact of_decide_eq_true this
    have ec : UInt8.ofNat (48 + (c.toNat - 48)) = c := by
      rw [show 48 + (c.toNat - 48) = c.toNat by omega]; exact UInt8.ofNat_toNat
    rw [magF_app, magF_cons, magF_nil]
    by_cases hm : m = []
    · subst hm
      simp only [magF_nil, List.nil_append, Nat.zero_mul, Nat.zero_add, List.head?_cons]
      refine ⟨?_, fun h => ?_⟩
      · rw [Lib.decDigits, dif_pos (by omega), ec]
      · intro e
        refine h (congrArg some ?_)
        rw [← ec, e]; rfl
    · have hh : (m ++ [c]).head? = m.head? := head_app hm
      have h0' : m.head? ≠ some 48 := by
        rcases h0 with h0 | h0
        · rwa [hh] at h0
        · exfalso
          have := congrArg List.length h0
          simp at this
          exact hm this
      obtain ⟨i1, i2⟩ := ih m.length (by rw [← hn]; simp) hm hd.1 (Or.inl h0') rfl
      have i3 := i2 h0'
      refine ⟨?_, fun _ => by omega⟩
      rw [Lib.decDigits, dif_neg (by omega), show (magF 0 m * 10 + (c.toNat - 48)) / 10 = magF 0 m by omega, i1, show (magF 0 m * 10 + (c.toNat - 48)) % 10 = c.toNat - 48 by omega, ec]
/-- What is parsed is put so. -/
theorem itoa_prs {l : List UInt8} {m : Int} (h : prs l = (m, 0)) : Lib.itoa m = l := by
  unfold prs at h
  cases hw : isW l with
  | false => rw [hw] at h; simp at h
  | true =>
    rw [hw] at h
    simp only [if_true] at h
    obtain ⟨hne, hd⟩ := isW_ne hw
    have hm : worth l = m := by
      by_cases hf : fits (worth l)
      · rw [tell_in hf] at h; injection h
      · rw [tell_out hf] at h; injection h with _ h; cases h
    have h0 : (strip l).head? ≠ some 48 ∨ strip l = [48] := by
      unfold isW at hw
      rw [Bool.or_eq_true] at hw
      rcases hw with hw | hw
      · right; have := eq_of_beq hw; subst this; rfl
      · left
        rw [Bool.and_eq_true, Bool.and_eq_true] at hw
        simpa using hw.1.2
    obtain ⟨d1, d2⟩ := dec_of_mag hne hd h0
    unfold worth at hm
    unfold Lib.itoa
    cases hb : below l with
    | true =>
      rw [hb] at hm
      simp only [if_true] at hm
      have e := strip_minus hb
      have h1 : (strip l).head? ≠ some 48 := by
        unfold isW at hw
        rw [Bool.or_eq_true] at hw
        rcases hw with hw | hw
        · have := eq_of_beq hw; subst this; cases hb
        · rw [Bool.and_eq_true, Bool.and_eq_true] at hw
          simpa using hw.1.2
      have h2 := d2 h1
      rw [if_pos (by omega), show m.natAbs = magF 0 (strip l) by omega, d1]
      exact e.symm
    | false =>
      rw [hb] at hm
      simp only [Bool.false_eq_true, if_false] at hm
      have e := strip_other hb
      rw [if_neg (by omega), show m.toNat = magF 0 (strip l) by omega, d1, e]
end Nu
end Go.Proofs.YtdcjpinbflmikaaGreatDoor
