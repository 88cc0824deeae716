/- Facts and walks for the statement. -/
import Derived.Test.YtdcjpinbflmikaaGreatDoorPzW02
import Derived.Lib.ItoaNum
import Derived.Lib.ParseIntBCases
import Derived.Test.YtdcjpinbflmikaaGreatDoorPzW00
import Derived.WalkKit
import Derived.BigQuiet
import Derived.WalkSmall
import Derived.Lib.Bytealg
import Derived.Lib.IndexLaws
import Derived.Deep.AppendLies
import Derived.OwnWalk
import Derived.Lib.OthersKept
import Derived.Lib.Hide
namespace Go.Proofs.YtdcjpinbflmikaaGreatDoor
namespace Nu
def isDg (c : UInt8) : Bool := decide (48 ≤ c.toNat ∧ c.toNat ≤ 57)
def allDg (l : List UInt8) : Bool := l.all isDg
def magF (acc : Nat) (l : List UInt8) : Nat := l.foldl (fun a c => a * 10 + (c.toNat - 48)) acc
theorem magF_nil (acc : Nat) : magF acc [] = acc := by
  unfold magF
  rw [List.foldl_nil]
theorem magF_cons (acc : Nat) (c : UInt8) (r : List UInt8) : magF acc (c :: r) = magF (acc * 10 + (c.toNat - 48)) r := by
  unfold magF
  rw [List.foldl_cons]
theorem magF_ge (l : List UInt8) (acc : Nat) : acc ≤ magF acc l := by
  induction l generalizing acc with
  | nil => rw [magF_nil]; exact Nat.le_refl _
  | cons c r ih =>
    have := ih (acc * 10 + (c.toNat - 48))
    rw [magF_cons]
    omega
theorem magF_app (l m : List UInt8) (acc : Nat) : magF acc (l ++ m) = magF (magF acc l) m := by
  induction l generalizing acc with
  | nil => rw [magF_nil]; rfl
  | cons c l ih => rw [List.cons_append, magF_cons, magF_cons]; exact ih _
theorem parse10 (l : List UInt8) (acc : Nat) (h : allDg l = true) (ha : acc < 18446744073709551616) : Lib.parseUint10 acc l = if magF acc l < 18446744073709551616 then .ok (magF acc l) else .range := by
  induction l generalizing acc with
  | nil => rw [magF_nil, if_pos ha, Lib.parseUint10]
  | cons c r ih =>
    unfold allDg at h
    rw [List.all_cons, Bool.and_eq_true] at h
    have hc := of_decide_eq_true h.1
    have hg := magF_ge r (acc * 10 + (c.toNat - 48))
    rw [magF_cons]
    unfold Lib.parseUint10
    rw [if_pos hc]
    by_cases h1 : 1844674407370955162 ≤ acc
    · rw [if_pos h1, if_neg (by omega)]
    · rw [if_neg h1]
      by_cases h2 : 18446744073709551616 ≤ acc * 10 + (c.toNat - 48)
      · rw [if_pos h2, if_neg (by omega)]
      · rw [if_neg h2]
        exact ih _ h.2 (by omega)
def strip : List UInt8 → List UInt8
  | 45 :: r => r
  | l => l
def below (l : List UInt8) : Bool := l.head? == some 45
def isW (l : List UInt8) : Bool := l == [48] || (!(strip l).isEmpty && (strip l).head? != some 48 && allDg (strip l))
def worth (l : List UInt8) : Int := if below l then -(magF 0 (strip l) : Int) else (magF 0 (strip l) : Int)
def prs (l : List UInt8) : Int × Int := if isW l then tell (worth l) else (0, 2)
theorem strip_other {l : List UInt8} (h : below l = false) : strip l = l := by
  unfold below at h
  unfold strip
  split
  · simp at h
  · rfl
theorem strip_minus {l : List UInt8} (h : below l = true) : l = 45 :: strip l := by
  unfold below at h
  cases l with
  | nil => simp at h
  | cons c r =>
    simp at h
    subst h
    rfl
theorem isW_ne {l : List UInt8} (h : isW l = true) : strip l ≠ [] ∧ allDg (strip l) = true := by
  unfold isW at h
  rw [Bool.or_eq_true] at h
  rcases h with h | h
  · have := eq_of_beq h
    subst this
    exact ⟨by decide, by decide⟩
  · rw [Bool.and_eq_true, Bool.and_eq_true] at h
    refine ⟨fun e => ?_, h.2⟩
    rw [e] at h
    exact absurd h.1.1 (by decide)
theorem worth_b {l : List UInt8} (h : below l = true) : worth l = -(magF 0 (strip l) : Int) := by unfold worth; rw [h]; rfl
theorem worth_n {l : List UInt8} (h : below l = false) : worth l = (magF 0 (strip l) : Int) := by unfold worth; rw [h]; rfl
theorem fits_iff (z : Int) : fits z ↔ (-9223372036854775808 ≤ z ∧ z ≤ 9223372036854775807) := Iff.rfl
theorem parseB {l : List UInt8} (h : isW l = true) : Lib.parseIntB 64 l = if fits (worth l) then .ok (worth l) else .range := by
  obtain ⟨hne, hd⟩ := isW_ne h
  have hu : Lib.parseUintB 64 (strip l) = if magF 0 (strip l) < 18446744073709551616 then .ok (magF 0 (strip l)) else .range := by
    rw [Lib.parseUintB_64]
    unfold Lib.parseMag
    rw [if_neg hne]
    exact parse10 _ 0 hd (by omega)
  cases hb : below l with
  | true =>
    have e := strip_minus hb
    rw [e, Lib.parseIntB_minus, ← e, hu]
    rw [worth_b hb]
    generalize magF 0 (strip l) = u
    simp only [fits_iff]
    by_cases h1 : u < 18446744073709551616
    · rw [if_pos h1]
      simp only [Lib.signedC]
      by_cases h2 : 2 ^ (64 - 1) < u
      · rw [if_pos h2, if_neg (by omega)]
      · rw [if_neg h2, if_pos (by omega)]
    · rw [if_neg h1, if_neg (by omega)]
      rfl
  | false =>
    have e := strip_other hb
    rw [worth_n hb]
    rw [e] at hu hd hne ⊢
    cases l with
    | nil => exact absurd rfl hne
    | cons c r =>
      have hc : isDg c = true := by simp only [allDg, List.all_cons, Bool.and_eq_true] at hd; exact hd.1
      have hc2 := of_decide_eq_true hc
      rw [Lib.parseIntB_plain 64 c r (by omega) (by omega), hu]
      generalize magF 0 (c :: r) = u
      simp only [fits_iff]
      by_cases h1 : u < 18446744073709551616
      · rw [if_pos h1]
        simp only [Lib.signlessC]
        by_cases h2 : 2 ^ (64 - 1) ≤ u
        · rw [if_pos h2, if_neg (by omega)]
        · rw [if_neg h2, if_pos (by omega)]
      · rw [if_neg h1, if_neg (by omega)]
        rfl
/-! ### how a number is written -/
theorem head_app {α : Type} {l m : List α} (h : l ≠ []) : (l ++ m).head? = l.head? := by
  cases l with
  | nil => exact absurd rfl h
  | cons a r => rfl
theorem dec_dig {u : Nat} (h : u ≠ 0) : Lib.decDigits u = (dig u).reverse.map (fun d => UInt8.ofNat (48 + d)) := by
  induction u using Nat.strongRecOn with
  | _ u ih =>
    rw [Lib.decDigits, dig_pos h]
    by_cases h10 : u < 10
    · rw [dif_pos h10, show u / 10 = 0 by omega, show u % 10 = u by omega, dig_zero]
      rfl
    · rw [dif_neg h10, ih (u / 10) (by omega) (by omega)]
      simp
theorem toNat_dig {d : Nat} (h : d < 10) : (UInt8.ofNat (48 + d)).toNat = 48 + d := by
  rw [UInt8.toNat_ofNat']; omega
theorem dec_mag (u : Nat) : magF 0 (Lib.decDigits u) = u ∧ allDg (Lib.decDigits u) = true ∧ Lib.decDigits u ≠ [] ∧ (u ≠ 0 → (Lib.decDigits u).head? ≠ some 48) := by
  induction u using Nat.strongRecOn with
  | _ u ih =>
    rw [Lib.decDigits]
    by_cases h10 : u < 10
    · rw [dif_pos h10]
      have e := toNat_dig h10
      refine ⟨by rw [magF_cons, magF_nil]; omega, ?_, by simp, fun h0 => ?_⟩
      · simp only [allDg, List.all_cons, List.all_nil, Bool.and_true, isDg]
        exact decide_eq_true (by omega)
      · intro hh
        simp only [List.head?_cons, Option.some.injEq] at hh
        have := congrArg UInt8.toNat hh
        rw [e] at this
        have h48 : (48 : UInt8).toNat = 48 := rfl
        omega
    · rw [dif_neg h10]
      obtain ⟨h1, h2, h3, h4⟩ := ih (u / 10) (by omega)
      have e := toNat_dig (d := u % 10) (Nat.mod_lt _ (by decide))
      refine ⟨?_, ?_, by simp, fun _ => ?_⟩
      · rw [magF_app, h1]
        rw [magF_cons, magF_nil, e]; omega
      · unfold allDg at h2 ⊢
        rw [List.all_append, h2]
        simp only [List.all_cons, List.all_nil, Bool.and_true, Bool.true_and, isDg]
        exact decide_eq_true (by omega)
      · rw [head_app h3]
        exact h4 (by omega)
theorem below_dig {l : List UInt8} (h : allDg l = true) : below l = false := by
  cases l with
  | nil => rfl
  | cons c r =>
    simp only [allDg, List.all_cons, Bool.and_eq_true] at h
    have := of_decide_eq_true h.1
    unfold below
    simp only [List.head?_cons]
    rw [beq_eq_false_iff_ne]
    intro e
    injection e with e
    subst e
    exact absurd this (by decide)
end Nu
end Go.Proofs.YtdcjpinbflmikaaGreatDoor
namespace Go.Proofs.YtdcjpinbflmikaaGreatDoor
namespace Ex
theorem dg_len {n : Nat} (h : n ≤ 9223372036854775807) : (dg n).length ≤ 20 := by
  by_cases h0 : n = 0
  · subst h0; unfold dg; rw [Lib.decDigits]; simp
  · have h1 := Nu.dig_len_le (n := n) (k := 20) (Nat.lt_of_le_of_lt h (by decide))
    unfold dg
    rw [Nu.dec_dig h0, List.length_map, List.length_reverse]
    exact h1
theorem isDg_isD {l : List UInt8} (h : Nu.allDg l = true) : l.all Lx.isD = true := h
theorem is_num {l : List UInt8} (h : l.all Lx.isD = true) (hne : l ≠ []) (hl : l.length ≤ 64) : Lx.is l = 1 := by
  unfold Lx.is
  rw [if_neg (by omega)]
  unfold Lx.whole
  have hs : ∀ w ∈ Lx.signs, w.all Lx.isD = false := by decide
  have hw : ∀ w ∈ Lx.words, w.all Lx.isD = false := by decide
  rw [if_neg (fun e => by have := hs _ (List.contains_iff_mem.1 e); rw [h] at this; cases this), if_neg (fun e => by have := hw _ (List.contains_iff_mem.1 e); rw [h] at this; cases this), if_neg hne, if_pos h]
theorem numv_dg {n : Nat} (h : n ≤ 9223372036854775807) : numv (dg n) = some n := by
  have h1 := (Nu.dec_mag n).1
  unfold Nu.magF at h1
  unfold numv dg
  simp only
  rw [h1, if_pos h]
theorem numv_le {s : List UInt8} {v : Nat} (h : numv s = some v) : v ≤ 9223372036854775807 := by
  unfold numv at h
  simp only at h
  split at h
  · rename_i hv; cases h; exact hv
  · cases h
def small : E → Prop
  | .num n => n ≤ 9223372036854775807
  | .un _ a => small a
  | .bin _ a b => small a ∧ small b
  | .ite a b c => small a ∧ small b ∧ small c
  | _ => True
theorem wf_of : ∀ {x : E}, wr x → small x → wf x
  | .num n, _, h => ⟨numv_dg h, is_num (isDg_isD (Nu.dec_mag n).2.1) (Nu.dec_mag n).2.2.1 (Nat.le_trans (dg_len h) (by decide))⟩
  | .name _, h, _ => h
  | .tt, _, _ => True.intro
  | .ff, _, _ => True.intro
  | .un _ _, h, q => ⟨h.1, wf_of h.2 q⟩
  | .bin _ _ _, h, q => ⟨h.1, h.2.1, wf_of h.2.2.1 q.1, wf_of h.2.2.2 q.2⟩
  | .ite _ _ _, h, q => ⟨wf_of h.1 q.1, wf_of h.2.1 q.2.1, wf_of h.2.2 q.2.2⟩
def Fine (m : Md) (x : E) : Prop := match m with
  | .loop _ a => wr a → small a → wr x ∧ small x
  | _ => wr x ∧ small x
theorem kd_name {ts : List Tk} (h : nx ts ≠ []) (hk : kd ts = 2) : Lx.is (nx ts) = 2 := by
  cases ts with
  | nil => exact absurd rfl h
  | cons t r =>
    have hk : t.1 = 2 := hk
    unfold nx at h ⊢
    simp only at h ⊢
    split at h
    · rename_i e; rw [if_pos e, e, hk]
    · exact absurd rfl h
theorem rd_fine : ∀ (f : Nat) (m : Md) (ts r : List Tk) (x : E), rd f m ts = .ok r x → Fine m x
  | 0, _, _, _, _, h => by cases h
  | f + 1, .lev n, ts, r, x, h => by
    unfold rd at h
    split at h
    · exact rd_fine f .pri _ _ _ h
    · split at h
      · exact rd_fine f .una _ _ _ h
      · obtain ⟨r1, a1, h1, h2⟩ := then2_ok h
        have e1 : wr a1 ∧ small a1 := rd_fine f (.lev (n + 1)) _ _ _ h1
        exact rd_fine f (.loop n a1) _ _ _ h2 e1.1 e1.2
  | f + 1, .loop n a, ts, r, x, h => fun wa sa => by
    unfold rd at h
    split at h
    · cases h; exact ⟨wa, sa⟩
    · rename_i hop
      obtain ⟨t1, t2, _, _⟩ := of2_tells hop
      obtain ⟨r1, b1, h1, h2⟩ := then2_ok h
      have e1 : wr b1 ∧ small b1 := rd_fine f (.lev (n + 1)) _ _ _ h1
      exact rd_fine f (.loop n (.bin (of2 n (nx ts)) a b1)) _ _ _ h2 ⟨t1, t2, wa, e1.1⟩ ⟨sa, e1.2⟩
  | f + 1, .una, ts, r, x, h => by
    unfold rd at h
    split at h
    · obtain ⟨r1, a1, h1, h2⟩ := then2_ok h
      have e1 : wr a1 ∧ small a1 := rd_fine f .una _ _ _ h1
      cases h2
      exact ⟨⟨Or.inl rfl, e1.1⟩, e1.2⟩
    · split at h
      · obtain ⟨r1, a1, h1, h2⟩ := then2_ok h
        have e1 : wr a1 ∧ small a1 := rd_fine f .una _ _ _ h1
        cases h2
        exact ⟨⟨Or.inr rfl, e1.1⟩, e1.2⟩
      · exact rd_fine f .pri _ _ _ h
  | f + 1, .pri, ts, r, x, h => by
    unfold rd at h
    split at h
    · obtain ⟨r1, a1, h1, h2⟩ := then2_ok h
      obtain ⟨_, _, e4⟩ := eat_ok (by simp) h2
      have e1 : wr a1 ∧ small a1 := rd_fine f (.lev 1) _ _ _ h1
      cases e4
      exact e1
    · split at h
      · exact rd_fine f .bra _ _ _ h
      · split at h
        · cases h; exact ⟨True.intro, True.intro⟩
        · split at h
          · cases h; exact ⟨True.intro, True.intro⟩
          · split at h
            · cases hv : numv (nx ts) with
              | none => rw [hv] at h; cases h
              | some v => rw [hv] at h; cases h; exact ⟨True.intro, numv_le hv⟩
            · split at h
              · rename_i q; cases h; exact ⟨kd_name q.1 q.2, True.intro⟩
              · cases h
  | f + 1, .bra, ts, r, x, h => by
    unfold rd at h
    obtain ⟨r1, a1, h1, h2⟩ := then2_ok h
    obtain ⟨_, _, h3⟩ := eat_ok (by simp) h2
    obtain ⟨r4, a4, h4, h5⟩ := then2_ok h3
    obtain ⟨_, _, h6⟩ := eat_ok (by simp) h5
    obtain ⟨r7, a7, h7, h8⟩ := then2_ok h6
    obtain ⟨_, _, h9⟩ := eat_ok (by simp) h8
    have q1 : wr a1 ∧ small a1 := rd_fine f (.lev 1) _ _ _ h1
    have q4 : wr a4 ∧ small a4 := rd_fine f (.lev 1) _ _ _ h4
    have q7 : wr a7 ∧ small a7 := rd_fine f (.lev 1) _ _ _ h7
    cases h9
    exact ⟨⟨q1.1, q4.1, q7.1⟩, ⟨q1.2, q4.2, q7.2⟩⟩
end Ex
end Go.Proofs.YtdcjpinbflmikaaGreatDoor
namespace Go.Proofs.YtdcjpinbflmikaaGreatDoor
namespace Ty
open Ex
abbrev Nm := List UInt8
/-! ### parts -/
end Ty
end Go.Proofs.YtdcjpinbflmikaaGreatDoor
namespace Go.Proofs.YtdcjpinbflmikaaGreatDoor
namespace Ev
open Ex
structure Vl where
  k : Nat
  n : Int
  b : Bool
instance : DecidableEq Vl := fun x y => decidable_of_iff (x.k = y.k ∧ x.n = y.n ∧ x.b = y.b) ⟨fun h => by cases x; cases y; obtain ⟨h1, h2, h3⟩ := h; simp only at h1 h2 h3; subst h1 h2 h3; rfl, fun h => by subst h; exact ⟨rfl, rfl, rfl⟩⟩
inductive Rz where
  | ok (v : Vl)
  | er (z : Int)
def vi (n : Int) : Vl := ⟨1, n, false⟩
def vb (b : Bool) : Vl := ⟨2, 0, b⟩
def thn (r : Rz) (f : Vl → Rz) : Rz := match r with
  | .ok v => f v
  | .er z => .er z
def rk (p : Int × Int) : Rz := if p.2 = 0 then .ok (vi p.1) else .er p.2
def prt (r : Rz) (k : Nat) : Rz := thn r fun v => if v.k = k then .ok v else .er 90
def divv (a b : Int) : Int × Int := if b = 0 then (0, 61) else Nu.tell (a.tdiv b)
def modv (a b : Int) : Int × Int := if b = 0 then (0, 61) else Nu.tell (a.tmod b)
def pair (op : Nat) (a b : Int) : Rz :=
  if op = 7 then rk (Nu.tell (a * b)) else if op = 8 then rk (divv a b) else if op = 9 then rk (modv a b) else if op = 10 then rk (Nu.tell (a + b)) else if op = 11 then rk (Nu.tell (a - b))
  else if op = 12 then .ok (vb (decide (a < b))) else if op = 13 then .ok (vb (decide (a ≤ b))) else if op = 14 then .ok (vb (decide (a > b))) else .ok (vb (decide (a ≥ b)))
abbrev Bd := Ty.Nm × Int
def look : List Bd → Ty.Nm → Option Int
  | [], _ => none
  | q :: r, s => if q.1 = s then some q.2 else look r s
def nmd (o : Option Int) : Rz := match o with
  | some n => .ok (vi n)
  | none => .er 90
def two (op : Nat) (A B : Rz) : Rz :=
  if op ≤ 15 then thn (prt A 1) fun v => thn (prt B 1) fun u => pair op v.n u.n
  else if op ≤ 17 then thn A fun v => thn (prt B v.k) fun u => .ok (vb (decide (v = u) == decide (op = 16)))
  else if op = 18 then thn (prt A 2) fun v => if v.b then thn (prt B 2) fun u => .ok (vb u.b) else .ok (vb false)
  else if op = 19 then thn (prt A 2) fun v => if v.b then .ok (vb true) else thn (prt B 2) fun u => .ok (vb u.b)
  else if op = 20 then thn (prt A 2) fun v => thn (prt B 2) fun u => .ok (vb (v.b != u.b))
  else thn (prt A 2) fun v => if v.b then thn (prt B 2) fun u => .ok (vb u.b) else .ok (vb true)
def one (op : Nat) (A : Rz) : Rz := if op = 5 then thn (prt A 1) fun v => rk (Nu.tell (-v.n)) else thn (prt A 2) fun v => .ok (vb (!v.b))
def tri (A B C : Rz) : Rz := thn (prt A 2) fun v => if v.b then B else C
def wo (env : List Bd) : E → Rz
  | .num n => .ok (vi n)
  | .name s => nmd (look env s)
  | .tt => .ok (vb true)
  | .ff => .ok (vb false)
  | .un op a => one op (wo env a)
  | .bin op a b => two op (wo env a) (wo env b)
  | .ite a b c => tri (wo env a) (wo env b) (wo env c)
def Fine : Rz → Prop
  | .ok v => Nu.fits v.n ∧ (v.k = 1 ∧ v.b = false ∨ v.k = 2 ∧ v.n = 0)
  | .er z => z = 60 ∨ z = 61 ∨ z = 90
theorem fine_vi {n : Int} (h : Nu.fits n) : Fine (.ok (vi n)) := ⟨h, Or.inl ⟨rfl, rfl⟩⟩
theorem fine_vb (b : Bool) : Fine (.ok (vb b)) := ⟨by unfold Nu.fits; simp [vb], Or.inr ⟨rfl, rfl⟩⟩
theorem fine_tell (z : Int) : Fine (rk (Nu.tell z)) := by
  unfold rk Nu.tell
  split
  · rename_i h
    rw [if_pos rfl]; exact fine_vi h
  · rw [if_neg (by decide)]; exact Or.inl rfl
theorem fine_thn {r : Rz} {f : Vl → Rz} (h : Fine r) (hf : ∀ v, r = .ok v → Fine (.ok v) → Fine (f v)) : Fine (thn r f) := by
  cases r with
  | ok v => exact hf v rfl h
  | er z => exact h
theorem fine_prt {r : Rz} {k : Nat} (h : Fine r) : Fine (prt r k) := fine_thn h fun v _ hv => by
  split
  · exact hv
  · exact Or.inr (Or.inr rfl)
theorem fine_pair (op : Nat) (a b : Int) : Fine (pair op a b) := by
  unfold pair divv modv
  split
  · exact fine_tell _
  split
  · split
    · exact Or.inr (Or.inl rfl)
    · exact fine_tell _
  split
  · split
    · exact Or.inr (Or.inl rfl)
    · exact fine_tell _
  split
  · exact fine_tell _
  split
  · exact fine_tell _
  split
  · exact fine_vb _
  split
  · exact fine_vb _
  split
  · exact fine_vb _
  exact fine_vb _
theorem fine_two {op : Nat} {A B : Rz} (hA : Fine A) (hB : Fine B) : Fine (two op A B) := by
  have hb : Fine (thn (prt B 2) fun u => .ok (vb u.b)) := fine_thn (fine_prt hB) fun _ _ _ => fine_vb _
  unfold two
  split
  · exact fine_thn (fine_prt hA) fun v _ _ => fine_thn (fine_prt hB) fun u _ _ => fine_pair _ _ _
  split
  · exact fine_thn hA fun v _ _ => fine_thn (fine_prt hB) fun u _ _ => fine_vb _
  split
  · refine fine_thn (fine_prt hA) fun v _ _ => ?_
    split
    · exact hb
    · exact fine_vb _
  split
  · refine fine_thn (fine_prt hA) fun v _ _ => ?_
    split
    · exact fine_vb _
    · exact hb
  split
  · exact fine_thn (fine_prt hA) fun v _ _ => fine_thn (fine_prt hB) fun u _ _ => fine_vb _
  refine fine_thn (fine_prt hA) fun v _ _ => ?_
  split
  · exact hb
  · exact fine_vb _
theorem fine_one {op : Nat} {A : Rz} (hA : Fine A) : Fine (one op A) := by
  unfold one
  split
  · exact fine_thn (fine_prt hA) fun v _ _ => fine_tell _
  · exact fine_thn (fine_prt hA) fun v _ _ => fine_vb _
theorem fine_tri {A B C : Rz} (hA : Fine A) (hB : Fine B) (hC : Fine C) : Fine (tri A B C) :=
  fine_thn (fine_prt hA) fun v _ _ => by split <;> assumption
def FitE (env : List Bd) : Prop := ∀ q ∈ env, Nu.fits q.2
theorem look_fits {env : List Bd} (h : FitE env) {s : Ty.Nm} {n : Int} (hl : look env s = some n) : Nu.fits n := by
  induction env with
  | nil => cases hl
  | cons q r ih =>
    unfold look at hl
    split at hl
    · injection hl with hl; subst hl; exact h q List.mem_cons_self
    · exact ih (fun x hx => h x (List.mem_cons_of_mem _ hx)) hl
theorem wo_fine {env : List Bd} (h : FitE env) : ∀ {x : E}, small x → Fine (wo env x)
  | .num n, hs => fine_vi (by have hs : n ≤ 9223372036854775807 := hs; unfold Nu.fits; omega)
  | .name s, _ => by
    show Fine (nmd (look env s))
    cases hl : look env s with
    | none => exact Or.inr (Or.inr rfl)
    | some n => exact fine_vi (look_fits h hl)
  | .tt, _ => fine_vb _
  | .ff, _ => fine_vb _
  | .un op a, hs => fine_one (wo_fine h (x := a) hs)
  | .bin op a b, hs => fine_two (wo_fine h hs.1) (wo_fine h hs.2)
  | .ite a b c, hs => fine_tri (wo_fine h hs.1) (wo_fine h hs.2.1) (wo_fine h hs.2.2)
/-! ### names that an expression does not have -/
theorem small_flat : ∀ {x : E} {p : Nat}, (∀ n ∈ flat x p, n.num ≤ 9223372036854775807) → small x
  | .num n, p, h => by
    have := h _ (List.mem_singleton.2 rfl)
    show n ≤ _
    simp only at this; omega
  | .name _, _, _ => True.intro
  | .tt, _, _ => True.intro
  | .ff, _, _ => True.intro
  | .un op a, p, h => small_flat (x := a) (p := p) fun n hn => h n (List.mem_append_left _ hn)
  | .bin op a b, p, h => ⟨small_flat (x := a) (p := p) fun n hn => h n (List.mem_append_left _ (List.mem_append_left _ hn)), small_flat (x := b) (p := p + sz a) fun n hn => h n (List.mem_append_left _ (List.mem_append_right _ hn))⟩
  | .ite a b c, p, h => ⟨small_flat (x := a) (p := p) fun n hn => h n (List.mem_append_left _ (List.mem_append_left _ (List.mem_append_left _ hn))), small_flat (x := b) (p := p + sz a) fun n hn => h n (List.mem_append_left _ (List.mem_append_left _ (List.mem_append_right _ hn))), small_flat (x := c) (p := p + sz a + sz b) fun n hn => h n (List.mem_append_left _ (List.mem_append_right _ hn))⟩
/-! ### kinds by the tree -/
end Ev
end Go.Proofs.YtdcjpinbflmikaaGreatDoor
namespace Go.Proofs.YtdcjpinbflmikaaGreatDoor
namespace Ev
open Ex Ty
end Ev
end Go.Proofs.YtdcjpinbflmikaaGreatDoor
namespace Go.Proofs.YtdcjpinbflmikaaGreatDoor
open Go.RowKit
def IsBlk (w : World) (g : Nat) (t : TypeId) (cs : Array Value) : Prop := w.heap[g]? = some (.cells cs t (0, 0))
theorem IsBlk.lt {w : World} {g : Nat} {t : TypeId} {cs : Array Value} (h : IsBlk w g t cs) : g < w.heap.size := by
  rcases Nat.lt_or_ge g w.heap.size with hlt | hge
  · exact hlt
  · unfold IsBlk at h; rw [Array.getElem?_eq_none hge] at h; cases h
theorem IsBlk.at_ {w : World} {g : Nat} {t : TypeId} {cs : Array Value} (h : IsBlk w g t cs) (i : Nat) : w.cell? ⟨g, i, none⟩ = cs[i]? := Lib.cell_of_heap h i
theorem IsBlk.fz {w : World} {g : Nat} {t : TypeId} {cs : Array Value} (h : IsBlk w g t cs) (i : Nat) : w.frozen? ⟨g, i, none⟩ = false := by
  unfold IsBlk at h; simp [World.frozen?, h]
theorem IsBlk.new (w : World) (t : TypeId) (cs : Array Value) : IsBlk (w.alloc (.cells cs t)) w.heap.size t cs := heap_alloc_new w _
theorem IsBlk.below {B : Nat} {w w' : World} {g : Nat} {t : TypeId} {cs : Array Value} (h : IsBlk w g t cs) (hb : Below B w w') (hg : g < B) : IsBlk w' g t cs := (hb.block g hg).trans h
theorem IsBlk.grown {w w' : World} {g : Nat} {t : TypeId} {cs : Array Value} {row : Option Nat} (h : IsBlk w g t cs) (hb : w.grownBy w' row) (hg : some g ≠ row) : IsBlk w' g t cs := (hb.block g h.lt hg).trans h
theorem IsBlk.set {w : World} {g : Nat} {t : TypeId} {cs : Array Value} (h : IsBlk w g t cs) (i : Nat) (u : Value) : IsBlk (w.setCell ⟨g, i, none⟩ u) g t (cs.setIfInBounds i u) := by
  unfold IsBlk at h ⊢
  simp [World.setCell, Array.getElem?_modify, h]
theorem IsBlk.far {w : World} {g : Nat} {t : TypeId} {cs : Array Value} (h : IsBlk w g t cs) {p : Addr} (hp : g ≠ p.block) (u : Value) : IsBlk (w.setCell p u) g t cs := (Below.heap_setCell w p u g hp).trans h
theorem below_drewN {B : Nat} {w w' : World} (h : Below B w w') (n : Nat) : Below B w (w'.drewN n) := ⟨h.os, h.tape, h.output, h.size, h.block⟩
theorem own_cell {w : World} {B : Nat} {e : TypeId} {size g n cap : Nat} {xs : List Value} (h : w.ownsRow B e size (.slice (some ⟨g, 0, none⟩) n cap) n xs) {j : Nat} {u : Value} (hu : xs[j]? = some u) : w.cell? ⟨g, j, none⟩ = some u := by
  have := h.cells (g := g) rfl j u hu
  have hadd : (⟨g, 0, none⟩ : Addr).add j = ⟨g, j, none⟩ := by unfold Addr.add; split <;> simp_all
  rwa [hadd] at this
theorem own_slice {w : World} {B : Nat} {e : TypeId} {size n : Nat} {v : Value} {xs : List Value} (h : w.ownsRow B e size v n xs) :
    ∃ A cap, v = .slice A n cap ∧ (0 < n → ∃ g, A = some ⟨g, 0, none⟩ ∧ g < w.heap.size ∧ B ≤ g ∧ ∀ j u, xs[j]? = some u → w.cell? ⟨g, j, none⟩ = some u) ∧ (A = none → cap = 0 ∧ n = 0) ∧ n ≤ cap ∧ cap ≤ maxLen := by
  rcases h.2 with ⟨h1, h2⟩ | ⟨g, cap, cur, h1, h2, h3, h4, h5, _⟩
  · exact ⟨none, 0, by rw [h1, h2], fun h => by omega, fun _ => ⟨rfl, h2⟩, by omega, Nat.zero_le _⟩
  · subst h1
    exact ⟨some ⟨g, 0, none⟩, cap, rfl, fun _ => ⟨g, rfl, (Array.getElem?_eq_some_iff.1 h3).1, h2, fun j u hu => own_cell h hu⟩, fun h => (by cases h), h4, h5⟩
theorem own_less {B B' : Nat} {w : World} {e : TypeId} {size n : Nat} {v : Value} {xs : List Value} (h : w.ownsRow B e size v n xs) (hB : B' ≤ B) : w.ownsRow B' e size v n xs :=
  ⟨h.1, h.2.imp id fun ⟨g, cap, cur, e1, e2, e3⟩ => ⟨g, cap, cur, e1, Nat.le_trans hB e2, e3⟩⟩
theorem own_below {w w' : World} {B : Nat} {e : TypeId} {size n : Nat} {v : Value} {xs : List Value} (h : w.ownsRow B e size v n xs) (hb : Below w.heap.size w w') : w'.ownsRow B e size v n xs := h.kept (row := none) ⟨hb.os, hb.tape, hb.output, hb.size, fun k hk _ => hb.block k hk⟩ (by cases hv : v.ownBlock <;> simp)
theorem news_at (w : World) (cs : Array Value) (t : TypeId) (n : Nat) (hn : w.heap.size = n) : ∀ j u, cs.toList[j]? = some u → (w.alloc (.cells cs t)).cell? ((⟨n, 0, none⟩ : Addr).add j) = some u := by
  subst hn
  exact World.news_of_block (heap_alloc_new w _)
theorem take_data (s : ByteArray) (n : Nat) : (s.extract 0 n).data.toList = s.data.toList.take n := by
  rw [← Lib.toList_data, Lib.extract_toList]; simp
/-! ### what a step leaves as it was, by blocks' types -/
structure Kt (L : List TypeId) (w w' : World) : Prop where
  os : w'.os = w.os
  tape : w'.tape = w.tape
  output : w'.output = w.output
  size : w.heap.size ≤ w'.heap.size
  block : ∀ (k : Nat) (cs : Array Value) (t : TypeId) (f : Nat × Nat), w.heap[k]? = some (.cells cs t f) → t ∉ L → w'.heap[k]? = some (.cells cs t f)
theorem heap_lt {w : World} {k : Nat} {o : Obj} (h : w.heap[k]? = some o) : k < w.heap.size := by
  rcases Nat.lt_or_ge k w.heap.size with h' | h'
  · exact h'
  · rw [Array.getElem?_eq_none h'] at h; cases h
theorem Kt.refl (L : List TypeId) (w : World) : Kt L w w := ⟨rfl, rfl, rfl, Nat.le_refl _, fun _ _ _ _ h _ => h⟩
theorem Kt.trans {L : List TypeId} {w w1 w2 : World} (h1 : Kt L w w1) (h2 : Kt L w1 w2) : Kt L w w2 :=
  ⟨h2.os.trans h1.os, h2.tape.trans h1.tape, h2.output.trans h1.output, Nat.le_trans h1.size h2.size, fun k cs t f h a => h2.block k cs t f (h1.block k cs t f h a) a⟩
theorem Kt.of_below {L : List TypeId} {w w' : World} (h : Below w.heap.size w w') : Kt L w w' := ⟨h.os, h.tape, h.output, h.size, fun k _ _ _ hk _ => (h.block k (heap_lt hk)).trans hk⟩
theorem Kt.on {L : List TypeId} {w w1 w2 : World} (h1 : Kt L w w1) (h2 : Below w1.heap.size w1 w2) : Kt L w w2 := h1.trans (Kt.of_below h2)
theorem Kt.more {L M : List TypeId} {w w' : World} (h : Kt L w w') (hs : ∀ t, t ∈ L → t ∈ M) : Kt M w w' := ⟨h.os, h.tape, h.output, h.size, fun k cs t f hk a => h.block k cs t f hk (fun q => a (hs t q))⟩
theorem Kt.blk {L : List TypeId} {w w' : World} {g : Nat} {t : TypeId} {cs : Array Value} (hk : Kt L w w') (h : IsBlk w g t cs) (h1 : t ∉ L) : IsBlk w' g t cs := hk.block g cs t (0, 0) h h1
theorem Kt.own {L : List TypeId} {w w' : World} {B : Nat} {e : TypeId} {size n : Nat} {v : Value} {xs : List Value} (hk : Kt L w w') (h : w.ownsRow B e size v n xs) (h1 : e ∉ L) : w'.ownsRow B e size v n xs := by
  refine ⟨h.1, ?_⟩
  rcases h.2 with h3 | ⟨g, cap, cur, e1, e2, e3, e4⟩
  · exact Or.inl h3
  · exact Or.inr ⟨g, cap, cur, e1, e2, hk.block g _ _ _ e3 h1, e4⟩
theorem Kt.set {L : List TypeId} {w : World} {p : Addr} {cs : Array Value} {t : TypeId} {f : Nat × Nat} (h : w.heap[p.block]? = some (.cells cs t f)) (ht : t ∈ L) (u : Value) : Kt L w (w.setCell p u) :=
  ⟨rfl, rfl, rfl, by simp [World.setCell], fun k cs' t' f' hk a => by
    rw [Below.heap_setCell w p u k (fun e => by
      rw [e, h] at hk
      injection hk with hk
      injection hk with _ hk _
      rw [hk] at ht
      exact a ht)]
    exact hk⟩
theorem own_heap {w : World} {B : Nat} {e : TypeId} {size n : Nat} {v : Value} {xs : List Value} (h : w.ownsRow B e size v n xs) {g : Nat} (hg : v.ownBlock = some g) : B ≤ g ∧ g < w.heap.size ∧ ∃ cs, w.heap[g]? = some (.cells cs e (0, 0)) := by
  have := h.lt g hg
  refine ⟨this.1, this.2, ?_⟩
  rcases h.2 with ⟨rfl, _⟩ | ⟨g', cap, cur, rfl, _, hb, _⟩
  · cases hg
  · injection hg with hg
    simp only at hg
    subst hg
    exact ⟨_, hb⟩
theorem Kt.grown {L : List TypeId} {w w' : World} {B : Nat} {e : TypeId} {size n : Nat} {v : Value} {xs : List Value} (h : w.grownBy w' v.ownBlock) (ho : w.ownsRow B e size v n xs) (he : e ∈ L) : Kt L w w' :=
  ⟨h.os, h.tape, h.output, h.size, fun k cs t f hk a => by
    rw [h.block k (heap_lt hk) (fun q => by
      obtain ⟨_, _, cs2, h2⟩ := own_heap ho q.symm
      rw [hk] at h2
      injection h2 with h2
      injection h2 with _ h2
      exact a (h2 ▸ he))]
    exact hk⟩
theorem own_sliced {w : World} {B : Nat} {e : TypeId} {size n : Nat} {v : Value} {xs : List Value} (h : w.ownsRow B e size v n xs) : ∃ A c, v = .slice A n c ∧ n ≤ c ∧ c ≤ maxLen ∧ (0 < n → ∃ g, A = some ⟨g, 0, none⟩ ∧ B ≤ g ∧ g < w.heap.size) := by
  obtain ⟨A, c, e1, h1, h2, h3, h4⟩ := own_slice h
  exact ⟨A, c, e1, h3, h4, fun h0 => by obtain ⟨g, e, h5, h6, _⟩ := h1 h0; exact ⟨g, e, h6, h5⟩⟩
theorem own_set {w : World} {B : Nat} {e t : TypeId} {size n r : Nat} {v : Value} {xs : List Value} {cs : Array Value} (h : w.ownsRow B e size v n xs) (hb : IsBlk w r t cs) (hne : t ≠ e) (i : Nat) (u : Value) : (w.setCell ⟨r, i, none⟩ u).ownsRow B e size v n xs :=
  (Kt.set (L := [t]) (p := ⟨r, i, none⟩) hb (by simp) u).own h (by simpa using fun q => hne q.symm)
theorem own_short {w : World} {B : Nat} {e : TypeId} {size n m c : Nat} {A : Option Addr} {xs : List Value} (h : w.ownsRow B e size (.slice A n c) n xs) (hm : m ≤ n) : w.ownsRow B e size (.slice A m c) m (xs.take (m * size)) := by
  have hl := h.1
  refine ⟨by rw [List.length_take, hl]; exact Nat.min_eq_left (Nat.mul_le_mul_right _ hm), ?_⟩
  rcases h.2 with ⟨e1, e2⟩ | ⟨g, cap, cur, e1, e2, e3, e4, e5, e6, e7⟩
  · injection e1 with a1 a2 a3
    subst e2
    have hm0 : m = 0 := by omega
    exact Or.inl ⟨by rw [a1, hm0, a3], hm0⟩
  · injection e1 with a1 a2 a3
    subst a1 a3
    exact Or.inr ⟨g, c, cur, rfl, e2, e3, by omega, e5, e6, by rw [← e7, List.take_take, Nat.min_eq_left (Nat.mul_le_mul_right _ hm)]⟩
theorem fl_at {α : Type} {f : α → List Value} {k : Nat} (hf : ∀ x, (f x).length = k) : ∀ (l : List α) (i j : Nat) (hi : i < l.length), j < k → (l.flatMap f)[i * k + j]? = (f l[i])[j]?
  | [], i, _, hi, _ => by simp at hi
  | x :: l, 0, j, _, hj => by
    rw [List.flatMap_cons, Nat.zero_mul, Nat.zero_add, List.getElem?_append_left (by rw [hf]; exact hj)]; rfl
  | x :: l, i + 1, j, hi, hj => by
    rw [List.flatMap_cons, List.getElem?_append_right (by rw [hf, Nat.succ_mul]; omega), hf, show (i + 1) * k + j - k = i * k + j by rw [Nat.succ_mul]; omega, fl_at hf l i j (by simpa using hi) hj]; rfl
theorem fl_len {α : Type} {f : α → List Value} {k : Nat} (hf : ∀ x, (f x).length = k) : ∀ l : List α, (l.flatMap f).length = l.length * k
  | [] => by simp
  | x :: l => by rw [List.flatMap_cons, List.length_append, hf, fl_len hf l, List.length_cons, Nat.succ_mul]; omega
theorem fl_take {α : Type} {f : α → List Value} {k : Nat} (hf : ∀ x, (f x).length = k) : ∀ (l : List α) (m : Nat), (l.flatMap f).take (m * k) = (l.take m).flatMap f
  | [], m => by simp
  | x :: l, 0 => by simp
  | x :: l, m + 1 => by rw [List.flatMap_cons, List.take_succ_cons, List.flatMap_cons, List.take_append, hf, Nat.succ_mul, List.take_of_length_le (by rw [hf]; omega), show m * k + k - k = m * k by omega, fl_take hf l m]
end Go.Proofs.YtdcjpinbflmikaaGreatDoor
