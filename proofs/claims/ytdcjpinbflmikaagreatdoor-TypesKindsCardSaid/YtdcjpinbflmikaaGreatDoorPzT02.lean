/- Facts and walks for the statement. -/
import Derived.Test.YtdcjpinbflmikaaGreatDoorPzT01
import Derived.Laws.Closers25
import Derived.Lib.ItoaNum
import Derived.Lib.ParseIntBCases
namespace Go.Proofs.YtdcjpinbflmikaaGreatDoor
namespace Ex
def dp : E → Nat
  | .un _ a => dp a + 1
  | .bin _ a b => max (dp a) (dp b) + 1
  | .ite a b c => max (dp a) (max (dp b) (dp c)) + 1
  | _ => 1
end Ex
end Go.Proofs.YtdcjpinbflmikaaGreatDoor
namespace Go.Proofs.YtdcjpinbflmikaaGreatDoor
namespace Ex
theorem dp_pos : ∀ x : E, 1 ≤ dp x := fun x => by cases x <;> simp [dp]
end Ex
end Go.Proofs.YtdcjpinbflmikaaGreatDoor
namespace Go.Proofs.YtdcjpinbflmikaaGreatDoor
namespace Ex
theorem then2_r (r : List Tk) (a : E) (f : List Tk → E → Rs) : then2 (.ok r a) f = f r a := rfl
end Ex
end Go.Proofs.YtdcjpinbflmikaaGreatDoor
namespace Go.Proofs.YtdcjpinbflmikaaGreatDoor
namespace Nu
def dig (n : Nat) : List Nat := if h : n = 0 then [] else n % 10 :: dig (n / 10)
termination_by n
decreasing_by omega
theorem dig_zero : dig 0 = [] := by rw [dig]; rfl
theorem dig_pos {n : Nat} (h : n ≠ 0) : dig n = n % 10 :: dig (n / 10) := by rw [dig, dif_neg h]
def val : List Nat → Nat
  | [] => 0
  | d :: l => d + 10 * val l
theorem val_dig (n : Nat) : val (dig n) = n := by
  induction n using Nat.strongRecOn with
  | _ n ih =>
    by_cases h : n = 0
    · subst h; rw [dig_zero]; rfl
    · rw [dig_pos h]; simp only [val]; rw [ih (n / 10) (by omega)]; omega
theorem dig_lt {n d : Nat} (h : d ∈ dig n) : d < 10 := by
  induction n using Nat.strongRecOn with
  | _ n ih =>
    by_cases hn : n = 0
    · subst hn; rw [dig_zero] at h; cases h
    · rw [dig_pos hn] at h
      rcases List.mem_cons.1 h with rfl | h
      · omega
      · exact ih (n / 10) (by omega) h
theorem val_append (l m : List Nat) : val (l ++ m) = val l + 10 ^ l.length * val m := by
  induction l with
  | nil => simp [val]
  | cons d l ih =>
    simp only [List.cons_append, val, ih, List.length_cons, Nat.pow_succ]
    rw [Nat.mul_add, Nat.mul_comm (10 ^ l.length) 10, Nat.mul_assoc, Nat.add_assoc]
theorem val_snoc (l : List Nat) (d : Nat) : val (l ++ [d]) = val l + 10 ^ l.length * d := by rw [val_append]; simp [val]
theorem val_lt {l : List Nat} (h : ∀ d ∈ l, d < 10) : val l < 10 ^ l.length := by
  induction l with
  | nil => simp [val]
  | cons d l ih =>
    have h1 := ih (fun d hd => h d (List.mem_cons_of_mem _ hd))
    have h2 := h d (List.mem_cons_self ..)
    simp only [val, List.length_cons, Nat.pow_succ]
    omega
theorem dig_len_le {n k : Nat} (h : n < 10 ^ k) : (dig n).length ≤ k := by
  induction k generalizing n with
  | zero => have : n = 0 := by simp at h; exact h
            subst this; rw [dig_zero]; exact Nat.le_refl _
  | succ k ih =>
    by_cases hn : n = 0
    · subst hn; rw [dig_zero]; exact Nat.zero_le _
    · rw [dig_pos hn, List.length_cons]
      have := ih (n := n / 10) (by rw [Nat.pow_succ] at h; omega)
      omega
theorem lt_pow_len (n : Nat) : n < 10 ^ (dig n).length := by
  have := val_lt (l := dig n) (fun d hd => dig_lt hd)
  rwa [val_dig] at this
theorem dig_at (n i : Nat) : (dig n).getD i 0 = n / 10 ^ i % 10 := by
  induction i generalizing n with
  | zero =>
    by_cases hn : n = 0
    · subst hn; rw [dig_zero]; rfl
    · rw [dig_pos hn]; simp
  | succ i ih =>
    by_cases hn : n = 0
    · subst hn; rw [dig_zero]; simp
    · rw [dig_pos hn, List.getD_cons_succ, ih, Nat.pow_succ, Nat.mul_comm, Nat.div_div_eq_div_mul]
theorem dig_get {n i : Nat} (h : i < (dig n).length) : (dig n)[i] = n / 10 ^ i % 10 := by
  rw [← dig_at, List.getD_eq_getElem?_getD, List.getElem?_eq_getElem h]; rfl
theorem dig_of_val : ∀ {l : List Nat}, (∀ d ∈ l, d < 10) → (∀ h : l ≠ [], l.getLast h ≠ 0) → dig (val l) = l
  | [], _, _ => dig_zero
  | d :: l, h, hl => by
    have hd := h d (List.mem_cons_self ..)
    have h0 : val (d :: l) ≠ 0 := by
      intro h0
      simp only [val] at h0
      by_cases hn : l = []
      · subst hn
        have := hl (by simp)
        simp at this
        omega
      · have h1 := dig_of_val (l := l) (fun d hd => h d (List.mem_cons_of_mem _ hd)) (fun hh => by have := hl (by simp); rwa [List.getLast_cons hh] at this)
        rw [show val l = 0 by omega, dig_zero] at h1
        exact hn h1.symm
    rw [dig_pos h0]
    simp only [val]
    rw [show (d + 10 * val l) % 10 = d by omega, show (d + 10 * val l) / 10 = val l by omega]
    by_cases hn : l = []
    · subst hn; simp [val, dig_zero]
    · rw [dig_of_val (l := l) (fun d hd => h d (List.mem_cons_of_mem _ hd)) (fun hh => by have := hl (by simp); rwa [List.getLast_cons hh] at this)]
theorem val_zero_end {l : List Nat} {k : Nat} (hk : k + 1 ≤ l.length) (h : l[k] = 0) : val (l.take k) = val (l.take (k + 1)) := by
  rw [List.take_succ_eq_append_getElem (by omega), val_snoc, h]; omega
theorem trim_done {l : List Nat} (hd : ∀ d ∈ l, d < 10) {k : Nat} (hk : k ≤ l.length) (h : ∀ h : 0 < k, l[k - 1] ≠ 0) (hv : val (l.take k) = val l) : l.take k = dig (val l) := by
  rw [← hv]
  refine (dig_of_val (fun d hm => hd d (List.mem_of_mem_take hm)) fun hn => ?_).symm
  have h0 : 0 < k := by
    rcases Nat.eq_zero_or_pos k with rfl | h0
    · simp at hn
    · exact h0
  have h1 := h h0
  rw [List.getLast_eq_getElem]
  simp only [List.getElem_take, List.length_take]
  have : min k l.length - 1 = k - 1 := by omega
  simp only [this]
  exact h1
theorem top_step (x i : Nat) : x / 10 ^ i = 10 * (x / 10 ^ (i + 1)) + x / 10 ^ i % 10 := by
  have : x / 10 ^ (i + 1) = x / 10 ^ i / 10 := by rw [Nat.pow_succ, Nat.div_div_eq_div_mul]
  omega
theorem top_full (x : Nat) : x / 10 ^ (dig x).length = 0 := Nat.div_eq_of_lt (lt_pow_len x)
theorem top_zero (x : Nat) : x / 10 ^ 0 = x := by simp
def fits (z : Int) : Prop := -9223372036854775808 ≤ z ∧ z ≤ 9223372036854775807
instance (z : Int) : Decidable (fits z) := by unfold fits; infer_instance
def tell (z : Int) : Int × Int := if fits z then (z, 0) else (0, 60)
theorem tell_in {z : Int} (h : fits z) : tell z = (z, 0) := if_pos h
theorem tell_out {z : Int} (h : ¬ fits z) : tell z = (0, 60) := if_neg h
end Nu
end Go.Proofs.YtdcjpinbflmikaaGreatDoor
namespace Go.Proofs.YtdcjpinbflmikaaGreatDoor
namespace Nu
def isDg (c : UInt8) : Bool := decide (48 ≤ c.toNat ∧ c.toNat ≤ 57)
def allDg (l : List UInt8) : Bool := l.all isDg
def magF (acc : Nat) (l : List UInt8) : Nat := l.foldl (fun a c => a * 10 + (c.toNat - 48)) acc
theorem magF_nil (acc : Nat) : magF acc [] = acc := by
  unfold magF
  rw [List.foldl_nil]
theorem magF_cons (acc : Nat) (c : UInt8) (r : List UInt8) : magF acc (c :: r) = magF (acc * 10 + (c.toNat - 48)) r := by
  unfold magF
  rw [List.foldl_cons]
theorem magF_ge (l : List UInt8) (acc : Nat) : acc ≤ magF acc l := by
  induction l generalizing acc with
  | nil => rw [magF_nil]; exact Nat.le_refl _
  | cons c r ih =>
    have := ih (acc * 10 + (c.toNat - 48))
    rw [magF_cons]
    omega
theorem magF_app (l m : List UInt8) (acc : Nat) : magF acc (l ++ m) = magF (magF acc l) m := by
  induction l generalizing acc with
  | nil => rw [magF_nil]; rfl
  | cons c l ih => rw [List.cons_append, magF_cons, magF_cons]; exact ih _
theorem parse10 (l : List UInt8) (acc : Nat) (h : allDg l = true) (ha : acc < 18446744073709551616) : Lib.parseUint10 acc l = if magF acc l < 18446744073709551616 then .ok (magF acc l) else .range := by
  induction l generalizing acc with
  | nil => rw [magF_nil, if_pos ha, Lib.parseUint10]
  | cons c r ih =>
    unfold allDg at h
    rw [List.all_cons, Bool.and_eq_true] at h
    have hc := of_decide_eq_true h.1
    have hg := magF_ge r (acc * 10 + (c.toNat - 48))
    rw [magF_cons]
    unfold Lib.parseUint10
    rw [if_pos hc]
    by_cases h1 : 1844674407370955162 ≤ acc
    · rw [if_pos h1, if_neg (by omega)]
    · rw [if_neg h1]
      by_cases h2 : 18446744073709551616 ≤ acc * 10 + (c.toNat - 48)
      · rw [if_pos h2, if_neg (by omega)]
      · rw [if_neg h2]
        exact ih _ h.2 (by omega)
def strip : List UInt8 → List UInt8
  | 45 :: r => r
  | l => l
def below (l : List UInt8) : Bool := l.head? == some 45
def isW (l : List UInt8) : Bool := l == [48] || (!(strip l).isEmpty && (strip l).head? != some 48 && allDg (strip l))
def worth (l : List UInt8) : Int := if below l then -(magF 0 (strip l) : Int) else (magF 0 (strip l) : Int)
def prs (l : List UInt8) : Int × Int := if isW l then tell (worth l) else (0, 2)
theorem strip_other {l : List UInt8} (h : below l = false) : strip l = l := by
  unfold below at h
  unfold strip
  split
  · simp at h
  · rfl
theorem strip_minus {l : List UInt8} (h : below l = true) : l = 45 :: strip l := by
  unfold below at h
  cases l with
  | nil => simp at h
  | cons c r =>
    simp at h
    subst h
    rfl
theorem isW_ne {l : List UInt8} (h : isW l = true) : strip l ≠ [] ∧ allDg (strip l) = true := by
  unfold isW at h
  rw [Bool.or_eq_true] at h
  rcases h with h | h
  · have := eq_of_beq h
    subst this
    exact ⟨by decide, by decide⟩
  · rw [Bool.and_eq_true, Bool.and_eq_true] at h
    refine ⟨fun e => ?_, h.2⟩
    rw [e] at h
    exact absurd h.1.1 (by decide)
theorem worth_b {l : List UInt8} (h : below l = true) : worth l = -(magF 0 (strip l) : Int) := by unfold worth; rw [h]; rfl
theorem worth_n {l : List UInt8} (h : below l = false) : worth l = (magF 0 (strip l) : Int) := by unfold worth; rw [h]; rfl
theorem fits_iff (z : Int) : fits z ↔ (-9223372036854775808 ≤ z ∧ z ≤ 9223372036854775807) := Iff.rfl
theorem parseB {l : List UInt8} (h : isW l = true) : Lib.parseIntB 64 l = if fits (worth l) then .ok (worth l) else .range := by
  obtain ⟨hne, hd⟩ := isW_ne h
  have hu : Lib.parseUintB 64 (strip l) = if magF 0 (strip l) < 18446744073709551616 then .ok (magF 0 (strip l)) else .range := by
    rw [Lib.parseUintB_64]
    unfold Lib.parseMag
    rw [if_neg hne]
    exact parse10 _ 0 hd (by omega)
  cases hb : below l with
  | true =>
    have e := strip_minus hb
    rw [e, Lib.parseIntB_minus, ← e, hu]
    rw [worth_b hb]
    generalize magF 0 (strip l) = u
    simp only [fits_iff]
    by_cases h1 : u < 18446744073709551616
    · rw [if_pos h1]
      simp only [Lib.signedC]
      by_cases h2 : 2 ^ (64 - 1) < u
      · rw [if_pos h2, if_neg (by omega)]
      · rw [if_neg h2, if_pos (by omega)]
    · rw [if_neg h1, if_neg (by omega)]
      rfl
  | false =>
    have e := strip_other hb
    rw [worth_n hb]
    rw [e] at hu hd hne ⊢
    cases l with
    | nil => exact absurd rfl hne
    | cons c r =>
      have hc : isDg c = true := by simp only [allDg, List.all_cons, Bool.and_eq_true] at hd; exact hd.1
      have hc2 := of_decide_eq_true hc
      rw [Lib.parseIntB_plain 64 c r (by omega) (by omega), hu]
      generalize magF 0 (c :: r) = u
      simp only [fits_iff]
      by_cases h1 : u < 18446744073709551616
      · rw [if_pos h1]
        simp only [Lib.signlessC]
        by_cases h2 : 2 ^ (64 - 1) ≤ u
        · rw [if_pos h2, if_neg (by omega)]
        · rw [if_neg h2, if_pos (by omega)]
      · rw [if_neg h1, if_neg (by omega)]
        rfl
/-! ### how a number is written -/
theorem head_app {α : Type} {l m : List α} (h : l ≠ []) : (l ++ m).head? = l.head? := by
  cases l with
  | nil => exact absurd rfl h
  | cons a r => rfl
theorem dec_dig {u : Nat} (h : u ≠ 0) : Lib.decDigits u = (dig u).reverse.map (fun d => UInt8.ofNat (48 + d)) := by
  induction u using Nat.strongRecOn with
  | _ u ih =>
    rw [Lib.decDigits, dig_pos h]
    by_cases h10 : u < 10
    · rw [dif_pos h10, show u / 10 = 0 by omega, show u % 10 = u by omega, dig_zero]
      rfl
    · rw [dif_neg h10, ih (u / 10) (by omega) (by omega)]
      simp
theorem toNat_dig {d : Nat} (h : d < 10) : (UInt8.ofNat (48 + d)).toNat = 48 + d := by
  rw [UInt8.toNat_ofNat']; omega
theorem dec_mag (u : Nat) : magF 0 (Lib.decDigits u) = u ∧ allDg (Lib.decDigits u) = true ∧ Lib.decDigits u ≠ [] ∧ (u ≠ 0 → (Lib.decDigits u).head? ≠ some 48) := by
  induction u using Nat.strongRecOn with
  | _ u ih =>
    rw [Lib.decDigits]
    by_cases h10 : u < 10
    · rw [dif_pos h10]
      have e := toNat_dig h10
      refine ⟨by rw [magF_cons, magF_nil]; omega, ?_, by simp, fun h0 => ?_⟩
      · simp only [allDg, List.all_cons, List.all_nil, Bool.and_true, isDg]
        exact decide_eq_true (by omega)
      · intro hh
        simp only [List.head?_cons, Option.some.injEq] at hh
        have := congrArg UInt8.toNat hh
        rw [e] at this
        have h48 : (48 : UInt8).toNat = 48 := rfl
        omega
    · rw [dif_neg h10]
      obtain ⟨h1, h2, h3, h4⟩ := ih (u / 10) (by omega)
      have e := toNat_dig (d := u % 10) (Nat.mod_lt _ (by decide))
      refine ⟨?_, ?_, by simp, fun _ => ?_⟩
      · rw [magF_app, h1]
        rw [magF_cons, magF_nil, e]; omega
      · unfold allDg at h2 ⊢
        rw [List.all_append, h2]
        simp only [List.all_cons, List.all_nil, Bool.and_true, Bool.true_and, isDg]
        exact decide_eq_true (by omega)
      · rw [head_app h3]
        exact h4 (by omega)
theorem below_dig {l : List UInt8} (h : allDg l = true) : below l = false := by
  cases l with
  | nil => rfl
  | cons c r =>
    simp only [allDg, List.all_cons, Bool.and_eq_true] at h
    have := of_decide_eq_true h.1
    unfold below
    simp only [List.head?_cons]
    rw [beq_eq_false_iff_ne]
    intro e
    injection e with e
    subst e
    exact absurd this (by decide)
end Nu
end Go.Proofs.YtdcjpinbflmikaaGreatDoor
namespace Go.Proofs.YtdcjpinbflmikaaGreatDoor
namespace Ex
theorem dg_len {n : Nat} (h : n ≤ 9223372036854775807) : (dg n).length ≤ 20 := by
  by_cases h0 : n = 0
  · subst h0; unfold dg; rw [Lib.decDigits]; simp
  · have h1 := Nu.dig_len_le (n := n) (k := 20) (Nat.lt_of_le_of_lt h (by decide))
    unfold dg
    rw [Nu.dec_dig h0, List.length_map, List.length_reverse]
    exact h1
theorem isDg_isD {l : List UInt8} (h : Nu.allDg l = true) : l.all Lx.isD = true := h
theorem is_num {l : List UInt8} (h : l.all Lx.isD = true) (hne : l ≠ []) (hl : l.length ≤ 64) : Lx.is l = 1 := by
  unfold Lx.is
  rw [if_neg (by omega)]
  unfold Lx.whole
  have hs : ∀ w ∈ Lx.signs, w.all Lx.isD = false := by decide
  have hw : ∀ w ∈ Lx.words, w.all Lx.isD = false := by decide
  rw [if_neg (fun e => by have := hs _ (List.contains_iff_mem.1 e); rw [h] at this; cases this), if_neg (fun e => by have := hw _ (List.contains_iff_mem.1 e); rw [h] at this; cases this), if_neg hne, if_pos h]
theorem numv_dg {n : Nat} (h : n ≤ 9223372036854775807) : numv (dg n) = some n := by
  have h1 := (Nu.dec_mag n).1
  unfold Nu.magF at h1
  unfold numv dg
  simp only
  rw [h1, if_pos h]
theorem numv_le {s : List UInt8} {v : Nat} (h : numv s = some v) : v ≤ 9223372036854775807 := by
  unfold numv at h
  simp only at h
  split at h
  · rename_i hv; cases h; exact hv
  · cases h
def small : E → Prop
  | .num n => n ≤ 9223372036854775807
  | .un _ a => small a
  | .bin _ a b => small a ∧ small b
  | .ite a b c => small a ∧ small b ∧ small c
  | _ => True
theorem wf_of : ∀ {x : E}, wr x → small x → wf x
  | .num n, _, h => ⟨numv_dg h, is_num (isDg_isD (Nu.dec_mag n).2.1) (Nu.dec_mag n).2.2.1 (Nat.le_trans (dg_len h) (by decide))⟩
  | .name _, h, _ => h
  | .tt, _, _ => True.intro
  | .ff, _, _ => True.intro
  | .un _ _, h, q => ⟨h.1, wf_of h.2 q⟩
  | .bin _ _ _, h, q => ⟨h.1, h.2.1, wf_of h.2.2.1 q.1, wf_of h.2.2.2 q.2⟩
  | .ite _ _ _, h, q => ⟨wf_of h.1 q.1, wf_of h.2.1 q.2.1, wf_of h.2.2 q.2.2⟩
def Fine (m : Md) (x : E) : Prop := match m with
  | .loop _ a => wr a → small a → wr x ∧ small x
  | _ => wr x ∧ small x
theorem kd_name {ts : List Tk} (h : nx ts ≠ []) (hk : kd ts = 2) : Lx.is (nx ts) = 2 := by
  cases ts with
  | nil => exact absurd rfl h
  | cons t r =>
    have hk : t.1 = 2 := hk
    unfold nx at h ⊢
    simp only at h ⊢
    split at h
    · rename_i e; rw [if_pos e, e, hk]
    · exact absurd rfl h
theorem rd_fine : ∀ (f : Nat) (m : Md) (ts r : List Tk) (x : E), rd f m ts = .ok r x → Fine m x
  | 0, _, _, _, _, h => by cases h
  | f + 1, .lev n, ts, r, x, h => by
    unfold rd at h
    split at h
    · exact rd_fine f .pri _ _ _ h
    · split at h
      · exact rd_fine f .una _ _ _ h
      · obtain ⟨r1, a1, h1, h2⟩ := then2_ok h
        have e1 : wr a1 ∧ small a1 := rd_fine f (.lev (n + 1)) _ _ _ h1
        exact rd_fine f (.loop n a1) _ _ _ h2 e1.1 e1.2
  | f + 1, .loop n a, ts, r, x, h => fun wa sa => by
    unfold rd at h
    split at h
    · cases h; exact ⟨wa, sa⟩
    · rename_i hop
      obtain ⟨t1, t2, _, _⟩ := of2_tells hop
      obtain ⟨r1, b1, h1, h2⟩ := then2_ok h
      have e1 : wr b1 ∧ small b1 := rd_fine f (.lev (n + 1)) _ _ _ h1
      exact rd_fine f (.loop n (.bin (of2 n (nx ts)) a b1)) _ _ _ h2 ⟨t1, t2, wa, e1.1⟩ ⟨sa, e1.2⟩
  | f + 1, .una, ts, r, x, h => by
    unfold rd at h
    split at h
    · obtain ⟨r1, a1, h1, h2⟩ := then2_ok h
      have e1 : wr a1 ∧ small a1 := rd_fine f .una _ _ _ h1
      cases h2
      exact ⟨⟨Or.inl rfl, e1.1⟩, e1.2⟩
    · split at h
      · obtain ⟨r1, a1, h1, h2⟩ := then2_ok h
        have e1 : wr a1 ∧ small a1 := rd_fine f .una _ _ _ h1
        cases h2
        exact ⟨⟨Or.inr rfl, e1.1⟩, e1.2⟩
      · exact rd_fine f .pri _ _ _ h
  | f + 1, .pri, ts, r, x, h => by
    unfold rd at h
    split at h
    · obtain ⟨r1, a1, h1, h2⟩ := then2_ok h
      obtain ⟨_, _, e4⟩ := eat_ok (by simp) h2
      have e1 : wr a1 ∧ small a1 := rd_fine f (.lev 1) _ _ _ h1
      cases e4
      exact e1
    · split at h
      · exact rd_fine f .bra _ _ _ h
      · split at h
        · cases h; exact ⟨True.intro, True.intro⟩
        · split at h
          · cases h; exact ⟨True.intro, True.intro⟩
          · split at h
            · cases hv : numv (nx ts) with
              | none => rw [hv] at h; cases h
              | some v => rw [hv] at h; cases h; exact ⟨True.intro, numv_le hv⟩
            · split at h
              · rename_i q; cases h; exact ⟨kd_name q.1 q.2, True.intro⟩
              · cases h
  | f + 1, .bra, ts, r, x, h => by
    unfold rd at h
    obtain ⟨r1, a1, h1, h2⟩ := then2_ok h
    obtain ⟨_, _, h3⟩ := eat_ok (by simp) h2
    obtain ⟨r4, a4, h4, h5⟩ := then2_ok h3
    obtain ⟨_, _, h6⟩ := eat_ok (by simp) h5
    obtain ⟨r7, a7, h7, h8⟩ := then2_ok h6
    obtain ⟨_, _, h9⟩ := eat_ok (by simp) h8
    have q1 : wr a1 ∧ small a1 := rd_fine f (.lev 1) _ _ _ h1
    have q4 : wr a4 ∧ small a4 := rd_fine f (.lev 1) _ _ _ h4
    have q7 : wr a7 ∧ small a7 := rd_fine f (.lev 1) _ _ _ h7
    cases h9
    exact ⟨⟨q1.1, q4.1, q7.1⟩, ⟨q1.2, q4.2, q7.2⟩⟩
end Ex
end Go.Proofs.YtdcjpinbflmikaaGreatDoor
namespace Go.Proofs.YtdcjpinbflmikaaGreatDoor
namespace Ty
open Ex
abbrev Nm := List UInt8
def rl : Nat → Nat × Nat × Nat × Nat
  | 1 => (0, 0, 0, 1) | 2 => (0, 0, 0, 1) | 3 => (0, 0, 0, 2) | 4 => (0, 0, 0, 2) | 5 => (1, 0, 0, 1) | 6 => (2, 0, 0, 2)
  | 7 => (1, 1, 0, 1) | 8 => (1, 1, 0, 1) | 9 => (1, 1, 0, 1) | 10 => (1, 1, 0, 1) | 11 => (1, 1, 0, 1)
  | 12 => (1, 1, 0, 2) | 13 => (1, 1, 0, 2) | 14 => (1, 1, 0, 2) | 15 => (1, 1, 0, 2) | 16 => (3, 3, 0, 2) | 17 => (3, 3, 0, 2)
  | 18 => (2, 2, 0, 2) | 19 => (2, 2, 0, 2) | 20 => (2, 2, 0, 2) | 21 => (2, 2, 0, 2) | 22 => (2, 3, 3, 3)
  | _ => (0, 0, 0, 0)
def pt (k x : Nat) : Nat := if x = 3 then k else x
def kat (l : List Nat) (p : Int) : Nat := if p < 0 then 0 else l.getD p.toNat 0
def kd (n : Nd) (l : List Nat) (ns : List Nm) : Nat :=
  if n.op = 2 ∧ n.nm ∉ ns then 0
  else if kat l n.a = pt (kat l n.b) (rl n.op.toNat).1 ∧ kat l n.b = pt (kat l n.b) (rl n.op.toNat).2.1 ∧ kat l n.c = pt (kat l n.b) (rl n.op.toNat).2.2.1 then pt (kat l n.b) (rl n.op.toNat).2.2.2 else 0
def kgo (ns : List Nm) : List Nd → List Nat → List Nat × Nat × Int
  | [], l => (l, 0, 0)
  | n :: r, l => if kd n l ns = 0 then ([], l.length, 90) else kgo ns r (l ++ [kd n l ns])
theorem kgo_bad {ns : List Nm} {n : Nd} {r : List Nd} {l : List Nat} (h : kd n l ns = 0) : kgo ns (n :: r) l = ([], l.length, 90) := if_pos h
theorem kgo_on {ns : List Nm} {n : Nd} {r : List Nd} {l : List Nat} (h : kd n l ns ≠ 0) : kgo ns (n :: r) l = kgo ns r (l ++ [kd n l ns]) := if_neg h
theorem kgo_err (ns : List Nm) : ∀ (r : List Nd) (l : List Nat), (kgo ns r l).2.2 = 0 ∨ (kgo ns r l).2.2 = 90 ∧ (kgo ns r l).1 = []
  | [], _ => Or.inl rfl
  | n :: r, l => by
    by_cases h : kd n l ns = 0
    · rw [kgo_bad h]; exact Or.inr ⟨rfl, rfl⟩
    · rw [kgo_on h]; exact kgo_err ns r _
theorem rl_is (o : Nat) : (rl o).2.2.2 ≤ 3 := by
  unfold rl
  split <;> decide
theorem kd_kind {n : Nd} {l : List Nat} {ns : List Nm} (hl : ∀ k ∈ l, k = 1 ∨ k = 2) (h : kd n l ns ≠ 0) : kd n l ns = 1 ∨ kd n l ns = 2 := by
  have hb : kat l n.b = 0 ∨ kat l n.b = 1 ∨ kat l n.b = 2 := by
    unfold kat
    split
    · exact Or.inl rfl
    · by_cases hi : n.b.toNat < l.length
      · rw [List.getD_eq_getElem?_getD, List.getElem?_eq_getElem hi]; exact Or.inr (hl _ (List.getElem_mem hi))
      · rw [List.getD_eq_getElem?_getD, List.getElem?_eq_none (by omega)]; exact Or.inl rfl
  have hr := rl_is n.op.toNat
  unfold kd at h ⊢
  split at h
  · exact absurd rfl h
  · rename_i q1
    rw [if_neg q1]
    split at h
    · rename_i q2
      rw [if_pos q2]
      unfold pt at h ⊢
      split <;> split at h <;> omega
    · exact absurd rfl h
theorem kgo_kinds {ns : List Nm} : ∀ (r : List Nd) (l : List Nat), (∀ k ∈ l, k = 1 ∨ k = 2) → (kgo ns r l).2.2 = 0 → (kgo ns r l).2.1 = 0 ∧ ∃ l', (kgo ns r l).1 = l ++ l' ∧ l'.length = r.length ∧ ∀ k ∈ l ++ l', k = 1 ∨ k = 2
  | [], l, hl, _ => ⟨rfl, [], (List.append_nil l).symm, rfl, by rw [List.append_nil]; exact hl⟩
  | n :: r, l, hl, h => by
    by_cases h0 : kd n l ns = 0
    · rw [kgo_bad h0] at h; cases h
    · rw [kgo_on h0] at h ⊢
      obtain ⟨h1, l', h2, h3, h4⟩ := kgo_kinds r (l ++ [kd n l ns]) (fun k hk => by
        rcases List.mem_append.1 hk with hk | hk
        · exact hl k hk
        · rw [List.mem_singleton.1 hk]; exact kd_kind hl h0) h
      refine ⟨h1, kd n l ns :: l', by rw [h2, List.append_assoc]; rfl, by rw [List.length_cons, h3]; rfl, ?_⟩
      rw [List.append_assoc] at h4; exact h4
def nms : List Nd → List Nm → List Nm
  | [], acc => acc
  | n :: r, acc => if n.op = 2 ∧ n.nm ∉ acc then nms r (acc ++ [n.nm]) else nms r acc
theorem nms_len : ∀ (r : List Nd) (acc : List Nm), (nms r acc).length ≤ acc.length + r.length
  | [], _ => by simp [nms]
  | n :: r, acc => by
    unfold nms
    split
    · have := nms_len r (acc ++ [n.nm]); simp at this ⊢; omega
    · have := nms_len r acc; simp; omega
/-! ### parts -/
def In (s : Nat) (j : Nat) (p : Int) : Prop := p = -1 ∨ (s : Int) ≤ p ∧ p < j
theorem flat_in : ∀ (x : E) (s i : Nat) (n : Nd), (flat x s)[i]? = some n → In s (s + i) n.a ∧ In s (s + i) n.b ∧ In s (s + i) n.c := by
  have one : ∀ (s i : Nat) (m n : Nd), m.a = -1 → m.b = -1 → m.c = -1 → [m][i]? = some n → In s (s + i) n.a ∧ In s (s + i) n.b ∧ In s (s + i) n.c := by
    intro s i m n h1 h2 h3 h
    match i, h with
    | 0, h => injection h with h; subst h; exact ⟨Or.inl h1, Or.inl h2, Or.inl h3⟩
  have wide : ∀ {s t i j : Nat} {p : Int}, s ≤ t → t + i = s + j → In t (t + i) p → In s (s + j) p := by
    intro s t i j p h1 h2 h
    rcases h with h | h
    · exact Or.inl h
    · exact Or.inr ⟨by omega, by omega⟩
  have app : ∀ {A B : List Nd} {i : Nat} {n : Nd}, (A ++ B)[i]? = some n → (i < A.length ∧ A[i]? = some n) ∨ (A.length ≤ i ∧ B[i - A.length]? = some n) := by
    intro A B i n h
    by_cases hi : i < A.length
    · rw [List.getElem?_append_left hi] at h; exact Or.inl ⟨hi, h⟩
    · rw [List.getElem?_append_right (by omega)] at h; exact Or.inr ⟨by omega, h⟩
  have last : ∀ {m n : Nd} {i : Nat}, [m][i]? = some n → i = 0 ∧ n = m := by
    intro m n i h
    match i, h with
    | 0, h => injection h with h; exact ⟨rfl, h.symm⟩
  intro x
  induction x with
  | num v => intro s i n h; exact one s i _ n rfl rfl rfl h
  | name v => intro s i n h; exact one s i _ n rfl rfl rfl h
  | tt => intro s i n h; exact one s i _ n rfl rfl rfl h
  | ff => intro s i n h; exact one s i _ n rfl rfl rfl h
  | un op a iha =>
    intro s i n h
    have h1 := sz_pos a
    rcases app h with ⟨hi, h⟩ | ⟨hi, h⟩
    · exact iha s i n h
    · rw [flat_len] at hi h
      obtain ⟨e, rfl⟩ := last h
      exact ⟨Or.inr ⟨by simp only; omega, by simp only; omega⟩, Or.inl rfl, Or.inl rfl⟩
  | bin op a b iha ihb =>
    intro s i n h
    have h1 := sz_pos a
    have h2 := sz_pos b
    rcases app h with ⟨hi, h⟩ | ⟨hi, h⟩
    · rcases app h with ⟨hi, h⟩ | ⟨hi, h⟩
      · exact iha s i n h
      · rw [flat_len] at hi h
        have q := ihb (s + sz a) (i - sz a) n h
        exact ⟨wide (by omega) (by omega) q.1, wide (by omega) (by omega) q.2.1, wide (by omega) (by omega) q.2.2⟩
    · rw [List.length_append, flat_len, flat_len] at hi h
      obtain ⟨e, rfl⟩ := last h
      exact ⟨Or.inr ⟨by simp only; omega, by simp only; omega⟩, Or.inr ⟨by simp only; omega, by simp only; omega⟩, Or.inl rfl⟩
  | ite a b c iha ihb ihc =>
    intro s i n h
    have h1 := sz_pos a
    have h2 := sz_pos b
    have h3 := sz_pos c
    rcases app h with ⟨hi, h⟩ | ⟨hi, h⟩
    · rcases app h with ⟨hi, h⟩ | ⟨hi, h⟩
      · rcases app h with ⟨hi, h⟩ | ⟨hi, h⟩
        · exact iha s i n h
        · rw [flat_len] at hi h
          have q := ihb (s + sz a) (i - sz a) n h
          exact ⟨wide (by omega) (by omega) q.1, wide (by omega) (by omega) q.2.1, wide (by omega) (by omega) q.2.2⟩
      · rw [List.length_append, flat_len, flat_len] at hi h
        have q := ihc (s + sz a + sz b) (i - (sz a + sz b)) n h
        exact ⟨wide (by omega) (by omega) q.1, wide (by omega) (by omega) q.2.1, wide (by omega) (by omega) q.2.2⟩
    · rw [List.length_append, List.length_append, flat_len, flat_len, flat_len] at hi h
      obtain ⟨e, rfl⟩ := last h
      exact ⟨Or.inr ⟨by simp only; omega, by simp only; omega⟩, Or.inr ⟨by simp only; omega, by simp only; omega⟩, Or.inr ⟨by simp only; omega, by simp only; omega⟩⟩
end Ty
end Go.Proofs.YtdcjpinbflmikaaGreatDoor
namespace Go.Proofs.YtdcjpinbflmikaaGreatDoor
namespace Ev
open Ex
/-! ### names that an expression does not have -/
/-! ### kinds by the tree -/
def kx (ns : List Ty.Nm) : E → Nat
  | .num _ => 1
  | .name s => if s ∈ ns then 1 else 0
  | .tt => 2
  | .ff => 2
  | .un op a => if op = 5 then (if kx ns a = 1 then 1 else 0) else if kx ns a = 2 then 2 else 0
  | .bin op a b => if op ≤ 11 then (if kx ns a = 1 ∧ kx ns b = 1 then 1 else 0) else if op ≤ 15 then (if kx ns a = 1 ∧ kx ns b = 1 then 2 else 0)
    else if op ≤ 17 then (if kx ns a = kx ns b ∧ kx ns a ≠ 0 then 2 else 0) else if kx ns a = 2 ∧ kx ns b = 2 then 2 else 0
  | .ite a b c => if kx ns a = 2 ∧ kx ns b = kx ns c then kx ns b else 0
end Ev
end Go.Proofs.YtdcjpinbflmikaaGreatDoor
namespace Go.Proofs.YtdcjpinbflmikaaGreatDoor
namespace Ev
open Ex Ty
def kxs (ns : List Nm) : E → List Nat
  | .un op a => kxs ns a ++ [kx ns (.un op a)]
  | .bin op a b => kxs ns a ++ kxs ns b ++ [kx ns (.bin op a b)]
  | .ite a b c => kxs ns a ++ kxs ns b ++ kxs ns c ++ [kx ns (.ite a b c)]
  | x => [kx ns x]
theorem kxs_len (ns : List Nm) : ∀ x : E, (kxs ns x).length = sz x
  | .num _ => rfl
  | .name _ => rfl
  | .tt => rfl
  | .ff => rfl
  | .un _ a => by simp [kxs, sz, kxs_len ns a]
  | .bin _ a b => by simp [kxs, sz, kxs_len ns a, kxs_len ns b]; omega
  | .ite a b c => by simp [kxs, sz, kxs_len ns a, kxs_len ns b, kxs_len ns c]; omega
theorem kxs_last (ns : List Nm) : ∀ x : E, ∃ l, kxs ns x = l ++ [kx ns x] ∧ l.length = sz x - 1
  | .num _ => ⟨[], rfl, rfl⟩
  | .name _ => ⟨[], rfl, rfl⟩
  | .tt => ⟨[], rfl, rfl⟩
  | .ff => ⟨[], rfl, rfl⟩
  | .un op a => ⟨kxs ns a, rfl, by simp [sz, kxs_len]⟩
  | .bin op a b => ⟨kxs ns a ++ kxs ns b, rfl, by simp [sz, kxs_len]⟩
  | .ite a b c => ⟨kxs ns a ++ kxs ns b ++ kxs ns c, rfl, by simp [sz, kxs_len]; omega⟩
theorem kx_le (ns : List Nm) : ∀ x : E, kx ns x = 0 ∨ kx ns x = 1 ∨ kx ns x = 2
  | .num _ => Or.inr (Or.inl rfl)
  | .name s => by
    unfold kx
    split
    · exact Or.inr (Or.inl rfl)
    · exact Or.inl rfl
  | .tt => Or.inr (Or.inr rfl)
  | .ff => Or.inr (Or.inr rfl)
  | .un op a => by unfold kx; split <;> split <;> simp
  | .bin op a b => by
    unfold kx
    split
    · split <;> simp
    split
    · split <;> simp
    split
    · split <;> simp
    split <;> simp
  | .ite a b c => by
    unfold kx
    split
    · exact kx_le ns b
    · exact Or.inl rfl
def Nz (l : List Nat) : Prop := ∀ k ∈ l, k ≠ 0
instance (l : List Nat) : Decidable (Nz l) := inferInstanceAs (Decidable (∀ k ∈ l, k ≠ 0))
def fz : List Nat → Nat
  | [] => 0
  | k :: r => if k = 0 then 0 else fz r + 1
theorem nz_app {a b : List Nat} : Nz (a ++ b) ↔ Nz a ∧ Nz b := by
  unfold Nz
  constructor
  · exact fun h => ⟨fun k hk => h k (List.mem_append_left _ hk), fun k hk => h k (List.mem_append_right _ hk)⟩
  · rintro ⟨h1, h2⟩ k hk
    rcases List.mem_append.1 hk with hk | hk
    · exact h1 k hk
    · exact h2 k hk
theorem fz_left : ∀ {a b : List Nat}, ¬ Nz a → fz (a ++ b) = fz a
  | [], _, h => absurd (fun _ hk => nomatch hk) h
  | k :: r, b, h => by
    show (if k = 0 then 0 else fz (r ++ b) + 1) = if k = 0 then 0 else fz r + 1
    by_cases hk : k = 0
    · rw [if_pos hk, if_pos hk]
    · rw [if_neg hk, if_neg hk, fz_left (a := r) (fun h2 => h (fun q hq => by
        rcases List.mem_cons.1 hq with rfl | hq
        · exact hk
        · exact h2 q hq))]
theorem fz_right : ∀ {a b : List Nat}, Nz a → fz (a ++ b) = a.length + fz b
  | [], _, _ => by simp
  | k :: r, b, h => by
    show (if k = 0 then 0 else fz (r ++ b) + 1) = _
    rw [if_neg (h k List.mem_cons_self), fz_right (a := r) (fun q hq => h q (List.mem_cons_of_mem _ hq)), List.length_cons]; omega
theorem fz_one {k : Nat} (h : ¬ Nz [k]) : fz [k] = 0 := by
  have : k = 0 := Decidable.byContradiction fun q => h (fun x hx => by rw [List.mem_singleton.1 hx]; exact q)
  subst this; rfl
def kdk (op a b c : Nat) : Nat := if a = pt b (rl op).1 ∧ b = pt b (rl op).2.1 ∧ c = pt b (rl op).2.2.1 then pt b (rl op).2.2.2 else 0
theorem kdk_one : ∀ o : Fin 2, ∀ a : Fin 2, kdk (o.1 + 5) (a.1 + 1) 0 0 = if o.1 + 5 = 5 then (if a.1 + 1 = 1 then 1 else 0) else if a.1 + 1 = 2 then 2 else 0 := by decide
theorem kdk_two : ∀ o : Fin 15, ∀ a b : Fin 2, kdk (o.1 + 7) (a.1 + 1) (b.1 + 1) 0 = if o.1 + 7 ≤ 11 then (if a.1 + 1 = 1 ∧ b.1 + 1 = 1 then 1 else 0) else if o.1 + 7 ≤ 15 then (if a.1 + 1 = 1 ∧ b.1 + 1 = 1 then 2 else 0) else if o.1 + 7 ≤ 17 then (if a.1 + 1 = b.1 + 1 ∧ a.1 + 1 ≠ 0 then 2 else 0) else if a.1 + 1 = 2 ∧ b.1 + 1 = 2 then 2 else 0 := by decide
theorem kdk_tri : ∀ a b c : Fin 2, kdk 22 (a.1 + 1) (b.1 + 1) (c.1 + 1) = if a.1 + 1 = 2 ∧ b.1 + 1 = c.1 + 1 then b.1 + 1 else 0 := by decide
theorem fin2 {k : Nat} (h : k = 0 ∨ k = 1 ∨ k = 2) (h0 : k ≠ 0) : ∃ a : Fin 2, k = a.1 + 1 := by
  rcases h with h | h | h
  · exact absurd h h0
  · exact ⟨0, h⟩
  · exact ⟨1, h⟩
theorem kd_kdk {n : Nd} {K : List Nat} {ns : List Nm} (h2 : n.op ≠ 2) : Ty.kd n K ns = kdk n.op.toNat (kat K n.a) (kat K n.b) (kat K n.c) := by
  unfold Ty.kd
  rw [if_neg (fun h => h2 h.1)]; rfl
theorem kat_last (ns : List Nm) (K r : List Nat) (x : E) {p : Nat} (hK : K.length = p) : kat (K ++ kxs ns x ++ r) (((p + sz x : Nat) : Int) - 1) = kx ns x := by
  obtain ⟨l, h1, h2⟩ := kxs_last ns x
  have hs := sz_pos x
  have hn : (((p + sz x : Nat) : Int) - 1).toNat = (K ++ l).length := by rw [List.length_append, hK, h2]; omega
  unfold kat
  rw [if_neg (by omega), hn, h1, List.getD_eq_getElem?_getD]
  rw [show K ++ (l ++ [kx ns x]) ++ r = (K ++ l) ++ (kx ns x :: r) by simp, List.getElem?_append_right (Nat.le_refl _), Nat.sub_self]
  rfl
theorem kat_none (K : List Nat) : kat K (-1) = 0 := rfl
theorem kgo_one {ns : List Nm} {n : Nd} {K : List Nat} {r : List Nd} {k p : Nat} (h : Ty.kd n K ns = k) (hK : K.length = p) : (Nz [k] → kgo ns (n :: r) K = kgo ns r (K ++ [k])) ∧ (¬ Nz [k] → kgo ns (n :: r) K = ([], p + fz [k], 90)) := by
  subst h
  constructor
  · intro h; exact kgo_on (h _ (List.mem_singleton.2 rfl))
  · intro h
    rw [fz_one h]
    have : Ty.kd n K ns = 0 := Decidable.byContradiction fun q => h (fun x hx => by rw [List.mem_singleton.1 hx]; exact q)
    rw [kgo_bad this, hK]; rfl
theorem kgo_two {ka kb : List Nat} {p q : Nat} {X Y Z : List Nat × Nat × Int} (hq : p + ka.length = q)
    (h1 : (Nz ka → X = Y) ∧ (¬ Nz ka → X = ([], p + fz ka, 90))) (h2 : Nz ka → (Nz kb → Y = Z) ∧ (¬ Nz kb → Y = ([], q + fz kb, 90))) :
    (Nz (ka ++ kb) → X = Z) ∧ (¬ Nz (ka ++ kb) → X = ([], p + fz (ka ++ kb), 90)) := by
  constructor
  · intro h
    obtain ⟨a, b⟩ := nz_app.1 h
    exact (h1.1 a).trans ((h2 a).1 b)
  · intro h
    by_cases a : Nz ka
    · have b : ¬ Nz kb := fun b => h (nz_app.2 ⟨a, b⟩)
      rw [h1.1 a, (h2 a).2 b, fz_right a, ← hq, Nat.add_assoc]
    · rw [h1.2 a, fz_left a]
theorem kgo_flat {ns : List Nm} : ∀ (x : E) (p : Nat) (K : List Nat) (r : List Nd), wr x → K.length = p → (Nz (kxs ns x) → kgo ns (flat x p ++ r) K = kgo ns r (K ++ kxs ns x)) ∧ (¬ Nz (kxs ns x) → kgo ns (flat x p ++ r) K = ([], p + fz (kxs ns x), 90))
  | .num v, p, K, r, _, hK => kgo_one (n := ⟨1, v, [], -1, -1, -1⟩) (by rfl) hK
  | .name s, p, K, r, _, hK => kgo_one (n := ⟨2, 0, s, -1, -1, -1⟩) (by
      show Ty.kd ⟨2, 0, s, -1, -1, -1⟩ K ns = if s ∈ ns then 1 else 0
      unfold Ty.kd
      by_cases h : s ∈ ns
      · rw [if_pos h, if_neg (fun q => q.2 h)]; rfl
      · rw [if_neg h, if_pos ⟨rfl, h⟩]) hK
  | .tt, p, K, r, _, hK => kgo_one (n := ⟨3, 0, [], -1, -1, -1⟩) (by rfl) hK
  | .ff, p, K, r, _, hK => kgo_one (n := ⟨4, 0, [], -1, -1, -1⟩) (by rfl) hK
  | .un op a, p, K, r, hw, hK => by
    have hw1 := hw.1
    have hop : ((op : Int)).toNat = op := Int.toNat_natCast op
    show (Nz (kxs ns a ++ [_]) → kgo ns ((flat a p ++ [_]) ++ r) K = _) ∧ (¬ Nz (kxs ns a ++ [_]) → kgo ns ((flat a p ++ [_]) ++ r) K = _)
    rw [List.append_assoc]
    have h1 := kgo_flat (ns := ns) a p K ([⟨(op : Int), 0, [], ((p + sz a : Nat) : Int) - 1, -1, -1⟩] ++ r) hw.2 hK
    refine kgo_two (q := p + sz a) (by rw [kxs_len]) h1 (fun hz => ?_)
    have hk := fin2 (kx_le ns a) (by obtain ⟨l, e, _⟩ := kxs_last ns a; rw [e] at hz; exact hz _ (List.mem_append_right _ (List.mem_singleton.2 rfl)))
    have h2 := kgo_one (ns := ns) (n := ⟨(op : Int), 0, [], ((p + sz a : Nat) : Int) - 1, -1, -1⟩) (K := K ++ kxs ns a) (r := r) (k := kx ns (.un op a)) (p := p + sz a) (by
      rw [kd_kdk (by simp only; omega)]
      simp only [hop, kat_none]
      have := kat_last ns K [] a hK
      rw [List.append_nil] at this
      rw [this]
      obtain ⟨i, hi⟩ := hk
      show _ = if op = 5 then (if kx ns a = 1 then 1 else 0) else if kx ns a = 2 then 2 else 0
      rw [hi]
      have := kdk_one ⟨op - 5, by omega⟩ i
      simp only [show op - 5 + 5 = op by omega] at this
      exact this) (by rw [List.length_append, hK, kxs_len])
    rw [List.append_assoc] at h2
    exact h2
  | .bin op a b, p, K, r, hw, hK => by
    obtain ⟨h7, h21, hwa, hwb⟩ := hw
    have hop : ((op : Int)).toNat = op := Int.toNat_natCast op
    have e : kxs ns (.bin op a b) = kxs ns a ++ (kxs ns b ++ [kx ns (.bin op a b)]) := List.append_assoc _ _ _
    have ef : flat (.bin op a b) p ++ r = flat a p ++ (flat b (p + sz a) ++ ([⟨(op : Int), 0, [], ((p + sz a : Nat) : Int) - 1, ((p + sz a + sz b : Nat) : Int) - 1, -1⟩] ++ r)) := by
      show (flat a p ++ flat b (p + sz a) ++ [_]) ++ r = _
      rw [List.append_assoc, List.append_assoc]
    rw [e, ef]
    refine kgo_two (q := p + sz a) (by rw [kxs_len]) (kgo_flat (ns := ns) a p K _ hwa hK) (fun hz => ?_)
    refine kgo_two (q := p + sz a + sz b) (by rw [kxs_len]) (kgo_flat (ns := ns) b (p + sz a) (K ++ kxs ns a) _ hwb (by rw [List.length_append, hK, kxs_len])) (fun hz2 => ?_)
    have hk := fin2 (kx_le ns a) (by obtain ⟨l, e, _⟩ := kxs_last ns a; rw [e] at hz; exact hz _ (List.mem_append_right _ (List.mem_singleton.2 rfl)))
    have hk2 := fin2 (kx_le ns b) (by obtain ⟨l, e, _⟩ := kxs_last ns b; rw [e] at hz2; exact hz2 _ (List.mem_append_right _ (List.mem_singleton.2 rfl)))
    have h2 := kgo_one (ns := ns) (n := ⟨(op : Int), 0, [], ((p + sz a : Nat) : Int) - 1, ((p + sz a + sz b : Nat) : Int) - 1, -1⟩) (K := K ++ kxs ns a ++ kxs ns b) (r := r) (k := kx ns (.bin op a b)) (p := p + sz a + sz b) (by
      rw [kd_kdk (by simp only; omega)]
      simp only [hop, kat_none]
      rw [kat_last ns K (kxs ns b) a hK]
      have := kat_last ns (K ++ kxs ns a) [] b (p := p + sz a) (by rw [List.length_append, hK, kxs_len])
      rw [List.append_nil] at this
      rw [this]
      obtain ⟨i, hi⟩ := hk
      obtain ⟨j, hj⟩ := hk2
      show _ = if op ≤ 11 then (if kx ns a = 1 ∧ kx ns b = 1 then 1 else 0) else if op ≤ 15 then (if kx ns a = 1 ∧ kx ns b = 1 then 2 else 0) else if op ≤ 17 then (if kx ns a = kx ns b ∧ kx ns a ≠ 0 then 2 else 0) else if kx ns a = 2 ∧ kx ns b = 2 then 2 else 0
      rw [hi, hj]
      have := kdk_two ⟨op - 7, by omega⟩ i j
      simp only [show op - 7 + 7 = op by omega] at this
      exact this) (by rw [List.length_append, List.length_append, hK, kxs_len, kxs_len])
    rw [show K ++ kxs ns a ++ kxs ns b ++ [kx ns (.bin op a b)] = K ++ (kxs ns a ++ (kxs ns b ++ [kx ns (.bin op a b)])) by simp only [List.append_assoc]] at h2
    exact h2
  | .ite a b c, p, K, r, hw, hK => by
    obtain ⟨hwa, hwb, hwc⟩ := hw
    have e : kxs ns (.ite a b c) = kxs ns a ++ (kxs ns b ++ (kxs ns c ++ [kx ns (.ite a b c)])) := by
      show kxs ns a ++ kxs ns b ++ kxs ns c ++ [_] = _
      rw [List.append_assoc, List.append_assoc]
    have ef : flat (.ite a b c) p ++ r = flat a p ++ (flat b (p + sz a) ++ (flat c (p + sz a + sz b) ++ ([⟨22, 0, [], ((p + sz a : Nat) : Int) - 1, ((p + sz a + sz b : Nat) : Int) - 1, ((p + sz a + sz b + sz c : Nat) : Int) - 1⟩] ++ r))) := by
      show (flat a p ++ flat b (p + sz a) ++ flat c (p + sz a + sz b) ++ [_]) ++ r = _
      rw [List.append_assoc, List.append_assoc, List.append_assoc]
    rw [e, ef]
    refine kgo_two (q := p + sz a) (by rw [kxs_len]) (kgo_flat (ns := ns) a p K _ hwa hK) (fun hz => ?_)
    refine kgo_two (q := p + sz a + sz b) (by rw [kxs_len]) (kgo_flat (ns := ns) b (p + sz a) (K ++ kxs ns a) _ hwb (by rw [List.length_append, hK, kxs_len])) (fun hz2 => ?_)
    refine kgo_two (q := p + sz a + sz b + sz c) (by rw [kxs_len]) (kgo_flat (ns := ns) c (p + sz a + sz b) (K ++ kxs ns a ++ kxs ns b) _ hwc (by rw [List.length_append, List.length_append, hK, kxs_len, kxs_len])) (fun hz3 => ?_)
    have hk := fin2 (kx_le ns a) (by obtain ⟨l, e, _⟩ := kxs_last ns a; rw [e] at hz; exact hz _ (List.mem_append_right _ (List.mem_singleton.2 rfl)))
    have hk2 := fin2 (kx_le ns b) (by obtain ⟨l, e, _⟩ := kxs_last ns b; rw [e] at hz2; exact hz2 _ (List.mem_append_right _ (List.mem_singleton.2 rfl)))
    have hk3 := fin2 (kx_le ns c) (by obtain ⟨l, e, _⟩ := kxs_last ns c; rw [e] at hz3; exact hz3 _ (List.mem_append_right _ (List.mem_singleton.2 rfl)))
    have h2 := kgo_one (ns := ns) (n := ⟨22, 0, [], ((p + sz a : Nat) : Int) - 1, ((p + sz a + sz b : Nat) : Int) - 1, ((p + sz a + sz b + sz c : Nat) : Int) - 1⟩) (K := K ++ kxs ns a ++ kxs ns b ++ kxs ns c) (r := r) (k := kx ns (.ite a b c)) (p := p + sz a + sz b + sz c) (by
      rw [kd_kdk (by simp only; omega)]
      simp only [show ((22 : Int)).toNat = 22 from rfl]
      have e1 := kat_last ns K (kxs ns b ++ kxs ns c) a hK
      rw [← List.append_assoc] at e1
      rw [e1, kat_last ns (K ++ kxs ns a) (kxs ns c) b (p := p + sz a) (by rw [List.length_append, hK, kxs_len])]
      have := kat_last ns (K ++ kxs ns a ++ kxs ns b) [] c (p := p + sz a + sz b) (by rw [List.length_append, List.length_append, hK, kxs_len, kxs_len])
      rw [List.append_nil] at this
      rw [this]
      obtain ⟨i, hi⟩ := hk
      obtain ⟨j, hj⟩ := hk2
      obtain ⟨m, hm⟩ := hk3
      show _ = if kx ns a = 2 ∧ kx ns b = kx ns c then kx ns b else 0
      rw [hi, hj, hm]
      exact kdk_tri i j m) (by rw [List.length_append, List.length_append, List.length_append, hK, kxs_len, kxs_len, kxs_len])
    rw [show K ++ kxs ns a ++ kxs ns b ++ kxs ns c ++ [kx ns (.ite a b c)] = K ++ (kxs ns a ++ (kxs ns b ++ (kxs ns c ++ [kx ns (.ite a b c)]))) by simp only [List.append_assoc]] at h2
    exact h2
theorem kgo_all {ns : List Nm} {x : E} (hw : wr x) : kgo ns (flat x 0) [] = if Nz (kxs ns x) then (kxs ns x, 0, 0) else ([], fz (kxs ns x), 90) := by
  have h := kgo_flat (ns := ns) x 0 [] [] hw rfl
  rw [List.append_nil, List.nil_append] at h
  by_cases hz : Nz (kxs ns x)
  · rw [if_pos hz, h.1 hz]; rfl
  · rw [if_neg hz, h.2 hz, Nat.zero_add]
end Ev
end Go.Proofs.YtdcjpinbflmikaaGreatDoor
