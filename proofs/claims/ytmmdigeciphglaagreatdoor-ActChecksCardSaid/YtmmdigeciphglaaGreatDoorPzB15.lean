/- Facts and walks for the statement. -/
import Derived.Test.YtmmdigeciphglaaGreatDoorPzB14
import Derived.Test.YtmmdigeciphglaaGreatDoorPzB01
namespace Go.Proofs.YtmmdigeciphglaaGreatDoor
open Ex
theorem run_ne : ∀ (ts : List Tk) (K : List Fr) (c : Option E), (Ex.run ts K c).2.1 ≠ 0
  | [], K, c => Ex.step_end K c
  | t :: ts, K, c => by
    unfold Ex.run
    split
    · exact run_ne ts _ _
    · assumption
theorem R_ne {ts : List Tk} {l : Nat} {e : Int} (h : R (.lev 1) ts = .bad l e) : e ≠ 0 := by
  rw [← run_R] at h
  unfold fin at h
  split at h
  · cases h
  · injection h with _ h2
    rw [← h2]; exact run_ne _ _ _
theorem frm_ok {ts : List Tk} (h : (frm ts).2.2 = 0) : ∃ r x, R (.lev 1) ts = .ok r x ∧ dp x ≤ 64 ∧ frm ts = (flat x 0, ts.length - r.length, 0) := by
  unfold frm at h ⊢
  cases hR : R (.lev 1) ts with
  | bad l e => rw [hR] at h; exact absurd h (R_ne hR)
  | ok r x =>
    rw [hR] at h; simp only at h ⊢
    by_cases hd : 64 < dp x
    · rw [if_pos hd] at h; cases h
    · exact ⟨r, x, rfl, by omega, if_neg hd⟩
theorem sz_pr : ∀ (x : E) (L : Nat), sz x ≤ (pr x L).length
  | .num _, _ => Nat.le_refl _
  | .name _, _ => Nat.le_refl _
  | .tt, _ => Nat.le_refl _
  | .ff, _ => Nat.le_refl _
  | .un op a, L => by
    have h1 := sz_pr a 9
    show sz a + 1 ≤ (if lvl op < L then _ else _ : List Tk).length
    split <;> simp only [List.length_append, List.length_cons, List.length_nil] <;> omega
  | .bin op a b, L => by
    have h1 := sz_pr a (lvl op)
    have h2 := sz_pr b (lvl op + 1)
    show sz a + sz b + 1 ≤ (if lvl op < L then _ else _ : List Tk).length
    split <;> simp only [List.length_append, List.length_cons, List.length_nil] <;> omega
  | .ite a b c, L => by
    have h1 := sz_pr a 0
    have h2 := sz_pr b 0
    have h3 := sz_pr c 0
    show sz a + sz b + sz c + 1 ≤ (wT [105, 102] :: pr a 0 ++ wT [116, 104, 101, 110] :: pr b 0 ++ wT [101, 108, 115, 101] :: pr c 0 ++ [wT [101, 110, 100, 105, 102]]).length
    simp only [List.length_append, List.length_cons, List.length_nil]; omega
/-! ### two of one row are the same -/
def rt : E → Nat → Nd
  | .num n, _ => ⟨1, n, [], -1, -1, -1⟩
  | .name s, _ => ⟨2, 0, s, -1, -1, -1⟩
  | .tt, _ => ⟨3, 0, [], -1, -1, -1⟩
  | .ff, _ => ⟨4, 0, [], -1, -1, -1⟩
  | .un op a, p => ⟨op, 0, [], (p + sz a : Nat) - 1, -1, -1⟩
  | .bin op a b, p => ⟨op, 0, [], (p + sz a : Nat) - 1, (p + sz a + sz b : Nat) - 1, -1⟩
  | .ite a b c, p => ⟨22, 0, [], (p + sz a : Nat) - 1, (p + sz a + sz b : Nat) - 1, (p + sz a + sz b + sz c : Nat) - 1⟩
def ini : E → Nat → List Nd
  | .un _ a, p => flat a p
  | .bin _ a b, p => flat a p ++ flat b (p + sz a)
  | .ite a b c, p => flat a p ++ flat b (p + sz a) ++ flat c (p + sz a + sz b)
  | _, _ => []
theorem flat_rt (x : E) (p : Nat) : flat x p = ini x p ++ [rt x p] := by cases x <;> rfl
def ar (n : Nd) : Nat := if n.c ≠ -1 then 3 else if n.b ≠ -1 then 2 else if n.a ≠ -1 then 1 else 0
def arE : E → Nat
  | .un _ _ => 1
  | .bin _ _ _ => 2
  | .ite _ _ _ => 3
  | _ => 0
theorem ar3 {n : Nd} (h : n.c ≠ -1) : ar n = 3 := if_pos h
theorem ar2 {n : Nd} (h : n.c = -1) (h2 : n.b ≠ -1) : ar n = 2 := (if_neg (fun q => q h)).trans (if_pos h2)
theorem ar1 {n : Nd} (h : n.c = -1) (h2 : n.b = -1) (h3 : n.a ≠ -1) : ar n = 1 := (if_neg (fun q => q h)).trans ((if_neg (fun q => q h2)).trans (if_pos h3))
theorem ar0 {n : Nd} (h : n.c = -1) (h2 : n.b = -1) (h3 : n.a = -1) : ar n = 0 := (if_neg (fun q => q h)).trans ((if_neg (fun q => q h2)).trans (if_neg (fun q => q h3)))
theorem ar_rt (x : E) (p : Nat) : ar (rt x p) = arE x := by
  cases x with
  | un op a => have := sz_pos a; exact ar1 rfl rfl (show ((p + sz a : Nat) : Int) - 1 ≠ -1 by omega)
  | bin op a b => have := sz_pos b; exact ar2 rfl (show ((p + sz a + sz b : Nat) : Int) - 1 ≠ -1 by omega)
  | ite a b c => have := sz_pos c; exact ar3 (show ((p + sz a + sz b + sz c : Nat) : Int) - 1 ≠ -1 by omega)
  | _ => exact ar0 rfl rfl rfl
theorem flat_inj : ∀ (x y : E) (p : Nat), flat x p = flat y p → x = y := by
  intro x
  induction x with
  | un op a iha =>
    intro y p h
    rw [flat_rt _ p, flat_rt y p] at h
    obtain ⟨h1, h2⟩ := List.append_inj' h rfl
    injection h2 with h2 _
    have h3 := congrArg ar h2
    rw [ar_rt, ar_rt] at h3
    cases y <;> simp only [arE] at h3 <;> first | (exfalso; omega) | skip
    rename_i op' a'
    simp only [rt] at h2
    obtain ⟨q1, _, _, q4, q5, q6⟩ := Nd.mk.inj h2
    rw [iha _ _ h1, show op = op' by omega]
  | bin op a b iha ihb =>
    intro y p h
    rw [flat_rt _ p, flat_rt y p] at h
    obtain ⟨h1, h2⟩ := List.append_inj' h rfl
    injection h2 with h2 _
    have h3 := congrArg ar h2
    rw [ar_rt, ar_rt] at h3
    cases y <;> simp only [arE] at h3 <;> first | (exfalso; omega) | skip
    rename_i op' a' b'
    simp only [rt] at h2
    obtain ⟨q1, _, _, q4, q5, q6⟩ := Nd.mk.inj h2
    have e1 : sz a = sz a' := by omega
    obtain ⟨r1, r2⟩ := List.append_inj h1 (by rw [flat_len, flat_len, e1])
    rw [← e1] at r2
    rw [iha _ _ r1, ihb _ _ r2, show op = op' by omega]
  | ite a b c iha ihb ihc =>
    intro y p h
    rw [flat_rt _ p, flat_rt y p] at h
    obtain ⟨h1, h2⟩ := List.append_inj' h rfl
    injection h2 with h2 _
    have h3 := congrArg ar h2
    rw [ar_rt, ar_rt] at h3
    cases y <;> simp only [arE] at h3 <;> first | (exfalso; omega) | skip
    rename_i a' b' c'
    simp only [rt] at h2
    obtain ⟨_, _, _, q4, q5, q6⟩ := Nd.mk.inj h2
    have e1 : sz a = sz a' := by omega
    have e2 : sz b = sz b' := by omega
    obtain ⟨r0, r3⟩ := List.append_inj h1 (by rw [List.length_append, List.length_append, flat_len, flat_len, flat_len, flat_len, e1, e2])
    obtain ⟨r1, r2⟩ := List.append_inj r0 (by rw [flat_len, flat_len, e1])
    rw [← e1] at r2
    rw [← e1, ← e2] at r3
    rw [iha _ _ r1, ihb _ _ r2, ihc _ _ r3]
  | _ =>
    intro y p h
    rw [flat_rt _ p, flat_rt y p] at h
    obtain ⟨_, h2⟩ := List.append_inj' h rfl
    injection h2 with h2 _
    have h3 := congrArg ar h2
    rw [ar_rt, ar_rt] at h3
    cases y <;> simp only [arE] at h3 <;> first | (exfalso; omega) | skip
    all_goals
      have q1 := congrArg Nd.op h2
      have q2 := congrArg Nd.num h2
      have q3 := congrArg Nd.nm h2
      simp only [rt] at q1 q2 q3
      first | rfl | (exfalso; omega) | (rw [q3]) | (congr 1; omega)
/-! ### in parentheses -/
end Go.Proofs.YtmmdigeciphglaaGreatDoor
namespace Go.Proofs.YtmmdigeciphglaaGreatDoor
open Go.RowKit Ex
theorem NdR.on {w w' : World} {A : Option Addr} {l : List Nd} (h : NdR w w.heap.size A l) (hb : Below w.heap.size w w') : NdR w' w'.heap.size A l := (h.below hb).more hb.size
theorem chk_flat {x : E} (hw : wr x) (hd : dp x ≤ 64) : chk (flat x 0) = 0 := by
  have h0 := dep_flat hw
  have h1 : dp x ≠ 0 := by cases x <;> simp [dp]
  unfold chk
  rw [h0, if_neg h1, if_neg (by omega)]
end Go.Proofs.YtmmdigeciphglaaGreatDoor
namespace Go.Proofs.YtmmdigeciphglaaGreatDoor
open Go.RowKit Ex
end Go.Proofs.YtmmdigeciphglaaGreatDoor
namespace Go.Proofs.YtmmdigeciphglaaGreatDoor
open Ex
theorem toks_less {s : List UInt8} (h : s.length ≤ 65536) : (Lx.toks s).1.length ≤ s.length := by
  rw [Lx.toks_C h]
  have h1 := Lx.C_sum _ (s.drop (Lx.blk false s)) (Lx.blk false s) (Nat.le_refl _)
  have h2 := Lx.C_goods _ (s.drop (Lx.blk false s)) (Lx.blk false s) (Nat.le_refl _)
  have h3 : ∀ l : List Lx.T, (∀ t ∈ l, Lx.Good t) → 2 * l.length ≤ (l.map fun t => t.tx.length + 1).sum := by
    intro l
    induction l with
    | nil => intro _; exact Nat.le_refl _
    | cons t l ih =>
      intro h
      have h4 := ih (fun q hq => h q (List.mem_cons_of_mem _ hq))
      have h5 := h t List.mem_cons_self
      have h6 : 1 ≤ t.tx.length := by
        refine Nat.one_le_iff_ne_zero.2 fun e => ?_
        have e2 := List.length_eq_zero_iff.1 e
        exact absurd h5.2.1 (by rw [← h5.1, e2]; decide)
      simp only [List.length_cons, List.map_cons, List.sum_cons]; omega
  have h4 := h3 _ h2
  have h5 : (s.drop (Lx.blk false s)).length ≤ s.length := by rw [List.length_drop]; omega
  omega
theorem flat_fine : ∀ (x : E) (p : Nat), wr x → small x → ∀ n ∈ flat x p, (n.nm.length ≤ 64 ∧ 0 ≤ n.op) ∧ n.num ≤ 9223372036854775807
  | .num n, p, _, h, q, hq => by
    rw [List.mem_singleton.1 hq]
    have h : n ≤ 9223372036854775807 := h
    exact ⟨⟨by simp, by simp⟩, by simp only; omega⟩
  | .name s, p, hw, _, q, hq => by
    rw [List.mem_singleton.1 hq]
    refine ⟨⟨?_, by simp⟩, by simp⟩
    have hw : Lx.is s = 2 := hw
    refine Decidable.byContradiction fun h => ?_
    unfold Lx.is at hw
    rw [if_pos (by simp only at h; omega)] at hw
    cases hw
  | .tt, p, _, _, q, hq => by rw [List.mem_singleton.1 hq]; exact ⟨⟨by simp, by simp⟩, by simp⟩
  | .ff, p, _, _, q, hq => by rw [List.mem_singleton.1 hq]; exact ⟨⟨by simp, by simp⟩, by simp⟩
  | .un op a, p, hw, hs, q, hq => by
    rcases List.mem_append.1 hq with hq | hq
    · exact flat_fine a p hw.2 hs q hq
    · rw [List.mem_singleton.1 hq]; exact ⟨⟨by simp, by simp⟩, by simp⟩
  | .bin op a b, p, hw, hs, q, hq => by
    rcases List.mem_append.1 hq with hq | hq
    · rcases List.mem_append.1 hq with hq | hq
      · exact flat_fine a p hw.2.2.1 hs.1 q hq
      · exact flat_fine b _ hw.2.2.2 hs.2 q hq
    · rw [List.mem_singleton.1 hq]; exact ⟨⟨by simp, by simp⟩, by simp⟩
  | .ite a b c, p, hw, hs, q, hq => by
    rcases List.mem_append.1 hq with hq | hq
    · rcases List.mem_append.1 hq with hq | hq
      · rcases List.mem_append.1 hq with hq | hq
        · exact flat_fine a p hw.1 hs.1 q hq
        · exact flat_fine b _ hw.2.1 hs.2.1 q hq
      · exact flat_fine c _ hw.2.2 hs.2.2 q hq
    · rw [List.mem_singleton.1 hq]; exact ⟨⟨by simp, by simp⟩, by simp⟩
def Okn (l : List Nd) : Prop := ∀ n ∈ l, 0 ≤ n.op ∧ n.num ≤ 9223372036854775807
end Go.Proofs.YtmmdigeciphglaaGreatDoor
namespace Go.Proofs.YtmmdigeciphglaaGreatDoor
open Go.RowKit Ex
end Go.Proofs.YtmmdigeciphglaaGreatDoor
namespace Go.Proofs.YtmmdigeciphglaaGreatDoor
open Ex
namespace Ac
structure St where
  k : Int
  nm : List UInt8
  x : List Nd
def tx0 : List Tk → List UInt8
  | [] => []
  | t :: _ => t.2
inductive Rt where
  | bad (left : Nat) (e : Int)
  | ok (r : List Tk) (s : St)
def come : List (List UInt8) → List Tk → List Tk × Bool
  | [], l => (l, true)
  | t :: r, l => if tx0 l = t then come r l.tail else (l, false)
def shut (k : Int) (nm : List UInt8) (x : List Nd) (b : List (List UInt8)) (r : List Tk) : Rt :=
  if (come b r).2 = true then .ok (come b r).1 ⟨k, nm, x⟩ else .bad (come b r).1.length 110
def parts (k : Int) (ahead b0 : List UInt8) (b : List (List UInt8)) (l : List Tk) : Rt :=
  if kd l ≠ 2 then .bad l.length 110
  else if tx0 l.tail ≠ ahead then .bad l.tail.length 110
  else if k = 1 ∨ tx0 l.tail.tail ≠ b0 then
    (if (frm l.tail.tail).2.2 ≠ 0 then .bad (l.tail.tail.length - (frm l.tail.tail).2.1) (frm l.tail.tail).2.2
     else shut k (tx0 l) (frm l.tail.tail).1 b (l.tail.tail.drop (frm l.tail.tail).2.1))
  else shut k (tx0 l) [] b l.tail.tail
abbrev emW : List UInt8 := [101, 109, 105, 116]
def stm (l : List Tk) : Rt := if tx0 l = emW then parts 2 [40] [41] [[41], [59]] l.tail else parts 1 [58, 61] [59] [[59]] l
inductive Rb where
  | bad (left : Nat) (e : Int)
  | ok (b : List St)
def bod : Nat → List Tk → List St → Rb
  | 0, _, _ => .bad 0 0
  | f + 1, l, acc => if l = [] then .ok acc else if acc.length = 512 then .bad l.length 3 else
    match stm l with
    | .bad n e => .bad n e
    | .ok r s => bod f r (acc ++ [s])
def vol (s : St) : Nat := s.x.length + if s.k = 1 then 3 else 5
def okS (s : St) : Prop := (s.k = 1 ∨ s.k = 2) ∧ Lx.is s.nm = 2 ∧ ((s.k = 2 ∧ s.x = []) ∨ chk s.x = 0)
def Okn (l : List Nd) : Prop := ∀ n ∈ l, 0 ≤ n.op ∧ n.num ≤ 9223372036854775807
theorem tail_one {l : List Tk} (h : l ≠ []) : l.tail.length + 1 = l.length := by
  cases l with
  | nil => exact absurd rfl h
  | cons _ _ => rfl
theorem tx0_ne {l : List Tk} (h : tx0 l ≠ []) : l ≠ [] := fun e => h (by rw [e]; rfl)
theorem kd_ne {l : List Tk} (h : kd l = 2) : l ≠ [] := fun e => by rw [e] at h; exact absurd h (by decide)
theorem come_mem : ∀ (b : List (List UInt8)) (l : List Tk), ∀ t ∈ (come b l).1, t ∈ l
  | [], _ => fun _ h => h
  | t :: r, l => by
    unfold come
    split
    · exact fun q h => List.mem_of_mem_tail (come_mem r l.tail q h)
    · exact fun _ h => h
theorem come_ok : ∀ (b : List (List UInt8)) (l : List Tk), (∀ t ∈ b, t ≠ []) → (come b l).2 = true → (come b l).1.length + b.length = l.length
  | [], _, _, _ => rfl
  | t :: r, l, hb, h => by
    unfold come at h ⊢
    by_cases e : tx0 l = t
    · rw [if_pos e] at h ⊢
      have h1 := come_ok r l.tail (fun q hq => hb q (List.mem_cons_of_mem _ hq)) h
      have h2 := tail_one (tx0_ne (l := l) (by rw [e]; exact hb t (List.mem_cons_self ..)))
      simp only [List.length_cons]
      omega
    · rw [if_neg e] at h; exact absurd h (by simp)
theorem frm_vol {ts : List Tk} (h : (frm ts).2.2 = 0) : ∃ e, (frm ts).1 = flat e 0 ∧ wr e ∧ small e ∧ dp e ≤ 64 ∧ (frm ts).1.length ≤ (frm ts).2.1 ∧ (frm ts).2.1 ≤ ts.length := by
  obtain ⟨r, x, h1, h2, h3⟩ := frm_ok h
  have h4 := rd_fine _ _ _ _ _ h1
  have h5 : (pr x 1).length + r.length ≤ ts.length := rd_long _ (.lev 1) _ _ _ (by simp [okm]) h1
  have h6 := sz_pr x 1
  have h7 : Fine (.lev 1) x := h4
  refine ⟨x, by rw [h3], h7.1, h7.2, h2, ?_, ?_⟩
  · rw [h3]; simp only [flat_len]; omega
  · rw [h3]; simp only; omega
theorem shut_ok {k : Int} {nm : List UInt8} {x : List Nd} {b : List (List UInt8)} {r r2 : List Tk} {s : St} (h : shut k nm x b r = .ok r2 s) (hb : ∀ t ∈ b, t ≠ []) : s = ⟨k, nm, x⟩ ∧ r2.length + b.length = r.length ∧ ∀ t ∈ r2, t ∈ r := by
  unfold shut at h
  by_cases e : (come b r).2 = true
  · rw [if_pos e] at h
    injection h with h1 h2
    exact ⟨h2.symm, by rw [← h1]; exact come_ok b r hb e, by rw [← h1]; exact come_mem b r⟩
  · rw [if_neg e] at h; cases h
theorem parts_ok {k : Int} {ahead b0 : List UInt8} {b : List (List UInt8)} {l r : List Tk} {s : St} (h : parts k ahead b0 b l = .ok r s) (ha : ahead ≠ []) (hb : ∀ t ∈ b, t ≠ []) :
    s.k = k ∧ kd l = 2 ∧ s.nm = tx0 l ∧ r.length + s.x.length + 2 + b.length ≤ l.length ∧ (∀ t ∈ r, t ∈ l) ∧ ((k ≠ 1 ∧ s.x = []) ∨ ∃ e, s.x = flat e 0 ∧ wr e ∧ small e ∧ dp e ≤ 64) := by
  unfold parts at h
  by_cases hk : kd l ≠ 2
  · rw [if_pos hk] at h; cases h
  rw [if_neg hk] at h
  have hk2 : kd l = 2 := Decidable.byContradiction hk
  by_cases h1 : tx0 l.tail ≠ ahead
  · rw [if_pos h1] at h; cases h
  rw [if_neg h1] at h
  have h1' : tx0 l.tail = ahead := Decidable.byContradiction h1
  have q1 := tail_one (kd_ne hk2)
  have q2 := tail_one (tx0_ne (l := l.tail) (by rw [h1']; exact ha))
  have hm : ∀ t ∈ l.tail.tail, t ∈ l := fun t ht => List.mem_of_mem_tail (List.mem_of_mem_tail ht)
  by_cases h2 : k = 1 ∨ tx0 l.tail.tail ≠ b0
  · rw [if_pos h2] at h
    by_cases h3 : (frm l.tail.tail).2.2 ≠ 0
    · rw [if_pos h3] at h; cases h
    rw [if_neg h3] at h
    obtain ⟨e, f1, f2, f3, f4, f5, f6⟩ := frm_vol (Decidable.byContradiction h3)
    obtain ⟨s1, s2, s3⟩ := shut_ok h hb
    subst s1
    rw [List.length_drop] at s2
    refine ⟨rfl, hk2, rfl, ?_, fun t ht => hm t (List.mem_of_mem_drop (s3 t ht)), Or.inr ⟨e, f1, f2, f3, f4⟩⟩
    simp only
    omega
  · rw [if_neg h2] at h
    obtain ⟨s1, s2, s3⟩ := shut_ok h hb
    subst s1
    refine ⟨rfl, hk2, rfl, ?_, fun t ht => hm t (s3 t ht), Or.inl ⟨fun e => h2 (Or.inl e), rfl⟩⟩
    simp only [List.length_nil]
    omega
theorem flat_okn : ∀ (x : E) (p : Nat), wr x → small x → Okn (flat x p)
  | .num n, _, _, h => fun q hq => by
    rw [List.mem_singleton.1 hq]
    have h : n ≤ 9223372036854775807 := h
    exact ⟨by simp, by simp only; omega⟩
  | .name _, _, _, _ => fun q hq => by rw [List.mem_singleton.1 hq]; exact ⟨by simp, by simp⟩
  | .tt, _, _, _ => fun q hq => by rw [List.mem_singleton.1 hq]; exact ⟨by simp, by simp⟩
  | .ff, _, _, _ => fun q hq => by rw [List.mem_singleton.1 hq]; exact ⟨by simp, by simp⟩
  | .un op a, p, hw, h => fun q hq => by
    rcases List.mem_append.1 hq with hq | hq
    · exact flat_okn a p hw.2 h q hq
    · rw [List.mem_singleton.1 hq]; exact ⟨by simp only; omega, by simp⟩
  | .bin op a b, p, hw, h => fun q hq => by
    rcases List.mem_append.1 hq with hq | hq
    · rcases List.mem_append.1 hq with hq | hq
      · exact flat_okn a p hw.2.2.1 h.1 q hq
      · exact flat_okn b _ hw.2.2.2 h.2 q hq
    · rw [List.mem_singleton.1 hq]; exact ⟨by simp only; omega, by simp⟩
  | .ite a b c, p, hw, h => fun q hq => by
    rcases List.mem_append.1 hq with hq | hq
    · rcases List.mem_append.1 hq with hq | hq
      · rcases List.mem_append.1 hq with hq | hq
        · exact flat_okn a p hw.1 h.1 q hq
        · exact flat_okn b _ hw.2.1 h.2.1 q hq
      · exact flat_okn c _ hw.2.2 h.2.2 q hq
    · rw [List.mem_singleton.1 hq]; exact ⟨by simp, by simp⟩
theorem small_of : ∀ (x : E) (p : Nat), (∀ n ∈ flat x p, n.num ≤ 9223372036854775807) → small x
  | .num n, p, h => by
    have := h _ (List.mem_singleton.2 rfl)
    show n ≤ 9223372036854775807
    simp only at this
    omega
  | .name _, _, _ => True.intro
  | .tt, _, _ => True.intro
  | .ff, _, _ => True.intro
  | .un op a, p, h => small_of a p (fun n hn => h n (List.mem_append_left _ hn))
  | .bin op a b, p, h => ⟨small_of a p (fun n hn => h n (List.mem_append_left _ (List.mem_append_left _ hn))), small_of b _ (fun n hn => h n (List.mem_append_left _ (List.mem_append_right _ hn)))⟩
  | .ite a b c, p, h => ⟨small_of a p (fun n hn => h n (List.mem_append_left _ (List.mem_append_left _ (List.mem_append_left _ hn)))), small_of b _ (fun n hn => h n (List.mem_append_left _ (List.mem_append_left _ (List.mem_append_right _ hn)))), small_of c _ (fun n hn => h n (List.mem_append_left _ (List.mem_append_right _ hn)))⟩
theorem stm_ok {l r : List Tk} {s : St} (h : stm l = .ok r s) (hg : ∀ t ∈ l, Lx.is t.2 = t.1) : okS s ∧ Okn s.x ∧ r.length + vol s ≤ l.length ∧ ∀ t ∈ r, t ∈ l := by
  have key : ∀ (m : List Tk) (k : Int), kd m = 2 → s.nm = tx0 m → s.k = k → (k = 1 ∨ k = 2) → (∀ t ∈ m, t ∈ l) → ((k ≠ 1 ∧ s.x = []) ∨ ∃ e, s.x = flat e 0 ∧ wr e ∧ small e ∧ dp e ≤ 64) → okS s ∧ Okn s.x := by
    intro m k hk hn hsk hk2 hm hx
    have hnm : Lx.is s.nm = 2 := by
      cases m with
      | nil => exact absurd hk (by decide)
      | cons t m =>
        rw [hn]
        show Lx.is t.2 = 2
        rw [hg t (hm t (List.mem_cons_self ..))]
        exact hk
    rcases hx with ⟨h1, h2⟩ | ⟨e, h1, h2, h3, h4⟩
    · refine ⟨⟨by rw [hsk]; exact hk2, hnm, Or.inl ⟨?_, h2⟩⟩, by rw [h2]; intro n hn; cases hn⟩
      rw [hsk]; rcases hk2 with h | h
      · exact absurd h h1
      · exact h
    · exact ⟨⟨by rw [hsk]; exact hk2, hnm, Or.inr (by rw [h1]; exact chk_flat h2 h4)⟩, by rw [h1]; exact flat_okn e 0 h2 h3⟩
  unfold stm at h
  by_cases e : tx0 l = emW
  · rw [if_pos e] at h
    obtain ⟨p1, p2, p3, p4, p5, p6⟩ := parts_ok h (by decide) (by decide)
    have q1 := tail_one (tx0_ne (l := l) (by rw [e]; decide))
    obtain ⟨k1, k2⟩ := key l.tail 2 p2 p3 p1 (Or.inr rfl) (fun t ht => List.mem_of_mem_tail ht) p6
    refine ⟨k1, k2, ?_, fun t ht => List.mem_of_mem_tail (p5 t ht)⟩
    unfold vol
    rw [p1, if_neg (by decide)]
    simp only [List.length_cons, List.length_nil] at p4
    omega
  · rw [if_neg e] at h
    obtain ⟨p1, p2, p3, p4, p5, p6⟩ := parts_ok h (by decide) (by decide)
    obtain ⟨k1, k2⟩ := key l 1 p2 p3 p1 (Or.inl rfl) (fun t ht => ht) p6
    refine ⟨k1, k2, ?_, p5⟩
    unfold vol
    rw [p1, if_pos rfl]
    simp only [List.length_cons, List.length_nil] at p4
    omega
def vols (b : List St) : Nat := (b.map vol).sum
theorem bod_fuel : ∀ (f g : Nat) (l : List Tk) (acc : List St), (∀ t ∈ l, Lx.is t.2 = t.1) → l.length < f → l.length < g → bod f l acc = bod g l acc
  | 0, _, _, _, _, h, _ => absurd h (Nat.not_lt_zero _)
  | _ + 1, 0, _, _, _, _, h => absurd h (Nat.not_lt_zero _)
  | f + 1, g + 1, l, acc, hg, h1, h2 => by
    unfold bod
    by_cases e : l = []
    · rw [if_pos e, if_pos e]
    rw [if_neg e, if_neg e]
    by_cases e2 : acc.length = 512
    · rw [if_pos e2, if_pos e2]
    rw [if_neg e2, if_neg e2]
    cases hs : stm l with
    | bad n e => rfl
    | ok r s =>
      obtain ⟨_, _, h4, h5⟩ := stm_ok hs hg
      have : 0 < vol s := by unfold vol; split <;> omega
      exact bod_fuel f g r _ (fun t ht => hg t (h5 t ht)) (by omega) (by omega)
def B (l : List Tk) (acc : List St) : Rb := bod (l.length + 1) l acc
theorem B_nil (acc : List St) : B [] acc = .ok acc := rfl
theorem B_lim {l : List Tk} {acc : List St} (h : l ≠ []) (h2 : acc.length = 512) : B l acc = .bad l.length 3 := by unfold B bod; rw [if_neg h, if_pos h2]
theorem B_bad {l : List Tk} {acc : List St} (h : l ≠ []) (h2 : acc.length ≠ 512) {n : Nat} {e : Int} (hs : stm l = .bad n e) : B l acc = .bad n e := by unfold B bod; rw [if_neg h, if_neg h2, hs]
theorem B_ok {l : List Tk} {acc : List St} (hg : ∀ t ∈ l, Lx.is t.2 = t.1) (h : l ≠ []) (h2 : acc.length ≠ 512) {r : List Tk} {s : St} (hs : stm l = .ok r s) : B l acc = B r (acc ++ [s]) := by
  obtain ⟨_, _, h4, h5⟩ := stm_ok hs hg
  have : 0 < vol s := by unfold vol; split <;> omega
  have e : B l acc = bod l.length r (acc ++ [s]) := by unfold B; rw [bod, if_neg h, if_neg h2, hs]
  rw [e]
  exact bod_fuel _ _ r _ (fun t ht => hg t (h5 t ht)) (by omega) (by omega)
def okB (b : List St) : Prop := b.length ≤ 512 ∧ ∀ s ∈ b, okS s
def oknB (b : List St) : Prop := ∀ s ∈ b, Okn s.x
theorem B_right : ∀ (n : Nat) (l : List Tk) (acc b : List St), l.length ≤ n → (∀ t ∈ l, Lx.is t.2 = t.1) → acc.length ≤ 512 → B l acc = .ok b → (∃ c, b = acc ++ c ∧ b.length ≤ 512 ∧ (∀ s ∈ c, okS s ∧ Okn s.x) ∧ vols c ≤ l.length)
  | n, l, acc, b, hn, hg, ha, h => by
    by_cases e : l = []
    · subst e
      rw [B_nil] at h
      injection h with h
      exact ⟨[], by rw [← h]; simp, by rw [← h]; exact ha, (fun _ hs => by cases hs), Nat.zero_le _⟩
    by_cases e2 : acc.length = 512
    · rw [B_lim e e2] at h; cases h
    cases hs : stm l with
    | bad m z => rw [B_bad e e2 hs] at h; cases h
    | ok r s =>
      rw [B_ok hg e e2 hs] at h
      obtain ⟨h3, h3b, h4, h5⟩ := stm_ok hs hg
      have hv : 0 < vol s := by unfold vol; split <;> omega
      cases n with
      | zero => exact absurd (List.length_eq_zero_iff.1 (Nat.le_zero.1 hn)) e
      | succ n =>
        obtain ⟨c, c1, c2, c3, c4⟩ := B_right n r (acc ++ [s]) b (by omega) (fun t ht => hg t (h5 t ht)) (by simp; omega) h
        refine ⟨s :: c, by rw [c1]; simp, c2, fun q hq => ?_, ?_⟩
        · rcases List.mem_cons.1 hq with rfl | hq
          · exact ⟨h3, h3b⟩
          · exact c3 q hq
        · show vol s + vols c ≤ _
          omega
theorem stm_bad {l : List Tk} {n : Nat} {e : Int} (h : stm l = .bad n e) : e ≠ 0 := by
  have hs : ∀ (k : Int) (nm : List UInt8) (x : List Nd) (b : List (List UInt8)) (r : List Tk), shut k nm x b r = .bad n e → e ≠ 0 := fun k nm x b r h => by
    unfold shut at h
    by_cases q : (come b r).2 = true
    · rw [if_pos q] at h; cases h
    · rw [if_neg q] at h; injection h with _ h; omega
  have hp : ∀ (k : Int) (ahead b0 : List UInt8) (b : List (List UInt8)) (l : List Tk), parts k ahead b0 b l = .bad n e → e ≠ 0 := fun k ahead b0 b l h => by
    unfold parts at h
    by_cases h1 : kd l ≠ 2
    · rw [if_pos h1] at h; injection h with _ h; omega
    rw [if_neg h1] at h
    by_cases h2 : tx0 l.tail ≠ ahead
    · rw [if_pos h2] at h; injection h with _ h; omega
    rw [if_neg h2] at h
    by_cases h3 : k = 1 ∨ tx0 l.tail.tail ≠ b0
    · rw [if_pos h3] at h
      by_cases h4 : (frm l.tail.tail).2.2 ≠ 0
      · rw [if_pos h4] at h; injection h with _ h; rw [← h]; exact h4
      · rw [if_neg h4] at h; exact hs _ _ _ _ _ h
    · rw [if_neg h3] at h; exact hs _ _ _ _ _ h
  unfold stm at h
  by_cases q : tx0 l = emW
  · rw [if_pos q] at h; exact hp _ _ _ _ _ h
  · rw [if_neg q] at h; exact hp _ _ _ _ _ h
theorem B_ne : ∀ (m : Nat) (l : List Tk) (acc : List St), l.length ≤ m → (∀ t ∈ l, Lx.is t.2 = t.1) → ∀ {n : Nat} {z : Int}, B l acc = .bad n z → z ≠ 0
  | m, l, acc, hm, hg, n, z, h => by
    by_cases e : l = []
    · subst e; rw [B_nil] at h; cases h
    by_cases e2 : acc.length = 512
    · rw [B_lim e e2] at h; injection h with _ h; omega
    cases hs : stm l with
    | bad q y => rw [B_bad e e2 hs] at h; injection h with _ h; rw [← h]; exact stm_bad hs
    | ok r s =>
      rw [B_ok hg e e2 hs] at h
      obtain ⟨_, _, h4, h5⟩ := stm_ok hs hg
      have hv : 0 < vol s := by unfold vol; split <;> omega
      cases m with
      | zero => exact absurd (List.length_eq_zero_iff.1 (Nat.le_zero.1 hm)) e
      | succ m => exact B_ne m r _ (by omega) (fun t ht => hg t (h5 t ht)) h
noncomputable def exo (l : List Nd) : E := by
  classical
  exact if h : ∃ x, l = flat x 0 then h.choose else .tt
theorem exo_flat (x : E) : exo (flat x 0) = x := by
  unfold exo
  have h : ∃ y, flat x 0 = flat y 0 := ⟨x, rfl⟩
  rw [dif_pos h]
  exact (flat_inj _ _ 0 h.choose_spec).symm
noncomputable def stT (s : St) : List Tk :=
  if s.k = 1 then (2, s.nm) :: (4, [58, 61]) :: (pr (exo s.x) 0 ++ [(4, [59])])
  else if s.x = [] then [(3, emW), (2, s.nm), (4, [40]), (4, [41]), (4, [59])]
  else (3, emW) :: (2, s.nm) :: (4, [40]) :: (pr (exo s.x) 0 ++ [(4, [41]), (4, [59])])
theorem is_words : Lx.is emW = 3 ∧ Lx.is [58, 61] = 4 ∧ Lx.is [40] = 4 ∧ Lx.is [41] = 4 ∧ Lx.is [59] = 4 := by decide
theorem st_semi {n : Nat} {T : List Tk} : Ex.St n ((4, [59]) :: T) := st_word (s := [59]) (by simp [nx, is_words.2.2.2.2]) (by decide)
theorem frm_pr {e : E} (hw : wf e) (hd : dp e ≤ 64) {T : List Tk} (hs : Ex.St 1 T) : frm (pr e 0 ++ T) = (flat e 0, (pr e 0).length, 0) := by
  have h := (reads e hw).top (pr01 hw) hs
  unfold frm
  rw [h]
  simp only
  rw [if_neg (by omega)]
  simp
theorem pr_head : ∀ (e : E) (L : Nat) (T : List Tk), wf e → tx0 (pr e L ++ T) ≠ [41]
  | .num n, _, T, h => fun q => by
    have q : dg n = [41] := q
    have := h.2
    rw [q] at this
    exact absurd this (by decide)
  | .name s, _, T, h => fun q => by
    have q : s = [41] := q
    have h : Lx.is s = 2 := h
    rw [q] at h
    exact absurd h (by decide)
  | .tt, _, T, _ => fun q => absurd (show ([116, 114, 117, 101] : List UInt8) = [41] from q) (by decide)
  | .ff, _, T, _ => fun q => absurd (show ([102, 97, 108, 115, 101] : List UInt8) = [41] from q) (by decide)
  | .un op a, L, T, h => by
    unfold pr
    split
    · exact fun q => absurd (show ([40] : List UInt8) = [41] from q) (by decide)
    · intro q
      have q : opS op = [41] := q
      rcases h.1 with e | e <;> subst e <;> exact absurd q (by decide)
  | .bin op a b, L, T, h => by
    unfold pr
    split
    · exact fun q => absurd (show ([40] : List UInt8) = [41] from q) (by decide)
    · rw [List.append_assoc]
      exact pr_head a _ _ h.2.2.1
  | .ite a b c, _, T, _ => fun q => absurd (show ([105, 102] : List UInt8) = [41] from q) (by decide)
theorem chk_ex {l : List Nd} (h : chk l = 0) (ho : Okn l) : ∃ e, l = flat e 0 ∧ wr e ∧ wf e ∧ dp e ≤ 64 := by
  have hd : dep l ≠ 0 ∧ dep l ≤ 64 := by
    unfold chk at h
    by_cases h1 : dep l = 0
    · rw [if_pos h1] at h; exact absurd h (by decide)
    · rw [if_neg h1] at h
      by_cases h2 : 64 < dep l
      · rw [if_pos h2] at h; exact absurd h (by decide)
      · exact ⟨h1, by omega⟩
  obtain ⟨x, h1, h2, h3⟩ := dep_row hd.1
  exact ⟨x, h2, h1, wf_of h1 (small_of x 0 (by rw [← h2]; exact fun n hn => (ho n hn).2)), by omega⟩
theorem shut_yes {k : Int} {nm : List UInt8} {x : List Nd} {T : List Tk} : shut k nm x [[59]] ((4, [59]) :: T) = .ok T ⟨k, nm, x⟩ := rfl
theorem shut_yes2 {k : Int} {nm : List UInt8} {x : List Nd} {T : List Tk} : shut k nm x [[41], [59]] ((4, [41]) :: (4, [59]) :: T) = .ok T ⟨k, nm, x⟩ := rfl
theorem drop_len {A T : List Tk} : (A ++ T).drop A.length = T := by simp
theorem stm_stT {s : St} (h : okS s) (ho : Okn s.x) (T : List Tk) : stm (stT s ++ T) = .ok T s := by
  obtain ⟨k, nm, x⟩ := s
  obtain ⟨hk, hn, hx⟩ := h
  simp only at hk hn hx ho
  have hne : nm ≠ emW := fun e => by rw [e] at hn; exact absurd hn (by decide)
  by_cases hk1 : k = 1
  · subst hk1
    have hx : chk x = 0 := by
      rcases hx with h | h
      · exact absurd h.1 (by decide)
      · exact h
    obtain ⟨e, rfl, h1, h2, h3⟩ := chk_ex hx ho
    have e1 : stT ⟨1, nm, flat e 0⟩ ++ T = (2, nm) :: (4, [58, 61]) :: (pr e 0 ++ (4, [59]) :: T) := by
      unfold stT
      simp only [if_true, exo_flat]
      simp
    rw [e1]
    refine Eq.trans (if_neg hne) ?_
    refine Eq.trans (if_neg (fun q => q rfl)) ?_
    refine Eq.trans (if_neg (fun q => q rfl)) ?_
    refine Eq.trans (if_pos (Or.inl rfl)) ?_
    have hf : frm (((2, nm) :: (4, [58, 61]) :: (pr e 0 ++ (4, [59]) :: T) : List Tk).tail.tail) = (flat e 0, (pr e 0).length, 0) := frm_pr h2 h3 st_semi
    rw [hf]
    refine Eq.trans (if_neg (fun q => q rfl)) ?_
    have hd : ((2, nm) :: (4, [58, 61]) :: (pr e 0 ++ (4, [59]) :: T) : List Tk).tail.tail.drop (pr e 0).length = (4, [59]) :: T := drop_len
    simp only
    rw [hd]
    exact shut_yes
  · have hk2 : k = 2 := by
      rcases hk with h | h
      · exact absurd h hk1
      · exact h
    subst hk2
    by_cases hx0 : x = []
    · subst hx0
      rfl
    · have hx : chk x = 0 := by
        rcases hx with h | h
        · exact absurd h.2 hx0
        · exact h
      obtain ⟨e, rfl, h1, h2, h3⟩ := chk_ex hx ho
      have e1 : stT ⟨2, nm, flat e 0⟩ ++ T = (3, emW) :: (2, nm) :: (4, [40]) :: (pr e 0 ++ (4, [41]) :: (4, [59]) :: T) := by
        unfold stT
        simp only [if_neg hk1, if_neg hx0, exo_flat]
        simp
      rw [e1]
      refine Eq.trans (if_pos rfl) ?_
      refine Eq.trans (if_neg (fun q => q rfl)) ?_
      refine Eq.trans (if_neg (fun q => q rfl)) ?_
      refine Eq.trans (if_pos (Or.inr (pr_head e 0 _ h2))) ?_
      have hf : frm (((3, emW) :: (2, nm) :: (4, [40]) :: (pr e 0 ++ (4, [41]) :: (4, [59]) :: T) : List Tk).tail.tail.tail) = (flat e 0, (pr e 0).length, 0) := frm_pr h2 h3 st_pac
      rw [hf]
      refine Eq.trans (if_neg (fun q => q rfl)) ?_
      have hd : ((3, emW) :: (2, nm) :: (4, [40]) :: (pr e 0 ++ (4, [41]) :: (4, [59]) :: T) : List Tk).tail.tail.tail.drop (pr e 0).length = (4, [41]) :: (4, [59]) :: T := drop_len
      simp only
      rw [hd]
      exact shut_yes2
theorem stT_ne (s : St) : stT s ≠ [] := by
  unfold stT
  split
  · simp
  · split <;> simp
theorem bod_all : ∀ (b acc : List St) (f : Nat), (∀ s ∈ b, okS s ∧ Okn s.x) → acc.length + b.length ≤ 512 → (b.flatMap stT).length < f → bod f (b.flatMap stT) acc = .ok (acc ++ b)
  | _, _, 0, _, _, h => absurd h (Nat.not_lt_zero _)
  | [], acc, f + 1, _, _, _ => by
    show bod (f + 1) [] acc = _
    unfold bod; rw [if_pos rfl]; simp
  | s :: b, acc, f + 1, ho, hl, h => by
    have hs := stm_stT (ho s (List.mem_cons_self ..)).1 (ho s (List.mem_cons_self ..)).2 (b.flatMap stT)
    have hne : (s :: b).flatMap stT ≠ [] := by
      rw [List.flatMap_cons]
      exact fun e => stT_ne s (List.append_eq_nil_iff.1 e).1
    have hp : 0 < (stT s).length := List.length_pos_iff.2 (stT_ne s)
    unfold bod
    simp only [List.length_cons] at hl
    rw [if_neg hne, if_neg (by omega), List.flatMap_cons, hs]
    simp only
    rw [bod_all b (acc ++ [s]) f (fun q hq => ho q (List.mem_cons_of_mem _ hq)) (by simp; omega) (by rw [List.flatMap_cons, List.length_append] at h; omega)]
    simp
def plc (l : List Lx.T) (i n : Nat) : Nat := ((l[i]?).map (·.p)).getD n
def act (s : List UInt8) : List St × Nat × Int :=
  if (Lx.toks s).2.2 ≠ 0 then ([], (Lx.toks s).2.1, (Lx.toks s).2.2)
  else match B (kxs (Lx.toks s).1) [] with
    | .bad n e => ([], plc (Lx.toks s).1 ((Lx.toks s).1.length - n) s.length, e)
    | .ok b => (b, 0, 0)
theorem good_kxs {l : List Lx.T} (h : ∀ t ∈ l, Lx.Good t) : ∀ t ∈ kxs l, Lx.is t.2 = t.1 := fun t ht => by
  obtain ⟨q, hq, rfl⟩ := List.mem_map.1 ht
  exact Lx.good_is (h q hq)
noncomputable def btk (b : List St) : List Tk := b.flatMap stT
noncomputable def btx (b : List St) : List UInt8 := Ex.jn (btk b)
theorem stT_mem {s : St} (h : okS s) (ho : Okn s.x) : ∀ t ∈ stT s, Lx.is t.2 = t.1 ∧ t.1 ≠ 0 := by
  obtain ⟨k, nm, x⟩ := s
  obtain ⟨hk, hn, hx⟩ := h
  simp only at hk hn hx ho
  have hp : ∀ e, x = flat e 0 → wf e → ∀ t ∈ pr (exo x) 0, Lx.is t.2 = t.1 ∧ t.1 ≠ 0 := fun e he hw t ht => by
    rw [he, exo_flat] at ht
    exact pr_mem hw 0 t ht
  have c : ∀ (a : List UInt8) (k : Int), Lx.is a = k → k ≠ 0 → Lx.is (k, a).2 = (k, a).1 ∧ (k, a).1 ≠ 0 := fun a k h1 h2 => ⟨h1, h2⟩
  unfold stT
  simp only
  by_cases hk1 : k = 1
  · rw [if_pos hk1]
    have hx : chk x = 0 := by
      rcases hx with h | h
      · rw [hk1] at h; exact absurd h.1 (by decide)
      · exact h
    obtain ⟨e, he, _, h2, _⟩ := chk_ex hx ho
    intro t ht
    rcases List.mem_cons.1 ht with rfl | ht
    · exact c _ _ hn (by decide)
    rcases List.mem_cons.1 ht with rfl | ht
    · exact c _ _ is_words.2.1 (by decide)
    rcases List.mem_append.1 ht with ht | ht
    · exact hp e he h2 t ht
    · rw [List.mem_singleton.1 ht]; exact c _ _ is_words.2.2.2.2 (by decide)
  · rw [if_neg hk1]
    by_cases hx0 : x = []
    · rw [if_pos hx0]
      intro t ht
      simp only [List.mem_cons, List.not_mem_nil, or_false] at ht
      rcases ht with rfl | rfl | rfl | rfl | rfl
      · exact c _ _ is_words.1 (by decide)
      · exact c _ _ hn (by decide)
      · exact c _ _ is_words.2.2.1 (by decide)
      · exact c _ _ is_words.2.2.2.1 (by decide)
      · exact c _ _ is_words.2.2.2.2 (by decide)
    · rw [if_neg hx0]
      have hx : chk x = 0 := by
        rcases hx with h | h
        · exact absurd h.2 hx0
        · exact h
      obtain ⟨e, he, _, h2, _⟩ := chk_ex hx ho
      intro t ht
      rcases List.mem_cons.1 ht with rfl | ht
      · exact c _ _ is_words.1 (by decide)
      rcases List.mem_cons.1 ht with rfl | ht
      · exact c _ _ hn (by decide)
      rcases List.mem_cons.1 ht with rfl | ht
      · exact c _ _ is_words.2.2.1 (by decide)
      rcases List.mem_append.1 ht with ht | ht
      · exact hp e he h2 t ht
      · simp only [List.mem_cons, List.not_mem_nil, or_false] at ht
        rcases ht with rfl | rfl
        · exact c _ _ is_words.2.2.2.1 (by decide)
        · exact c _ _ is_words.2.2.2.2 (by decide)
theorem toks_btx {b : List St} (h : okB b) (ho : oknB b) (hl : (btx b).length ≤ 65536) : (Lx.toks (btx b)).2.2 = 0 ∧ kxs (Lx.toks (btx b)).1 = btk b := by
  have hg : ∀ t ∈ (btk b).map tT, Lx.Good t := fun t ht => by
    obtain ⟨q, hq, rfl⟩ := List.mem_map.1 ht
    obtain ⟨s, hs, hq⟩ := List.mem_flatMap.1 hq
    exact good_tT (stT_mem (h.2 s hs) (ho s hs) q hq)
  have e : btx b = Lx.sh ((btk b).map tT) := (sh_jn _).symm
  rw [e] at hl ⊢
  obtain ⟨h1, h2⟩ := Lx.toks_sh hg hl
  refine ⟨h1, ?_⟩
  have h3 : kxs (Lx.toks (Lx.sh ((btk b).map tT))).1 = (Lx.toks (Lx.sh ((btk b).map tT))).1.map Lx.kx := rfl
  rw [h3, h2, List.map_map]
  have : (Lx.kx ∘ tT) = id := by funext t; rfl
  rw [this, List.map_id]
theorem back {b : List St} (h : okB b) (ho : oknB b) (hl : (btx b).length ≤ 65536) : act (btx b) = (b, 0, 0) := by
  obtain ⟨h1, h2⟩ := toks_btx h ho hl
  unfold act
  rw [if_neg (fun q => q h1), h2]
  have h3 : B (btk b) [] = .ok ([] ++ b) := bod_all b [] _ (fun s hs => ⟨h.2 s hs, ho s hs⟩) (by simpa using h.1) (Nat.lt_succ_self _)
  rw [h3]
  rfl
def tl (l : List Tk) : Nat := (l.map fun t => t.2.length + 1).sum
theorem tl_app (a b : List Tk) : tl (a ++ b) = tl a + tl b := by unfold tl; rw [List.map_append, List.sum_append]
theorem tl_cons (t : Tk) (b : List Tk) : tl (t :: b) = t.2.length + 1 + tl b := by unfold tl; rw [List.map_cons, List.sum_cons]
theorem tl_nil : tl [] = 0 := rfl
theorem jn_tl : ∀ l : List Tk, (Ex.jn l).length ≤ tl l
  | [] => Nat.le_refl _
  | t :: r => by
    rw [tl_cons]
    by_cases h : r = []
    · subst h; rw [jn_one]; omega
    · rw [jn_cons h, List.length_append, List.length_cons]
      have := jn_tl r
      omega
theorem is_len {l : List UInt8} (h : Lx.is l ≠ 0) : l.length ≤ 64 := by
  unfold Lx.is at h
  by_cases h2 : 64 < l.length
  · rw [if_pos h2] at h; exact absurd rfl h
  · omega
theorem op_len : ∀ op : Fin 22, (opS op.1).length ≤ 7 := by decide
theorem tl_pr : ∀ (e : E) (L : Nat), wf e → tl (pr e L) ≤ 65 * sz e
  | .num n, _, h => by
    have := is_len (l := dg n) (by rw [h.2]; decide)
    show (dg n).length + 1 + 0 ≤ 65 * 1
    omega
  | .name s, _, h => by
    have := is_len (l := s) (by rw [show Lx.is s = 2 from h]; decide)
    show s.length + 1 + 0 ≤ 65 * 1
    omega
  | .tt, _, _ => by show tl [wT [116, 114, 117, 101]] ≤ 65 * 1; decide
  | .ff, _, _ => by show tl [wT [102, 97, 108, 115, 101]] ≤ 65 * 1; decide
  | .un op a, L, h => by
    have h1 := tl_pr a 9 h.2
    have h2 := op_len ⟨op, by rcases h.1 with e | e <;> omega⟩
    simp only at h2
    have h3 : tl (tok op :: pr a 9) ≤ 8 + 65 * sz a := by rw [tl_cons]; show (opS op).length + 1 + _ ≤ _; omega
    unfold pr
    simp only [sz]
    split
    · have h4 : tl ([(4, [41])] : List Tk) = 2 := rfl
      rw [List.cons_append, tl_cons, tl_app, h4]
      simp only [List.length_cons, List.length_nil]
      omega
    · omega
  | .bin op a b, L, h => by
    have h1 := tl_pr a (lvl op) h.2.2.1
    have h1b := tl_pr b (lvl op + 1) h.2.2.2
    have h2 := op_len ⟨op, by have := h.2.1; omega⟩
    simp only at h2
    have h3 : tl (pr a (lvl op) ++ tok op :: pr b (lvl op + 1)) ≤ 8 + 65 * sz a + 65 * sz b := by rw [tl_app, tl_cons]; show _ + ((opS op).length + 1 + _) ≤ _; omega
    unfold pr
    simp only [sz]
    split
    · have h4 : tl ([(4, [41])] : List Tk) = 2 := rfl
      rw [List.cons_append, tl_cons, tl_app, h4]
      simp only [List.length_cons, List.length_nil]
      omega
    · omega
  | .ite a b c, L, h => by
    have h1 := tl_pr a 0 h.1
    have h2 := tl_pr b 0 h.2.1
    have h3 := tl_pr c 0 h.2.2
    unfold pr
    simp only [sz, List.cons_append, tl_cons, tl_app, tl_nil, wT, List.length_cons, List.length_nil]
    omega
theorem tl_stT {s : St} (h : okS s) (ho : Okn s.x) : tl (stT s) ≤ 65 * vol s := by
  obtain ⟨k, nm, x⟩ := s
  obtain ⟨hk, hn, hx⟩ := h
  simp only at hk hn hx ho
  have hnl := is_len (l := nm) (by rw [hn]; decide)
  have hp : ∀ e, x = flat e 0 → wf e → tl (pr (exo x) 0) ≤ 65 * x.length := fun e he hw => by
    rw [he, exo_flat, flat_len]
    exact tl_pr e 0 hw
  unfold stT vol
  simp only
  by_cases hk1 : k = 1
  · rw [if_pos hk1, if_pos hk1]
    have hx : chk x = 0 := by
      rcases hx with h | h
      · rw [hk1] at h; exact absurd h.1 (by decide)
      · exact h
    obtain ⟨e, he, _, h2, _⟩ := chk_ex hx ho
    have := hp e he h2
    simp only [tl_cons, tl_app, tl_nil, List.length_cons, List.length_nil]
    omega
  · rw [if_neg hk1, if_neg hk1]
    by_cases hx0 : x = []
    · rw [if_pos hx0]
      simp only [tl_cons, tl_nil, List.length_cons, List.length_nil]
      omega
    · rw [if_neg hx0]
      have hx : chk x = 0 := by
        rcases hx with h | h
        · exact absurd h.2 hx0
        · exact h
      obtain ⟨e, he, _, h2, _⟩ := chk_ex hx ho
      have := hp e he h2
      simp only [tl_cons, tl_app, tl_nil, List.length_cons, List.length_nil]
      omega
theorem btx_len : ∀ {b : List St}, okB b → oknB b → (btx b).length ≤ 65 * vols b := by
  intro b h ho
  refine Nat.le_trans (jn_tl _) ?_
  have : ∀ b : List St, (∀ s ∈ b, okS s) → (∀ s ∈ b, Okn s.x) → tl (b.flatMap stT) ≤ 65 * vols b := by
    intro b
    induction b with
    | nil => intro _ _; exact Nat.zero_le _
    | cons s b ih =>
      intro h ho
      have h1 := tl_stT (h s (List.mem_cons_self ..)) (ho s (List.mem_cons_self ..))
      have h2 := ih (fun q hq => h q (List.mem_cons_of_mem _ hq)) (fun q hq => ho q (List.mem_cons_of_mem _ hq))
      rw [List.flatMap_cons, tl_app]
      show _ ≤ 65 * (vol s + vols b)
      omega
  exact this b h.2 ho
theorem act_right {s : List UInt8} (hs : s.length ≤ 65536) (h : (act s).2.2 = 0) : okB (act s).1 ∧ oknB (act s).1 ∧ vols (act s).1 ≤ s.length ∧ (act s).2.1 = 0 := by
  have hgood : ∀ t ∈ kxs (Lx.toks s).1, Lx.is t.2 = t.1 := good_kxs (by rw [Lx.toks_C hs]; exact Lx.C_goods _ _ _ (Nat.le_refl _))
  have hlen := toks_less hs
  have e : act s = if (Lx.toks s).2.2 ≠ 0 then ([], (Lx.toks s).2.1, (Lx.toks s).2.2)
    else match B (kxs (Lx.toks s).1) [] with
      | .bad n e => ([], plc (Lx.toks s).1 ((Lx.toks s).1.length - n) s.length, e)
      | .ok b => (b, 0, 0) := rfl
  rw [e] at h ⊢
  by_cases h1 : (Lx.toks s).2.2 ≠ 0
  · rw [if_pos h1] at h; exact absurd h h1
  rw [if_neg h1] at h ⊢
  cases hb : B (kxs (Lx.toks s).1) [] with
  | bad n z => rw [hb] at h; exact absurd h (B_ne _ _ _ (Nat.le_refl _) hgood hb)
  | ok b =>
    obtain ⟨c, c1, c2, c3, c4⟩ := B_right _ _ [] b (Nat.le_refl _) hgood (by simp) hb
    simp only [List.nil_append] at c1
    subst c1
    refine ⟨⟨c2, fun q hq => (c3 q hq).1⟩, fun q hq => (c3 q hq).2, ?_, rfl⟩
    have : (kxs (Lx.toks s).1).length = (Lx.toks s).1.length := by simp [kxs]
    simp only
    omega
end Ac
end Go.Proofs.YtmmdigeciphglaaGreatDoor
