/- Plain facts on the tokens of expressions: places move along; what tokens are shown as has them again; what stands between tokens are blanks. No program is named here; no condition. -/
import Derived.Test.YtdcjpinbflmikaaGreatDoorLxCat
namespace Go.Proofs.YtdcjpinbflmikaaGreatDoor
namespace Lx

def mvT (d : Nat) (t : T) : T := ⟨t.k, t.tx, t.p + d⟩
def mvR (d : Nat) (X : Rs) : Rs := if X.2.2 = 0 then (X.1.map (mvT d), 0, 0) else ([], X.2.1 + d, X.2.2)
theorem pt_mv (d : Nat) (t : T) (X : Rs) : pt (mvT d t) (mvR d X) = mvR d (pt t X) := by
  unfold pt mvR
  by_cases hx : X.2.2 = 0
  · simp [hx]
  · simp [hx]
theorem C_shift (d : Nat) : ∀ (n : Nat) (l : List UInt8) (p : Nat), l.length ≤ n → C l (p + d) = mvR d (C l p)
  | n, l, p, hn => by
    by_cases h : l = []
    · subst h; rw [C_nil, C_nil]; rfl
    · by_cases hb : lng l = 0 ∨ 64 < lng l
      · rw [C_bad _ h hb, C_bad _ h hb]; rfl
      · have h1 : 1 ≤ nx l := by unfold nx; omega
        have hpos : 0 < l.length := List.length_pos_iff.2 h
        obtain ⟨m, rfl⟩ : ∃ m, n = m + 1 := ⟨n - 1, by omega⟩
        have ih := C_shift d m (l.drop (nx l)) (p + nx l) (by rw [List.length_drop]; omega)
        rw [C_good _ h hb, C_good _ h hb, show p + d + nx l = p + nx l + d by omega, ih, ← pt_mv]; rfl
  termination_by n => n
theorem toks_cat (a b : List UInt8) (h : a.length + 1 + b.length ≤ 65536) : toks (a ++ 10 :: b) = jq (toks a) (mvR (a.length + 1) (toks b)) := by
  rw [toks_C (show (a ++ 10 :: b).length ≤ 65536 by simp; omega), toks_C (show a.length ≤ 65536 by omega), toks_C (show b.length ≤ 65536 by omega), ← C_shift (a.length + 1) _ _ _ (Nat.le_refl _), blk_cat]
  have hle := blk_le false a
  have hc := C_cat b _ (a.drop (blk false a)) (blk false a) (Nat.le_refl _)
  by_cases he : blk false a = a.length
  · rw [if_pos he]
    rw [he, List.drop_length, if_pos rfl] at hc
    rw [he, List.drop_length]
    rw [show (a ++ 10 :: b).drop (a.length + 1 + blk false b) = b.drop (blk false b) by
      rw [show a.length + 1 + blk false b = a.length + (1 + blk false b) by omega, List.drop_append, List.drop_of_length_le (by omega), List.nil_append, show a.length + (1 + blk false b) - a.length = blk false b + 1 by omega, List.drop_succ_cons]]
    rw [hc]
    congr 2
    simp; omega
  · rw [if_neg he]
    have hne : a.drop (blk false a) ≠ [] := by
      intro e
      have := congrArg List.length e
      rw [List.length_drop] at this
      simp at this
      omega
    rw [if_neg hne] at hc
    rw [List.drop_append_of_le_length hle, hc, List.length_drop]
    congr 2
    omega
/-- A token that holds what it is. -/
def Good (t : T) : Prop := whole t.tx = t.k ∧ t.k ≠ 0 ∧ t.tx.length ≤ 64
theorem C_goods : ∀ (n : Nat) (l : List UInt8) (p : Nat), l.length ≤ n → ∀ t ∈ (C l p).1, Good t
  | n, l, p, hn, t, ht => by
    by_cases h : l = []
    · subst h; rw [C_nil] at ht; cases ht
    · by_cases hb : lng l = 0 ∨ 64 < lng l
      · rw [C_bad _ h hb] at ht; cases ht
      · have h1 : 1 ≤ nx l := by unfold nx; omega
        have hpos : 0 < l.length := List.length_pos_iff.2 h
        obtain ⟨m, rfl⟩ : ∃ m, n = m + 1 := ⟨n - 1, by omega⟩
        rw [C_good _ h hb] at ht
        unfold pt at ht
        split at ht
        · rcases List.mem_cons.1 ht with rfl | ht
          · refine ⟨rfl, lng_good (by omega), ?_⟩
            show (l.take (lng l)).length ≤ 64
            rw [List.length_take]; omega
          · exact C_goods m _ _ (by rw [List.length_drop]; omega) t ht
        · cases ht
  termination_by n => n
/-- What good tokens are shown as. -/
def sh : List T → List UInt8
  | [] => []
  | t :: r => if r = [] then t.tx else t.tx ++ 32 :: sh r
def kx (t : T) : Int × List UInt8 := (t.k, t.tx)
theorem good_is {t : T} (h : Good t) : is t.tx = t.k := by unfold is; rw [if_neg (by have := h.2.2; omega), h.1]
theorem shw_sh : ∀ l : List T, (∀ t ∈ l, Good t) → shw (l.map kx) = some (sh l)
  | [], _ => rfl
  | t :: r, h => by
    have ht := h t List.mem_cons_self
    have ih := shw_sh r (fun u hu => h u (List.mem_cons_of_mem _ hu))
    show shw ((t.k, t.tx) :: r.map kx) = _
    unfold shw
    rw [if_neg (by rw [good_is ht]; simp; exact ht.2.1), ih]
    unfold sh
    cases r <;> rfl
theorem blk_sh : ∀ l : List T, (∀ t ∈ l, Good t) → blk false (sh l) = 0
  | [], _ => rfl
  | t :: r, h => by
    have ht := h t List.mem_cons_self
    have hw : whole t.tx ≠ 0 := by rw [ht.1]; exact ht.2.1
    unfold sh
    split
    · exact (blk_tok hw []).2
    · exact (blk_tok hw _).1
theorem sh_len : ∀ l : List T, (sh l).length ≤ (l.map fun t => t.tx.length + 1).sum
  | [] => Nat.le_refl _
  | t :: r => by
    have := sh_len r
    unfold sh
    rw [List.map_cons, List.sum_cons]
    split
    · omega
    · rw [List.length_append, List.length_cons]; omega
theorem C_sum : ∀ (n : Nat) (l : List UInt8) (p : Nat), l.length ≤ n → ((C l p).1.map fun t => t.tx.length + 1).sum ≤ 2 * l.length
  | n, l, p, hn => by
    by_cases h : l = []
    · subst h; rw [C_nil]; exact Nat.zero_le _
    · by_cases hb : lng l = 0 ∨ 64 < lng l
      · rw [C_bad _ h hb]; exact Nat.zero_le _
      · have h1 : 1 ≤ nx l := by unfold nx; omega
        have hpos : 0 < l.length := List.length_pos_iff.2 h
        obtain ⟨m, rfl⟩ : ∃ m, n = m + 1 := ⟨n - 1, by omega⟩
        have ih := C_sum m (l.drop (nx l)) (p + nx l) (by rw [List.length_drop]; omega)
        have hle := nx_le l
        rw [C_good _ h hb]
        unfold pt
        split
        · simp only [List.map_cons, List.sum_cons]
          have ht : (tk l p).tx.length = lng l := by
            show (l.take (lng l)).length = lng l
            rw [List.length_take]
            have := lng_le l
            omega
          rw [ht]
          rw [List.length_drop] at ih
          have : lng l ≤ nx l := by unfold nx; omega
          omega
        · exact Nat.zero_le _
  termination_by n => n
/-- What tokens are shown as has them again. -/
theorem C_sh : ∀ (l : List T) (p : Nat), (∀ t ∈ l, Good t) → (C (sh l) p).2.2 = 0 ∧ (C (sh l) p).1.map kx = l.map kx
  | [], p, _ => by rw [show sh [] = [] from rfl, C_nil]; exact ⟨rfl, rfl⟩
  | t :: r, p, h => by
    have ht := h t List.mem_cons_self
    have hr := fun u hu => h u (List.mem_cons_of_mem _ hu)
    have hw : whole t.tx ≠ 0 := by rw [ht.1]; exact ht.2.1
    have hx : t.tx ≠ [] := by intro e; rw [e] at hw; exact hw rfl
    have hp : 0 < t.tx.length := List.length_pos_iff.2 hx
    have h64 := ht.2.2
    have hl := lng_tok hw
    by_cases h0 : r = []
    · have e : sh (t :: r) = t.tx := by unfold sh; rw [if_pos h0]
      rw [e, C_good p hx (by omega)]
      have hn : nx t.tx = t.tx.length := by unfold nx; rw [hl, List.drop_length]; rfl
      rw [hn, List.drop_length, C_nil]
      subst h0
      refine ⟨rfl, ?_⟩
      show [kx (tk t.tx p)] = [kx t]
      unfold tk kx
      rw [hl, List.take_length, ht.1]
    · have e : sh (t :: r) = t.tx ++ 32 :: sh r := by rw [sh, if_neg h0]
      have hl2 : lng (t.tx ++ 32 :: sh r) = t.tx.length := by rw [lng_sep (Or.inr rfl) hx, hl]
      have hd : (t.tx ++ 32 :: sh r).drop t.tx.length = 32 :: sh r := by rw [List.drop_append_of_le_length (Nat.le_refl _), List.drop_length, List.nil_append]
      have hb : blk false (32 :: sh r) = 1 + blk false (sh r) := by show (if isB 32 then 1 + blk false (sh r) else _) = _; rw [if_pos (by decide)]
      have hn : nx (t.tx ++ 32 :: sh r) = t.tx.length + 1 := by unfold nx; rw [hl2, hd, hb, blk_sh r hr]
      obtain ⟨i1, i2⟩ := C_sh r (p + (t.tx.length + 1)) hr
      rw [e, C_good p (by simp) (by rw [hl2]; omega), hn, ← List.drop_drop, hd, List.drop_succ_cons, List.drop_zero]
      unfold pt
      rw [if_pos i1]
      refine ⟨rfl, ?_⟩
      simp only [List.map_cons]
      rw [i2]
      congr 1
      unfold tk kx
      simp only
      rw [hl2, List.take_append_of_le_length (Nat.le_refl _), List.take_length, ht.1]
theorem toks_sh {l : List T} (h : ∀ t ∈ l, Good t) (hl : (sh l).length ≤ 65536) : (toks (sh l)).2.2 = 0 ∧ (toks (sh l)).1.map kx = l.map kx := by
  rw [toks_C hl, blk_sh l h]
  exact C_sh l 0 h
/-- Each token at its place, blanks alone about it, and none is longer than it is. -/
def PL (s : List UInt8) : Nat → List T → Prop
  | a, [] => a ≤ s.length ∧ blk false (s.drop a) = s.length - a
  | a, t :: r => a ≤ t.p ∧ t.p + t.tx.length ≤ s.length ∧ blk false (s.drop a) = t.p - a ∧ t.tx = (s.drop t.p).take t.tx.length ∧ (t.p + t.tx.length < s.length → is ((s.drop t.p).take (t.tx.length + 1)) = 0) ∧ PL s (t.p + t.tx.length) r
theorem C_PL (s : List UInt8) : ∀ (n a : Nat), a ≤ s.length → s.length - a ≤ n → (C (s.drop (a + blk false (s.drop a))) (a + blk false (s.drop a))).2.2 = 0 → PL s a (C (s.drop (a + blk false (s.drop a))) (a + blk false (s.drop a))).1
  | n, a, ha, hn, he => by
    obtain ⟨b, hb⟩ : ∃ b, b = blk false (s.drop a) := ⟨_, rfl⟩
    have hbl := blk_le false (s.drop a)
    rw [List.length_drop, ← hb] at hbl
    rw [← hb] at he ⊢
    obtain ⟨l, hl⟩ : ∃ l, l = s.drop (a + b) := ⟨_, rfl⟩
    have hll : l.length = s.length - (a + b) := by rw [hl, List.length_drop]
    rw [← hl] at he ⊢
    by_cases h : l = []
    · subst h
      rw [C_nil]
      simp at hll
      exact ⟨ha, by rw [← hb]; omega⟩
    · by_cases hbd : lng l = 0 ∨ 64 < lng l
      · rw [C_bad _ h hbd] at he; cases he
      · have h1 := lng_le l
        have hpos : 0 < l.length := List.length_pos_iff.2 h
        obtain ⟨m, rfl⟩ : ∃ m, n = m + 1 := ⟨n - 1, by omega⟩
        rw [C_good _ h hbd] at he ⊢
        have hdl : l.drop (lng l) = s.drop (a + b + lng l) := by rw [hl, List.drop_drop]
        have hd2 : l.drop (nx l) = s.drop (a + b + lng l + blk false (s.drop (a + b + lng l))) := by
          unfold nx; rw [hdl, hl, List.drop_drop, Nat.add_assoc (a + b)]
        have hp2 : a + b + nx l = a + b + lng l + blk false (s.drop (a + b + lng l)) := by unfold nx; rw [hdl]; omega
        have htl : (tk l (a + b)).tx.length = lng l := by
          show (l.take (lng l)).length = lng l
          rw [List.length_take]; omega
        rw [hd2, hp2] at he ⊢
        unfold pt at he ⊢
        split
        · rename_i hz
          have ih := C_PL s m (a + b + lng l) (by omega) (by omega) hz
          refine ⟨Nat.le_add_right _ _, ?_, ?_, ?_, ?_, ?_⟩
          · rw [htl]; show a + b + lng l ≤ s.length; omega
          · rw [← hb]; show b = a + b - a; omega
          · rw [htl]; show l.take (lng l) = (s.drop (a + b)).take (lng l); rw [hl]
          · rw [htl]
            intro hlt
            have hlt2 : a + b + lng l < s.length := hlt
            show is ((s.drop (a + b)).take (lng l + 1)) = 0
            rw [← hl]
            unfold is
            split
            · rfl
            · exact lng_max (by omega)
          · rw [htl]; exact ih
        · rename_i hz
          rw [if_neg hz] at he
          exact absurd he hz
  termination_by n => n
theorem toks_PL {s : List UInt8} (h : s.length ≤ 65536) (he : (toks s).2.2 = 0) : PL s 0 (toks s).1 := by
  rw [toks_C h] at he ⊢
  have := C_PL s s.length 0 (Nat.zero_le _) (by omega)
  rw [List.drop_zero, Nat.zero_add] at this
  exact this he
/-- Blanks alone have no tokens. -/
theorem toks_blank {l : List UInt8} (h : l.length ≤ 65536) : toks (l.take (blk false l)) = ([], 0, 0) := by
  rw [toks_C (by rw [List.length_take]; omega), blk_take, List.drop_of_length_le (by rw [List.length_take]; omega), C_nil]
end Lx
end Go.Proofs.YtdcjpinbflmikaaGreatDoor
