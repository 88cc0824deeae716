/- Plain facts on the tokens of expressions: the tokens of a text with a byte 10 between two others; of what tokens are shown as; what stands between tokens. No program is named here; no condition. -/
import Derived.Test.YtdcjpinbflmikaaGreatDoorLxMore
namespace Go.Proofs.YtdcjpinbflmikaaGreatDoor
namespace Lx

abbrev Rs := List T × Nat × Int
def pt (t : T) (R : Rs) : Rs := if R.2.2 = 0 then (t :: R.1, 0, 0) else ([], R.2.1, R.2.2)
def bad (l : List UInt8) : Prop := lng l = 0 ∨ 64 < lng l
def tk (l : List UInt8) (p : Nat) : T := ⟨whole (l.take (lng l)), l.take (lng l), p⟩
def nx (l : List UInt8) : Nat := lng l + blk false (l.drop (lng l))
theorem cut_s (f : Nat) (l : List UInt8) (p : Nat) : cut (f + 1) l p = if l = [] then ([], 0, 0) else if lng l = 0 ∨ 64 < lng l then ([], p, 70) else pt (tk l p) (cut f (l.drop (nx l)) (p + nx l)) := by
  rw [cut, show p + nx l = p + lng l + blk false (l.drop (lng l)) by unfold nx; omega]; rfl
theorem nx_le (l : List UInt8) : nx l ≤ l.length := by
  have h1 := lng_le l
  have h2 := blk_le false (l.drop (lng l))
  rw [List.length_drop] at h2
  unfold nx; omega
theorem cut_fuel : ∀ (f g : Nat) (l : List UInt8) (p : Nat), l.length < f → l.length < g → cut f l p = cut g l p
  | 0, _, _, _, h, _ => absurd h (Nat.not_lt_zero _)
  | _ + 1, 0, _, _, _, h => absurd h (Nat.not_lt_zero _)
  | f + 1, g + 1, l, p, h, h' => by
    rw [cut_s, cut_s]
    by_cases h0 : l = []
    · rw [if_pos h0, if_pos h0]
    · rw [if_neg h0, if_neg h0]
      by_cases hb : lng l = 0 ∨ 64 < lng l
      · rw [if_pos hb, if_pos hb]
      · rw [if_neg hb, if_neg hb]
        have h1 := nx_le l
        have h2 : 1 ≤ nx l := by unfold nx; omega
        rw [cut_fuel f g _ _ (by rw [List.length_drop]; omega) (by rw [List.length_drop]; omega)]
/-- The tokens of what is left, with fuel enough. -/
def C (l : List UInt8) (p : Nat) : Rs := cut (l.length + 1) l p
theorem C_nil (p : Nat) : C [] p = ([], 0, 0) := by unfold C; rw [cut_s, if_pos rfl]
theorem C_bad {l : List UInt8} (p : Nat) (h : l ≠ []) (hb : lng l = 0 ∨ 64 < lng l) : C l p = ([], p, 70) := by unfold C; rw [cut_s, if_neg h, if_pos hb]
theorem C_good {l : List UInt8} (p : Nat) (h : l ≠ []) (hb : ¬ (lng l = 0 ∨ 64 < lng l)) : C l p = pt (tk l p) (C (l.drop (nx l)) (p + nx l)) := by
  have h1 := nx_le l
  have h2 : 1 ≤ nx l := by unfold nx; omega
  unfold C
  rw [cut_s, if_neg h, if_neg hb, cut_fuel l.length _ _ _ (by rw [List.length_drop]; omega) (Nat.lt_succ_self _)]
theorem toks_C {l : List UInt8} (h : l.length ≤ 65536) : toks l = C (l.drop (blk false l)) (blk false l) := by
  unfold toks C
  rw [if_neg (by omega), cut_fuel (l.length + 1) _ _ _ (by rw [List.length_drop]; omega) (Nat.lt_succ_self _)]
def Form (R : Rs) : Prop := (R.2.2 = 0 → R.2.1 = 0) ∧ (R.2.2 ≠ 0 → R.1 = [])
theorem pt_form (t : T) (R : Rs) : Form (pt t R) := by
  unfold pt
  split
  · exact ⟨fun _ => rfl, fun h => absurd rfl h⟩
  · rename_i h; exact ⟨fun e => absurd e h, fun _ => rfl⟩
theorem C_form (l : List UInt8) (p : Nat) : Form (C l p) := by
  by_cases h : l = []
  · subst h; rw [C_nil]; exact ⟨fun _ => rfl, fun _ => rfl⟩
  · by_cases hb : lng l = 0 ∨ 64 < lng l
    · rw [C_bad p h hb]; exact ⟨fun e => (by cases e), fun _ => rfl⟩
    · rw [C_good p h hb]; exact pt_form _ _
/-- One text's tokens behind another's. -/
def jq (X Y : Rs) : Rs := if X.2.2 ≠ 0 then X else if Y.2.2 = 0 then (X.1 ++ Y.1, 0, 0) else ([], Y.2.1, Y.2.2)
theorem jq_nil {Y : Rs} (h : Form Y) : jq ([], 0, 0) Y = Y := by
  obtain ⟨a, b, c⟩ := Y
  unfold jq
  rw [if_neg (by simp)]
  by_cases hc : c = 0
  · have hb := h.1 hc
    simp only at hb hc
    subst hb hc
    rfl
  · have ha := h.2 hc
    simp only at ha
    subst ha
    rw [if_neg hc]
theorem pt_jq (t : T) (X Y : Rs) : pt t (jq X Y) = jq (pt t X) Y := by
  unfold pt jq
  by_cases hx : X.2.2 = 0
  · simp only [hx, ne_eq, not_true_eq_false, if_false, if_true]
    by_cases hy : Y.2.2 = 0
    · simp [hy]
    · simp [hy]
  · simp [hx]
/-- P7.5's first half: a byte 10 between. -/
theorem C_cat (y : List UInt8) : ∀ (n : Nat) (x : List UInt8) (p : Nat), x.length ≤ n → (if x = [] then C (y.drop (blk false y)) (p + 1 + blk false y) else C (x ++ 10 :: y) p) = jq (C x p) (C (y.drop (blk false y)) (p + x.length + 1 + blk false y))
  | n, x, p, hn => by
    by_cases h : x = []
    · subst h
      rw [if_pos rfl, C_nil, jq_nil (C_form _ _)]; rfl
    · rw [if_neg h]
      have hl : lng (x ++ 10 :: y) = lng x := lng_sep (Or.inl rfl) h y
      have hne : x ++ 10 :: y ≠ [] := by simp
      by_cases hb : lng x = 0 ∨ 64 < lng x
      · rw [C_bad p h hb, C_bad p hne (by rw [hl]; exact hb)]
        unfold jq; rw [if_pos (by simp)]
      · have hle := lng_le x
        have hd : (x ++ 10 :: y).drop (lng x) = x.drop (lng x) ++ 10 :: y := List.drop_append_of_le_length hle
        have ht : tk (x ++ 10 :: y) p = tk x p := by unfold tk; rw [hl, List.take_append_of_le_length hle]
        have hx : nx (x ++ 10 :: y) = lng x + (if blk false (x.drop (lng x)) = (x.drop (lng x)).length then (x.drop (lng x)).length + 1 + blk false y else blk false (x.drop (lng x))) := by unfold nx; rw [hl, hd, blk_cat]
        have hpos : 0 < x.length := List.length_pos_iff.2 h
        rw [C_good p h hb, C_good p hne (by rw [hl]; exact hb), ht, ← pt_jq]
        congr 1
        by_cases hc : blk false (x.drop (lng x)) = (x.drop (lng x)).length
        · rw [if_pos hc] at hx
          have hlen : (x.drop (lng x)).length = x.length - lng x := List.length_drop
          have hnx : nx x = x.length := by unfold nx; rw [hc, hlen]; omega
          rw [hnx, List.drop_length, C_nil, jq_nil (C_form _ _), hx, hlen]
          rw [show (x ++ 10 :: y).drop (lng x + (x.length - lng x + 1 + blk false y)) = y.drop (blk false y) by
            rw [show lng x + (x.length - lng x + 1 + blk false y) = x.length + (1 + blk false y) by omega, List.drop_append, List.drop_of_length_le (by omega), List.nil_append, show x.length + (1 + blk false y) - x.length = blk false y + 1 by omega, List.drop_succ_cons]]
          rw [show p + (lng x + (x.length - lng x + 1 + blk false y)) = p + x.length + 1 + blk false y by omega]
        · rw [if_neg hc] at hx
          have hnx : nx (x ++ 10 :: y) = nx x := by rw [hx]; rfl
          have hlt : nx x < x.length := by
            have h2 := blk_le false (x.drop (lng x))
            have hlen : (x.drop (lng x)).length = x.length - lng x := List.length_drop
            unfold nx; omega
          have h1 : 1 ≤ nx x := by unfold nx; omega
          rw [hnx, List.drop_append_of_le_length (by omega)]
          obtain ⟨m, rfl⟩ : ∃ m, n = m + 1 := ⟨n - 1, by omega⟩
          have hx' : x.drop (nx x) ≠ [] := by
            intro e
            have := congrArg List.length e
            rw [List.length_drop] at this
            simp at this
            omega
          have ih := C_cat y m (x.drop (nx x)) (p + nx x) (by rw [List.length_drop]; omega)
          rw [if_neg hx'] at ih
          rw [ih, List.length_drop, show p + nx x + (x.length - nx x) = p + x.length by omega]
  termination_by n => n
end Lx
end Go.Proofs.YtdcjpinbflmikaaGreatDoor
