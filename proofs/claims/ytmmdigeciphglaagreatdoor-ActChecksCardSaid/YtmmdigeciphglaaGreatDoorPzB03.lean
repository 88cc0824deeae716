/- Facts and walks for the statement. -/
import Derived.Test.YtmmdigeciphglaaGreatDoorPzB02
import Derived.WalkKit
import Derived.BigQuiet
import Derived.WalkSmall
import Derived.Lib.Bytealg
import Derived.Lib.IndexLaws
import Derived.Deep.AppendLies
import Derived.OwnWalk
import Derived.Lib.OthersKept
import Derived.Lib.Hide
namespace Go.Proofs.YtmmdigeciphglaaGreatDoor
namespace Lx
abbrev Rs := List T × Nat × Int
def pt (t : T) (R : Rs) : Rs := if R.2.2 = 0 then (t :: R.1, 0, 0) else ([], R.2.1, R.2.2)
def tk (l : List UInt8) (p : Nat) : T := ⟨whole (l.take (lng l)), l.take (lng l), p⟩
def nx (l : List UInt8) : Nat := lng l + blk false (l.drop (lng l))
theorem cut_s (f : Nat) (l : List UInt8) (p : Nat) : cut (f + 1) l p = if l = [] then ([], 0, 0) else if lng l = 0 ∨ 64 < lng l then ([], p, 70) else pt (tk l p) (cut f (l.drop (nx l)) (p + nx l)) := by
  rw [cut, show p + nx l = p + lng l + blk false (l.drop (lng l)) by unfold nx; omega]; rfl
theorem nx_le (l : List UInt8) : nx l ≤ l.length := by
  have h1 := lng_le l
  have h2 := blk_le false (l.drop (lng l))
  rw [List.length_drop] at h2
  unfold nx; omega
theorem cut_fuel : ∀ (f g : Nat) (l : List UInt8) (p : Nat), l.length < f → l.length < g → cut f l p = cut g l p
  | 0, _, _, _, h, _ => absurd h (Nat.not_lt_zero _)
  | _ + 1, 0, _, _, _, h => absurd h (Nat.not_lt_zero _)
  | f + 1, g + 1, l, p, h, h' => by
    rw [cut_s, cut_s]
    by_cases h0 : l = []
    · rw [if_pos h0, if_pos h0]
    · rw [if_neg h0, if_neg h0]
      by_cases hb : lng l = 0 ∨ 64 < lng l
      · rw [if_pos hb, if_pos hb]
      · rw [if_neg hb, if_neg hb]
        have h1 := nx_le l
        have h2 : 1 ≤ nx l := by unfold nx; omega
        rw [cut_fuel f g _ _ (by rw [List.length_drop]; omega) (by rw [List.length_drop]; omega)]
def C (l : List UInt8) (p : Nat) : Rs := cut (l.length + 1) l p
theorem C_nil (p : Nat) : C [] p = ([], 0, 0) := by unfold C; rw [cut_s, if_pos rfl]
theorem C_bad {l : List UInt8} (p : Nat) (h : l ≠ []) (hb : lng l = 0 ∨ 64 < lng l) : C l p = ([], p, 70) := by unfold C; rw [cut_s, if_neg h, if_pos hb]
theorem C_good {l : List UInt8} (p : Nat) (h : l ≠ []) (hb : ¬ (lng l = 0 ∨ 64 < lng l)) : C l p = pt (tk l p) (C (l.drop (nx l)) (p + nx l)) := by
  have h1 := nx_le l
  have h2 : 1 ≤ nx l := by unfold nx; omega
  unfold C
  rw [cut_s, if_neg h, if_neg hb, cut_fuel l.length _ _ _ (by rw [List.length_drop]; omega) (Nat.lt_succ_self _)]
theorem toks_C {l : List UInt8} (h : l.length ≤ 65536) : toks l = C (l.drop (blk false l)) (blk false l) := by
  unfold toks C
  rw [if_neg (by omega), cut_fuel (l.length + 1) _ _ _ (by rw [List.length_drop]; omega) (Nat.lt_succ_self _)]
def Form (R : Rs) : Prop := (R.2.2 = 0 → R.2.1 = 0) ∧ (R.2.2 ≠ 0 → R.1 = [])
theorem pt_form (t : T) (R : Rs) : Form (pt t R) := by
  unfold pt
  split
  · exact ⟨fun _ => rfl, fun h => absurd rfl h⟩
  · rename_i h; exact ⟨fun e => absurd e h, fun _ => rfl⟩
theorem C_form (l : List UInt8) (p : Nat) : Form (C l p) := by
  by_cases h : l = []
  · subst h; rw [C_nil]; exact ⟨fun _ => rfl, fun _ => rfl⟩
  · by_cases hb : lng l = 0 ∨ 64 < lng l
    · rw [C_bad p h hb]; exact ⟨fun e => (by cases e), fun _ => rfl⟩
    · rw [C_good p h hb]; exact pt_form _ _
def jq (X Y : Rs) : Rs := if X.2.2 ≠ 0 then X else if Y.2.2 = 0 then (X.1 ++ Y.1, 0, 0) else ([], Y.2.1, Y.2.2)
theorem jq_nil {Y : Rs} (h : Form Y) : jq ([], 0, 0) Y = Y := by
  obtain ⟨a, b, c⟩ := Y
  unfold jq
  rw [if_neg (by simp)]
  by_cases hc : c = 0
  · have hb := h.1 hc
    simp only at hb hc
    subst hb hc
    rfl
  · have ha := h.2 hc
    simp only at ha
    subst ha
    rw [if_neg hc]
theorem pt_jq (t : T) (X Y : Rs) : pt t (jq X Y) = jq (pt t X) Y := by
  unfold pt jq
  by_cases hx : X.2.2 = 0
  · simp only [hx, ne_eq, not_true_eq_false, if_false, if_true]
    by_cases hy : Y.2.2 = 0
    · simp [hy]
    · simp [hy]
  · simp [hx]
theorem C_cat (y : List UInt8) : ∀ (n : Nat) (x : List UInt8) (p : Nat), x.length ≤ n → (if x = [] then C (y.drop (blk false y)) (p + 1 + blk false y) else C (x ++ 10 :: y) p) = jq (C x p) (C (y.drop (blk false y)) (p + x.length + 1 + blk false y))
  | n, x, p, hn => by
    by_cases h : x = []
    · subst h
      rw [if_pos rfl, C_nil, jq_nil (C_form _ _)]; rfl
    · rw [if_neg h]
      have hl : lng (x ++ 10 :: y) = lng x := lng_sep (Or.inl rfl) h y
      have hne : x ++ 10 :: y ≠ [] := by simp
      by_cases hb : lng x = 0 ∨ 64 < lng x
      · rw [C_bad p h hb, C_bad p hne (by rw [hl]; exact hb)]
        unfold jq; rw [if_pos (by simp)]
      · have hle := lng_le x
        have hd : (x ++ 10 :: y).drop (lng x) = x.drop (lng x) ++ 10 :: y := List.drop_append_of_le_length hle
        have ht : tk (x ++ 10 :: y) p = tk x p := by unfold tk; rw [hl, List.take_append_of_le_length hle]
        have hx : nx (x ++ 10 :: y) = lng x + (if blk false (x.drop (lng x)) = (x.drop (lng x)).length then (x.drop (lng x)).length + 1 + blk false y else blk false (x.drop (lng x))) := by unfold nx; rw [hl, hd, blk_cat]
        have hpos : 0 < x.length := List.length_pos_iff.2 h
        rw [C_good p h hb, C_good p hne (by rw [hl]; exact hb), ht, ← pt_jq]
        congr 1
        by_cases hc : blk false (x.drop (lng x)) = (x.drop (lng x)).length
        · rw [if_pos hc] at hx
          have hlen : (x.drop (lng x)).length = x.length - lng x := List.length_drop
          have hnx : nx x = x.length := by unfold nx; rw [hc, hlen]; omega
          rw [hnx, List.drop_length, C_nil, jq_nil (C_form _ _), hx, hlen]
          rw [show (x ++ 10 :: y).drop (lng x + (x.length - lng x + 1 + blk false y)) = y.drop (blk false y) by
            rw [show lng x + (x.length - lng x + 1 + blk false y) = x.length + (1 + blk false y) by omega, List.drop_append, List.drop_of_length_le (by omega), List.nil_append, show x.length + (1 + blk false y) - x.length = blk false y + 1 by omega, List.drop_succ_cons]]
          rw [show p + (lng x + (x.length - lng x + 1 + blk false y)) = p + x.length + 1 + blk false y by omega]
        · rw [if_neg hc] at hx
          have hnx : nx (x ++ 10 :: y) = nx x := by rw [hx]; rfl
          have hlt : nx x < x.length := by
            have h2 := blk_le false (x.drop (lng x))
            have hlen : (x.drop (lng x)).length = x.length - lng x := List.length_drop
            unfold nx; omega
          have h1 : 1 ≤ nx x := by unfold nx; omega
          rw [hnx, List.drop_append_of_le_length (by omega)]
          obtain ⟨m, rfl⟩ : ∃ m, n = m + 1 := ⟨n - 1, by omega⟩
          have hx' : x.drop (nx x) ≠ [] := by
            intro e
            have := congrArg List.length e
            rw [List.length_drop] at this
            simp at this
            omega
          have ih := C_cat y m (x.drop (nx x)) (p + nx x) (by rw [List.length_drop]; omega)
          rw [if_neg hx'] at ih
          rw [ih, List.length_drop, show p + nx x + (x.length - nx x) = p + x.length by omega]
  termination_by n => n
end Lx
end Go.Proofs.YtmmdigeciphglaaGreatDoor
namespace Go.Proofs.YtmmdigeciphglaaGreatDoor
namespace Lx
def mvT (d : Nat) (t : T) : T := ⟨t.k, t.tx, t.p + d⟩
def mvR (d : Nat) (X : Rs) : Rs := if X.2.2 = 0 then (X.1.map (mvT d), 0, 0) else ([], X.2.1 + d, X.2.2)
theorem pt_mv (d : Nat) (t : T) (X : Rs) : pt (mvT d t) (mvR d X) = mvR d (pt t X) := by
  unfold pt mvR
  by_cases hx : X.2.2 = 0
  · simp [hx]
  · simp [hx]
theorem C_shift (d : Nat) : ∀ (n : Nat) (l : List UInt8) (p : Nat), l.length ≤ n → C l (p + d) = mvR d (C l p)
  | n, l, p, hn => by
    by_cases h : l = []
    · subst h; rw [C_nil, C_nil]; rfl
    · by_cases hb : lng l = 0 ∨ 64 < lng l
      · rw [C_bad _ h hb, C_bad _ h hb]; rfl
      · have h1 : 1 ≤ nx l := by unfold nx; omega
        have hpos : 0 < l.length := List.length_pos_iff.2 h
        obtain ⟨m, rfl⟩ : ∃ m, n = m + 1 := ⟨n - 1, by omega⟩
        have ih := C_shift d m (l.drop (nx l)) (p + nx l) (by rw [List.length_drop]; omega)
        rw [C_good _ h hb, C_good _ h hb, show p + d + nx l = p + nx l + d by omega, ih, ← pt_mv]; rfl
  termination_by n => n
theorem toks_cat (a b : List UInt8) (h : a.length + 1 + b.length ≤ 65536) : toks (a ++ 10 :: b) = jq (toks a) (mvR (a.length + 1) (toks b)) := by
  rw [toks_C (show (a ++ 10 :: b).length ≤ 65536 by simp; omega), toks_C (show a.length ≤ 65536 by omega), toks_C (show b.length ≤ 65536 by omega), ← C_shift (a.length + 1) _ _ _ (Nat.le_refl _), blk_cat]
  have hle := blk_le false a
  have hc := C_cat b _ (a.drop (blk false a)) (blk false a) (Nat.le_refl _)
  by_cases he : blk false a = a.length
  · rw [if_pos he]
    rw [he, List.drop_length, if_pos rfl] at hc
    rw [he, List.drop_length]
    rw [show (a ++ 10 :: b).drop (a.length + 1 + blk false b) = b.drop (blk false b) by
      rw [show a.length + 1 + blk false b = a.length + (1 + blk false b) by omega, List.drop_append, List.drop_of_length_le (by omega), List.nil_append, show a.length + (1 + blk false b) - a.length = blk false b + 1 by omega, List.drop_succ_cons]]
    rw [hc]
    congr 2
    simp; omega
  · rw [if_neg he]
    have hne : a.drop (blk false a) ≠ [] := by
      intro e
      have := congrArg List.length e
      rw [List.length_drop] at this
      simp at this
      omega
    rw [if_neg hne] at hc
    rw [List.drop_append_of_le_length hle, hc, List.length_drop]
    congr 2
    omega
def Good (t : T) : Prop := whole t.tx = t.k ∧ t.k ≠ 0 ∧ t.tx.length ≤ 64
theorem C_goods : ∀ (n : Nat) (l : List UInt8) (p : Nat), l.length ≤ n → ∀ t ∈ (C l p).1, Good t
  | n, l, p, hn, t, ht => by
    by_cases h : l = []
    · subst h; rw [C_nil] at ht; cases ht
    · by_cases hb : lng l = 0 ∨ 64 < lng l
      · rw [C_bad _ h hb] at ht; cases ht
      · have h1 : 1 ≤ nx l := by unfold nx; omega
        have hpos : 0 < l.length := List.length_pos_iff.2 h
        obtain ⟨m, rfl⟩ : ∃ m, n = m + 1 := ⟨n - 1, by omega⟩
        rw [C_good _ h hb] at ht
        unfold pt at ht
        split at ht
        · rcases List.mem_cons.1 ht with rfl | ht
          · refine ⟨rfl, lng_good (by omega), ?_⟩
            show (l.take (lng l)).length ≤ 64
            rw [List.length_take]; omega
          · exact C_goods m _ _ (by rw [List.length_drop]; omega) t ht
        · cases ht
  termination_by n => n
def sh : List T → List UInt8
  | [] => []
  | t :: r => if r = [] then t.tx else t.tx ++ 32 :: sh r
def kx (t : T) : Int × List UInt8 := (t.k, t.tx)
theorem good_is {t : T} (h : Good t) : is t.tx = t.k := by unfold is; rw [if_neg (by have := h.2.2; omega), h.1]
theorem blk_sh : ∀ l : List T, (∀ t ∈ l, Good t) → blk false (sh l) = 0
  | [], _ => rfl
  | t :: r, h => by
    have ht := h t List.mem_cons_self
    have hw : whole t.tx ≠ 0 := by rw [ht.1]; exact ht.2.1
    unfold sh
    split
    · exact (blk_tok hw []).2
    · exact (blk_tok hw _).1
theorem C_sum : ∀ (n : Nat) (l : List UInt8) (p : Nat), l.length ≤ n → ((C l p).1.map fun t => t.tx.length + 1).sum ≤ 2 * l.length
  | n, l, p, hn => by
    by_cases h : l = []
    · subst h; rw [C_nil]; exact Nat.zero_le _
    · by_cases hb : lng l = 0 ∨ 64 < lng l
      · rw [C_bad _ h hb]; exact Nat.zero_le _
      · have h1 : 1 ≤ nx l := by unfold nx; omega
        have hpos : 0 < l.length := List.length_pos_iff.2 h
        obtain ⟨m, rfl⟩ : ∃ m, n = m + 1 := ⟨n - 1, by omega⟩
        have ih := C_sum m (l.drop (nx l)) (p + nx l) (by rw [List.length_drop]; omega)
        have hle := nx_le l
        rw [C_good _ h hb]
        unfold pt
        split
        · simp only [List.map_cons, List.sum_cons]
          have ht : (tk l p).tx.length = lng l := by
            show (l.take (lng l)).length = lng l
            rw [List.length_take]
            have := lng_le l
            omega
          rw [ht]
          rw [List.length_drop] at ih
          have : lng l ≤ nx l := by unfold nx; omega
          omega
        · exact Nat.zero_le _
  termination_by n => n
theorem C_sh : ∀ (l : List T) (p : Nat), (∀ t ∈ l, Good t) → (C (sh l) p).2.2 = 0 ∧ (C (sh l) p).1.map kx = l.map kx
  | [], p, _ => by rw [show sh [] = [] from rfl, C_nil]; exact ⟨rfl, rfl⟩
  | t :: r, p, h => by
    have ht := h t List.mem_cons_self
    have hr := fun u hu => h u (List.mem_cons_of_mem _ hu)
    have hw : whole t.tx ≠ 0 := by rw [ht.1]; exact ht.2.1
    have hx : t.tx ≠ [] := by intro e; rw [e] at hw; exact hw rfl
    have hp : 0 < t.tx.length := List.length_pos_iff.2 hx
    have h64 := ht.2.2
    have hl := lng_tok hw
    by_cases h0 : r = []
    · have e : sh (t :: r) = t.tx := by unfold sh; rw [if_pos h0]
      rw [e, C_good p hx (by omega)]
      have hn : nx t.tx = t.tx.length := by unfold nx; rw [hl, List.drop_length]; rfl
      rw [hn, List.drop_length, C_nil]
      subst h0
      refine ⟨rfl, ?_⟩
      show [kx (tk t.tx p)] = [kx t]
      unfold tk kx
      rw [hl, List.take_length, ht.1]
    · have e : sh (t :: r) = t.tx ++ 32 :: sh r := by rw [sh, if_neg h0]
      have hl2 : lng (t.tx ++ 32 :: sh r) = t.tx.length := by rw [lng_sep (Or.inr rfl) hx, hl]
      have hd : (t.tx ++ 32 :: sh r).drop t.tx.length = 32 :: sh r := by rw [List.drop_append_of_le_length (Nat.le_refl _), List.drop_length, List.nil_append]
      have hb : blk false (32 :: sh r) = 1 + blk false (sh r) := by show (if isB 32 then 1 + blk false (sh r) else _) = _; rw [if_pos (by decide)]
      have hn : nx (t.tx ++ 32 :: sh r) = t.tx.length + 1 := by unfold nx; rw [hl2, hd, hb, blk_sh r hr]
      obtain ⟨i1, i2⟩ := C_sh r (p + (t.tx.length + 1)) hr
      rw [e, C_good p (by simp) (by rw [hl2]; omega), hn, ← List.drop_drop, hd, List.drop_succ_cons, List.drop_zero]
      unfold pt
      rw [if_pos i1]
      refine ⟨rfl, ?_⟩
      simp only [List.map_cons]
      rw [i2]
      congr 1
      unfold tk kx
      simp only
      rw [hl2, List.take_append_of_le_length (Nat.le_refl _), List.take_length, ht.1]
theorem toks_sh {l : List T} (h : ∀ t ∈ l, Good t) (hl : (sh l).length ≤ 65536) : (toks (sh l)).2.2 = 0 ∧ (toks (sh l)).1.map kx = l.map kx := by
  rw [toks_C hl, blk_sh l h]
  exact C_sh l 0 h
end Lx
end Go.Proofs.YtmmdigeciphglaaGreatDoor
namespace Go.Proofs.YtmmdigeciphglaaGreatDoor
open Go.RowKit
def IsBlk (w : World) (g : Nat) (t : TypeId) (cs : Array Value) : Prop := w.heap[g]? = some (.cells cs t (0, 0))
theorem IsBlk.lt {w : World} {g : Nat} {t : TypeId} {cs : Array Value} (h : IsBlk w g t cs) : g < w.heap.size := by
  rcases Nat.lt_or_ge g w.heap.size with hlt | hge
  · exact hlt
  · unfold IsBlk at h; rw [Array.getElem?_eq_none hge] at h; cases h
theorem IsBlk.at_ {w : World} {g : Nat} {t : TypeId} {cs : Array Value} (h : IsBlk w g t cs) (i : Nat) : w.cell? ⟨g, i, none⟩ = cs[i]? := Lib.cell_of_heap h i
theorem IsBlk.fz {w : World} {g : Nat} {t : TypeId} {cs : Array Value} (h : IsBlk w g t cs) (i : Nat) : w.frozen? ⟨g, i, none⟩ = false := by
  unfold IsBlk at h; simp [World.frozen?, h]
theorem IsBlk.new (w : World) (t : TypeId) (cs : Array Value) : IsBlk (w.alloc (.cells cs t)) w.heap.size t cs := heap_alloc_new w _
theorem IsBlk.below {B : Nat} {w w' : World} {g : Nat} {t : TypeId} {cs : Array Value} (h : IsBlk w g t cs) (hb : Below B w w') (hg : g < B) : IsBlk w' g t cs := (hb.block g hg).trans h
theorem IsBlk.grown {w w' : World} {g : Nat} {t : TypeId} {cs : Array Value} {row : Option Nat} (h : IsBlk w g t cs) (hb : w.grownBy w' row) (hg : some g ≠ row) : IsBlk w' g t cs := (hb.block g h.lt hg).trans h
theorem IsBlk.set {w : World} {g : Nat} {t : TypeId} {cs : Array Value} (h : IsBlk w g t cs) (i : Nat) (u : Value) : IsBlk (w.setCell ⟨g, i, none⟩ u) g t (cs.setIfInBounds i u) := by
  unfold IsBlk at h ⊢
  simp [World.setCell, Array.getElem?_modify, h]
theorem IsBlk.far {w : World} {g : Nat} {t : TypeId} {cs : Array Value} (h : IsBlk w g t cs) {p : Addr} (hp : g ≠ p.block) (u : Value) : IsBlk (w.setCell p u) g t cs := (Below.heap_setCell w p u g hp).trans h
theorem below_drewN {B : Nat} {w w' : World} (h : Below B w w') (n : Nat) : Below B w (w'.drewN n) := ⟨h.os, h.tape, h.output, h.size, h.block⟩
theorem own_cell {w : World} {B : Nat} {e : TypeId} {size g n cap : Nat} {xs : List Value} (h : w.ownsRow B e size (.slice (some ⟨g, 0, none⟩) n cap) n xs) {j : Nat} {u : Value} (hu : xs[j]? = some u) : w.cell? ⟨g, j, none⟩ = some u := by
  have := h.cells (g := g) rfl j u hu
  have hadd : (⟨g, 0, none⟩ : Addr).add j = ⟨g, j, none⟩ := by unfold Addr.add; split <;> simp_all
  rwa [hadd] at this
theorem own_slice {w : World} {B : Nat} {e : TypeId} {size n : Nat} {v : Value} {xs : List Value} (h : w.ownsRow B e size v n xs) :
    ∃ A cap, v = .slice A n cap ∧ (0 < n → ∃ g, A = some ⟨g, 0, none⟩ ∧ g < w.heap.size ∧ B ≤ g ∧ ∀ j u, xs[j]? = some u → w.cell? ⟨g, j, none⟩ = some u) ∧ (A = none → cap = 0 ∧ n = 0) ∧ n ≤ cap ∧ cap ≤ maxLen := by
  rcases h.2 with ⟨h1, h2⟩ | ⟨g, cap, cur, h1, h2, h3, h4, h5, _⟩
  · exact ⟨none, 0, by rw [h1, h2], fun h => by omega, fun _ => ⟨rfl, h2⟩, by omega, Nat.zero_le _⟩
  · subst h1
    exact ⟨some ⟨g, 0, none⟩, cap, rfl, fun _ => ⟨g, rfl, (Array.getElem?_eq_some_iff.1 h3).1, h2, fun j u hu => own_cell h hu⟩, fun h => (by cases h), h4, h5⟩
theorem own_less {B B' : Nat} {w : World} {e : TypeId} {size n : Nat} {v : Value} {xs : List Value} (h : w.ownsRow B e size v n xs) (hB : B' ≤ B) : w.ownsRow B' e size v n xs :=
  ⟨h.1, h.2.imp id fun ⟨g, cap, cur, e1, e2, e3⟩ => ⟨g, cap, cur, e1, Nat.le_trans hB e2, e3⟩⟩
theorem own_below {w w' : World} {B : Nat} {e : TypeId} {size n : Nat} {v : Value} {xs : List Value} (h : w.ownsRow B e size v n xs) (hb : Below w.heap.size w w') : w'.ownsRow B e size v n xs := h.kept (row := none) ⟨hb.os, hb.tape, hb.output, hb.size, fun k hk _ => hb.block k hk⟩ (by cases hv : v.ownBlock <;> simp)
theorem news_at (w : World) (cs : Array Value) (t : TypeId) (n : Nat) (hn : w.heap.size = n) : ∀ j u, cs.toList[j]? = some u → (w.alloc (.cells cs t)).cell? ((⟨n, 0, none⟩ : Addr).add j) = some u := by
  subst hn
  exact World.news_of_block (heap_alloc_new w _)
theorem take_data (s : ByteArray) (n : Nat) : (s.extract 0 n).data.toList = s.data.toList.take n := by
  rw [← Lib.toList_data, Lib.extract_toList]; simp
/-! ### what a step leaves as it was, by blocks' types -/
structure Kt (L : List TypeId) (w w' : World) : Prop where
  os : w'.os = w.os
  tape : w'.tape = w.tape
  output : w'.output = w.output
  size : w.heap.size ≤ w'.heap.size
  block : ∀ (k : Nat) (cs : Array Value) (t : TypeId) (f : Nat × Nat), w.heap[k]? = some (.cells cs t f) → t ∉ L → w'.heap[k]? = some (.cells cs t f)
theorem heap_lt {w : World} {k : Nat} {o : Obj} (h : w.heap[k]? = some o) : k < w.heap.size := by
  rcases Nat.lt_or_ge k w.heap.size with h' | h'
  · exact h'
  · rw [Array.getElem?_eq_none h'] at h; cases h
theorem Kt.refl (L : List TypeId) (w : World) : Kt L w w := ⟨rfl, rfl, rfl, Nat.le_refl _, fun _ _ _ _ h _ => h⟩
theorem Kt.trans {L : List TypeId} {w w1 w2 : World} (h1 : Kt L w w1) (h2 : Kt L w1 w2) : Kt L w w2 :=
  ⟨h2.os.trans h1.os, h2.tape.trans h1.tape, h2.output.trans h1.output, Nat.le_trans h1.size h2.size, fun k cs t f h a => h2.block k cs t f (h1.block k cs t f h a) a⟩
theorem Kt.of_below {L : List TypeId} {w w' : World} (h : Below w.heap.size w w') : Kt L w w' := ⟨h.os, h.tape, h.output, h.size, fun k _ _ _ hk _ => (h.block k (heap_lt hk)).trans hk⟩
theorem Kt.on {L : List TypeId} {w w1 w2 : World} (h1 : Kt L w w1) (h2 : Below w1.heap.size w1 w2) : Kt L w w2 := h1.trans (Kt.of_below h2)
theorem Kt.more {L M : List TypeId} {w w' : World} (h : Kt L w w') (hs : ∀ t, t ∈ L → t ∈ M) : Kt M w w' := ⟨h.os, h.tape, h.output, h.size, fun k cs t f hk a => h.block k cs t f hk (fun q => a (hs t q))⟩
theorem Kt.blk {L : List TypeId} {w w' : World} {g : Nat} {t : TypeId} {cs : Array Value} (hk : Kt L w w') (h : IsBlk w g t cs) (h1 : t ∉ L) : IsBlk w' g t cs := hk.block g cs t (0, 0) h h1
theorem Kt.own {L : List TypeId} {w w' : World} {B : Nat} {e : TypeId} {size n : Nat} {v : Value} {xs : List Value} (hk : Kt L w w') (h : w.ownsRow B e size v n xs) (h1 : e ∉ L) : w'.ownsRow B e size v n xs := by
  refine ⟨h.1, ?_⟩
  rcases h.2 with h3 | ⟨g, cap, cur, e1, e2, e3, e4⟩
  · exact Or.inl h3
  · exact Or.inr ⟨g, cap, cur, e1, e2, hk.block g _ _ _ e3 h1, e4⟩
theorem Kt.set {L : List TypeId} {w : World} {p : Addr} {cs : Array Value} {t : TypeId} {f : Nat × Nat} (h : w.heap[p.block]? = some (.cells cs t f)) (ht : t ∈ L) (u : Value) : Kt L w (w.setCell p u) :=
  ⟨rfl, rfl, rfl, by simp [World.setCell], fun k cs' t' f' hk a => by
    rw [Below.heap_setCell w p u k (fun e => by
      rw [e, h] at hk
      injection hk with hk
      injection hk with _ hk _
      rw [hk] at ht
      exact a ht)]
    exact hk⟩
theorem own_heap {w : World} {B : Nat} {e : TypeId} {size n : Nat} {v : Value} {xs : List Value} (h : w.ownsRow B e size v n xs) {g : Nat} (hg : v.ownBlock = some g) : B ≤ g ∧ g < w.heap.size ∧ ∃ cs, w.heap[g]? = some (.cells cs e (0, 0)) := by
  have := h.lt g hg
  refine ⟨this.1, this.2, ?_⟩
  rcases h.2 with ⟨rfl, _⟩ | ⟨g', cap, cur, rfl, _, hb, _⟩
  · cases hg
  · injection hg with hg
    simp only at hg
    subst hg
    exact ⟨_, hb⟩
theorem Kt.grown {L : List TypeId} {w w' : World} {B : Nat} {e : TypeId} {size n : Nat} {v : Value} {xs : List Value} (h : w.grownBy w' v.ownBlock) (ho : w.ownsRow B e size v n xs) (he : e ∈ L) : Kt L w w' :=
  ⟨h.os, h.tape, h.output, h.size, fun k cs t f hk a => by
    rw [h.block k (heap_lt hk) (fun q => by
      obtain ⟨_, _, cs2, h2⟩ := own_heap ho q.symm
      rw [hk] at h2
      injection h2 with h2
      injection h2 with _ h2
      exact a (h2 ▸ he))]
    exact hk⟩
theorem blk_apart {B' : Nat} {w : World} {e e' : TypeId} {size' n' r : Nat} {cs : Array Value} {v' : Value} {xs' : List Value} (h : IsBlk w r e cs) (h' : w.ownsRow B' e' size' v' n' xs') (hne : e ≠ e') : v'.ownBlock ≠ some r := fun hg' => by
  obtain ⟨_, _, cs', hb⟩ := own_heap h' hg'
  unfold IsBlk at h
  rw [h] at hb
  injection hb with hb
  injection hb with _ hb
  exact hne hb
theorem own_sliced {w : World} {B : Nat} {e : TypeId} {size n : Nat} {v : Value} {xs : List Value} (h : w.ownsRow B e size v n xs) : ∃ A c, v = .slice A n c ∧ n ≤ c ∧ c ≤ maxLen ∧ (0 < n → ∃ g, A = some ⟨g, 0, none⟩ ∧ B ≤ g ∧ g < w.heap.size) := by
  obtain ⟨A, c, e1, h1, h2, h3, h4⟩ := own_slice h
  exact ⟨A, c, e1, h3, h4, fun h0 => by obtain ⟨g, e, h5, h6, _⟩ := h1 h0; exact ⟨g, e, h6, h5⟩⟩
theorem own_set {w : World} {B : Nat} {e t : TypeId} {size n r : Nat} {v : Value} {xs : List Value} {cs : Array Value} (h : w.ownsRow B e size v n xs) (hb : IsBlk w r t cs) (hne : t ≠ e) (i : Nat) (u : Value) : (w.setCell ⟨r, i, none⟩ u).ownsRow B e size v n xs :=
  (Kt.set (L := [t]) (p := ⟨r, i, none⟩) hb (by simp) u).own h (by simpa using fun q => hne q.symm)
theorem own_short {w : World} {B : Nat} {e : TypeId} {size n m c : Nat} {A : Option Addr} {xs : List Value} (h : w.ownsRow B e size (.slice A n c) n xs) (hm : m ≤ n) : w.ownsRow B e size (.slice A m c) m (xs.take (m * size)) := by
  have hl := h.1
  refine ⟨by rw [List.length_take, hl]; exact Nat.min_eq_left (Nat.mul_le_mul_right _ hm), ?_⟩
  rcases h.2 with ⟨e1, e2⟩ | ⟨g, cap, cur, e1, e2, e3, e4, e5, e6, e7⟩
  · injection e1 with a1 a2 a3
    subst e2
    have hm0 : m = 0 := by omega
    exact Or.inl ⟨by rw [a1, hm0, a3], hm0⟩
  · injection e1 with a1 a2 a3
    subst a1 a3
    exact Or.inr ⟨g, c, cur, rfl, e2, e3, by omega, e5, e6, by rw [← e7, List.take_take, Nat.min_eq_left (Nat.mul_le_mul_right _ hm)]⟩
theorem fl_at {α : Type} {f : α → List Value} {k : Nat} (hf : ∀ x, (f x).length = k) : ∀ (l : List α) (i j : Nat) (hi : i < l.length), j < k → (l.flatMap f)[i * k + j]? = (f l[i])[j]?
  | [], i, _, hi, _ => by simp at hi
  | x :: l, 0, j, _, hj => by
    rw [List.flatMap_cons, Nat.zero_mul, Nat.zero_add, List.getElem?_append_left (by rw [hf]; exact hj)]; rfl
  | x :: l, i + 1, j, hi, hj => by
    rw [List.flatMap_cons, List.getElem?_append_right (by rw [hf, Nat.succ_mul]; omega), hf, show (i + 1) * k + j - k = i * k + j by rw [Nat.succ_mul]; omega, fl_at hf l i j (by simpa using hi) hj]; rfl
theorem fl_len {α : Type} {f : α → List Value} {k : Nat} (hf : ∀ x, (f x).length = k) : ∀ l : List α, (l.flatMap f).length = l.length * k
  | [] => by simp
  | x :: l => by rw [List.flatMap_cons, List.length_append, hf, fl_len hf l, List.length_cons, Nat.succ_mul]; omega
theorem fl_take {α : Type} {f : α → List Value} {k : Nat} (hf : ∀ x, (f x).length = k) : ∀ (l : List α) (m : Nat), (l.flatMap f).take (m * k) = (l.take m).flatMap f
  | [], m => by simp
  | x :: l, 0 => by simp
  | x :: l, m + 1 => by rw [List.flatMap_cons, List.take_succ_cons, List.flatMap_cons, List.take_append, hf, Nat.succ_mul, List.take_of_length_le (by rw [hf]; omega), show m * k + k - k = m * k by omega, fl_take hf l m]
end Go.Proofs.YtmmdigeciphglaaGreatDoor
