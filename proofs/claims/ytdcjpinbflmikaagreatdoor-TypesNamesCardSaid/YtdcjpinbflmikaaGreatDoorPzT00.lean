/- Facts and walks for the statement. -/
import Derived.WalkKit
import Derived.BigQuiet
import Derived.WalkSmall
import Derived.Lib.Bytealg
import Derived.Lib.IndexLaws
import Derived.Deep.AppendLies
import Derived.OwnWalk
import Derived.Lib.OthersKept
import Derived.Lib.Hide
namespace Go.Proofs.YtdcjpinbflmikaaGreatDoor
open Go.RowKit
def IsBlk (w : World) (g : Nat) (t : TypeId) (cs : Array Value) : Prop := w.heap[g]? = some (.cells cs t (0, 0))
theorem IsBlk.lt {w : World} {g : Nat} {t : TypeId} {cs : Array Value} (h : IsBlk w g t cs) : g < w.heap.size := by
  rcases Nat.lt_or_ge g w.heap.size with hlt | hge
  · exact hlt
  · unfold IsBlk at h; rw [Array.getElem?_eq_none hge] at h; cases h
theorem IsBlk.at_ {w : World} {g : Nat} {t : TypeId} {cs : Array Value} (h : IsBlk w g t cs) (i : Nat) : w.cell? ⟨g, i, none⟩ = cs[i]? := Lib.cell_of_heap h i
theorem IsBlk.fz {w : World} {g : Nat} {t : TypeId} {cs : Array Value} (h : IsBlk w g t cs) (i : Nat) : w.frozen? ⟨g, i, none⟩ = false := by
  unfold IsBlk at h; simp [World.frozen?, h]
theorem IsBlk.new (w : World) (t : TypeId) (cs : Array Value) : IsBlk (w.alloc (.cells cs t)) w.heap.size t cs := heap_alloc_new w _
theorem IsBlk.below {B : Nat} {w w' : World} {g : Nat} {t : TypeId} {cs : Array Value} (h : IsBlk w g t cs) (hb : Below B w w') (hg : g < B) : IsBlk w' g t cs := (hb.block g hg).trans h
theorem IsBlk.grown {w w' : World} {g : Nat} {t : TypeId} {cs : Array Value} {row : Option Nat} (h : IsBlk w g t cs) (hb : w.grownBy w' row) (hg : some g ≠ row) : IsBlk w' g t cs := (hb.block g h.lt hg).trans h
theorem IsBlk.set {w : World} {g : Nat} {t : TypeId} {cs : Array Value} (h : IsBlk w g t cs) (i : Nat) (u : Value) : IsBlk (w.setCell ⟨g, i, none⟩ u) g t (cs.setIfInBounds i u) := by
  unfold IsBlk at h ⊢
  simp [World.setCell, Array.getElem?_modify, h]
theorem IsBlk.far {w : World} {g : Nat} {t : TypeId} {cs : Array Value} (h : IsBlk w g t cs) {p : Addr} (hp : g ≠ p.block) (u : Value) : IsBlk (w.setCell p u) g t cs := (Below.heap_setCell w p u g hp).trans h
theorem below_drewN {B : Nat} {w w' : World} (h : Below B w w') (n : Nat) : Below B w (w'.drewN n) := ⟨h.os, h.tape, h.output, h.size, h.block⟩
theorem own_cell {w : World} {B : Nat} {e : TypeId} {size g n cap : Nat} {xs : List Value} (h : w.ownsRow B e size (.slice (some ⟨g, 0, none⟩) n cap) n xs) {j : Nat} {u : Value} (hu : xs[j]? = some u) : w.cell? ⟨g, j, none⟩ = some u := by
  have := h.cells (g := g) rfl j u hu
  have hadd : (⟨g, 0, none⟩ : Addr).add j = ⟨g, j, none⟩ := by unfold Addr.add; split <;> simp_all
  rwa [hadd] at this
theorem own_slice {w : World} {B : Nat} {e : TypeId} {size n : Nat} {v : Value} {xs : List Value} (h : w.ownsRow B e size v n xs) :
    ∃ A cap, v = .slice A n cap ∧ (0 < n → ∃ g, A = some ⟨g, 0, none⟩ ∧ g < w.heap.size ∧ B ≤ g ∧ ∀ j u, xs[j]? = some u → w.cell? ⟨g, j, none⟩ = some u) ∧ (A = none → cap = 0 ∧ n = 0) ∧ n ≤ cap ∧ cap ≤ maxLen := by
  rcases h.2 with ⟨h1, h2⟩ | ⟨g, cap, cur, h1, h2, h3, h4, h5, _⟩
  · exact ⟨none, 0, by rw [h1, h2], fun h => by omega, fun _ => ⟨rfl, h2⟩, by omega, Nat.zero_le _⟩
  · subst h1
    exact ⟨some ⟨g, 0, none⟩, cap, rfl, fun _ => ⟨g, rfl, (Array.getElem?_eq_some_iff.1 h3).1, h2, fun j u hu => own_cell h hu⟩, fun h => (by cases h), h4, h5⟩
theorem own_less {B B' : Nat} {w : World} {e : TypeId} {size n : Nat} {v : Value} {xs : List Value} (h : w.ownsRow B e size v n xs) (hB : B' ≤ B) : w.ownsRow B' e size v n xs :=
  ⟨h.1, h.2.imp id fun ⟨g, cap, cur, e1, e2, e3⟩ => ⟨g, cap, cur, e1, Nat.le_trans hB e2, e3⟩⟩
theorem own_below {w w' : World} {B : Nat} {e : TypeId} {size n : Nat} {v : Value} {xs : List Value} (h : w.ownsRow B e size v n xs) (hb : Below w.heap.size w w') : w'.ownsRow B e size v n xs := h.kept (row := none) ⟨hb.os, hb.tape, hb.output, hb.size, fun k hk _ => hb.block k hk⟩ (by cases hv : v.ownBlock <;> simp)
theorem news_at (w : World) (cs : Array Value) (t : TypeId) (n : Nat) (hn : w.heap.size = n) : ∀ j u, cs.toList[j]? = some u → (w.alloc (.cells cs t)).cell? ((⟨n, 0, none⟩ : Addr).add j) = some u := by
  subst hn
  exact World.news_of_block (heap_alloc_new w _)
theorem take_data (s : ByteArray) (n : Nat) : (s.extract 0 n).data.toList = s.data.toList.take n := by
  rw [← Lib.toList_data, Lib.extract_toList]; simp
/-! ### what a step leaves as it was, by blocks' types -/
structure Kt (L : List TypeId) (w w' : World) : Prop where
  os : w'.os = w.os
  tape : w'.tape = w.tape
  output : w'.output = w.output
  size : w.heap.size ≤ w'.heap.size
  block : ∀ (k : Nat) (cs : Array Value) (t : TypeId) (f : Nat × Nat), w.heap[k]? = some (.cells cs t f) → t ∉ L → w'.heap[k]? = some (.cells cs t f)
theorem heap_lt {w : World} {k : Nat} {o : Obj} (h : w.heap[k]? = some o) : k < w.heap.size := by
  rcases Nat.lt_or_ge k w.heap.size with h' | h'
  · exact h'
  · rw [Array.getElem?_eq_none h'] at h; cases h
theorem Kt.refl (L : List TypeId) (w : World) : Kt L w w := ⟨rfl, rfl, rfl, Nat.le_refl _, fun _ _ _ _ h _ => h⟩
theorem Kt.trans {L : List TypeId} {w w1 w2 : World} (h1 : Kt L w w1) (h2 : Kt L w1 w2) : Kt L w w2 :=
  ⟨h2.os.trans h1.os, h2.tape.trans h1.tape, h2.output.trans h1.output, Nat.le_trans h1.size h2.size, fun k cs t f h a => h2.block k cs t f (h1.block k cs t f h a) a⟩
theorem Kt.of_below {L : List TypeId} {w w' : World} (h : Below w.heap.size w w') : Kt L w w' := ⟨h.os, h.tape, h.output, h.size, fun k _ _ _ hk _ => (h.block k (heap_lt hk)).trans hk⟩
theorem Kt.on {L : List TypeId} {w w1 w2 : World} (h1 : Kt L w w1) (h2 : Below w1.heap.size w1 w2) : Kt L w w2 := h1.trans (Kt.of_below h2)
theorem Kt.more {L M : List TypeId} {w w' : World} (h : Kt L w w') (hs : ∀ t, t ∈ L → t ∈ M) : Kt M w w' := ⟨h.os, h.tape, h.output, h.size, fun k cs t f hk a => h.block k cs t f hk (fun q => a (hs t q))⟩
theorem Kt.blk {L : List TypeId} {w w' : World} {g : Nat} {t : TypeId} {cs : Array Value} (hk : Kt L w w') (h : IsBlk w g t cs) (h1 : t ∉ L) : IsBlk w' g t cs := hk.block g cs t (0, 0) h h1
theorem Kt.own {L : List TypeId} {w w' : World} {B : Nat} {e : TypeId} {size n : Nat} {v : Value} {xs : List Value} (hk : Kt L w w') (h : w.ownsRow B e size v n xs) (h1 : e ∉ L) : w'.ownsRow B e size v n xs := by
  refine ⟨h.1, ?_⟩
  rcases h.2 with h3 | ⟨g, cap, cur, e1, e2, e3, e4⟩
  · exact Or.inl h3
  · exact Or.inr ⟨g, cap, cur, e1, e2, hk.block g _ _ _ e3 h1, e4⟩
theorem Kt.set {L : List TypeId} {w : World} {p : Addr} {cs : Array Value} {t : TypeId} {f : Nat × Nat} (h : w.heap[p.block]? = some (.cells cs t f)) (ht : t ∈ L) (u : Value) : Kt L w (w.setCell p u) :=
  ⟨rfl, rfl, rfl, by simp [World.setCell], fun k cs' t' f' hk a => by
    rw [Below.heap_setCell w p u k (fun e => by
      rw [e, h] at hk
      injection hk with hk
      injection hk with _ hk _
      rw [hk] at ht
      exact a ht)]
    exact hk⟩
theorem own_heap {w : World} {B : Nat} {e : TypeId} {size n : Nat} {v : Value} {xs : List Value} (h : w.ownsRow B e size v n xs) {g : Nat} (hg : v.ownBlock = some g) : B ≤ g ∧ g < w.heap.size ∧ ∃ cs, w.heap[g]? = some (.cells cs e (0, 0)) := by
  have := h.lt g hg
  refine ⟨this.1, this.2, ?_⟩
  rcases h.2 with ⟨rfl, _⟩ | ⟨g', cap, cur, rfl, _, hb, _⟩
  · cases hg
  · injection hg with hg
    simp only at hg
    subst hg
    exact ⟨_, hb⟩
theorem Kt.grown {L : List TypeId} {w w' : World} {B : Nat} {e : TypeId} {size n : Nat} {v : Value} {xs : List Value} (h : w.grownBy w' v.ownBlock) (ho : w.ownsRow B e size v n xs) (he : e ∈ L) : Kt L w w' :=
  ⟨h.os, h.tape, h.output, h.size, fun k cs t f hk a => by
    rw [h.block k (heap_lt hk) (fun q => by
      obtain ⟨_, _, cs2, h2⟩ := own_heap ho q.symm
      rw [hk] at h2
      injection h2 with h2
      injection h2 with _ h2
      exact a (h2 ▸ he))]
    exact hk⟩
theorem blk_apart {B' : Nat} {w : World} {e e' : TypeId} {size' n' r : Nat} {cs : Array Value} {v' : Value} {xs' : List Value} (h : IsBlk w r e cs) (h' : w.ownsRow B' e' size' v' n' xs') (hne : e ≠ e') : v'.ownBlock ≠ some r := fun hg' => by
  obtain ⟨_, _, cs', hb⟩ := own_heap h' hg'
  unfold IsBlk at h
  rw [h] at hb
  injection hb with hb
  injection hb with _ hb
  exact hne hb
theorem own_sliced {w : World} {B : Nat} {e : TypeId} {size n : Nat} {v : Value} {xs : List Value} (h : w.ownsRow B e size v n xs) : ∃ A c, v = .slice A n c ∧ n ≤ c ∧ c ≤ maxLen ∧ (0 < n → ∃ g, A = some ⟨g, 0, none⟩ ∧ B ≤ g ∧ g < w.heap.size) := by
  obtain ⟨A, c, e1, h1, h2, h3, h4⟩ := own_slice h
  exact ⟨A, c, e1, h3, h4, fun h0 => by obtain ⟨g, e, h5, h6, _⟩ := h1 h0; exact ⟨g, e, h6, h5⟩⟩
theorem own_there {w : World} {B : Nat} {e : TypeId} {size g n c : Nat} {xs : List Value} (h : w.ownsRow B e size (.slice (some ⟨g, 0, none⟩) n c) n xs) {j : Nat} (hj : j < xs.length) : w.cell? ⟨g, j, none⟩ = some xs[j] ∧ w.frozen? ⟨g, j, none⟩ = false := by
  obtain ⟨_, _, cs, hb⟩ := own_heap h (g := g) rfl
  exact ⟨own_cell h (List.getElem?_eq_getElem hj), Lib.frozen_of_heap hb j⟩
theorem own_set {w : World} {B : Nat} {e t : TypeId} {size n r : Nat} {v : Value} {xs : List Value} {cs : Array Value} (h : w.ownsRow B e size v n xs) (hb : IsBlk w r t cs) (hne : t ≠ e) (i : Nat) (u : Value) : (w.setCell ⟨r, i, none⟩ u).ownsRow B e size v n xs :=
  (Kt.set (L := [t]) (p := ⟨r, i, none⟩) hb (by simp) u).own h (by simpa using fun q => hne q.symm)
theorem own_short {w : World} {B : Nat} {e : TypeId} {size n m c : Nat} {A : Option Addr} {xs : List Value} (h : w.ownsRow B e size (.slice A n c) n xs) (hm : m ≤ n) : w.ownsRow B e size (.slice A m c) m (xs.take (m * size)) := by
  have hl := h.1
  refine ⟨by rw [List.length_take, hl]; exact Nat.min_eq_left (Nat.mul_le_mul_right _ hm), ?_⟩
  rcases h.2 with ⟨e1, e2⟩ | ⟨g, cap, cur, e1, e2, e3, e4, e5, e6, e7⟩
  · injection e1 with a1 a2 a3
    subst e2
    have hm0 : m = 0 := by omega
    exact Or.inl ⟨by rw [a1, hm0, a3], hm0⟩
  · injection e1 with a1 a2 a3
    subst a1 a3
    exact Or.inr ⟨g, c, cur, rfl, e2, e3, by omega, e5, e6, by rw [← e7, List.take_take, Nat.min_eq_left (Nat.mul_le_mul_right _ hm)]⟩
theorem fl_at {α : Type} {f : α → List Value} {k : Nat} (hf : ∀ x, (f x).length = k) : ∀ (l : List α) (i j : Nat) (hi : i < l.length), j < k → (l.flatMap f)[i * k + j]? = (f l[i])[j]?
  | [], i, _, hi, _ => by simp at hi
  | x :: l, 0, j, _, hj => by
    rw [List.flatMap_cons, Nat.zero_mul, Nat.zero_add, List.getElem?_append_left (by rw [hf]; exact hj)]; rfl
  | x :: l, i + 1, j, hi, hj => by
    rw [List.flatMap_cons, List.getElem?_append_right (by rw [hf, Nat.succ_mul]; omega), hf, show (i + 1) * k + j - k = i * k + j by rw [Nat.succ_mul]; omega, fl_at hf l i j (by simpa using hi) hj]; rfl
theorem fl_len {α : Type} {f : α → List Value} {k : Nat} (hf : ∀ x, (f x).length = k) : ∀ l : List α, (l.flatMap f).length = l.length * k
  | [] => by simp
  | x :: l => by rw [List.flatMap_cons, List.length_append, hf, fl_len hf l, List.length_cons, Nat.succ_mul]; omega
theorem fl_take {α : Type} {f : α → List Value} {k : Nat} (hf : ∀ x, (f x).length = k) : ∀ (l : List α) (m : Nat), (l.flatMap f).take (m * k) = (l.take m).flatMap f
  | [], m => by simp
  | x :: l, 0 => by simp
  | x :: l, m + 1 => by rw [List.flatMap_cons, List.take_succ_cons, List.flatMap_cons, List.take_append, hf, Nat.succ_mul, List.take_of_length_le (by rw [hf]; omega), show m * k + k - k = m * k by omega, fl_take hf l m]
end Go.Proofs.YtdcjpinbflmikaaGreatDoor
namespace Go.Proofs.YtdcjpinbflmikaaGreatDoor
namespace Lx
def isD (c : UInt8) : Bool := decide (48 ≤ c.toNat ∧ c.toNat ≤ 57)
def isL (c : UInt8) : Bool := decide ((65 ≤ c.toNat ∧ c.toNat ≤ 90) ∨ (97 ≤ c.toNat ∧ c.toNat ≤ 122) ∨ c.toNat = 95)
def isN (c : UInt8) : Bool := isL c || isD c
def isB (c : UInt8) : Bool := decide (c.toNat = 9 ∨ c.toNat = 10 ∨ c.toNat = 13 ∨ c.toNat = 32)
def signs : List (List UInt8) := [[58, 61], [60, 62], [60, 61], [62, 61], [60], [62], [61], [43], [45], [42], [40], [41], [44], [59]]
def words : List (List UInt8) := [[97, 110, 100], [100, 105, 118], [101, 108, 115, 101], [101, 109, 105, 116], [101, 110, 100, 105, 102], [102, 97, 108, 115, 101], [105, 102], [105, 109, 112, 108, 105, 101, 115], [109, 111, 100], [110, 111, 116], [111, 114], [116, 104, 101, 110], [116, 114, 117, 101], [120, 111, 114]]
def lead (l : List UInt8) : Bool := match l with
  | [] => false
  | c :: _ => isL c
def whole (l : List UInt8) : Int :=
  if signs.contains l then 4 else if words.contains l then 3 else if l = [] then 0 else if l.all isD then 1 else if lead l && l.all isN then 2 else 0
def is (l : List UInt8) : Int := if 64 < l.length then 0 else whole l
def blk : Bool → List UInt8 → Nat
  | _, [] => 0
  | true, c :: r => if c.toNat = 10 then 1 + blk false r else 1 + blk true r
  | false, c :: r => if isB c then 1 + blk false r else if c.toNat = 45 ∧ r.head? = some 45 then 1 + blk true r else 0
theorem blk_le : ∀ (b : Bool) (l : List UInt8), blk b l ≤ l.length
  | _, [] => by simp [blk]
  | true, c :: r => by
    have h1 := blk_le false r
    have h2 := blk_le true r
    simp only [blk, List.length_cons]
    split <;> omega
  | false, c :: r => by
    have h1 := blk_le false r
    have h2 := blk_le true r
    simp only [blk, List.length_cons]
    split
    · omega
    · split <;> omega
def lngo (l : List UInt8) : Nat → Nat → Nat → Nat
  | 0, _, n => n
  | f + 1, k, n => if l.length < k then n else if 3 ≤ k ∧ n ≠ k - 1 then n else lngo l f (k + 1) (if whole (l.take k) ≠ 0 then k else n)
def lng (l : List UInt8) : Nat := lngo l (l.length + 1) 1 0
theorem lngo_le (l : List UInt8) : ∀ (f k n : Nat), n ≤ l.length → lngo l f k n ≤ l.length
  | 0, _, n, h => h
  | f + 1, k, n, h => by
    unfold lngo
    split
    · exact h
    · rename_i hk
      split
      · exact h
      · refine lngo_le l f _ _ ?_
        split
        · omega
        · exact h
theorem lng_le (l : List UInt8) : lng l ≤ l.length := lngo_le l _ _ _ (Nat.zero_le _)
structure T where
  k : Int
  tx : List UInt8
  p : Nat
def cut : Nat → List UInt8 → Nat → List T × Nat × Int
  | 0, _, _ => ([], 0, 0)
  | f + 1, l, p =>
    if l = [] then ([], 0, 0)
    else if lng l = 0 ∨ 64 < lng l then ([], p, 70)
    else
      let b := blk false (l.drop (lng l))
      let R := cut f (l.drop (lng l + b)) (p + lng l + b)
      if R.2.2 = 0 then (⟨whole (l.take (lng l)), l.take (lng l), p⟩ :: R.1, 0, 0) else ([], R.2.1, R.2.2)
def toks (l : List UInt8) : List T × Nat × Int :=
  if 65536 < l.length then ([], 0, 3) else cut (l.length + 1) (l.drop (blk false l)) (blk false l)
end Lx
end Go.Proofs.YtdcjpinbflmikaaGreatDoor
namespace Go.Proofs.YtdcjpinbflmikaaGreatDoor
namespace Ex
inductive E where
  | num (n : Nat)
  | name (s : List UInt8)
  | tt
  | ff
  | un (op : Nat) (a : E)
  | bin (op : Nat) (a b : E)
  | ite (a b c : E)
def opS : Nat → List UInt8
  | 5 => [45] | 6 => [110, 111, 116] | 7 => [42] | 8 => [100, 105, 118] | 9 => [109, 111, 100] | 10 => [43] | 11 => [45] | 12 => [60] | 13 => [60, 61] | 14 => [62] | 15 => [62, 61] | 16 => [61] | 17 => [60, 62] | 18 => [97, 110, 100] | 19 => [111, 114] | 20 => [120, 111, 114] | 21 => [105, 109, 112, 108, 105, 101, 115]
  | _ => []
def lvl : Nat → Nat
  | 5 => 9 | 6 => 9 | 7 => 8 | 8 => 8 | 9 => 8 | 10 => 7 | 11 => 7 | 12 => 6 | 13 => 6 | 14 => 6 | 15 => 6 | 16 => 5 | 17 => 5 | 18 => 4 | 19 => 3 | 20 => 2 | 21 => 1
  | _ => 10
def of2 (n : Nat) (s : List UInt8) : Nat := ((List.range 15).map (· + 7)).foldr (fun op r => if s ≠ [] ∧ opS op = s ∧ lvl op = n then op else r) 0
abbrev Tk := Int × List UInt8
def nx : List Tk → List UInt8
  | [] => []
  | t :: _ => if Lx.is t.2 = t.1 then t.2 else []
def kd : List Tk → Int
  | [] => 0
  | t :: _ => t.1
inductive Rs where
  | bad (left : Nat) (e : Int)
  | ok (r : List Tk) (x : E)
inductive Md where
  | lev (n : Nat)
  | loop (n : Nat) (a : E)
  | una
  | pri
  | bra
def numv (s : List UInt8) : Option Nat := let v := s.foldl (fun a c => a * 10 + (c.toNat - 48)) 0; if v ≤ 9223372036854775807 then some v else none
def then2 (x : Rs) (f : List Tk → E → Rs) : Rs := match x with
  | .bad l e => .bad l e
  | .ok r a => f r a
def eat (s : List UInt8) (r : List Tk) (f : List Tk → Rs) : Rs := if nx r = s then f r.tail else .bad r.length 80
def rd : Nat → Md → List Tk → Rs
  | 0, _, _ => .bad 0 0
  | f + 1, .lev n, ts =>
    if n = 10 then rd f .pri ts
    else if n = 9 then rd f .una ts
    else then2 (rd f (.lev (n + 1)) ts) (fun r a => rd f (.loop n a) r)
  | f + 1, .loop n a, ts =>
    if of2 n (nx ts) = 0 then .ok ts a
    else then2 (rd f (.lev (n + 1)) ts.tail) (fun r b => rd f (.loop n (.bin (of2 n (nx ts)) a b)) r)
  | f + 1, .una, ts =>
    if nx ts = [45] then then2 (rd f .una ts.tail) (fun r a => .ok r (.un 5 a))
    else if nx ts = [110, 111, 116] then then2 (rd f .una ts.tail) (fun r a => .ok r (.un 6 a))
    else rd f .pri ts
  | f + 1, .pri, ts =>
    if nx ts = [40] then then2 (rd f (.lev 1) ts.tail) (fun r a => eat [41] r (fun r => .ok r a))
    else if nx ts = [105, 102] then rd f .bra ts
    else if nx ts = [116, 114, 117, 101] then .ok ts.tail .tt
    else if nx ts = [102, 97, 108, 115, 101] then .ok ts.tail .ff
    else if nx ts ≠ [] ∧ kd ts = 1 then (match numv (nx ts) with
      | some v => .ok ts.tail (.num v)
      | none => .bad ts.length 60)
    else if nx ts ≠ [] ∧ kd ts = 2 then .ok ts.tail (.name (nx ts))
    else .bad ts.length 80
  | f + 1, .bra, ts =>
    then2 (rd f (.lev 1) ts.tail) (fun r a => eat [116, 104, 101, 110] r (fun r =>
      then2 (rd f (.lev 1) r) (fun r b => eat [101, 108, 115, 101] r (fun r =>
        then2 (rd f (.lev 1) r) (fun r c => eat [101, 110, 100, 105, 102] r (fun r => .ok r (.ite a b c)))))))
def rank : Md → Nat
  | .lev n => 14 - n
  | .loop _ _ => 1
  | .una => 4
  | .pri => 3
  | .bra => 2
def need (m : Md) (ts : List Tk) : Nat := 16 * ts.length + rank m
end Ex
end Go.Proofs.YtdcjpinbflmikaaGreatDoor
namespace Go.Proofs.YtdcjpinbflmikaaGreatDoor
namespace Ex
structure Nd where
  op : Int
  num : Int
  nm : List UInt8
  a : Int
  b : Int
  c : Int
def sz : E → Nat
  | .un _ a => sz a + 1
  | .bin _ a b => sz a + sz b + 1
  | .ite a b c => sz a + sz b + sz c + 1
  | _ => 1
def flat : E → Nat → List Nd
  | .num n, _ => [⟨1, n, [], -1, -1, -1⟩]
  | .name s, _ => [⟨2, 0, s, -1, -1, -1⟩]
  | .tt, _ => [⟨3, 0, [], -1, -1, -1⟩]
  | .ff, _ => [⟨4, 0, [], -1, -1, -1⟩]
  | .un op a, p => flat a p ++ [⟨op, 0, [], (p + sz a : Nat) - 1, -1, -1⟩]
  | .bin op a b, p => flat a p ++ flat b (p + sz a) ++ [⟨op, 0, [], (p + sz a : Nat) - 1, (p + sz a + sz b : Nat) - 1, -1⟩]
  | .ite a b c, p => flat a p ++ flat b (p + sz a) ++ flat c (p + sz a + sz b) ++ [⟨22, 0, [], (p + sz a : Nat) - 1, (p + sz a + sz b : Nat) - 1, (p + sz a + sz b + sz c : Nat) - 1⟩]
theorem flat_len : ∀ (x : E) (p : Nat), (flat x p).length = sz x
  | .num _, _ => rfl
  | .name _, _ => rfl
  | .tt, _ => rfl
  | .ff, _ => rfl
  | .un _ a, p => by simp [flat, sz, flat_len a]
  | .bin _ a b, p => by simp [flat, sz, flat_len a, flat_len b]; omega
  | .ite a b c, p => by simp [flat, sz, flat_len a, flat_len b, flat_len c]; omega
theorem sz_pos (x : E) : 1 ≤ sz x := by cases x <;> simp [sz]
def wr : E → Prop
  | .num _ => True
  | .name s => Lx.is s = 2
  | .tt => True
  | .ff => True
  | .un op a => (op = 5 ∨ op = 6) ∧ wr a
  | .bin op a b => 7 ≤ op ∧ op ≤ 21 ∧ wr a ∧ wr b
  | .ite a b c => wr a ∧ wr b ∧ wr c
def parts (op : Int) : Nat := if op ≤ 4 then 0 else if op ≤ 6 then 1 else if op ≤ 21 then 2 else 3
def right (n : Nd) : Bool := decide (1 ≤ n.op) && decide (n.op ≤ 22) && (decide (n.op = 1) || decide (n.num = 0)) && decide (0 ≤ n.num) && (if n.op = 2 then decide (Lx.is n.nm = 2) else decide (n.nm = []))
def part (bg : Int → Int) (pn k : Nat) (place last : Int) : Option Int :=
  if pn ≤ k then (if place = -1 then some last else none) else if place = last then (if bg last < 0 then none else some (bg last - 1)) else none
def bg : Nat → List Nd → Int → Int
  | 0, _, _ => -1
  | f + 1, l, at_ =>
    if at_ < 0 then -1 else
    match l[at_.toNat]? with
    | none => -1
    | some n => if right n = false then -1 else
      match part (bg f l) (parts n.op) 2 n.c (at_ - 1) with
      | none => -1
      | some l2 => match part (bg f l) (parts n.op) 1 n.b l2 with
        | none => -1
        | some l1 => match part (bg f l) (parts n.op) 0 n.a l1 with
          | none => -1
          | some l0 => l0 + 1
def At (l : List Nd) (s : Nat) (x : E) : Prop := (l.drop s).take (sz x) = flat x s ∧ s + sz x ≤ l.length
theorem At.split {l A B : List Nd} {s n : Nat} (hA : A.length = n) : (l.drop s).take (n + B.length) = A ++ B ↔ (l.drop s).take n = A ∧ (l.drop (s + n)).take B.length = B := by
  rw [List.take_add, List.drop_drop]
  constructor
  · intro h
    have h1 := congrArg (List.take n) h
    have h2 := congrArg (List.drop n) h
    rw [List.take_left' hA] at h1
    rw [List.drop_left' hA] at h2
    have hl : (List.take n (List.drop s l)).length = n := by
      have h3 := congrArg List.length h
      rw [List.length_append, List.length_append, hA] at h3
      have h4 : (List.take n (List.drop s l)).length ≤ n := by rw [List.length_take]; omega
      have h5 : (List.take B.length (List.drop (s + n) l)).length ≤ B.length := by rw [List.length_take]; omega
      omega
    rw [List.take_left' hl] at h1
    rw [List.drop_left' hl] at h2
    exact ⟨h1, h2⟩
  · rintro ⟨h1, h2⟩
    rw [h1, h2]
theorem at_one {l : List Nd} {s : Nat} {n : Nd} : (l.drop s).take 1 = [n] ↔ l[s]? = some n := by
  cases h : l[s]? with
  | none =>
    rw [List.drop_of_length_le (List.getElem?_eq_none_iff.1 h)]; simp
  | some m =>
    obtain ⟨hs, e⟩ := List.getElem?_eq_some_iff.1 h
    rw [List.drop_eq_getElem_cons hs, e]; simp
theorem part_none {bg : Int → Int} {pn k : Nat} (h : pn ≤ k) (last : Int) : part bg pn k (-1) last = some last := by
  unfold part
  rw [if_pos h, if_pos rfl]
theorem part_some {bg : Int → Int} {pn k : Nat} (h : k < pn) {last : Int} (hb : 0 ≤ bg last) : part bg pn k last last = some (bg last - 1) := by
  unfold part
  rw [if_neg (by omega), if_pos rfl, if_neg (by omega)]
theorem part_ok {bg : Int → Int} {pn k : Nat} {place last r : Int} (h : part bg pn k place last = some r) : (pn ≤ k ∧ place = -1 ∧ r = last) ∨ (k < pn ∧ place = last ∧ 0 ≤ bg last ∧ r = bg last - 1) := by
  unfold part at h
  split at h
  · rename_i h1
    split at h
    · rename_i h2; cases h; exact Or.inl ⟨h1, h2, rfl⟩
    · cases h
  · rename_i h1
    split at h
    · rename_i h2
      split at h
      · cases h
      · rename_i h3; cases h; exact Or.inr ⟨by omega, h2, by omega, rfl⟩
    · cases h
theorem bg_step {f : Nat} {l : List Nd} {i : Nat} {n : Nd} (hn : l[i]? = some n) (hr : right n = true) {l2 l1 l0 : Int} (h2 : part (bg f l) (parts n.op) 2 n.c ((i : Int) - 1) = some l2) (h1 : part (bg f l) (parts n.op) 1 n.b l2 = some l1) (h0 : part (bg f l) (parts n.op) 0 n.a l1 = some l0) : bg (f + 1) l i = l0 + 1 := by
  unfold bg
  rw [if_neg (by omega)]
  simp only [Int.toNat_natCast, hn]
  rw [if_neg (by rw [hr]; decide)]
  simp only [h2, h1, h0]
theorem at_un {l : List Nd} {s op : Nat} {a : E} (h : At l s (.un op a)) : At l s a ∧ l[s + sz a]? = some ⟨op, 0, [], (s + sz a : Nat) - 1, -1, -1⟩ := by
  obtain ⟨h1, h2⟩ := h
  simp only [sz, flat] at h1 h2
  obtain ⟨k1, k2⟩ := (At.split (flat_len a s)).1 (show (l.drop s).take (sz a + [_].length) = _ from h1)
  exact ⟨⟨k1, by omega⟩, at_one.1 k2⟩
theorem at_bin {l : List Nd} {s op : Nat} {a b : E} (h : At l s (.bin op a b)) : At l s a ∧ At l (s + sz a) b ∧ l[s + sz a + sz b]? = some ⟨op, 0, [], (s + sz a : Nat) - 1, (s + sz a + sz b : Nat) - 1, -1⟩ := by
  obtain ⟨h1, h2⟩ := h
  simp only [sz, flat] at h1 h2
  obtain ⟨k1, k2⟩ := (At.split (n := sz a + sz b) (by rw [List.length_append, flat_len, flat_len])).1 (show (l.drop s).take (sz a + sz b + [_].length) = _ from h1)
  obtain ⟨q1, q2⟩ := (At.split (flat_len a s)).1 (show (l.drop s).take (sz a + (flat b (s + sz a)).length) = _ from by rw [flat_len]; exact k1)
  rw [flat_len] at q2
  exact ⟨⟨q1, by omega⟩, ⟨q2, by omega⟩, by have k3 := at_one.1 k2; rw [← Nat.add_assoc] at k3; exact k3⟩
theorem at_ite {l : List Nd} {s : Nat} {a b c : E} (h : At l s (.ite a b c)) : At l s a ∧ At l (s + sz a) b ∧ At l (s + sz a + sz b) c ∧ l[s + sz a + sz b + sz c]? = some ⟨22, 0, [], (s + sz a : Nat) - 1, (s + sz a + sz b : Nat) - 1, (s + sz a + sz b + sz c : Nat) - 1⟩ := by
  obtain ⟨h1, h2⟩ := h
  simp only [sz, flat] at h1 h2
  obtain ⟨k1, k2⟩ := (At.split (n := sz a + sz b + sz c) (by rw [List.length_append, List.length_append, flat_len, flat_len, flat_len])).1 (show (l.drop s).take (sz a + sz b + sz c + [_].length) = _ from h1)
  obtain ⟨p1, p2⟩ := (At.split (n := sz a + sz b) (A := flat a s ++ flat b (s + sz a)) (by rw [List.length_append, flat_len, flat_len])).1 (show (l.drop s).take (sz a + sz b + (flat c (s + sz a + sz b)).length) = _ from by rw [flat_len]; exact k1)
  obtain ⟨q1, q2⟩ := (At.split (flat_len a s)).1 (show (l.drop s).take (sz a + (flat b (s + sz a)).length) = _ from by rw [flat_len]; exact p1)
  rw [flat_len] at q2 p2
  exact ⟨⟨q1, by omega⟩, ⟨q2, by omega⟩, ⟨by rw [← Nat.add_assoc] at p2; exact p2, by omega⟩, by have k3 := at_one.1 k2; rw [show s + (sz a + sz b + sz c) = s + sz a + sz b + sz c by omega] at k3; exact k3⟩
theorem right_op {op a b c : Int} (h1 : 3 ≤ op) (h2 : op ≤ 22) : right ⟨op, 0, [], a, b, c⟩ = true := by
  unfold right
  simp only
  rw [if_neg (by omega)]
  simp; omega
theorem bg_at {l : List Nd} : ∀ (x : E) (s f : Nat), At l s x → wr x → sz x ≤ f → bg f l ((s + sz x : Nat) - 1) = s
  | x, s, 0, _, _, h => absurd h (by have := sz_pos x; omega)
  | .num n, s, f + 1, h, _, _ => by
    have hn := at_one.1 h.1
    rw [show ((s + sz (.num n) : Nat) : Int) - 1 = (s : Int) by simp only [sz]; omega]
    rw [bg_step hn (by unfold right; simp) (part_none (show parts 1 ≤ 2 by decide) _) (part_none (show parts 1 ≤ 1 by decide) _) (part_none (show parts 1 ≤ 0 by decide) _)]
    omega
  | .name t, s, f + 1, h, w, _ => by
    have hn := at_one.1 h.1
    have w : Lx.is t = 2 := w
    rw [show ((s + sz (.name t) : Nat) : Int) - 1 = (s : Int) by simp only [sz]; omega]
    rw [bg_step hn (by unfold right; simp [w]) (part_none (show parts 2 ≤ 2 by decide) _) (part_none (show parts 2 ≤ 1 by decide) _) (part_none (show parts 2 ≤ 0 by decide) _)]
    omega
  | .tt, s, f + 1, h, _, _ => by
    have hn := at_one.1 h.1
    rw [show ((s + sz .tt : Nat) : Int) - 1 = (s : Int) by simp only [sz]; omega]
    rw [bg_step hn (by decide) (part_none (by decide) _) (part_none (by decide) _) (part_none (by decide) _)]
    omega
  | .ff, s, f + 1, h, _, _ => by
    have hn := at_one.1 h.1
    rw [show ((s + sz .ff : Nat) : Int) - 1 = (s : Int) by simp only [sz]; omega]
    rw [bg_step hn (by decide) (part_none (by decide) _) (part_none (by decide) _) (part_none (by decide) _)]
    omega
  | .un op a, s, f + 1, h, w, hf => by
    simp only [sz] at hf
    obtain ⟨ha, hn⟩ := at_un h
    have e := bg_at a s f ha w.2 (by omega)
    have hp : parts (op : Int) = 1 := by rcases w.1 with q | q <;> subst q <;> rfl
    rw [show ((s + sz (.un op a) : Nat) : Int) - 1 = ((s + sz a : Nat) : Int) by simp only [sz]; omega]
    have hop : 5 ≤ op ∧ op ≤ 6 := by rcases w.1 with q | q <;> omega
    rw [bg_step hn (right_op (by omega) (by omega)) (by rw [hp]; exact part_none (by decide) _) (by rw [hp]; exact part_none (by decide) _) (by rw [hp]; exact part_some (by decide) (by rw [e]; omega)), e]
    omega
  | .bin op a b, s, f + 1, h, w, hf => by
    simp only [sz] at hf
    obtain ⟨w1, w2, wa, wb⟩ := w
    obtain ⟨ha, hb, hn⟩ := at_bin h
    have ea := bg_at a s f ha wa (by omega)
    have eb := bg_at b (s + sz a) f hb wb (by omega)
    have hp : parts (op : Int) = 2 := by unfold parts; rw [if_neg (by omega), if_neg (by omega), if_pos (by omega)]
    rw [show ((s + sz (.bin op a b) : Nat) : Int) - 1 = ((s + sz a + sz b : Nat) : Int) by simp only [sz]; omega]
    rw [bg_step hn (right_op (by omega) (by omega)) (by rw [hp]; exact part_none (by decide) _) (by rw [hp]; exact part_some (by decide) (by rw [eb]; omega)) (by rw [hp, eb]; exact part_some (by decide) (by rw [ea]; omega)), ea]
    omega
  | .ite a b c, s, f + 1, h, w, hf => by
    simp only [sz] at hf
    obtain ⟨wa, wb, wc⟩ := w
    obtain ⟨ha, hb, hc, hn⟩ := at_ite h
    have ea := bg_at a s f ha wa (by omega)
    have eb := bg_at b (s + sz a) f hb wb (by omega)
    have ec := bg_at c (s + sz a + sz b) f hc wc (by omega)
    rw [show ((s + sz (.ite a b c) : Nat) : Int) - 1 = ((s + sz a + sz b + sz c : Nat) : Int) by simp only [sz]; omega]
    rw [bg_step hn (right_op (by decide) (by decide)) (part_some (show 2 < parts 22 by decide) (by rw [ec]; omega)) (by rw [ec]; exact part_some (show 1 < parts 22 by decide) (by rw [eb]; omega)) (by rw [eb]; exact part_some (show 0 < parts 22 by decide) (by rw [ea]; omega)), ea]
    omega
end Ex
end Go.Proofs.YtdcjpinbflmikaaGreatDoor
