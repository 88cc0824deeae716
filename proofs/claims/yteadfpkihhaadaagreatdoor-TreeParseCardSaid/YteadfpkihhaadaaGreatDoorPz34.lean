/- Facts and walks for the statement. -/
import Derived.Test.YteadfpkihhaadaaGreatDoorPz33
namespace Go.Proofs.YteadfpkihhaadaaGreatDoor
open Go.RowKit Go.Shelf
namespace Tr
def insAt (d : List At) (a : At) (q : Nat) : List At := d.take q ++ a :: d.drop q
theorem insAt_len (d : List At) (a : At) (q : Nat) : (insAt d a q).length = d.length + 1 := by
 unfold insAt
 rw [List.length_append, List.length_cons, List.length_take, List.length_drop]; omega
theorem insAt_end (d : List At) (a : At) : insAt d a d.length = d ++ [a] := by
 unfold insAt; rw [List.take_length, List.drop_length]
theorem insAt_perm (d : List At) (a : At) (q : Nat) : (insAt d a q).Perm (a :: d) := by
 unfold insAt
 have h := (List.perm_middle (l₁ := d.take q) (a := a) (l₂ := d.drop q))
 rwa [List.take_append_drop] at h
theorem insAt_at (d : List At) (a : At) (q : Nat) (hq : q ≤ d.length) : (insAt d a q)[q]? = some a := by
 unfold insAt
 rw [List.getElem?_append_right (by rw [List.length_take]; omega), List.length_take, Nat.min_eq_left hq, Nat.sub_self]; rfl
theorem insAt_before (d : List At) (a : At) (q : Nat) (hq : q < d.length) : (insAt d a (q + 1))[q]? = some d[q] := by
 unfold insAt
 rw [List.getElem?_append_left (by rw [List.length_take]; omega), List.getElem?_take, if_pos (by omega), List.getElem?_eq_getElem hq]
theorem insAt_strict {d : List At} {a : At} {q : Nat} (hd : Strict d) (hq : q ≤ d.length) (hb : ∀ x ∈ d.drop q, lt a.1 x.1 = true) (ha : ∀ (h : 0 < q), lt (d[q - 1]'(by omega)).1 a.1 = true) : Strict (insAt d a q) := by
 unfold Strict insAt at *
 rw [List.pairwise_append]
 refine ⟨hd.sublist (List.take_sublist _ _), List.pairwise_cons.2 ⟨hb, hd.sublist (List.drop_sublist _ _)⟩, ?_⟩
 intro x hx y hy
 obtain ⟨j, hj, rfl⟩ := List.getElem_of_mem hx
 rw [List.length_take] at hj
 have hxa : lt ((d.take q)[j]'(by rw [List.length_take]; exact hj)).1 a.1 = true := by
  rw [List.getElem_take]
  by_cases e : j = q - 1
  ·subst e; exact ha (by omega)
  ·exact lt_trans (List.pairwise_iff_getElem.1 hd j (q - 1) (by omega) (by omega) (by omega)) (ha (by omega))
 rcases List.mem_cons.1 hy with rfl | hy
 ·exact hxa
 ·exact lt_trans hxa (hb y hy)
theorem insAt_dup {d al0 : List At} {a : At} {q k : Nat} (hp : d.Perm (al0.take k)) (hk : k < al0.length) (ha : al0[k] = a) (hq : q < d.length) (he : d[q].1 = a.1) : rising (srt al0) = false := by
 rw [Bool.eq_false_iff]
 intro h
 rw [rising_iff, strict_iff (srt_up al0)] at h
 have h2 := ((srt_perm al0).map (·.1)).nodup_iff.1 h
 rw [← List.take_append_drop k al0, List.map_append, List.nodup_append] at h2
 refine h2.2.2 d[q].1 (List.mem_map_of_mem (hp.mem_iff.1 (List.getElem_mem hq))) a.1 ?_ he
 rw [List.drop_eq_getElem_cons hk, ha]
 exact List.mem_map_of_mem List.mem_cons_self
end Tr
theorem set4 (Y : List Value) (x0 x1 x2 x3 u0 u1 u2 u3 : Value) : ∀ (X : List Value) (n : Nat), n = X.length → ((((X ++ x0 :: x1 :: x2 :: x3 :: Y).set n u0).set (n + 1) u1).set (n + 2) u2).set (n + 3) u3 = X ++ u0 :: u1 :: u2 :: u3 :: Y
 | [], _, rfl => rfl
 | x :: X, _, rfl => by
  have h := set4 Y x0 x1 x2 x3 u0 u1 u2 u3 X X.length rfl
  simp only [List.cons_append, List.length_cons, List.set_cons_succ, Nat.add_right_comm _ 1] at h ⊢
  rw [h]
theorem swap4 (d : List Tr.At) (a : Tr.At) (q : Nat) (hq : q < d.length) :
  ((((attrV (Tr.insAt d a (q + 1))).set (q * 2) (.string ⟨a.1.toArray⟩)).set (q * 2 + 1) (.string ⟨a.2.toArray⟩)).set (q * 2 + 2) (.string ⟨d[q].1.toArray⟩)).set (q * 2 + 3) (.string ⟨d[q].2.toArray⟩) = attrV (Tr.insAt d a q) := by
 have e1 : Tr.insAt d a (q + 1) = d.take q ++ d[q] :: a :: d.drop (q + 1) := by
  unfold Tr.insAt
  rw [List.take_succ_eq_append_getElem hq, List.append_assoc]; rfl
 have e2 : Tr.insAt d a q = d.take q ++ a :: d[q] :: d.drop (q + 1) := by
  unfold Tr.insAt
  rw [List.drop_eq_getElem_cons hq]
 rw [e1, e2]
 have f : ∀ (X Y : List Tr.At) (x y : Tr.At), attrV (X ++ x :: y :: Y) = attrV X ++ .string ⟨x.1.toArray⟩ :: .string ⟨x.2.toArray⟩ :: .string ⟨y.1.toArray⟩ :: .string ⟨y.2.toArray⟩ :: attrV Y := fun X Y x y => by
  unfold attrV; simp
 rw [f, f]
 exact set4 _ _ _ _ _ _ _ _ _ _ _ (by unfold attrV; rw [fl_len (k := 2) (fun _ => rfl), List.length_take, Nat.min_eq_left (Nat.le_of_lt hq)])
def SrtP (al0 : List Tr.At) (w : World) (e : Ending) (w' : World) : Prop :=
 ∃ v, e = .returned (.tuple #[v, .bool (Tr.rising (Tr.srt al0))]) ∧ (Tr.rising (Tr.srt al0) = true → OwnA5 w.heap.size w' v (Tr.srt al0)) ∧ Below w.heap.size w w'
structure SrO (B : Nat) (al0 : List Tr.At) (w wr : World) (k : Nat) (v : Value) (d : List Tr.At) : Prop where
 below : Below B w wr
 own : OwnA5 B wr v d
 str : Tr.Strict d
 perm : d.Perm (al0.take k)
structure SrI (B : Nat) (w wr : World) (v : Value) (d : List Tr.At) (a : Tr.At) (q : Nat) : Prop where
 below : Below B w wr
 own : OwnA5 B wr v (Tr.insAt d a q)
 gt : ∀ x ∈ d.drop q, Tr.lt a.1 x.1 = true
theorem SrO.len {B : Nat} {al0 : List Tr.At} {w wr : World} {k : Nat} {v : Value} {d : List Tr.At} (h : SrO B al0 w wr k v d) (hk : k ≤ al0.length) : d.length = k := by
 rw [h.perm.length_eq, List.length_take]; omega
theorem SrO.fin {B : Nat} {al0 : List Tr.At} {w wr : World} {k : Nat} {v : Value} {d : List Tr.At} (h : SrO B al0 w wr k v d) (hk : al0.length ≤ k) : Tr.rising (Tr.srt al0) = true ∧ OwnA5 B wr v (Tr.srt al0) := by
 have hp := h.perm
 rw [List.take_of_length_le hk] at hp
 have hr := (Tr.rising_iff d).2 h.str
 have hu : Tr.Up d := h.str.imp fun {a b} hab => Tr.lt_asymm hab
 obtain ⟨e1, e2⟩ := Tr.sort_tells hp hu
 refine ⟨e1 ▸ hr, ?_⟩
 rw [← e2 hr]; exact h.own
end Go.Proofs.YteadfpkihhaadaaGreatDoor
