/- Plain facts on expressions: rows of nodes, and which are an expression's. No program is named here; no condition. -/
import Derived.Test.YtdcjpinbflmikaaGreatDoorExPlain
namespace Go.Proofs.YtdcjpinbflmikaaGreatDoor
namespace Ex

structure Nd where
  op : Int
  num : Int
  nm : List UInt8
  a : Int
  b : Int
  c : Int
def sz : E → Nat
  | .un _ a => sz a + 1
  | .bin _ a b => sz a + sz b + 1
  | .ite a b c => sz a + sz b + sz c + 1
  | _ => 1
/-- The nodes of an expression, from a place on. -/
def flat : E → Nat → List Nd
  | .num n, _ => [⟨1, n, [], -1, -1, -1⟩]
  | .name s, _ => [⟨2, 0, s, -1, -1, -1⟩]
  | .tt, _ => [⟨3, 0, [], -1, -1, -1⟩]
  | .ff, _ => [⟨4, 0, [], -1, -1, -1⟩]
  | .un op a, p => flat a p ++ [⟨op, 0, [], (p + sz a : Nat) - 1, -1, -1⟩]
  | .bin op a b, p => flat a p ++ flat b (p + sz a) ++ [⟨op, 0, [], (p + sz a : Nat) - 1, (p + sz a + sz b : Nat) - 1, -1⟩]
  | .ite a b c, p => flat a p ++ flat b (p + sz a) ++ flat c (p + sz a + sz b) ++ [⟨22, 0, [], (p + sz a : Nat) - 1, (p + sz a + sz b : Nat) - 1, (p + sz a + sz b + sz c : Nat) - 1⟩]
theorem flat_len : ∀ (x : E) (p : Nat), (flat x p).length = sz x
  | .num _, _ => rfl
  | .name _, _ => rfl
  | .tt, _ => rfl
  | .ff, _ => rfl
  | .un _ a, p => by simp [flat, sz, flat_len a]
  | .bin _ a b, p => by simp [flat, sz, flat_len a, flat_len b]; omega
  | .ite a b c, p => by simp [flat, sz, flat_len a, flat_len b, flat_len c]; omega
theorem sz_pos (x : E) : 1 ≤ sz x := by cases x <;> simp [sz]
/-- One that a right row may be of. -/
def wr : E → Prop
  | .num _ => True
  | .name s => Lx.is s = 2
  | .tt => True
  | .ff => True
  | .un op a => (op = 5 ∨ op = 6) ∧ wr a
  | .bin op a b => 7 ≤ op ∧ op ≤ 21 ∧ wr a ∧ wr b
  | .ite a b c => wr a ∧ wr b ∧ wr c
def parts (op : Int) : Nat := if op ≤ 4 then 0 else if op ≤ 6 then 1 else if op ≤ 21 then 2 else 3
def right (n : Nd) : Bool := decide (1 ≤ n.op) && decide (n.op ≤ 22) && (decide (n.op = 1) || decide (n.num = 0)) && decide (0 ≤ n.num) && (if n.op = 2 then decide (Lx.is n.nm = 2) else decide (n.nm = []))
/-- A part's place, and where its row begins (of one ahead of it). -/
def part (bg : Int → Int) (pn k : Nat) (place last : Int) : Option Int :=
  if pn ≤ k then (if place = -1 then some last else none) else if place = last then (if bg last < 0 then none else some (bg last - 1)) else none
/-- Where the row of the expression begins whose last node stands at a place; -1: it is none. -/
def bg : Nat → List Nd → Int → Int
  | 0, _, _ => -1
  | f + 1, l, at_ =>
    if at_ < 0 then -1 else
    match l[at_.toNat]? with
    | none => -1
    | some n => if right n = false then -1 else
      match part (bg f l) (parts n.op) 2 n.c (at_ - 1) with
      | none => -1
      | some l2 => match part (bg f l) (parts n.op) 1 n.b l2 with
        | none => -1
        | some l1 => match part (bg f l) (parts n.op) 0 n.a l1 with
          | none => -1
          | some l0 => l0 + 1
/-- The nodes from a place on are an expression's. -/
def At (l : List Nd) (s : Nat) (x : E) : Prop := (l.drop s).take (sz x) = flat x s ∧ s + sz x ≤ l.length
theorem At.split {l A B : List Nd} {s n : Nat} (hA : A.length = n) : (l.drop s).take (n + B.length) = A ++ B ↔ (l.drop s).take n = A ∧ (l.drop (s + n)).take B.length = B := by
  rw [List.take_add, List.drop_drop]
  constructor
  · intro h
    have h1 := congrArg (List.take n) h
    have h2 := congrArg (List.drop n) h
    rw [List.take_left' hA] at h1
    rw [List.drop_left' hA] at h2
    have hl : (List.take n (List.drop s l)).length = n := by
      have h3 := congrArg List.length h
      rw [List.length_append, List.length_append, hA] at h3
      have h4 : (List.take n (List.drop s l)).length ≤ n := by rw [List.length_take]; omega
      have h5 : (List.take B.length (List.drop (s + n) l)).length ≤ B.length := by rw [List.length_take]; omega
      omega
    rw [List.take_left' hl] at h1
    rw [List.drop_left' hl] at h2
    exact ⟨h1, h2⟩
  · rintro ⟨h1, h2⟩
    rw [h1, h2]
theorem at_one {l : List Nd} {s : Nat} {n : Nd} : (l.drop s).take 1 = [n] ↔ l[s]? = some n := by
  cases h : l[s]? with
  | none =>
    rw [List.drop_of_length_le (List.getElem?_eq_none_iff.1 h)]; simp
  | some m =>
    obtain ⟨hs, e⟩ := List.getElem?_eq_some_iff.1 h
    rw [List.drop_eq_getElem_cons hs, e]; simp
theorem part_none {bg : Int → Int} {pn k : Nat} (h : pn ≤ k) (last : Int) : part bg pn k (-1) last = some last := by
  unfold part
  rw [if_pos h, if_pos rfl]
theorem part_some {bg : Int → Int} {pn k : Nat} (h : k < pn) {last : Int} (hb : 0 ≤ bg last) : part bg pn k last last = some (bg last - 1) := by
  unfold part
  rw [if_neg (by omega), if_pos rfl, if_neg (by omega)]
theorem part_ok {bg : Int → Int} {pn k : Nat} {place last r : Int} (h : part bg pn k place last = some r) : (pn ≤ k ∧ place = -1 ∧ r = last) ∨ (k < pn ∧ place = last ∧ 0 ≤ bg last ∧ r = bg last - 1) := by
  unfold part at h
  split at h
  · rename_i h1
    split at h
    · rename_i h2; cases h; exact Or.inl ⟨h1, h2, rfl⟩
    · cases h
  · rename_i h1
    split at h
    · rename_i h2
      split at h
      · cases h
      · rename_i h3; cases h; exact Or.inr ⟨by omega, h2, by omega, rfl⟩
    · cases h
theorem bg_step {f : Nat} {l : List Nd} {i : Nat} {n : Nd} (hn : l[i]? = some n) (hr : right n = true) {l2 l1 l0 : Int} (h2 : part (bg f l) (parts n.op) 2 n.c ((i : Int) - 1) = some l2) (h1 : part (bg f l) (parts n.op) 1 n.b l2 = some l1) (h0 : part (bg f l) (parts n.op) 0 n.a l1 = some l0) : bg (f + 1) l i = l0 + 1 := by
  unfold bg
  rw [if_neg (by omega)]
  simp only [Int.toNat_natCast, hn]
  rw [if_neg (by rw [hr]; decide)]
  simp only [h2, h1, h0]
theorem at_un {l : List Nd} {s op : Nat} {a : E} (h : At l s (.un op a)) : At l s a ∧ l[s + sz a]? = some ⟨op, 0, [], (s + sz a : Nat) - 1, -1, -1⟩ := by
  obtain ⟨h1, h2⟩ := h
  simp only [sz, flat] at h1 h2
  obtain ⟨k1, k2⟩ := (At.split (flat_len a s)).1 (show (l.drop s).take (sz a + [_].length) = _ from h1)
  exact ⟨⟨k1, by omega⟩, at_one.1 k2⟩
theorem at_bin {l : List Nd} {s op : Nat} {a b : E} (h : At l s (.bin op a b)) : At l s a ∧ At l (s + sz a) b ∧ l[s + sz a + sz b]? = some ⟨op, 0, [], (s + sz a : Nat) - 1, (s + sz a + sz b : Nat) - 1, -1⟩ := by
  obtain ⟨h1, h2⟩ := h
  simp only [sz, flat] at h1 h2
  obtain ⟨k1, k2⟩ := (At.split (n := sz a + sz b) (by rw [List.length_append, flat_len, flat_len])).1 (show (l.drop s).take (sz a + sz b + [_].length) = _ from h1)
  obtain ⟨q1, q2⟩ := (At.split (flat_len a s)).1 (show (l.drop s).take (sz a + (flat b (s + sz a)).length) = _ from by rw [flat_len]; exact k1)
  rw [flat_len] at q2
  exact ⟨⟨q1, by omega⟩, ⟨q2, by omega⟩, by have k3 := at_one.1 k2; rw [← Nat.add_assoc] at k3; exact k3⟩
theorem at_ite {l : List Nd} {s : Nat} {a b c : E} (h : At l s (.ite a b c)) : At l s a ∧ At l (s + sz a) b ∧ At l (s + sz a + sz b) c ∧ l[s + sz a + sz b + sz c]? = some ⟨22, 0, [], (s + sz a : Nat) - 1, (s + sz a + sz b : Nat) - 1, (s + sz a + sz b + sz c : Nat) - 1⟩ := by
  obtain ⟨h1, h2⟩ := h
  simp only [sz, flat] at h1 h2
  obtain ⟨k1, k2⟩ := (At.split (n := sz a + sz b + sz c) (by rw [List.length_append, List.length_append, flat_len, flat_len, flat_len])).1 (show (l.drop s).take (sz a + sz b + sz c + [_].length) = _ from h1)
  obtain ⟨p1, p2⟩ := (At.split (n := sz a + sz b) (A := flat a s ++ flat b (s + sz a)) (by rw [List.length_append, flat_len, flat_len])).1 (show (l.drop s).take (sz a + sz b + (flat c (s + sz a + sz b)).length) = _ from by rw [flat_len]; exact k1)
  obtain ⟨q1, q2⟩ := (At.split (flat_len a s)).1 (show (l.drop s).take (sz a + (flat b (s + sz a)).length) = _ from by rw [flat_len]; exact p1)
  rw [flat_len] at q2 p2
  exact ⟨⟨q1, by omega⟩, ⟨q2, by omega⟩, ⟨by rw [← Nat.add_assoc] at p2; exact p2, by omega⟩, by have k3 := at_one.1 k2; rw [show s + (sz a + sz b + sz c) = s + sz a + sz b + sz c by omega] at k3; exact k3⟩
theorem right_op {op a b c : Int} (h1 : 3 ≤ op) (h2 : op ≤ 22) : right ⟨op, 0, [], a, b, c⟩ = true := by
  unfold right
  simp only
  rw [if_neg (by omega)]
  simp; omega
/-- An expression's row is told. -/
theorem bg_at {l : List Nd} : ∀ (x : E) (s f : Nat), At l s x → wr x → sz x ≤ f → bg f l ((s + sz x : Nat) - 1) = s
  | x, s, 0, _, _, h => absurd h (by have := sz_pos x; omega)
  | .num n, s, f + 1, h, _, _ => by
    have hn := at_one.1 h.1
    rw [show ((s + sz (.num n) : Nat) : Int) - 1 = (s : Int) by simp only [sz]; omega]
    rw [bg_step hn (by unfold right; simp) (part_none (show parts 1 ≤ 2 by decide) _) (part_none (show parts 1 ≤ 1 by decide) _) (part_none (show parts 1 ≤ 0 by decide) _)]
    omega
  | .name t, s, f + 1, h, w, _ => by
    have hn := at_one.1 h.1
    have w : Lx.is t = 2 := w
    rw [show ((s + sz (.name t) : Nat) : Int) - 1 = (s : Int) by simp only [sz]; omega]
    rw [bg_step hn (by unfold right; simp [w]) (part_none (show parts 2 ≤ 2 by decide) _) (part_none (show parts 2 ≤ 1 by decide) _) (part_none (show parts 2 ≤ 0 by decide) _)]
    omega
  | .tt, s, f + 1, h, _, _ => by
    have hn := at_one.1 h.1
    rw [show ((s + sz .tt : Nat) : Int) - 1 = (s : Int) by simp only [sz]; omega]
    rw [bg_step hn (by decide) (part_none (by decide) _) (part_none (by decide) _) (part_none (by decide) _)]
    omega
  | .ff, s, f + 1, h, _, _ => by
    have hn := at_one.1 h.1
    rw [show ((s + sz .ff : Nat) : Int) - 1 = (s : Int) by simp only [sz]; omega]
    rw [bg_step hn (by decide) (part_none (by decide) _) (part_none (by decide) _) (part_none (by decide) _)]
    omega
  | .un op a, s, f + 1, h, w, hf => by
    simp only [sz] at hf
    obtain ⟨ha, hn⟩ := at_un h
    have e := bg_at a s f ha w.2 (by omega)
    have hp : parts (op : Int) = 1 := by rcases w.1 with q | q <;> subst q <;> rfl
    rw [show ((s + sz (.un op a) : Nat) : Int) - 1 = ((s + sz a : Nat) : Int) by simp only [sz]; omega]
    have hop : 5 ≤ op ∧ op ≤ 6 := by rcases w.1 with q | q <;> omega
    rw [bg_step hn (right_op (by omega) (by omega)) (by rw [hp]; exact part_none (by decide) _) (by rw [hp]; exact part_none (by decide) _) (by rw [hp]; exact part_some (by decide) (by rw [e]; omega)), e]
    omega
  | .bin op a b, s, f + 1, h, w, hf => by
    simp only [sz] at hf
    obtain ⟨w1, w2, wa, wb⟩ := w
    obtain ⟨ha, hb, hn⟩ := at_bin h
    have ea := bg_at a s f ha wa (by omega)
    have eb := bg_at b (s + sz a) f hb wb (by omega)
    have hp : parts (op : Int) = 2 := by unfold parts; rw [if_neg (by omega), if_neg (by omega), if_pos (by omega)]
    rw [show ((s + sz (.bin op a b) : Nat) : Int) - 1 = ((s + sz a + sz b : Nat) : Int) by simp only [sz]; omega]
    rw [bg_step hn (right_op (by omega) (by omega)) (by rw [hp]; exact part_none (by decide) _) (by rw [hp]; exact part_some (by decide) (by rw [eb]; omega)) (by rw [hp, eb]; exact part_some (by decide) (by rw [ea]; omega)), ea]
    omega
  | .ite a b c, s, f + 1, h, w, hf => by
    simp only [sz] at hf
    obtain ⟨wa, wb, wc⟩ := w
    obtain ⟨ha, hb, hc, hn⟩ := at_ite h
    have ea := bg_at a s f ha wa (by omega)
    have eb := bg_at b (s + sz a) f hb wb (by omega)
    have ec := bg_at c (s + sz a + sz b) f hc wc (by omega)
    rw [show ((s + sz (.ite a b c) : Nat) : Int) - 1 = ((s + sz a + sz b + sz c : Nat) : Int) by simp only [sz]; omega]
    rw [bg_step hn (right_op (by decide) (by decide)) (part_some (show 2 < parts 22 by decide) (by rw [ec]; omega)) (by rw [ec]; exact part_some (show 1 < parts 22 by decide) (by rw [eb]; omega)) (by rw [eb]; exact part_some (show 0 < parts 22 by decide) (by rw [ea]; omega)), ea]
    omega
end Ex
end Go.Proofs.YtdcjpinbflmikaaGreatDoor
