/- Facts and walks for the statement. -/
import Derived.Lib.Bytealg
namespace Go.Proofs.YtdcjpinbflmikaaGreatDoor
namespace Lx
def isD (c : UInt8) : Bool := decide (48 ≤ c.toNat ∧ c.toNat ≤ 57)
def isL (c : UInt8) : Bool := decide ((65 ≤ c.toNat ∧ c.toNat ≤ 90) ∨ (97 ≤ c.toNat ∧ c.toNat ≤ 122) ∨ c.toNat = 95)
def isN (c : UInt8) : Bool := isL c || isD c
def isB (c : UInt8) : Bool := decide (c.toNat = 9 ∨ c.toNat = 10 ∨ c.toNat = 13 ∨ c.toNat = 32)
def signs : List (List UInt8) := [[58, 61], [60, 62], [60, 61], [62, 61], [60], [62], [61], [43], [45], [42], [40], [41], [44], [59]]
def words : List (List UInt8) := [[97, 110, 100], [100, 105, 118], [101, 108, 115, 101], [101, 109, 105, 116], [101, 110, 100, 105, 102], [102, 97, 108, 115, 101], [105, 102], [105, 109, 112, 108, 105, 101, 115], [109, 111, 100], [110, 111, 116], [111, 114], [116, 104, 101, 110], [116, 114, 117, 101], [120, 111, 114]]
def lead (l : List UInt8) : Bool := match l with
  | [] => false
  | c :: _ => isL c
def whole (l : List UInt8) : Int :=
  if signs.contains l then 4 else if words.contains l then 3 else if l = [] then 0 else if l.all isD then 1 else if lead l && l.all isN then 2 else 0
def is (l : List UInt8) : Int := if 64 < l.length then 0 else whole l
def blk : Bool → List UInt8 → Nat
  | _, [] => 0
  | true, c :: r => if c.toNat = 10 then 1 + blk false r else 1 + blk true r
  | false, c :: r => if isB c then 1 + blk false r else if c.toNat = 45 ∧ r.head? = some 45 then 1 + blk true r else 0
theorem blk_le : ∀ (b : Bool) (l : List UInt8), blk b l ≤ l.length
  | _, [] => by simp [blk]
  | true, c :: r => by
    have h1 := blk_le false r
    have h2 := blk_le true r
    simp only [blk, List.length_cons]
    split <;> omega
  | false, c :: r => by
    have h1 := blk_le false r
    have h2 := blk_le true r
    simp only [blk, List.length_cons]
    split
    · omega
    · split <;> omega
def lngo (l : List UInt8) : Nat → Nat → Nat → Nat
  | 0, _, n => n
  | f + 1, k, n => if l.length < k then n else if 3 ≤ k ∧ n ≠ k - 1 then n else lngo l f (k + 1) (if whole (l.take k) ≠ 0 then k else n)
def lng (l : List UInt8) : Nat := lngo l (l.length + 1) 1 0
theorem lngo_le (l : List UInt8) : ∀ (f k n : Nat), n ≤ l.length → lngo l f k n ≤ l.length
  | 0, _, n, h => h
  | f + 1, k, n, h => by
    unfold lngo
    split
    · exact h
    · rename_i hk
      split
      · exact h
      · refine lngo_le l f _ _ ?_
        split
        · omega
        · exact h
theorem lng_le (l : List UInt8) : lng l ≤ l.length := lngo_le l _ _ _ (Nat.zero_le _)
structure T where
  k : Int
  tx : List UInt8
  p : Nat
def cut : Nat → List UInt8 → Nat → List T × Nat × Int
  | 0, _, _ => ([], 0, 0)
  | f + 1, l, p =>
    if l = [] then ([], 0, 0)
    else if lng l = 0 ∨ 64 < lng l then ([], p, 70)
    else
      let b := blk false (l.drop (lng l))
      let R := cut f (l.drop (lng l + b)) (p + lng l + b)
      if R.2.2 = 0 then (⟨whole (l.take (lng l)), l.take (lng l), p⟩ :: R.1, 0, 0) else ([], R.2.1, R.2.2)
def toks (l : List UInt8) : List T × Nat × Int :=
  if 65536 < l.length then ([], 0, 3) else cut (l.length + 1) (l.drop (blk false l)) (blk false l)
end Lx
end Go.Proofs.YtdcjpinbflmikaaGreatDoor
namespace Go.Proofs.YtdcjpinbflmikaaGreatDoor
namespace Ex
inductive E where
  | num (n : Nat)
  | name (s : List UInt8)
  | tt
  | ff
  | un (op : Nat) (a : E)
  | bin (op : Nat) (a b : E)
  | ite (a b c : E)
def opS : Nat → List UInt8
  | 5 => [45] | 6 => [110, 111, 116] | 7 => [42] | 8 => [100, 105, 118] | 9 => [109, 111, 100] | 10 => [43] | 11 => [45] | 12 => [60] | 13 => [60, 61] | 14 => [62] | 15 => [62, 61] | 16 => [61] | 17 => [60, 62] | 18 => [97, 110, 100] | 19 => [111, 114] | 20 => [120, 111, 114] | 21 => [105, 109, 112, 108, 105, 101, 115]
  | _ => []
def lvl : Nat → Nat
  | 5 => 9 | 6 => 9 | 7 => 8 | 8 => 8 | 9 => 8 | 10 => 7 | 11 => 7 | 12 => 6 | 13 => 6 | 14 => 6 | 15 => 6 | 16 => 5 | 17 => 5 | 18 => 4 | 19 => 3 | 20 => 2 | 21 => 1
  | _ => 10
def of2 (n : Nat) (s : List UInt8) : Nat := ((List.range 15).map (· + 7)).foldr (fun op r => if s ≠ [] ∧ opS op = s ∧ lvl op = n then op else r) 0
abbrev Tk := Int × List UInt8
def nx : List Tk → List UInt8
  | [] => []
  | t :: _ => if Lx.is t.2 = t.1 then t.2 else []
def kd : List Tk → Int
  | [] => 0
  | t :: _ => t.1
inductive Rs where
  | bad (left : Nat) (e : Int)
  | ok (r : List Tk) (x : E)
inductive Md where
  | lev (n : Nat)
  | loop (n : Nat) (a : E)
  | una
  | pri
  | bra
def numv (s : List UInt8) : Option Nat := let v := s.foldl (fun a c => a * 10 + (c.toNat - 48)) 0; if v ≤ 9223372036854775807 then some v else none
def then2 (x : Rs) (f : List Tk → E → Rs) : Rs := match x with
  | .bad l e => .bad l e
  | .ok r a => f r a
def eat (s : List UInt8) (r : List Tk) (f : List Tk → Rs) : Rs := if nx r = s then f r.tail else .bad r.length 80
def rd : Nat → Md → List Tk → Rs
  | 0, _, _ => .bad 0 0
  | f + 1, .lev n, ts =>
    if n = 10 then rd f .pri ts
    else if n = 9 then rd f .una ts
    else then2 (rd f (.lev (n + 1)) ts) (fun r a => rd f (.loop n a) r)
  | f + 1, .loop n a, ts =>
    if of2 n (nx ts) = 0 then .ok ts a
    else then2 (rd f (.lev (n + 1)) ts.tail) (fun r b => rd f (.loop n (.bin (of2 n (nx ts)) a b)) r)
  | f + 1, .una, ts =>
    if nx ts = [45] then then2 (rd f .una ts.tail) (fun r a => .ok r (.un 5 a))
    else if nx ts = [110, 111, 116] then then2 (rd f .una ts.tail) (fun r a => .ok r (.un 6 a))
    else rd f .pri ts
  | f + 1, .pri, ts =>
    if nx ts = [40] then then2 (rd f (.lev 1) ts.tail) (fun r a => eat [41] r (fun r => .ok r a))
    else if nx ts = [105, 102] then rd f .bra ts
    else if nx ts = [116, 114, 117, 101] then .ok ts.tail .tt
    else if nx ts = [102, 97, 108, 115, 101] then .ok ts.tail .ff
    else if nx ts ≠ [] ∧ kd ts = 1 then (match numv (nx ts) with
      | some v => .ok ts.tail (.num v)
      | none => .bad ts.length 60)
    else if nx ts ≠ [] ∧ kd ts = 2 then .ok ts.tail (.name (nx ts))
    else .bad ts.length 80
  | f + 1, .bra, ts =>
    then2 (rd f (.lev 1) ts.tail) (fun r a => eat [116, 104, 101, 110] r (fun r =>
      then2 (rd f (.lev 1) r) (fun r b => eat [101, 108, 115, 101] r (fun r =>
        then2 (rd f (.lev 1) r) (fun r c => eat [101, 110, 100, 105, 102] r (fun r => .ok r (.ite a b c)))))))
def rank : Md → Nat
  | .lev n => 14 - n
  | .loop _ _ => 1
  | .una => 4
  | .pri => 3
  | .bra => 2
def need (m : Md) (ts : List Tk) : Nat := 16 * ts.length + rank m
end Ex
end Go.Proofs.YtdcjpinbflmikaaGreatDoor
namespace Go.Proofs.YtdcjpinbflmikaaGreatDoor
namespace Ex
structure Nd where
  op : Int
  num : Int
  nm : List UInt8
  a : Int
  b : Int
  c : Int
def sz : E → Nat
  | .un _ a => sz a + 1
  | .bin _ a b => sz a + sz b + 1
  | .ite a b c => sz a + sz b + sz c + 1
  | _ => 1
def flat : E → Nat → List Nd
  | .num n, _ => [⟨1, n, [], -1, -1, -1⟩]
  | .name s, _ => [⟨2, 0, s, -1, -1, -1⟩]
  | .tt, _ => [⟨3, 0, [], -1, -1, -1⟩]
  | .ff, _ => [⟨4, 0, [], -1, -1, -1⟩]
  | .un op a, p => flat a p ++ [⟨op, 0, [], (p + sz a : Nat) - 1, -1, -1⟩]
  | .bin op a b, p => flat a p ++ flat b (p + sz a) ++ [⟨op, 0, [], (p + sz a : Nat) - 1, (p + sz a + sz b : Nat) - 1, -1⟩]
  | .ite a b c, p => flat a p ++ flat b (p + sz a) ++ flat c (p + sz a + sz b) ++ [⟨22, 0, [], (p + sz a : Nat) - 1, (p + sz a + sz b : Nat) - 1, (p + sz a + sz b + sz c : Nat) - 1⟩]
theorem flat_len : ∀ (x : E) (p : Nat), (flat x p).length = sz x
  | .num _, _ => rfl
  | .name _, _ => rfl
  | .tt, _ => rfl
  | .ff, _ => rfl
  | .un _ a, p => by simp [flat, sz, flat_len a]
  | .bin _ a b, p => by simp [flat, sz, flat_len a, flat_len b]; omega
  | .ite a b c, p => by simp [flat, sz, flat_len a, flat_len b, flat_len c]; omega
theorem sz_pos (x : E) : 1 ≤ sz x := by cases x <;> simp [sz]
def wr : E → Prop
  | .num _ => True
  | .name s => Lx.is s = 2
  | .tt => True
  | .ff => True
  | .un op a => (op = 5 ∨ op = 6) ∧ wr a
  | .bin op a b => 7 ≤ op ∧ op ≤ 21 ∧ wr a ∧ wr b
  | .ite a b c => wr a ∧ wr b ∧ wr c
def parts (op : Int) : Nat := if op ≤ 4 then 0 else if op ≤ 6 then 1 else if op ≤ 21 then 2 else 3
def right (n : Nd) : Bool := decide (1 ≤ n.op) && decide (n.op ≤ 22) && (decide (n.op = 1) || decide (n.num = 0)) && decide (0 ≤ n.num) && (if n.op = 2 then decide (Lx.is n.nm = 2) else decide (n.nm = []))
def part (bg : Int → Int) (pn k : Nat) (place last : Int) : Option Int :=
  if pn ≤ k then (if place = -1 then some last else none) else if place = last then (if bg last < 0 then none else some (bg last - 1)) else none
def bg : Nat → List Nd → Int → Int
  | 0, _, _ => -1
  | f + 1, l, at_ =>
    if at_ < 0 then -1 else
    match l[at_.toNat]? with
    | none => -1
    | some n => if right n = false then -1 else
      match part (bg f l) (parts n.op) 2 n.c (at_ - 1) with
      | none => -1
      | some l2 => match part (bg f l) (parts n.op) 1 n.b l2 with
        | none => -1
        | some l1 => match part (bg f l) (parts n.op) 0 n.a l1 with
          | none => -1
          | some l0 => l0 + 1
def At (l : List Nd) (s : Nat) (x : E) : Prop := (l.drop s).take (sz x) = flat x s ∧ s + sz x ≤ l.length
theorem At.split {l A B : List Nd} {s n : Nat} (hA : A.length = n) : (l.drop s).take (n + B.length) = A ++ B ↔ (l.drop s).take n = A ∧ (l.drop (s + n)).take B.length = B := by
  rw [List.take_add, List.drop_drop]
  constructor
  · intro h
    have h1 := congrArg (List.take n) h
    have h2 := congrArg (List.drop n) h
    rw [List.take_left' hA] at h1
    rw [List.drop_left' hA] at h2
    have hl : (List.take n (List.drop s l)).length = n := by
      have h3 := congrArg List.length h
      rw [List.length_append, List.length_append, hA] at h3
      have h4 : (List.take n (List.drop s l)).length ≤ n := by rw [List.length_take]; omega
      have h5 : (List.take B.length (List.drop (s + n) l)).length ≤ B.length := by rw [List.length_take]; omega
      omega
    rw [List.take_left' hl] at h1
    rw [List.drop_left' hl] at h2
    exact ⟨h1, h2⟩
  · rintro ⟨h1, h2⟩
    rw [h1, h2]
theorem at_one {l : List Nd} {s : Nat} {n : Nd} : (l.drop s).take 1 = [n] ↔ l[s]? = some n := by
  cases h : l[s]? with
  | none =>
    rw [List.drop_of_length_le (List.getElem?_eq_none_iff.1 h)]; simp
  | some m =>
    obtain ⟨hs, e⟩ := List.getElem?_eq_some_iff.1 h
    rw [List.drop_eq_getElem_cons hs, e]; simp
theorem part_none {bg : Int → Int} {pn k : Nat} (h : pn ≤ k) (last : Int) : part bg pn k (-1) last = some last := by
  unfold part
  rw [if_pos h, if_pos rfl]
theorem part_some {bg : Int → Int} {pn k : Nat} (h : k < pn) {last : Int} (hb : 0 ≤ bg last) : part bg pn k last last = some (bg last - 1) := by
  unfold part
  rw [if_neg (by omega), if_pos rfl, if_neg (by omega)]
theorem part_ok {bg : Int → Int} {pn k : Nat} {place last r : Int} (h : part bg pn k place last = some r) : (pn ≤ k ∧ place = -1 ∧ r = last) ∨ (k < pn ∧ place = last ∧ 0 ≤ bg last ∧ r = bg last - 1) := by
  unfold part at h
  split at h
  · rename_i h1
    split at h
    · rename_i h2; cases h; exact Or.inl ⟨h1, h2, rfl⟩
    · cases h
  · rename_i h1
    split at h
    · rename_i h2
      split at h
      · cases h
      · rename_i h3; cases h; exact Or.inr ⟨by omega, h2, by omega, rfl⟩
    · cases h
theorem bg_step {f : Nat} {l : List Nd} {i : Nat} {n : Nd} (hn : l[i]? = some n) (hr : right n = true) {l2 l1 l0 : Int} (h2 : part (bg f l) (parts n.op) 2 n.c ((i : Int) - 1) = some l2) (h1 : part (bg f l) (parts n.op) 1 n.b l2 = some l1) (h0 : part (bg f l) (parts n.op) 0 n.a l1 = some l0) : bg (f + 1) l i = l0 + 1 := by
  unfold bg
  rw [if_neg (by omega)]
  simp only [Int.toNat_natCast, hn]
  rw [if_neg (by rw [hr]; decide)]
  simp only [h2, h1, h0]
theorem at_un {l : List Nd} {s op : Nat} {a : E} (h : At l s (.un op a)) : At l s a ∧ l[s + sz a]? = some ⟨op, 0, [], (s + sz a : Nat) - 1, -1, -1⟩ := by
  obtain ⟨h1, h2⟩ := h
  simp only [sz, flat] at h1 h2
  obtain ⟨k1, k2⟩ := (At.split (flat_len a s)).1 (show (l.drop s).take (sz a + [_].length) = _ from h1)
  exact ⟨⟨k1, by omega⟩, at_one.1 k2⟩
theorem at_bin {l : List Nd} {s op : Nat} {a b : E} (h : At l s (.bin op a b)) : At l s a ∧ At l (s + sz a) b ∧ l[s + sz a + sz b]? = some ⟨op, 0, [], (s + sz a : Nat) - 1, (s + sz a + sz b : Nat) - 1, -1⟩ := by
  obtain ⟨h1, h2⟩ := h
  simp only [sz, flat] at h1 h2
  obtain ⟨k1, k2⟩ := (At.split (n := sz a + sz b) (by rw [List.length_append, flat_len, flat_len])).1 (show (l.drop s).take (sz a + sz b + [_].length) = _ from h1)
  obtain ⟨q1, q2⟩ := (At.split (flat_len a s)).1 (show (l.drop s).take (sz a + (flat b (s + sz a)).length) = _ from by rw [flat_len]; exact k1)
  rw [flat_len] at q2
  exact ⟨⟨q1, by omega⟩, ⟨q2, by omega⟩, by have k3 := at_one.1 k2; rw [← Nat.add_assoc] at k3; exact k3⟩
theorem at_ite {l : List Nd} {s : Nat} {a b c : E} (h : At l s (.ite a b c)) : At l s a ∧ At l (s + sz a) b ∧ At l (s + sz a + sz b) c ∧ l[s + sz a + sz b + sz c]? = some ⟨22, 0, [], (s + sz a : Nat) - 1, (s + sz a + sz b : Nat) - 1, (s + sz a + sz b + sz c : Nat) - 1⟩ := by
  obtain ⟨h1, h2⟩ := h
  simp only [sz, flat] at h1 h2
  obtain ⟨k1, k2⟩ := (At.split (n := sz a + sz b + sz c) (by rw [List.length_append, List.length_append, flat_len, flat_len, flat_len])).1 (show (l.drop s).take (sz a + sz b + sz c + [_].length) = _ from h1)
  obtain ⟨p1, p2⟩ := (At.split (n := sz a + sz b) (A := flat a s ++ flat b (s + sz a)) (by rw [List.length_append, flat_len, flat_len])).1 (show (l.drop s).take (sz a + sz b + (flat c (s + sz a + sz b)).length) = _ from by rw [flat_len]; exact k1)
  obtain ⟨q1, q2⟩ := (At.split (flat_len a s)).1 (show (l.drop s).take (sz a + (flat b (s + sz a)).length) = _ from by rw [flat_len]; exact p1)
  rw [flat_len] at q2 p2
  exact ⟨⟨q1, by omega⟩, ⟨q2, by omega⟩, ⟨by rw [← Nat.add_assoc] at p2; exact p2, by omega⟩, by have k3 := at_one.1 k2; rw [show s + (sz a + sz b + sz c) = s + sz a + sz b + sz c by omega] at k3; exact k3⟩
theorem right_op {op a b c : Int} (h1 : 3 ≤ op) (h2 : op ≤ 22) : right ⟨op, 0, [], a, b, c⟩ = true := by
  unfold right
  simp only
  rw [if_neg (by omega)]
  simp; omega
theorem bg_at {l : List Nd} : ∀ (x : E) (s f : Nat), At l s x → wr x → sz x ≤ f → bg f l ((s + sz x : Nat) - 1) = s
  | x, s, 0, _, _, h => absurd h (by have := sz_pos x; omega)
  | .num n, s, f + 1, h, _, _ => by
    have hn := at_one.1 h.1
    rw [show ((s + sz (.num n) : Nat) : Int) - 1 = (s : Int) by simp only [sz]; omega]
    rw [bg_step hn (by unfold right; simp) (part_none (show parts 1 ≤ 2 by decide) _) (part_none (show parts 1 ≤ 1 by decide) _) (part_none (show parts 1 ≤ 0 by decide) _)]
    omega
  | .name t, s, f + 1, h, w, _ => by
    have hn := at_one.1 h.1
    have w : Lx.is t = 2 := w
    rw [show ((s + sz (.name t) : Nat) : Int) - 1 = (s : Int) by simp only [sz]; omega]
    rw [bg_step hn (by unfold right; simp [w]) (part_none (show parts 2 ≤ 2 by decide) _) (part_none (show parts 2 ≤ 1 by decide) _) (part_none (show parts 2 ≤ 0 by decide) _)]
    omega
  | .tt, s, f + 1, h, _, _ => by
    have hn := at_one.1 h.1
    rw [show ((s + sz .tt : Nat) : Int) - 1 = (s : Int) by simp only [sz]; omega]
    rw [bg_step hn (by decide) (part_none (by decide) _) (part_none (by decide) _) (part_none (by decide) _)]
    omega
  | .ff, s, f + 1, h, _, _ => by
    have hn := at_one.1 h.1
    rw [show ((s + sz .ff : Nat) : Int) - 1 = (s : Int) by simp only [sz]; omega]
    rw [bg_step hn (by decide) (part_none (by decide) _) (part_none (by decide) _) (part_none (by decide) _)]
    omega
  | .un op a, s, f + 1, h, w, hf => by
    simp only [sz] at hf
    obtain ⟨ha, hn⟩ := at_un h
    have e := bg_at a s f ha w.2 (by omega)
    have hp : parts (op : Int) = 1 := by rcases w.1 with q | q <;> subst q <;> rfl
    rw [show ((s + sz (.un op a) : Nat) : Int) - 1 = ((s + sz a : Nat) : Int) by simp only [sz]; omega]
    have hop : 5 ≤ op ∧ op ≤ 6 := by rcases w.1 with q | q <;> omega
    rw [bg_step hn (right_op (by omega) (by omega)) (by rw [hp]; exact part_none (by decide) _) (by rw [hp]; exact part_none (by decide) _) (by rw [hp]; exact part_some (by decide) (by rw [e]; omega)), e]
    omega
  | .bin op a b, s, f + 1, h, w, hf => by
    simp only [sz] at hf
    obtain ⟨w1, w2, wa, wb⟩ := w
    obtain ⟨ha, hb, hn⟩ := at_bin h
    have ea := bg_at a s f ha wa (by omega)
    have eb := bg_at b (s + sz a) f hb wb (by omega)
    have hp : parts (op : Int) = 2 := by unfold parts; rw [if_neg (by omega), if_neg (by omega), if_pos (by omega)]
    rw [show ((s + sz (.bin op a b) : Nat) : Int) - 1 = ((s + sz a + sz b : Nat) : Int) by simp only [sz]; omega]
    rw [bg_step hn (right_op (by omega) (by omega)) (by rw [hp]; exact part_none (by decide) _) (by rw [hp]; exact part_some (by decide) (by rw [eb]; omega)) (by rw [hp, eb]; exact part_some (by decide) (by rw [ea]; omega)), ea]
    omega
  | .ite a b c, s, f + 1, h, w, hf => by
    simp only [sz] at hf
    obtain ⟨wa, wb, wc⟩ := w
    obtain ⟨ha, hb, hc, hn⟩ := at_ite h
    have ea := bg_at a s f ha wa (by omega)
    have eb := bg_at b (s + sz a) f hb wb (by omega)
    have ec := bg_at c (s + sz a + sz b) f hc wc (by omega)
    rw [show ((s + sz (.ite a b c) : Nat) : Int) - 1 = ((s + sz a + sz b + sz c : Nat) : Int) by simp only [sz]; omega]
    rw [bg_step hn (right_op (by decide) (by decide)) (part_some (show 2 < parts 22 by decide) (by rw [ec]; omega)) (by rw [ec]; exact part_some (show 1 < parts 22 by decide) (by rw [eb]; omega)) (by rw [eb]; exact part_some (show 0 < parts 22 by decide) (by rw [ea]; omega)), ea]
    omega
end Ex
end Go.Proofs.YtdcjpinbflmikaaGreatDoor
namespace Go.Proofs.YtdcjpinbflmikaaGreatDoor
namespace Ex
theorem at_lt {l : List Nd} {i : Nat} {n : Nd} (h : l[i]? = some n) : i < l.length := (List.getElem?_eq_some_iff.1 h).1
theorem mk_un {l : List Nd} {s op : Nat} {a : E} (h : At l s a) (hn : l[s + sz a]? = some ⟨op, 0, [], (s + sz a : Nat) - 1, -1, -1⟩) : At l s (.un op a) := by
  have h2 := at_lt hn
  refine ⟨?_, by simp only [sz]; omega⟩
  simp only [sz, flat]
  exact (At.split (B := [_]) (flat_len a s)).2 ⟨h.1, at_one.2 hn⟩
theorem mk_bin {l : List Nd} {s op : Nat} {a b : E} (ha : At l s a) (hb : At l (s + sz a) b) (hn : l[s + sz a + sz b]? = some ⟨op, 0, [], (s + sz a : Nat) - 1, (s + sz a + sz b : Nat) - 1, -1⟩) : At l s (.bin op a b) := by
  have h2 := at_lt hn
  refine ⟨?_, by simp only [sz]; omega⟩
  simp only [sz, flat]
  have q := (At.split (l := l) (B := flat b (s + sz a)) (flat_len a s)).2 ⟨ha.1, by rw [flat_len]; exact hb.1⟩
  rw [flat_len] at q
  refine (At.split (B := [_]) (n := sz a + sz b) (by rw [List.length_append, flat_len, flat_len])).2 ⟨q, at_one.2 ?_⟩
  rw [show s + (sz a + sz b) = s + sz a + sz b by omega]
  exact hn
theorem mk_ite {l : List Nd} {s : Nat} {a b c : E} (ha : At l s a) (hb : At l (s + sz a) b) (hc : At l (s + sz a + sz b) c) (hn : l[s + sz a + sz b + sz c]? = some ⟨22, 0, [], (s + sz a : Nat) - 1, (s + sz a + sz b : Nat) - 1, (s + sz a + sz b + sz c : Nat) - 1⟩) : At l s (.ite a b c) := by
  have h2 := at_lt hn
  refine ⟨?_, by simp only [sz]; omega⟩
  simp only [sz, flat]
  have q := (At.split (l := l) (B := flat b (s + sz a)) (flat_len a s)).2 ⟨ha.1, by rw [flat_len]; exact hb.1⟩
  rw [flat_len] at q
  have q2 := (At.split (l := l) (s := s) (n := sz a + sz b) (A := flat a s ++ flat b (s + sz a)) (B := flat c (s + sz a + sz b)) (by rw [List.length_append, flat_len, flat_len])).2 ⟨q, by rw [flat_len, show s + (sz a + sz b) = s + sz a + sz b by omega]; exact hc.1⟩
  rw [flat_len] at q2
  refine (At.split (B := [_]) (n := sz a + sz b + sz c) (by rw [List.length_append, List.length_append, flat_len, flat_len, flat_len])).2 ⟨q2, at_one.2 ?_⟩
  rw [show s + (sz a + sz b + sz c) = s + sz a + sz b + sz c by omega]
  exact hn
theorem mk_leaf {l : List Nd} {s : Nat} {x : E} (hs : sz x = 1) {n : Nd} (hf : flat x s = [n]) (hn : l[s]? = some n) : At l s x := by
  have h2 := at_lt hn
  exact ⟨by rw [hs, hf]; exact at_one.2 hn, by omega⟩
def Told (l : List Nd) (last v : Int) : Prop := ∃ (x : E) (s : Nat), v = s ∧ last = (s + sz x : Nat) - 1 ∧ At l s x ∧ wr x
theorem bg_tells {l : List Nd} : ∀ (f : Nat) (at_ : Int), 0 ≤ bg f l at_ → Told l at_ (bg f l at_)
  | 0, _, h => absurd h (by unfold bg; omega)
  | f + 1, at_, h => by
    have ih := bg_tells (l := l) f
    by_cases hneg : at_ < 0
    · exfalso; unfold bg at h; rw [if_pos hneg] at h; omega
    · obtain ⟨i, rfl⟩ : ∃ i : Nat, at_ = i := ⟨at_.toNat, by omega⟩
      cases hn : l[i]? with
      | none => exfalso; unfold bg at h; rw [if_neg hneg] at h; simp only [Int.toNat_natCast, hn] at h; omega
      | some n =>
        cases hr : right n with
        | false => exfalso; unfold bg at h; rw [if_neg hneg] at h; simp only [Int.toNat_natCast, hn] at h; rw [if_pos hr] at h; omega
        | true =>
          cases p2 : part (bg f l) (parts n.op) 2 n.c ((i : Int) - 1) with
          | none => exfalso; unfold bg at h; rw [if_neg hneg] at h; simp only [Int.toNat_natCast, hn] at h; rw [if_neg (by rw [hr]; decide)] at h; simp only [p2] at h; omega
          | some l2 =>
            cases p1 : part (bg f l) (parts n.op) 1 n.b l2 with
            | none => exfalso; unfold bg at h; rw [if_neg hneg] at h; simp only [Int.toNat_natCast, hn] at h; rw [if_neg (by rw [hr]; decide)] at h; simp only [p2, p1] at h; omega
            | some l1 =>
              cases p0 : part (bg f l) (parts n.op) 0 n.a l1 with
              | none => exfalso; unfold bg at h; rw [if_neg hneg] at h; simp only [Int.toNat_natCast, hn] at h; rw [if_neg (by rw [hr]; decide)] at h; simp only [p2, p1, p0] at h; omega
              | some l0 =>
                rw [bg_step hn hr p2 p1 p0]
                clear h hneg
                obtain ⟨op, num, nm, a, b, c⟩ := n
                unfold right at hr
                simp only [Bool.and_eq_true, decide_eq_true_iff, Bool.or_eq_true] at hr p2 p1 p0
                obtain ⟨⟨⟨⟨r1, r2⟩, r3⟩, r4⟩, r5⟩ := hr
                by_cases c4 : op ≤ 4
                · have hp : parts op = 0 := by unfold parts; rw [if_pos c4]
                  rw [hp] at p2 p1 p0
                  rcases part_ok p2 with ⟨_, rfl, rfl⟩ | ⟨q, _⟩
                  · rcases part_ok p1 with ⟨_, rfl, rfl⟩ | ⟨q, _⟩
                    · rcases part_ok p0 with ⟨_, rfl, rfl⟩ | ⟨q, _⟩
                      · by_cases o1 : op = 1
                        · subst o1
                          rw [if_neg (by decide)] at r5
                          have r5 := of_decide_eq_true r5
                          subst r5
                          obtain ⟨k, rfl⟩ : ∃ k : Nat, num = k := ⟨num.toNat, by omega⟩
                          exact ⟨.num k, i, by omega, by simp only [sz]; omega, mk_leaf rfl rfl hn, True.intro⟩
                        · have r3 : num = 0 := by rcases r3 with e | e; · exact absurd e o1
                                                  · exact e
                          subst r3
                          by_cases o2 : op = 2
                          · subst o2
                            rw [if_pos rfl] at r5
                            exact ⟨.name nm, i, by omega, by simp only [sz]; omega, mk_leaf rfl rfl hn, (show Lx.is nm = 2 from of_decide_eq_true r5)⟩
                          · rw [if_neg o2] at r5
                            have r5 := of_decide_eq_true r5
                            subst r5
                            by_cases o3 : op = 3
                            · subst o3
                              exact ⟨.tt, i, by omega, by simp only [sz]; omega, mk_leaf rfl rfl hn, True.intro⟩
                            · obtain rfl : op = 4 := by omega
                              exact ⟨.ff, i, by omega, by simp only [sz]; omega, mk_leaf rfl rfl hn, True.intro⟩
                      · omega
                    · omega
                  · omega
                · have r3 : num = 0 := by rcases r3 with e | e; · omega
                                          · exact e
                  subst r3
                  rw [if_neg (by omega)] at r5
                  have r5 := of_decide_eq_true r5
                  subst r5
                  by_cases c6 : op ≤ 6
                  · have hp : parts op = 1 := by unfold parts; rw [if_neg c4, if_pos c6]
                    rw [hp] at p2 p1 p0
                    rcases part_ok p2 with ⟨_, rfl, rfl⟩ | ⟨q, _⟩
                    · rcases part_ok p1 with ⟨_, rfl, rfl⟩ | ⟨q, _⟩
                      · rcases part_ok p0 with ⟨q, _⟩ | ⟨_, rfl, ga, rfl⟩
                        · omega
                        · obtain ⟨xa, sa, ea, fa, ta, wa⟩ := ih _ ga
                          obtain ⟨o, rfl⟩ : ∃ o : Nat, op = o := ⟨op.toNat, by omega⟩
                          have hi : i = sa + sz xa := by omega
                          subst hi
                          exact ⟨.un o xa, sa, by omega, by simp only [sz]; omega, mk_un ta hn, by omega, wa⟩
                      · omega
                    · omega
                  · by_cases c21 : op ≤ 21
                    · have hp : parts op = 2 := by unfold parts; rw [if_neg c4, if_neg c6, if_pos c21]
                      rw [hp] at p2 p1 p0
                      rcases part_ok p2 with ⟨_, rfl, rfl⟩ | ⟨q, _⟩
                      · rcases part_ok p1 with ⟨q, _⟩ | ⟨_, rfl, gb, rfl⟩
                        · omega
                        · rcases part_ok p0 with ⟨q, _⟩ | ⟨_, rfl, ga, rfl⟩
                          · omega
                          · obtain ⟨xb, sb, eb, fb, tb, wb⟩ := ih _ gb
                            rw [eb] at ga hn ⊢
                            obtain ⟨xa, sa, ea, fa, ta, wa⟩ := ih _ ga
                            obtain ⟨o, rfl⟩ : ∃ o : Nat, op = o := ⟨op.toNat, by omega⟩
                            have hs : sb = sa + sz xa := by omega
                            subst hs
                            have hi : i = sa + sz xa + sz xb := by omega
                            subst hi
                            exact ⟨.bin o xa xb, sa, by omega, by simp only [sz]; omega, mk_bin ta tb hn, by omega, by omega, wa, wb⟩
                      · omega
                    · obtain rfl : op = 22 := by omega
                      rcases part_ok p2 with ⟨q, _⟩ | ⟨_, rfl, gc, rfl⟩
                      · exact absurd q (by decide)
                      · rcases part_ok p1 with ⟨q, _⟩ | ⟨_, rfl, gb, rfl⟩
                        · exact absurd q (by decide)
                        · rcases part_ok p0 with ⟨q, _⟩ | ⟨_, rfl, ga, rfl⟩
                          · exact absurd q (by decide)
                          · obtain ⟨xc, sc, ec, fc, tc, wc⟩ := ih _ gc
                            rw [ec] at gb ga hn ⊢
                            obtain ⟨xb, sb, eb, fb, tb, wb⟩ := ih _ gb
                            rw [eb] at ga hn ⊢
                            obtain ⟨xa, sa, ea, fa, ta, wa⟩ := ih _ ga
                            have hs : sb = sa + sz xa := by omega
                            subst hs
                            have hs2 : sc = sa + sz xa + sz xb := by omega
                            subst hs2
                            have hi : i = sa + sz xa + sz xb + sz xc := by omega
                            subst hi
                            exact ⟨.ite xa xb xc, sa, by omega, by simp only [sz]; omega, mk_ite ta tb tc hn, wa, wb, wc⟩
end Ex
end Go.Proofs.YtdcjpinbflmikaaGreatDoor
