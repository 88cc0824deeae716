/- Facts and walks for the statement. -/
import Derived.Lib.Bytealg
import Derived.Lib.ItoaNum
namespace Go.Proofs.YtmmdigeciphglaaGreatDoor
namespace Lx
def isD (c : UInt8) : Bool := decide (48 ≤ c.toNat ∧ c.toNat ≤ 57)
def isL (c : UInt8) : Bool := decide ((65 ≤ c.toNat ∧ c.toNat ≤ 90) ∨ (97 ≤ c.toNat ∧ c.toNat ≤ 122) ∨ c.toNat = 95)
def isN (c : UInt8) : Bool := isL c || isD c
def isB (c : UInt8) : Bool := decide (c.toNat = 9 ∨ c.toNat = 10 ∨ c.toNat = 13 ∨ c.toNat = 32)
def signs : List (List UInt8) := [[58, 61], [60, 62], [60, 61], [62, 61], [60], [62], [61], [43], [45], [42], [40], [41], [44], [59]]
def words : List (List UInt8) := [[97, 110, 100], [100, 105, 118], [101, 108, 115, 101], [101, 109, 105, 116], [101, 110, 100, 105, 102], [102, 97, 108, 115, 101], [105, 102], [105, 109, 112, 108, 105, 101, 115], [109, 111, 100], [110, 111, 116], [111, 114], [116, 104, 101, 110], [116, 114, 117, 101], [120, 111, 114]]
def lead (l : List UInt8) : Bool := match l with
  | [] => false
  | c :: _ => isL c
def whole (l : List UInt8) : Int :=
  if signs.contains l then 4 else if words.contains l then 3 else if l = [] then 0 else if l.all isD then 1 else if lead l && l.all isN then 2 else 0
def is (l : List UInt8) : Int := if 64 < l.length then 0 else whole l
def blk : Bool → List UInt8 → Nat
  | _, [] => 0
  | true, c :: r => if c.toNat = 10 then 1 + blk false r else 1 + blk true r
  | false, c :: r => if isB c then 1 + blk false r else if c.toNat = 45 ∧ r.head? = some 45 then 1 + blk true r else 0
theorem blk_le : ∀ (b : Bool) (l : List UInt8), blk b l ≤ l.length
  | _, [] => by simp [blk]
  | true, c :: r => by
    have h1 := blk_le false r
    have h2 := blk_le true r
    simp only [blk, List.length_cons]
    split <;> omega
  | false, c :: r => by
    have h1 := blk_le false r
    have h2 := blk_le true r
    simp only [blk, List.length_cons]
    split
    · omega
    · split <;> omega
def lngo (l : List UInt8) : Nat → Nat → Nat → Nat
  | 0, _, n => n
  | f + 1, k, n => if l.length < k then n else if 3 ≤ k ∧ n ≠ k - 1 then n else lngo l f (k + 1) (if whole (l.take k) ≠ 0 then k else n)
def lng (l : List UInt8) : Nat := lngo l (l.length + 1) 1 0
theorem lngo_le (l : List UInt8) : ∀ (f k n : Nat), n ≤ l.length → lngo l f k n ≤ l.length
  | 0, _, n, h => h
  | f + 1, k, n, h => by
    unfold lngo
    split
    · exact h
    · rename_i hk
      split
      · exact h
      · refine lngo_le l f _ _ ?_
        split
        · omega
        · exact h
theorem lng_le (l : List UInt8) : lng l ≤ l.length := lngo_le l _ _ _ (Nat.zero_le _)
structure T where
  k : Int
  tx : List UInt8
  p : Nat
def cut : Nat → List UInt8 → Nat → List T × Nat × Int
  | 0, _, _ => ([], 0, 0)
  | f + 1, l, p =>
    if l = [] then ([], 0, 0)
    else if lng l = 0 ∨ 64 < lng l then ([], p, 70)
    else
      let b := blk false (l.drop (lng l))
      let R := cut f (l.drop (lng l + b)) (p + lng l + b)
      if R.2.2 = 0 then (⟨whole (l.take (lng l)), l.take (lng l), p⟩ :: R.1, 0, 0) else ([], R.2.1, R.2.2)
def toks (l : List UInt8) : List T × Nat × Int :=
  if 65536 < l.length then ([], 0, 3) else cut (l.length + 1) (l.drop (blk false l)) (blk false l)
end Lx
end Go.Proofs.YtmmdigeciphglaaGreatDoor
namespace Go.Proofs.YtmmdigeciphglaaGreatDoor
namespace Ex
inductive E where
  | num (n : Nat)
  | name (s : List UInt8)
  | tt
  | ff
  | un (op : Nat) (a : E)
  | bin (op : Nat) (a b : E)
  | ite (a b c : E)
def opS : Nat → List UInt8
  | 5 => [45] | 6 => [110, 111, 116] | 7 => [42] | 8 => [100, 105, 118] | 9 => [109, 111, 100] | 10 => [43] | 11 => [45] | 12 => [60] | 13 => [60, 61] | 14 => [62] | 15 => [62, 61] | 16 => [61] | 17 => [60, 62] | 18 => [97, 110, 100] | 19 => [111, 114] | 20 => [120, 111, 114] | 21 => [105, 109, 112, 108, 105, 101, 115]
  | _ => []
def lvl : Nat → Nat
  | 5 => 9 | 6 => 9 | 7 => 8 | 8 => 8 | 9 => 8 | 10 => 7 | 11 => 7 | 12 => 6 | 13 => 6 | 14 => 6 | 15 => 6 | 16 => 5 | 17 => 5 | 18 => 4 | 19 => 3 | 20 => 2 | 21 => 1
  | _ => 10
def of2 (n : Nat) (s : List UInt8) : Nat := ((List.range 15).map (· + 7)).foldr (fun op r => if s ≠ [] ∧ opS op = s ∧ lvl op = n then op else r) 0
abbrev Tk := Int × List UInt8
def nx : List Tk → List UInt8
  | [] => []
  | t :: _ => if Lx.is t.2 = t.1 then t.2 else []
def kd : List Tk → Int
  | [] => 0
  | t :: _ => t.1
inductive Rs where
  | bad (left : Nat) (e : Int)
  | ok (r : List Tk) (x : E)
inductive Md where
  | lev (n : Nat)
  | loop (n : Nat) (a : E)
  | una
  | pri
  | bra
def numv (s : List UInt8) : Option Nat := let v := s.foldl (fun a c => a * 10 + (c.toNat - 48)) 0; if v ≤ 9223372036854775807 then some v else none
def then2 (x : Rs) (f : List Tk → E → Rs) : Rs := match x with
  | .bad l e => .bad l e
  | .ok r a => f r a
def eat (s : List UInt8) (r : List Tk) (f : List Tk → Rs) : Rs := if nx r = s then f r.tail else .bad r.length 80
def rd : Nat → Md → List Tk → Rs
  | 0, _, _ => .bad 0 0
  | f + 1, .lev n, ts =>
    if n = 10 then rd f .pri ts
    else if n = 9 then rd f .una ts
    else then2 (rd f (.lev (n + 1)) ts) (fun r a => rd f (.loop n a) r)
  | f + 1, .loop n a, ts =>
    if of2 n (nx ts) = 0 then .ok ts a
    else then2 (rd f (.lev (n + 1)) ts.tail) (fun r b => rd f (.loop n (.bin (of2 n (nx ts)) a b)) r)
  | f + 1, .una, ts =>
    if nx ts = [45] then then2 (rd f .una ts.tail) (fun r a => .ok r (.un 5 a))
    else if nx ts = [110, 111, 116] then then2 (rd f .una ts.tail) (fun r a => .ok r (.un 6 a))
    else rd f .pri ts
  | f + 1, .pri, ts =>
    if nx ts = [40] then then2 (rd f (.lev 1) ts.tail) (fun r a => eat [41] r (fun r => .ok r a))
    else if nx ts = [105, 102] then rd f .bra ts
    else if nx ts = [116, 114, 117, 101] then .ok ts.tail .tt
    else if nx ts = [102, 97, 108, 115, 101] then .ok ts.tail .ff
    else if nx ts ≠ [] ∧ kd ts = 1 then (match numv (nx ts) with
      | some v => .ok ts.tail (.num v)
      | none => .bad ts.length 60)
    else if nx ts ≠ [] ∧ kd ts = 2 then .ok ts.tail (.name (nx ts))
    else .bad ts.length 80
  | f + 1, .bra, ts =>
    then2 (rd f (.lev 1) ts.tail) (fun r a => eat [116, 104, 101, 110] r (fun r =>
      then2 (rd f (.lev 1) r) (fun r b => eat [101, 108, 115, 101] r (fun r =>
        then2 (rd f (.lev 1) r) (fun r c => eat [101, 110, 100, 105, 102] r (fun r => .ok r (.ite a b c)))))))
def rank : Md → Nat
  | .lev n => 14 - n
  | .loop _ _ => 1
  | .una => 4
  | .pri => 3
  | .bra => 2
def need (m : Md) (ts : List Tk) : Nat := 16 * ts.length + rank m
end Ex
end Go.Proofs.YtmmdigeciphglaaGreatDoor
namespace Go.Proofs.YtmmdigeciphglaaGreatDoor
namespace Ex
structure Nd where
  op : Int
  num : Int
  nm : List UInt8
  a : Int
  b : Int
  c : Int
def sz : E → Nat
  | .un _ a => sz a + 1
  | .bin _ a b => sz a + sz b + 1
  | .ite a b c => sz a + sz b + sz c + 1
  | _ => 1
def flat : E → Nat → List Nd
  | .num n, _ => [⟨1, n, [], -1, -1, -1⟩]
  | .name s, _ => [⟨2, 0, s, -1, -1, -1⟩]
  | .tt, _ => [⟨3, 0, [], -1, -1, -1⟩]
  | .ff, _ => [⟨4, 0, [], -1, -1, -1⟩]
  | .un op a, p => flat a p ++ [⟨op, 0, [], (p + sz a : Nat) - 1, -1, -1⟩]
  | .bin op a b, p => flat a p ++ flat b (p + sz a) ++ [⟨op, 0, [], (p + sz a : Nat) - 1, (p + sz a + sz b : Nat) - 1, -1⟩]
  | .ite a b c, p => flat a p ++ flat b (p + sz a) ++ flat c (p + sz a + sz b) ++ [⟨22, 0, [], (p + sz a : Nat) - 1, (p + sz a + sz b : Nat) - 1, (p + sz a + sz b + sz c : Nat) - 1⟩]
theorem flat_len : ∀ (x : E) (p : Nat), (flat x p).length = sz x
  | .num _, _ => rfl
  | .name _, _ => rfl
  | .tt, _ => rfl
  | .ff, _ => rfl
  | .un _ a, p => by simp [flat, sz, flat_len a]
  | .bin _ a b, p => by simp [flat, sz, flat_len a, flat_len b]; omega
  | .ite a b c, p => by simp [flat, sz, flat_len a, flat_len b, flat_len c]; omega
theorem sz_pos (x : E) : 1 ≤ sz x := by cases x <;> simp [sz]
def wr : E → Prop
  | .num _ => True
  | .name s => Lx.is s = 2
  | .tt => True
  | .ff => True
  | .un op a => (op = 5 ∨ op = 6) ∧ wr a
  | .bin op a b => 7 ≤ op ∧ op ≤ 21 ∧ wr a ∧ wr b
  | .ite a b c => wr a ∧ wr b ∧ wr c
def At (l : List Nd) (s : Nat) (x : E) : Prop := (l.drop s).take (sz x) = flat x s ∧ s + sz x ≤ l.length
theorem At.split {l A B : List Nd} {s n : Nat} (hA : A.length = n) : (l.drop s).take (n + B.length) = A ++ B ↔ (l.drop s).take n = A ∧ (l.drop (s + n)).take B.length = B := by
  rw [List.take_add, List.drop_drop]
  constructor
  · intro h
    have h1 := congrArg (List.take n) h
    have h2 := congrArg (List.drop n) h
    rw [List.take_left' hA] at h1
    rw [List.drop_left' hA] at h2
    have hl : (List.take n (List.drop s l)).length = n := by
      have h3 := congrArg List.length h
      rw [List.length_append, List.length_append, hA] at h3
      have h4 : (List.take n (List.drop s l)).length ≤ n := by rw [List.length_take]; omega
      have h5 : (List.take B.length (List.drop (s + n) l)).length ≤ B.length := by rw [List.length_take]; omega
      omega
    rw [List.take_left' hl] at h1
    rw [List.drop_left' hl] at h2
    exact ⟨h1, h2⟩
  · rintro ⟨h1, h2⟩
    rw [h1, h2]
theorem at_one {l : List Nd} {s : Nat} {n : Nd} : (l.drop s).take 1 = [n] ↔ l[s]? = some n := by
  cases h : l[s]? with
  | none =>
    rw [List.drop_of_length_le (List.getElem?_eq_none_iff.1 h)]; simp
  | some m =>
    obtain ⟨hs, e⟩ := List.getElem?_eq_some_iff.1 h
    rw [List.drop_eq_getElem_cons hs, e]; simp
theorem at_un {l : List Nd} {s op : Nat} {a : E} (h : At l s (.un op a)) : At l s a ∧ l[s + sz a]? = some ⟨op, 0, [], (s + sz a : Nat) - 1, -1, -1⟩ := by
  obtain ⟨h1, h2⟩ := h
  simp only [sz, flat] at h1 h2
  obtain ⟨k1, k2⟩ := (At.split (flat_len a s)).1 (show (l.drop s).take (sz a + [_].length) = _ from h1)
  exact ⟨⟨k1, by omega⟩, at_one.1 k2⟩
theorem at_bin {l : List Nd} {s op : Nat} {a b : E} (h : At l s (.bin op a b)) : At l s a ∧ At l (s + sz a) b ∧ l[s + sz a + sz b]? = some ⟨op, 0, [], (s + sz a : Nat) - 1, (s + sz a + sz b : Nat) - 1, -1⟩ := by
  obtain ⟨h1, h2⟩ := h
  simp only [sz, flat] at h1 h2
  obtain ⟨k1, k2⟩ := (At.split (n := sz a + sz b) (by rw [List.length_append, flat_len, flat_len])).1 (show (l.drop s).take (sz a + sz b + [_].length) = _ from h1)
  obtain ⟨q1, q2⟩ := (At.split (flat_len a s)).1 (show (l.drop s).take (sz a + (flat b (s + sz a)).length) = _ from by rw [flat_len]; exact k1)
  rw [flat_len] at q2
  exact ⟨⟨q1, by omega⟩, ⟨q2, by omega⟩, by have k3 := at_one.1 k2; rw [← Nat.add_assoc] at k3; exact k3⟩
theorem at_ite {l : List Nd} {s : Nat} {a b c : E} (h : At l s (.ite a b c)) : At l s a ∧ At l (s + sz a) b ∧ At l (s + sz a + sz b) c ∧ l[s + sz a + sz b + sz c]? = some ⟨22, 0, [], (s + sz a : Nat) - 1, (s + sz a + sz b : Nat) - 1, (s + sz a + sz b + sz c : Nat) - 1⟩ := by
  obtain ⟨h1, h2⟩ := h
  simp only [sz, flat] at h1 h2
  obtain ⟨k1, k2⟩ := (At.split (n := sz a + sz b + sz c) (by rw [List.length_append, List.length_append, flat_len, flat_len, flat_len])).1 (show (l.drop s).take (sz a + sz b + sz c + [_].length) = _ from h1)
  obtain ⟨p1, p2⟩ := (At.split (n := sz a + sz b) (A := flat a s ++ flat b (s + sz a)) (by rw [List.length_append, flat_len, flat_len])).1 (show (l.drop s).take (sz a + sz b + (flat c (s + sz a + sz b)).length) = _ from by rw [flat_len]; exact k1)
  obtain ⟨q1, q2⟩ := (At.split (flat_len a s)).1 (show (l.drop s).take (sz a + (flat b (s + sz a)).length) = _ from by rw [flat_len]; exact p1)
  rw [flat_len] at q2 p2
  exact ⟨⟨q1, by omega⟩, ⟨q2, by omega⟩, ⟨by rw [← Nat.add_assoc] at p2; exact p2, by omega⟩, by have k3 := at_one.1 k2; rw [show s + (sz a + sz b + sz c) = s + sz a + sz b + sz c by omega] at k3; exact k3⟩
end Ex
end Go.Proofs.YtmmdigeciphglaaGreatDoor
namespace Go.Proofs.YtmmdigeciphglaaGreatDoor
namespace Ex
theorem nx_nil {ts : List Tk} (h : nx ts ≠ []) : ts ≠ [] := fun e => h (by rw [e]; rfl)
theorem tail_lt {ts : List Tk} (h : ts ≠ []) : ts.tail.length + 1 = ts.length := by
  cases ts with
  | nil => exact absurd rfl h
  | cons _ _ => rfl
theorem of2_nx {n : Nat} {s : List UInt8} (h : of2 n s ≠ 0) : s ≠ [] := fun e => h (by
  subst e
  unfold of2
  generalize ((List.range 15).map (· + 7)) = l
  induction l with
  | nil => rfl
  | cons a r ih => rw [List.foldr_cons, if_neg (by simp)]; exact ih)
def one : Md → Nat
  | .loop _ _ => 0
  | _ => 1
theorem then2_ok {x : Rs} {f : List Tk → E → Rs} {r : List Tk} {a : E} (h : then2 x f = .ok r a) : ∃ r1 a1, x = .ok r1 a1 ∧ f r1 a1 = .ok r a := by
  cases x with
  | bad l e => cases h
  | ok r1 a1 => exact ⟨r1, a1, rfl, h⟩
theorem eat_ok {s : List UInt8} (hs : s ≠ []) {r : List Tk} {f : List Tk → Rs} {r2 : List Tk} {a : E} (h : eat s r f = .ok r2 a) : nx r = s ∧ r.tail.length + 1 = r.length ∧ f r.tail = .ok r2 a := by
  unfold eat at h
  split at h
  · rename_i hn
    exact ⟨hn, tail_lt (nx_nil (by rw [hn]; exact hs)), h⟩
  · cases h
theorem rd_less : ∀ (f : Nat) (m : Md) (ts r : List Tk) (x : E), rd f m ts = .ok r x → r.length + one m ≤ ts.length
  | 0, _, _, _, _, h => by cases h
  | f + 1, .lev n, ts, r, x, h => by
    unfold rd at h
    split at h
    · have := rd_less f _ _ _ _ h
      simpa [one] using this
    · split at h
      · have := rd_less f _ _ _ _ h
        simpa [one] using this
      · obtain ⟨r1, a1, h1, h2⟩ := then2_ok h
        have e1 := rd_less f _ _ _ _ h1
        have e2 := rd_less f _ _ _ _ h2
        simp only [one] at e1 e2 ⊢
        omega
  | f + 1, .loop n a, ts, r, x, h => by
    unfold rd at h
    split at h
    · cases h; simp [one]
    · rename_i ho
      have hl := tail_lt (nx_nil (of2_nx ho))
      obtain ⟨r1, a1, h1, h2⟩ := then2_ok h
      have e1 := rd_less f _ _ _ _ h1
      have e2 := rd_less f _ _ _ _ h2
      simp only [one] at e1 e2 ⊢
      omega
  | f + 1, .una, ts, r, x, h => by
    unfold rd at h
    split at h
    · rename_i ho
      have hl := tail_lt (nx_nil (ts := ts) (by rw [ho]; simp))
      obtain ⟨r1, a1, h1, h2⟩ := then2_ok h
      have e1 := rd_less f _ _ _ _ h1
      cases h2
      simp only [one] at e1 ⊢
      omega
    · split at h
      · rename_i ho
        have hl := tail_lt (nx_nil (ts := ts) (by rw [ho]; simp))
        obtain ⟨r1, a1, h1, h2⟩ := then2_ok h
        have e1 := rd_less f _ _ _ _ h1
        cases h2
        simp only [one] at e1 ⊢
        omega
      · have := rd_less f _ _ _ _ h
        simpa [one] using this
  | f + 1, .pri, ts, r, x, h => by
    have hl : nx ts ≠ [] → ts.tail.length + 1 = ts.length := fun h => tail_lt (nx_nil h)
    unfold rd at h
    simp only [one]
    split at h
    · rename_i ho
      obtain ⟨r1, a1, h1, h2⟩ := then2_ok h
      obtain ⟨_, e3, e4⟩ := eat_ok (by simp) h2
      have e1 := rd_less f _ _ _ _ h1
      cases e4
      simp only [one] at e1
      have := hl (by rw [ho]; simp)
      omega
    · split at h
      · have := rd_less f _ _ _ _ h
        simpa [one] using this
      · split at h
        · rename_i ho; cases h; have := hl (by rw [ho]; simp); omega
        · split at h
          · rename_i ho; cases h; have := hl (by rw [ho]; simp); omega
          · split at h
            · rename_i ho
              split at h
              · cases h; have := hl ho.1; omega
              · cases h
            · split at h
              · rename_i ho; cases h; have := hl ho.1; omega
              · cases h
  | f + 1, .bra, ts, r, x, h => by
    unfold rd at h
    simp only [one]
    obtain ⟨r1, a1, h1, h2⟩ := then2_ok h
    obtain ⟨_, e3, h3⟩ := eat_ok (by simp) h2
    obtain ⟨r4, a4, h4, h5⟩ := then2_ok h3
    obtain ⟨_, e6, h6⟩ := eat_ok (by simp) h5
    obtain ⟨r7, a7, h7, h8⟩ := then2_ok h6
    obtain ⟨_, e9, h9⟩ := eat_ok (by simp) h8
    have q1 := rd_less f _ _ _ _ h1
    have q4 := rd_less f _ _ _ _ h4
    have q7 := rd_less f _ _ _ _ h7
    cases h9
    simp only [one, List.length_tail] at q1 q4 q7 e3 e6 e9 ⊢
    omega
theorem then2_cong {x y : Rs} {f g : List Tk → E → Rs} (h : x = y) (hf : ∀ r a, y = .ok r a → f r a = g r a) : then2 x f = then2 y g := by
  subst h
  cases x with
  | bad l e => rfl
  | ok r a => exact hf r a rfl
theorem eat_cong {s : List UInt8} (hs : s ≠ []) {r : List Tk} {f g : List Tk → Rs} (hf : r.tail.length + 1 = r.length → f r.tail = g r.tail) : eat s r f = eat s r g := by
  unfold eat
  split
  · rename_i hn
    exact hf (tail_lt (nx_nil (by rw [hn]; exact hs)))
  · rfl
def okm : Md → List Tk → Prop
  | .lev n, _ => n ≤ 10
  | .loop n _, _ => n ≤ 8
  | .bra, ts => ts ≠ []
  | _, _ => True
theorem rd_fuel : ∀ (f g : Nat) (m : Md) (ts : List Tk), okm m ts → need m ts < f → need m ts < g → rd f m ts = rd g m ts
  | 0, _, _, _, _, h, _ => absurd h (Nat.not_lt_zero _)
  | _, 0, _, _, _, _, h => absurd h (Nat.not_lt_zero _)
  | f + 1, g + 1, m, ts, ho, hf, hg => by
    have ih := rd_fuel f g
    have hb : ∀ (m' : Md) (ts' : List Tk), okm m' ts' → need m' ts' < need m ts → rd f m' ts' = rd g m' ts' := fun m' ts' h0 h => ih m' ts' h0 (by omega) (by omega)
    cases m with
    | lev n =>
      simp only [okm] at ho
      unfold rd
      split
      · rename_i h; subst h; exact hb _ _ True.intro (by simp [need, rank])
      · split
        · rename_i h; subst h; exact hb _ _ True.intro (by simp [need, rank])
        · refine then2_cong (hb _ _ (by simp only [okm]; omega) (by simp only [need, rank]; omega)) fun r a hr => hb _ _ (by simp only [okm]; omega) ?_
          have := rd_less _ _ _ _ _ hr
          simp only [one] at this
          simp only [need, rank]
          omega
    | loop n a =>
      simp only [okm] at ho
      unfold rd
      split
      · rfl
      · rename_i hop
        have hl := tail_lt (nx_nil (of2_nx hop))
        refine then2_cong (hb _ _ (by simp only [okm]; omega) (by simp only [need, rank]; omega)) fun r b hr => hb _ _ (by simp only [okm]; omega) ?_
        have := rd_less _ _ _ _ _ hr
        simp only [one] at this
        simp only [need, rank]
        omega
    | una =>
      unfold rd
      have hl : nx ts ≠ [] → ts.tail.length + 1 = ts.length := fun h => tail_lt (nx_nil h)
      split
      · rename_i hop
        have := hl (by rw [hop]; simp)
        exact then2_cong (hb _ _ True.intro (by simp only [need, rank]; omega)) fun r b hr => rfl
      · split
        · rename_i hop
          have := hl (by rw [hop]; simp)
          exact then2_cong (hb _ _ True.intro (by simp only [need, rank]; omega)) fun r b hr => rfl
        · exact hb _ _ True.intro (by simp only [need, rank]; omega)
    | pri =>
      unfold rd
      have hl : nx ts ≠ [] → ts.tail.length + 1 = ts.length := fun h => tail_lt (nx_nil h)
      split
      · rename_i hop
        have := hl (by rw [hop]; simp)
        exact then2_cong (hb _ _ (by simp [okm]) (by simp only [need, rank]; omega)) fun r b hr => rfl
      · split
        · rename_i hop
          exact hb _ _ (nx_nil (by rw [hop]; simp)) (by simp only [need, rank]; omega)
        · rfl
    | bra =>
      unfold rd
      have hl := tail_lt (show ts ≠ [] from ho)
      refine then2_cong (hb _ _ (by simp [okm]) (by simp only [need, rank]; omega)) fun r a hr => eat_cong (by simp) fun h1 => ?_
      have q1 := rd_less _ _ _ _ _ hr
      simp only [one] at q1
      refine then2_cong (hb _ _ (by simp [okm]) (by simp only [need, rank]; omega)) fun r2 b hr2 => eat_cong (by simp) fun h2 => ?_
      have q2 := rd_less _ _ _ _ _ hr2
      simp only [one] at q2
      exact then2_cong (hb _ _ (by simp [okm]) (by simp only [need, rank]; omega)) fun r3 c hr3 => rfl
end Ex
end Go.Proofs.YtmmdigeciphglaaGreatDoor
namespace Go.Proofs.YtmmdigeciphglaaGreatDoor
namespace Ex
def R (m : Md) (ts : List Tk) : Rs := rd (need m ts + 1) m ts
theorem R_of {f : Nat} {m : Md} {ts : List Tk} (ho : okm m ts) (h : need m ts < f) : rd f m ts = R m ts := rd_fuel _ _ m ts ho h (Nat.lt_succ_self _)
theorem R_lev {n : Nat} (h : n ≤ 8) (ts : List Tk) : R (.lev n) ts = then2 (R (.lev (n + 1)) ts) (fun r a => R (.loop n a) r) := by
  conv => lhs; unfold R rd
  rw [if_neg (by omega), if_neg (by omega)]
  refine then2_cong (R_of (by simp only [okm]; omega) (by simp only [need, rank]; omega)) fun r a hr => R_of (by simp only [okm]; omega) ?_
  have := rd_less _ _ _ _ _ hr
  simp only [one] at this
  simp only [need, rank]
  omega
theorem R_9 (ts : List Tk) : R (.lev 9) ts = R .una ts := by
  conv => lhs; unfold R rd
  rw [if_neg (by decide), if_pos rfl]
  exact R_of True.intro (by simp only [need, rank]; omega)
theorem R_10 (ts : List Tk) : R (.lev 10) ts = R .pri ts := by
  conv => lhs; unfold R rd
  rw [if_pos rfl]
  exact R_of True.intro (by simp only [need, rank]; omega)
theorem R_loop0 {n : Nat} {a : E} {ts : List Tk} (h : of2 n (nx ts) = 0) : R (.loop n a) ts = .ok ts a := by
  unfold R rd
  rw [if_pos h]
theorem R_loop {n : Nat} {a : E} {ts : List Tk} (hn : n ≤ 8) (h : of2 n (nx ts) ≠ 0) : R (.loop n a) ts = then2 (R (.lev (n + 1)) ts.tail) (fun r b => R (.loop n (.bin (of2 n (nx ts)) a b)) r) := by
  have hl := tail_lt (nx_nil (of2_nx h))
  conv => lhs; unfold R rd
  rw [if_neg h]
  refine then2_cong (R_of (by simp only [okm]; omega) (by simp only [need, rank]; omega)) fun r b hr => R_of (by simp only [okm]; omega) ?_
  have := rd_less _ _ _ _ _ hr
  simp only [one] at this
  simp only [need, rank]
  omega
theorem R_una5 {ts : List Tk} (h : nx ts = [45]) : R .una ts = then2 (R .una ts.tail) (fun r a => .ok r (.un 5 a)) := by
  have hl := tail_lt (nx_nil (ts := ts) (by rw [h]; simp))
  conv => lhs; unfold R rd
  rw [if_pos h]
  exact then2_cong (R_of True.intro (by simp only [need, rank]; omega)) fun _ _ _ => rfl
theorem R_una6 {ts : List Tk} (h : nx ts = [110, 111, 116]) : R .una ts = then2 (R .una ts.tail) (fun r a => .ok r (.un 6 a)) := by
  have hl := tail_lt (nx_nil (ts := ts) (by rw [h]; simp))
  conv => lhs; unfold R rd
  rw [if_neg (by rw [h]; decide), if_pos h]
  exact then2_cong (R_of True.intro (by simp only [need, rank]; omega)) fun _ _ _ => rfl
theorem R_unap {ts : List Tk} (h5 : nx ts ≠ [45]) (h6 : nx ts ≠ [110, 111, 116]) : R .una ts = R .pri ts := by
  conv => lhs; unfold R rd
  rw [if_neg h5, if_neg h6]
  exact R_of True.intro (by simp only [need, rank]; omega)
theorem R_par {ts : List Tk} (h : nx ts = [40]) : R .pri ts = then2 (R (.lev 1) ts.tail) (fun r a => eat [41] r (fun r => .ok r a)) := by
  have hl := tail_lt (nx_nil (ts := ts) (by rw [h]; simp))
  conv => lhs; unfold R rd
  rw [if_pos h]
  exact then2_cong (R_of (by simp [okm]) (by simp only [need, rank]; omega)) fun _ _ _ => rfl
theorem R_if {ts : List Tk} (h : nx ts = [105, 102]) : R .pri ts = R .bra ts := by
  conv => lhs; unfold R rd
  rw [if_neg (by rw [h]; decide), if_pos h]
  exact R_of (nx_nil (by rw [h]; simp)) (by simp only [need, rank]; omega)
theorem R_bra {ts : List Tk} (h : ts ≠ []) : R .bra ts = then2 (R (.lev 1) ts.tail) (fun r a => eat [116, 104, 101, 110] r (fun r =>
      then2 (R (.lev 1) r) (fun r b => eat [101, 108, 115, 101] r (fun r =>
        then2 (R (.lev 1) r) (fun r c => eat [101, 110, 100, 105, 102] r (fun r => .ok r (.ite a b c))))))) := by
  have hl := tail_lt h
  conv => lhs; unfold R rd
  refine then2_cong (R_of (by simp [okm]) (by simp only [need, rank]; omega)) fun r a hr => eat_cong (by simp) fun h1 => ?_
  have q1 := rd_less _ _ _ _ _ hr
  simp only [one] at q1
  refine then2_cong (R_of (by simp [okm]) (by simp only [need, rank]; omega)) fun r2 b hr2 => eat_cong (by simp) fun h2 => ?_
  have q2 := rd_less _ _ _ _ _ hr2
  simp only [one] at q2
  exact then2_cong (R_of (by simp [okm]) (by simp only [need, rank]; omega)) fun r3 c hr3 => rfl
/-! ### how one is written -/
def tok (op : Nat) : Tk := (Lx.is (opS op), opS op)
def wT (s : List UInt8) : Tk := (3, s)
def dg (n : Nat) : List UInt8 := Lib.decDigits n
def pr : E → Nat → List Tk
  | .num n, _ => [(1, dg n)]
  | .name s, _ => [(2, s)]
  | .tt, _ => [wT [116, 114, 117, 101]]
  | .ff, _ => [wT [102, 97, 108, 115, 101]]
  | .un op a, L => if lvl op < L then (4, [40]) :: (tok op :: pr a 9) ++ [(4, [41])] else tok op :: pr a 9
  | .bin op a b, L => if lvl op < L then (4, [40]) :: (pr a (lvl op) ++ tok op :: pr b (lvl op + 1)) ++ [(4, [41])] else pr a (lvl op) ++ tok op :: pr b (lvl op + 1)
  | .ite a b c, _ => wT [105, 102] :: pr a 0 ++ wT [116, 104, 101, 110] :: pr b 0 ++ wT [101, 108, 115, 101] :: pr c 0 ++ [wT [101, 110, 100, 105, 102]]
def wf : E → Prop
  | .num n => numv (dg n) = some n ∧ Lx.is (dg n) = 1
  | .name s => Lx.is s = 2
  | .tt => True
  | .ff => True
  | .un op a => (op = 5 ∨ op = 6) ∧ wf a
  | .bin op a b => 7 ≤ op ∧ op ≤ 21 ∧ wf a ∧ wf b
  | .ite a b c => wf a ∧ wf b ∧ wf c
theorem ops_all : ∀ op : Fin 22, 7 ≤ op.1 → of2 (lvl op.1) (opS op.1) = op.1 ∧ 1 ≤ lvl op.1 ∧ lvl op.1 ≤ 8 ∧ ∀ m : Fin 9, m.1 ≠ lvl op.1 → of2 m.1 (opS op.1) = 0 := by decide
theorem nx_tok {op : Nat} {r : List Tk} : nx (tok op :: r) = opS op := by simp [nx, tok]
end Ex
end Go.Proofs.YtmmdigeciphglaaGreatDoor
