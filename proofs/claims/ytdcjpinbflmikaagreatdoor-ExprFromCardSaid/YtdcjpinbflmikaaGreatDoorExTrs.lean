/- Layer 8: rows of nodes of several expressions, one behind the other, and their places and depths. No condition. -/
import Derived.Test.YtdcjpinbflmikaaGreatDoorExRdr3
import Derived.Test.YtdcjpinbflmikaaGreatDoorExText
namespace Go.Proofs.YtdcjpinbflmikaaGreatDoor
open Ex
namespace Ex

def flats : List E → Nat → List Nd
  | [], _ => []
  | x :: l, p => flat x p ++ flats l (p + sz x)
def loo : List E → Nat → List (Nat × Nat)
  | [], _ => []
  | x :: l, p => (p + sz x - 1, dp x) :: loo l (p + sz x)
def szs : List E → Nat
  | [] => 0
  | x :: l => sz x + szs l
theorem flats_app : ∀ (A B : List E) (p : Nat), flats (A ++ B) p = flats A p ++ flats B (p + szs A)
  | [], _, _ => rfl
  | x :: A, B, p => by simp only [List.cons_append, flats, szs, flats_app A B, List.append_assoc, Nat.add_assoc]
theorem loo_app : ∀ (A B : List E) (p : Nat), loo (A ++ B) p = loo A p ++ loo B (p + szs A)
  | [], _, _ => rfl
  | x :: A, B, p => by simp only [List.cons_append, loo, szs, loo_app A B, Nat.add_assoc]
theorem szs_app : ∀ (A B : List E), szs (A ++ B) = szs A + szs B
  | [], B => by simp [szs]
  | x :: A, B => by simp only [List.cons_append, szs, szs_app A B, Nat.add_assoc]
theorem flats_len : ∀ (A : List E) (p : Nat), (flats A p).length = szs A
  | [], _ => rfl
  | x :: A, p => by simp only [flats, List.length_append, flat_len, flats_len A, szs]
theorem loo_len : ∀ (A : List E) (p : Nat), (loo A p).length = A.length
  | [], _ => rfl
  | x :: A, p => by simp only [loo, List.length_cons, loo_len A]
theorem len_szs : ∀ A : List E, A.length ≤ szs A
  | [] => Nat.le_refl _
  | x :: A => by have := len_szs A; have := sz_pos x; simp only [List.length_cons, szs]; omega
theorem dp_sz : ∀ x : E, dp x ≤ sz x
  | .num _ => Nat.le_refl _
  | .name _ => Nat.le_refl _
  | .tt => Nat.le_refl _
  | .ff => Nat.le_refl _
  | .un _ a => by have := dp_sz a; simp only [dp, sz]; omega
  | .bin _ a b => by have := dp_sz a; have := dp_sz b; simp only [dp, sz]; omega
  | .ite a b c => by have := dp_sz a; have := dp_sz b; have := dp_sz c; simp only [dp, sz]; omega
theorem loo_deep : ∀ (A : List E) (p : Nat), ∀ q ∈ loo A p, q.2 ≤ szs A
  | [], _, q, h => by cases h
  | x :: A, p, q, h => by
    rcases List.mem_cons.1 h with rfl | h
    · have := dp_sz x; simp only [szs]; omega
    · have := loo_deep A _ q h; simp only [szs]; omega
/-- An expression made of parts. -/
inductive Cmb : Nat → List E → E → Prop where
  | un (op : Nat) (a : E) (h : op = 5 ∨ op = 6) : Cmb op [a] (.un op a)
  | bin (op : Nat) (a b : E) (h : 7 ≤ op ∧ op ≤ 21) : Cmb op [a, b] (.bin op a b)
  | ite (a b c : E) : Cmb 22 [a, b, c] (.ite a b c)
theorem Cmb.parts {op : Nat} {l : List E} {x : E} (h : Cmb op l x) : l.length = fP op ∧ op < 23 ∧ fP op ≤ 3 := by
  cases h with
  | un op a h => rcases h with rfl | rfl <;> exact ⟨rfl, by omega, by decide⟩
  | bin op a b h => unfold fP; rw [if_neg (by omega), if_neg (by omega), if_pos (by omega)]; exact ⟨rfl, by omega, by omega⟩
  | ite a b c => exact ⟨rfl, by omega, by decide⟩
theorem nd_eq {a b : Nd} (h1 : a.op = b.op) (h2 : a.num = b.num) (h3 : a.nm = b.nm) (h4 : a.a = b.a) (h5 : a.b = b.b) (h6 : a.c = b.c) : a = b := by cases a; cases b; simp_all
/-- Parts that are put together: the row, and what is loose. -/
theorem comb {op : Nat} {l : List E} {x : E} (h : Cmb op l x) (A : List E) :
    flats (A ++ [x]) 0 = flats (A ++ l) 0 ++ [put1 ⟨(op : Int), 0, [], 0, 0, 0⟩ ((loo (A ++ l) 0).drop ((loo (A ++ l) 0).length - fP op))] ∧
    loo (A ++ [x]) 0 = (loo (A ++ l) 0).take ((loo (A ++ l) 0).length - fP op) ++ [((flats (A ++ l) 0).length, dmx ((loo (A ++ l) 0).drop ((loo (A ++ l) 0).length - fP op)) (fP op) + 1)] := by
  have hlen : (loo (A ++ l) 0).length - fP op = (loo A 0).length := by
    rw [loo_len, loo_len, List.length_append, h.parts.1]; omega
  rw [hlen, flats_len, szs_app]
  rw [loo_app A l, loo_app A [x], flats_app A l, flats_app A [x], List.drop_left, List.take_left, Nat.zero_add]
  have hs := fun y => sz_pos y
  cases h with
  | un op a h =>
    have e1 : fP op = 1 := by rcases h with rfl | rfl <;> rfl
    refine ⟨?_, ?_⟩
    · simp only [flats, flat, List.append_nil, List.append_assoc]
      congr 2
      congr 1
      have := hs a
      refine nd_eq rfl rfl rfl ?_ rfl rfl
      show ((szs A + sz a : Nat) : Int) - 1 = ((szs A + sz a - 1 : Nat) : Int)
      omega
    · rw [e1]
      congr 1
  | bin op a b h =>
    have e1 : fP op = 2 := by unfold fP; rw [if_neg (by omega), if_neg (by omega), if_pos (by omega)]
    have := hs a
    have := hs b
    refine ⟨?_, ?_⟩
    · simp only [flats, flat, List.append_nil, List.append_assoc]
      congr 3
      congr 1
      refine nd_eq rfl rfl rfl ?_ ?_ rfl
      · show ((szs A + sz a : Nat) : Int) - 1 = ((szs A + sz a - 1 : Nat) : Int)
        omega
      · show ((szs A + sz a + sz b : Nat) : Int) - 1 = ((szs A + sz a + sz b - 1 : Nat) : Int)
        omega
    · rw [e1]
      congr 1
  | ite a b c =>
    have := hs a
    have := hs b
    have := hs c
    refine ⟨?_, ?_⟩
    · simp only [flats, flat, List.append_nil, List.append_assoc]
      congr 4
      congr 1
      refine nd_eq rfl rfl rfl ?_ ?_ ?_
      · show ((szs A + sz a : Nat) : Int) - 1 = ((szs A + sz a - 1 : Nat) : Int)
        omega
      · show ((szs A + sz a + sz b : Nat) : Int) - 1 = ((szs A + sz a + sz b - 1 : Nat) : Int)
        omega
      · show ((szs A + sz a + sz b + sz c : Nat) : Int) - 1 = ((szs A + sz a + sz b + sz c - 1 : Nat) : Int)
        omega
    · show _ ++ _ = _ ++ [(_, dmx _ 3 + 1)]
      congr 1
      simp only [loo, szs, sz, dp]
      congr 2
      · omega
      · show max (dp a) (max (dp b) (dp c)) + 1 = max (max (max 0 (dp a)) (dp b)) (dp c) + 1
        omega
/-- The parts that wait in a row of frames. -/
def trs : List Fr → List E
  | [] => []
  | .un _ :: K => trs K
  | .bin _ a :: K => trs K ++ [a]
  | .par :: K => trs K
  | .if0 :: K => trs K
  | .if1 a :: K => trs K ++ [a]
  | .if2 a b :: K => trs K ++ [a, b]
def cur : Option E → List E
  | none => []
  | some x => [x]
/-- All that is there: what waits, and the part at hand. -/
def all (K : List (Fr × Nat)) (c : Option E) : List E := trs (K.map (·.1)) ++ cur c
end Ex
end Go.Proofs.YtdcjpinbflmikaaGreatDoor
