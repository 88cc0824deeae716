/- Plain facts on expressions: how one is written, and that what is written is read as it was. No program is named here; no condition. -/
import Derived.Test.YtdcjpinbflmikaaGreatDoorExFuel
import Derived.Lib.ItoaNum
namespace Go.Proofs.YtdcjpinbflmikaaGreatDoor
namespace Ex

def R (m : Md) (ts : List Tk) : Rs := rd (need m ts + 1) m ts
theorem R_of {f : Nat} {m : Md} {ts : List Tk} (ho : okm m ts) (h : need m ts < f) : rd f m ts = R m ts := rd_fuel _ _ m ts ho h (Nat.lt_succ_self _)
theorem R_lev {n : Nat} (h : n ≤ 8) (ts : List Tk) : R (.lev n) ts = then2 (R (.lev (n + 1)) ts) (fun r a => R (.loop n a) r) := by
  conv => lhs; unfold R rd
  rw [if_neg (by omega), if_neg (by omega)]
  refine then2_cong (R_of (by simp only [okm]; omega) (by simp only [need, rank]; omega)) fun r a hr => R_of (by simp only [okm]; omega) ?_
  have := rd_less _ _ _ _ _ hr
  simp only [one] at this
  simp only [need, rank]
  omega
theorem R_9 (ts : List Tk) : R (.lev 9) ts = R .una ts := by
  conv => lhs; unfold R rd
  rw [if_neg (by decide), if_pos rfl]
  exact R_of True.intro (by simp only [need, rank]; omega)
theorem R_10 (ts : List Tk) : R (.lev 10) ts = R .pri ts := by
  conv => lhs; unfold R rd
  rw [if_pos rfl]
  exact R_of True.intro (by simp only [need, rank]; omega)
theorem R_loop0 {n : Nat} {a : E} {ts : List Tk} (h : of2 n (nx ts) = 0) : R (.loop n a) ts = .ok ts a := by
  unfold R rd
  rw [if_pos h]
theorem R_loop {n : Nat} {a : E} {ts : List Tk} (hn : n ≤ 8) (h : of2 n (nx ts) ≠ 0) : R (.loop n a) ts = then2 (R (.lev (n + 1)) ts.tail) (fun r b => R (.loop n (.bin (of2 n (nx ts)) a b)) r) := by
  have hl := tail_lt (nx_nil (of2_nx h))
  conv => lhs; unfold R rd
  rw [if_neg h]
  refine then2_cong (R_of (by simp only [okm]; omega) (by simp only [need, rank]; omega)) fun r b hr => R_of (by simp only [okm]; omega) ?_
  have := rd_less _ _ _ _ _ hr
  simp only [one] at this
  simp only [need, rank]
  omega
theorem R_una5 {ts : List Tk} (h : nx ts = [45]) : R .una ts = then2 (R .una ts.tail) (fun r a => .ok r (.un 5 a)) := by
  have hl := tail_lt (nx_nil (ts := ts) (by rw [h]; simp))
  conv => lhs; unfold R rd
  rw [if_pos h]
  exact then2_cong (R_of True.intro (by simp only [need, rank]; omega)) fun _ _ _ => rfl
theorem R_una6 {ts : List Tk} (h : nx ts = [110, 111, 116]) : R .una ts = then2 (R .una ts.tail) (fun r a => .ok r (.un 6 a)) := by
  have hl := tail_lt (nx_nil (ts := ts) (by rw [h]; simp))
  conv => lhs; unfold R rd
  rw [if_neg (by rw [h]; decide), if_pos h]
  exact then2_cong (R_of True.intro (by simp only [need, rank]; omega)) fun _ _ _ => rfl
theorem R_unap {ts : List Tk} (h5 : nx ts ≠ [45]) (h6 : nx ts ≠ [110, 111, 116]) : R .una ts = R .pri ts := by
  conv => lhs; unfold R rd
  rw [if_neg h5, if_neg h6]
  exact R_of True.intro (by simp only [need, rank]; omega)
theorem R_par {ts : List Tk} (h : nx ts = [40]) : R .pri ts = then2 (R (.lev 1) ts.tail) (fun r a => eat [41] r (fun r => .ok r a)) := by
  have hl := tail_lt (nx_nil (ts := ts) (by rw [h]; simp))
  conv => lhs; unfold R rd
  rw [if_pos h]
  exact then2_cong (R_of (by simp [okm]) (by simp only [need, rank]; omega)) fun _ _ _ => rfl
theorem R_if {ts : List Tk} (h : nx ts = [105, 102]) : R .pri ts = R .bra ts := by
  conv => lhs; unfold R rd
  rw [if_neg (by rw [h]; decide), if_pos h]
  exact R_of (nx_nil (by rw [h]; simp)) (by simp only [need, rank]; omega)
theorem R_bra {ts : List Tk} (h : ts ≠ []) : R .bra ts = then2 (R (.lev 1) ts.tail) (fun r a => eat [116, 104, 101, 110] r (fun r =>
      then2 (R (.lev 1) r) (fun r b => eat [101, 108, 115, 101] r (fun r =>
        then2 (R (.lev 1) r) (fun r c => eat [101, 110, 100, 105, 102] r (fun r => .ok r (.ite a b c))))))) := by
  have hl := tail_lt h
  conv => lhs; unfold R rd
  refine then2_cong (R_of (by simp [okm]) (by simp only [need, rank]; omega)) fun r a hr => eat_cong (by simp) fun h1 => ?_
  have q1 := rd_less _ _ _ _ _ hr
  simp only [one] at q1
  refine then2_cong (R_of (by simp [okm]) (by simp only [need, rank]; omega)) fun r2 b hr2 => eat_cong (by simp) fun h2 => ?_
  have q2 := rd_less _ _ _ _ _ hr2
  simp only [one] at q2
  exact then2_cong (R_of (by simp [okm]) (by simp only [need, rank]; omega)) fun r3 c hr3 => rfl
/-! ### how one is written -/
def lv : E → Nat
  | .un op _ => lvl op
  | .bin op _ _ => lvl op
  | _ => 10
def tok (op : Nat) : Tk := (Lx.is (opS op), opS op)
def wT (s : List UInt8) : Tk := (3, s)
def dg (n : Nat) : List UInt8 := Lib.decDigits n
def pr : E → Nat → List Tk
  | .num n, _ => [(1, dg n)]
  | .name s, _ => [(2, s)]
  | .tt, _ => [wT [116, 114, 117, 101]]
  | .ff, _ => [wT [102, 97, 108, 115, 101]]
  | .un op a, L => if lvl op < L then (4, [40]) :: (tok op :: pr a 9) ++ [(4, [41])] else tok op :: pr a 9
  | .bin op a b, L => if lvl op < L then (4, [40]) :: (pr a (lvl op) ++ tok op :: pr b (lvl op + 1)) ++ [(4, [41])] else pr a (lvl op) ++ tok op :: pr b (lvl op + 1)
  | .ite a b c, _ => wT [105, 102] :: pr a 0 ++ wT [116, 104, 101, 110] :: pr b 0 ++ wT [101, 108, 115, 101] :: pr c 0 ++ [wT [101, 110, 100, 105, 102]]
/-- One that may be written: its ops and its names are such; a number is one. -/
def wf : E → Prop
  | .num n => numv (dg n) = some n ∧ Lx.is (dg n) = 1
  | .name s => Lx.is s = 2
  | .tt => True
  | .ff => True
  | .un op a => (op = 5 ∨ op = 6) ∧ wf a
  | .bin op a b => 7 ≤ op ∧ op ≤ 21 ∧ wf a ∧ wf b
  | .ite a b c => wf a ∧ wf b ∧ wf c
theorem ops_all : ∀ op : Fin 22, 7 ≤ op.1 → of2 (lvl op.1) (opS op.1) = op.1 ∧ 1 ≤ lvl op.1 ∧ lvl op.1 ≤ 8 ∧ ∀ m : Fin 9, m.1 ≠ lvl op.1 → of2 m.1 (opS op.1) = 0 := by decide
theorem nx_tok {op : Nat} {r : List Tk} : nx (tok op :: r) = opS op := by simp [nx, tok]
end Ex
end Go.Proofs.YtdcjpinbflmikaaGreatDoor
