/- Plain facts on expressions: what a row of tokens begins with, read level by level, and how an expression is written. No program is named here; no condition. -/
import Derived.Test.YtdcjpinbflmikaaGreatDoorLxPlain
namespace Go.Proofs.YtdcjpinbflmikaaGreatDoor
namespace Ex

/-- An expression. -/
inductive E where
  | num (n : Nat)
  | name (s : List UInt8)
  | tt
  | ff
  | un (op : Nat) (a : E)
  | bin (op : Nat) (a b : E)
  | ite (a b c : E)
/-- How the ops are written. -/
def opS : Nat → List UInt8
  | 5 => [45] | 6 => [110, 111, 116] | 7 => [42] | 8 => [100, 105, 118] | 9 => [109, 111, 100] | 10 => [43] | 11 => [45] | 12 => [60] | 13 => [60, 61] | 14 => [62] | 15 => [62, 61] | 16 => [61] | 17 => [60, 62] | 18 => [97, 110, 100] | 19 => [111, 114] | 20 => [120, 111, 114] | 21 => [105, 109, 112, 108, 105, 101, 115]
  | _ => []
/-- An op's level. -/
def lvl : Nat → Nat
  | 5 => 9 | 6 => 9 | 7 => 8 | 8 => 8 | 9 => 8 | 10 => 7 | 11 => 7 | 12 => 6 | 13 => 6 | 14 => 6 | 15 => 6 | 16 => 5 | 17 => 5 | 18 => 4 | 19 => 3 | 20 => 2 | 21 => 1
  | _ => 10
/-- The op with two parts, of a level, that a text writes; 0: there is none. -/
def of2 (n : Nat) (s : List UInt8) : Nat := ((List.range 15).map (· + 7)).foldr (fun op r => if s ≠ [] ∧ opS op = s ∧ lvl op = n then op else r) 0
abbrev Tk := Int × List UInt8
/-- The text of the token that comes; nothing: there is none that is one. -/
def nx : List Tk → List UInt8
  | [] => []
  | t :: _ => if Lx.is t.2 = t.1 then t.2 else []
def kd : List Tk → Int
  | [] => 0
  | t :: _ => t.1
/-- What was read: how many tokens were left where it failed, and the error; or what is left, and the expression. -/
inductive Rs where
  | bad (left : Nat) (e : Int)
  | ok (r : List Tk) (x : E)
inductive Md where
  | lev (n : Nat)
  | loop (n : Nat) (a : E)
  | una
  | pri
  | bra
/-- A number's value, noughts ahead left out; none: it is beyond the bounds. -/
def numv (s : List UInt8) : Option Nat := let v := s.foldl (fun a c => a * 10 + (c.toNat - 48)) 0; if v ≤ 9223372036854775807 then some v else none
def then2 (x : Rs) (f : List Tk → E → Rs) : Rs := match x with
  | .bad l e => .bad l e
  | .ok r a => f r a
def eat (s : List UInt8) (r : List Tk) (f : List Tk → Rs) : Rs := if nx r = s then f r.tail else .bad r.length 80
def rd : Nat → Md → List Tk → Rs
  | 0, _, _ => .bad 0 0
  | f + 1, .lev n, ts =>
    if n = 10 then rd f .pri ts
    else if n = 9 then rd f .una ts
    else then2 (rd f (.lev (n + 1)) ts) (fun r a => rd f (.loop n a) r)
  | f + 1, .loop n a, ts =>
    if of2 n (nx ts) = 0 then .ok ts a
    else then2 (rd f (.lev (n + 1)) ts.tail) (fun r b => rd f (.loop n (.bin (of2 n (nx ts)) a b)) r)
  | f + 1, .una, ts =>
    if nx ts = [45] then then2 (rd f .una ts.tail) (fun r a => .ok r (.un 5 a))
    else if nx ts = [110, 111, 116] then then2 (rd f .una ts.tail) (fun r a => .ok r (.un 6 a))
    else rd f .pri ts
  | f + 1, .pri, ts =>
    if nx ts = [40] then then2 (rd f (.lev 1) ts.tail) (fun r a => eat [41] r (fun r => .ok r a))
    else if nx ts = [105, 102] then rd f .bra ts
    else if nx ts = [116, 114, 117, 101] then .ok ts.tail .tt
    else if nx ts = [102, 97, 108, 115, 101] then .ok ts.tail .ff
    else if nx ts ≠ [] ∧ kd ts = 1 then (match numv (nx ts) with
      | some v => .ok ts.tail (.num v)
      | none => .bad ts.length 60)
    else if nx ts ≠ [] ∧ kd ts = 2 then .ok ts.tail (.name (nx ts))
    else .bad ts.length 80
  | f + 1, .bra, ts =>
    then2 (rd f (.lev 1) ts.tail) (fun r a => eat [116, 104, 101, 110] r (fun r =>
      then2 (rd f (.lev 1) r) (fun r b => eat [101, 108, 115, 101] r (fun r =>
        then2 (rd f (.lev 1) r) (fun r c => eat [101, 110, 100, 105, 102] r (fun r => .ok r (.ite a b c)))))))
/-- Fuel that is enough. -/
def rank : Md → Nat
  | .lev n => 14 - n
  | .loop _ _ => 1
  | .una => 4
  | .pri => 3
  | .bra => 2
def need (m : Md) (ts : List Tk) : Nat := 16 * ts.length + rank m
end Ex
end Go.Proofs.YtdcjpinbflmikaaGreatDoor
