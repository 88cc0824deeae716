/- Plain facts: a tree that is right is a tree: how its nodes lie one behind the other, and how it is written. No program is named here; no condition. -/
import Derived.Test.YtgidpcfaeekjhaaGreatDoorTrBk2
namespace Go.Proofs.YtgidpcfaeekjhaaGreatDoor.Tr
open Go

/-- A row of elements, each with what is in it: the first one, its kids, and those behind it. -/
inductive F where
  | nil
  | node (x : N) (k r : F)
def F.e : F → Bool
  | .nil => true
  | .node _ _ _ => false
def F.size : F → Nat
  | .nil => 0
  | .node _ k r => 1 + k.size + r.size
def F.dp : F → Nat
  | .nil => 0
  | .node _ k r => max (1 + k.dp) r.dp
def F.pre : F → List N
  | .nil => []
  | .node x k r => x :: (k.pre ++ r.pre)
/-- The nodes, at a place, with their links. -/
def F.flat : F → Nat → Int → List N
  | .nil, _, _ => []
  | .node x k r, b, pa => { x with pa := pa, fi := if k.e then -1 else ((b + 1 : Nat) : Int), nx := if r.e then -1 else ((b + 1 + k.size : Nat) : Int) } :: (k.flat (b + 1) b ++ r.flat (b + 1 + k.size) pa)
def F.wr : F → List UInt8
  | .nil => []
  | .node x k r => 60 :: (x.nm ++ (Tk.asw x.al ++ (if x.tx = [] ∧ k.e = true then [47, 62] else 62 :: (En.encB false x.tx ++ (k.wr ++ 60 :: 47 :: (x.nm ++ [62])))))) ++ r.wr
theorem F.flat_node (x : N) (k r : F) (b : Nat) (pa : Int) : (F.node x k r).flat b pa = { x with pa := pa, fi := if k.e then -1 else ((b + 1 : Nat) : Int), nx := if r.e then -1 else ((b + 1 + k.size : Nat) : Int) } :: (k.flat (b + 1) b ++ r.flat (b + 1 + k.size) pa) := rfl
theorem F.dp_node (x : N) (k r : F) : (F.node x k r).dp = max (1 + k.dp) r.dp := rfl
theorem F.pre_node (x : N) (k r : F) : (F.node x k r).pre = x :: (k.pre ++ r.pre) := rfl
theorem F.flat_len : ∀ (f : F) (b : Nat) (pa : Int), (f.flat b pa).length = f.size
  | .nil, _, _ => rfl
  | .node x k r, b, pa => by
    unfold F.flat F.size
    rw [List.length_cons, List.length_append, F.flat_len k, F.flat_len r]; omega
theorem F.pre_len : ∀ f : F, f.pre.length = f.size
  | .nil => rfl
  | .node x k r => by
    unfold F.pre F.size
    rw [List.length_cons, List.length_append, F.pre_len k, F.pre_len r]; omega
theorem mod_mid (P : List N) (x : N) (Q : List N) (f : N → N) : (P ++ x :: Q).modify P.length f = P ++ f x :: Q := by
  rw [modify_app _ _ _ _ (Nat.le_refl _), Nat.sub_self]; rfl
/-- A node is told its first kid: k is what lies behind it. -/
theorem link_first {P : List N} {x : N} {b : Nat} (hb : P.length = b) : link (P ++ [x]) b (-1) = P ++ [{ x with fi := ((b + 1 : Nat) : Int) }] := by
  unfold link
  rw [if_neg (by omega), List.length_append, hb, if_pos (by simp only [List.length_cons, List.length_nil]; omega), Int.toNat_natCast, ← hb, mod_mid P x []]
  rfl
/-- A node is told the next one: Q is what is in it. -/
theorem link_next {P Q : List N} {x : N} {b : Nat} {pa : Int} (hb : P.length = b) : link (P ++ x :: Q) pa b = P ++ { x with nx := ((b + 1 + Q.length : Nat) : Int) } :: Q := by
  unfold link
  have hl : (P ++ x :: Q).length = b + 1 + Q.length := by rw [List.length_append, List.length_cons, hb]; omega
  rw [hl, if_pos (by omega), Int.toNat_natCast, ← hb, mod_mid]
/-- One node, its kids, and what is behind it, laid behind P. -/
theorem lay_node {P : List N} {b : Nat} (hb : P.length = b) (x : N) (k r : F) (pa : Int) :
    (if r.e then (if k.e then P ++ [{ x with pa := pa, fi := -1, nx := -1 }] else link (P ++ [{ x with pa := pa, fi := -1, nx := -1 }]) b (-1)) ++ k.flat (b + 1) b
      else link ((if k.e then P ++ [{ x with pa := pa, fi := -1, nx := -1 }] else link (P ++ [{ x with pa := pa, fi := -1, nx := -1 }]) b (-1)) ++ k.flat (b + 1) b) pa b) ++ r.flat (b + 1 + k.size) pa
      = P ++ (F.node x k r).flat b pa := by
  have e1 : (if k.e then P ++ [{ x with pa := pa, fi := -1, nx := -1 }] else link (P ++ [{ x with pa := pa, fi := -1, nx := -1 }]) b (-1)) ++ k.flat (b + 1) b = P ++ { x with pa := pa, fi := if k.e then -1 else ((b + 1 : Nat) : Int), nx := -1 } :: k.flat (b + 1) b := by
    cases k.e with
    | true => simp
    | false =>
      simp only [Bool.false_eq_true, if_false]
      rw [link_first hb]; simp
  rw [e1, F.flat_node]
  cases r.e with
  | true => simp
  | false =>
    simp only [Bool.false_eq_true, if_false]
    rw [link_next hb, F.flat_len]; simp
theorem toPlace_hit' {p : Int} {l : List E} {e : E} (h : e.pl = p) : toPlace p (l ++ [e]) = l ++ [e] := toPlace_hit h
def chkN (xs : List N) (g : G) : Option (List N) := (chkL xs g).map G.ns
theorem chkN_close {rest : List N} {ns : List N} {A : List E} {e : E} (h : ∀ n r, rest = n :: r → n.pa ≠ e.pl) : chkN rest ⟨ns, A ++ [e]⟩ = chkN rest ⟨ns, A⟩ := by
  cases rest with
  | nil => rfl
  | cons n r =>
    have hn := h n r rfl
    have : chk1 ⟨ns, A ++ [e]⟩ n = chk1 ⟨ns, A⟩ n := by
      unfold chk1
      simp only
      rw [toPlace_miss (fun e => hn e.symm)]
    unfold chkN
    show ((chk1 ⟨ns, A ++ [e]⟩ n).bind (chkL r)).map G.ns = ((chk1 ⟨ns, A⟩ n).bind (chkL r)).map G.ns
    rw [this]
theorem chk_F : ∀ (m : Nat) (xs ns : List N) (os : List E) (e : E) (M : List N), xs.length ≤ m → os.length + 1 ≤ 64 → chkN xs ⟨ns, os ++ [e]⟩ = some M →
    ∃ f rest e2, xs = F.pre f ++ rest ∧ e2.pl = e.pl ∧ chkN rest ⟨(if f.e then ns else link ns e.pl e.yg) ++ f.flat ns.length e.pl, os ++ [e2]⟩ = some M ∧ (∀ n r, rest = n :: r → n.pa ≠ e.pl) ∧ os.length + 1 + f.dp ≤ 64
  | m, [], ns, os, e, M, _, hd, h => ⟨.nil, [], e, rfl, rfl, by simpa [F.flat, F.e] using h, fun n r hr => (by cases hr), by unfold F.dp; omega⟩
  | 0, _ :: _, _, _, _, _, hm, _, _ => by simp at hm
  | m + 1, n :: xs, ns, os, e, M, hm, hd, h => by
    by_cases hp : n.pa = e.pl
    · have hm' : xs.length ≤ m := by simpa using hm
      have hc : ∃ g1, chk1 ⟨ns, os ++ [e]⟩ n = some g1 ∧ chkN xs g1 = some M := by
        unfold chkN at h
        have h' : ((chk1 ⟨ns, os ++ [e]⟩ n).bind (chkL xs)).map G.ns = some M := h
        cases e1 : chk1 ⟨ns, os ++ [e]⟩ n with
        | none => rw [e1] at h'; cases h'
        | some g1 => rw [e1] at h'; exact ⟨g1, rfl, h'⟩
      obtain ⟨g1, e1, h1⟩ := hc
      obtain ⟨_, _, c3, _, _, c6⟩ := chk1_ok e1
      simp only at c3 c6
      rw [hp, toPlace_hit rfl] at c3 c6
      rw [List.length_append] at c6
      simp only [List.length_cons, List.length_nil] at c6
      have c3' : g1 = ⟨link ns e.pl e.yg ++ [{ n with pa := e.pl, fi := -1, nx := -1 }], (os ++ [{ e with yg := (ns.length : Int) }]) ++ [⟨(ns.length : Int), -1, []⟩]⟩ := by
        rw [c3]
        unfold opn add
        simp only
        rw [inn_snoc, young_snoc]
      rw [c3'] at h1
      obtain ⟨k, rest1, e2, q1, q2, q3, q4, q5⟩ := chk_F m xs _ _ _ M hm' (by rw [List.length_append]; simp only [List.length_cons, List.length_nil]; omega) h1
      simp only at q2 q3 q4
      rw [chkN_close (by rw [q2]; exact q4)] at q3
      have hll : (link ns e.pl e.yg).length = ns.length := link_len _ _ _
      rw [List.length_append, hll] at q3
      simp only [List.length_cons, List.length_nil, Nat.zero_add] at q3
      have hr1 : rest1.length ≤ m := by
        have := congrArg List.length q1
        rw [List.length_append] at this; omega
      obtain ⟨r, rest2, e3, s1, s2, s3, s4, s5⟩ := chk_F m rest1 _ os _ M hr1 hd q3
      simp only at s2 s3 s4
      refine ⟨.node n k r, rest2, e3, ?_, s2, ?_, s4, ?_⟩
      · rw [F.pre_node, q1, s1]; simp
      · have hNS : ((if k.e = true then link ns e.pl e.yg ++ [{ n with pa := e.pl, fi := -1, nx := -1 }] else link (link ns e.pl e.yg ++ [{ n with pa := e.pl, fi := -1, nx := -1 }]) (ns.length : Int) (-1)) ++ k.flat (ns.length + 1) (ns.length : Int)).length = ns.length + 1 + k.size := by
          rw [List.length_append, F.flat_len]
          split
          · rw [List.length_append, hll]; rfl
          · rw [link_len, List.length_append, hll]; rfl
        rw [hNS] at s3
        rw [lay_node hll] at s3
        exact s3
      · rw [F.dp_node]
        rw [List.length_append] at q5
        simp only [List.length_cons, List.length_nil] at q5
        omega
    · exact ⟨.nil, n :: xs, e, rfl, rfl, by simpa [F.flat, F.e] using h, fun n' r hr => by injection hr with h1 _; rw [← h1]; exact hp, by unfold F.dp; omega⟩
/-- A tree that is right is a tree. -/
theorem check_F {xs : List N} (h : check xs = true) : ∃ n k, xs = (F.node n k .nil).pre ∧ same xs ((F.node n k .nil).flat 0 (-1)) = true ∧ (F.node n k .nil).dp ≤ 64 := by
  unfold check at h
  cases e : chkL xs G0 with
  | none => rw [e] at h; cases h
  | some g =>
    rw [e] at h
    have h' : (!xs.isEmpty && same xs g.ns) = true := h
    rw [Bool.and_eq_true, Bool.not_eq_true', List.isEmpty_eq_false_iff] at h'
    obtain ⟨hne, hs⟩ := h'
    cases xs with
    | nil => exact absurd rfl hne
    | cons n xs =>
      have e' : (chk1 G0 n).bind (chkL xs) = some g := e
      cases e1 : chk1 G0 n with
      | none => rw [e1] at e'; cases e'
      | some g1 =>
        rw [e1] at e'
        obtain ⟨_, _, c3, c4, _, _⟩ := chk1_ok e1
        have c3' : g1 = ⟨[{ n with pa := -1, fi := -1, nx := -1 }], [] ++ [⟨((0 : Nat) : Int), -1, []⟩]⟩ := by rw [c3]; rfl
        have h1 : chkN xs g1 = some g.ns := by
          unfold chkN
          have : chkL xs g1 = some g := e'
          rw [this]; rfl
        rw [c3'] at h1
        obtain ⟨k, rest, e2, q1, q2, q3, q4, q5⟩ := chk_F xs.length xs _ [] _ g.ns (Nat.le_refl _) (by decide) h1
        simp only at q2 q3 q4
        rw [chkN_close (by rw [q2]; exact q4)] at q3
        have hrest : rest = [] := by
          cases rest with
          | nil => rfl
          | cons m r =>
            exfalso
            unfold chkN at q3
            have q3' : ((chk1 _ m).bind (chkL r)).map G.ns = some g.ns := q3
            cases e3 : chk1 ⟨(if k.e = true then [{ n with pa := -1, fi := -1, nx := -1 }] else link [{ n with pa := -1, fi := -1, nx := -1 }] ((0 : Nat) : Int) (-1)) ++ k.flat 1 ((0 : Nat) : Int), []⟩ m with
            | none =>
              simp only [List.length_cons, List.length_nil, Nat.zero_add] at q3'
              rw [e3] at q3'
              cases q3'
            | some g3 =>
              obtain ⟨_, _, _, _, c5, _⟩ := chk1_ok e3
              unfold behind at c5
              simp only [toPlace_nil, List.isEmpty_nil, Bool.true_and, Bool.not_eq_false'] at c5
              have : (((if k.e = true then [{ n with pa := -1, fi := -1, nx := -1 }] else link [{ n with pa := -1, fi := -1, nx := -1 }] ((0 : Nat) : Int) (-1)) ++ k.flat 1 ((0 : Nat) : Int)) : List N).length = 0 := by rw [List.isEmpty_iff.1 c5]; rfl
              rw [List.length_append] at this
              have h2 : ((if k.e = true then [{ n with pa := -1, fi := -1, nx := -1 }] else link [{ n with pa := -1, fi := -1, nx := -1 }] ((0 : Nat) : Int) (-1)) : List N).length = 1 := by
                split
                · rfl
                · rw [link_len]; rfl
              omega
        subst hrest
        have q3' : (if k.e = true then [{ n with pa := -1, fi := -1, nx := -1 }] else link [{ n with pa := -1, fi := -1, nx := -1 }] ((0 : Nat) : Int) (-1)) ++ k.flat 1 ((0 : Nat) : Int) = g.ns := by
          unfold chkN chkL at q3
          simpa using q3
        have hl := lay_node (P := []) (b := 0) rfl n k .nil (-1)
        simp only [List.nil_append] at hl
        have hfl : g.ns = (F.node n k .nil).flat 0 (-1) := by
          rw [← hl, ← q3']
          simp [F.e, F.flat]
        refine ⟨n, k, by rw [F.pre_node, q1]; simp [F.pre], by rw [← hfl]; exact hs, ?_⟩
        simp only [List.length_nil] at q5
        rw [F.dp_node, show F.dp .nil = 0 from rfl]
        omega
end Go.Proofs.YtgidpcfaeekjhaaGreatDoor.Tr
