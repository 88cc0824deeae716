/- Facts and walks for the statement. -/
import Derived.Test.YteadfpkihhaadaaGreatDoorPz04
namespace Go.Proofs.YteadfpkihhaadaaGreatDoor
open Go
structure Tr.N where
 nm : List UInt8
 al : List (List UInt8 × List UInt8)
 tx : List UInt8
 pa : Int
 fi : Int
 nx : Int
 at_ : Int
def Tr.same1 (x y : Tr.N) : Bool := x.nm == y.nm && x.al == y.al && x.tx == y.tx && x.pa == y.pa && x.fi == y.fi && x.nx == y.nx
def Tr.same : List Tr.N → List Tr.N → Bool
 | [], [] => true
 | x :: xs, y :: ys => Tr.same1 x y && Tr.same xs ys
 | _, _ => false
namespace Tr
abbrev At := List UInt8 × List UInt8
/-! ### the order of texts -/
def lt (a b : List UInt8) : Bool := Op.bytesLess a b
theorem lt_nil (a : List UInt8) : lt a [] = false := by unfold lt; cases a <;> rfl
theorem lt_cons (a b : UInt8) (x y : List UInt8) : lt (a :: x) (b :: y) = (decide (a < b) || (a == b && lt x y)) := rfl
theorem lt_irrefl : ∀ a, lt a a = false
 | [] => rfl
 | a :: x => by
  rw [lt_cons, lt_irrefl x, Bool.and_false, Bool.or_false]
  exact decide_eq_false (UInt8.lt_irrefl a)
theorem lt_trans : ∀ {a b c : List UInt8}, lt a b = true → lt b c = true → lt a c = true
 | _, [], _, h, _ => by rw [lt_nil] at h; cases h
 | _, _ :: _, [], _, h => by rw [lt_nil] at h; cases h
 | [], _ :: _, _ :: _, _, _ => rfl
 | a :: x, b :: y, c :: z, h1, h2 => by
  rw [lt_cons, Bool.or_eq_true, decide_eq_true_eq, Bool.and_eq_true, beq_iff_eq] at *
  rcases h1 with h1 | ⟨rfl, h1⟩ <;> rcases h2 with h2 | ⟨rfl, h2⟩
  ·exact Or.inl (UInt8.lt_trans h1 h2)
  ·exact Or.inl h1
  ·exact Or.inl h2
  ·exact Or.inr ⟨rfl, lt_trans h1 h2⟩
theorem lt_tri : ∀ {a b : List UInt8}, lt a b = false → lt b a = false → a = b
 | [], [], _, _ => rfl
 | [], _ :: _, h, _ => by cases h
 | _ :: _, [], _, h => by cases h
 | a :: x, b :: y, h1, h2 => by
  rw [lt_cons, Bool.or_eq_false_iff, decide_eq_false_iff_not, Bool.and_eq_false_iff] at h1 h2
  have e : a = b := by
   apply UInt8.le_antisymm
   ·exact UInt8.not_lt.1 h2.1
   ·exact UInt8.not_lt.1 h1.1
  subst e
  simp only [beq_self_eq_true, Bool.true_eq_false, false_or] at h1 h2
  rw [lt_tri h1.2 h2.2]
theorem lt_asymm {a b : List UInt8} (h : lt a b = true) : lt b a = false := by
 cases e : lt b a with
 | false => rfl
 | true => have := lt_trans h e; rw [lt_irrefl] at this; cases this
theorem le_trans {a b c : List UInt8} (h1 : lt b a = false) (h2 : lt c b = false) : lt c a = false := by
 cases e : lt c a with
 | false => rfl
 | true =>
  cases e2 : lt a b with
  | true => have := lt_trans e e2; rw [h2] at this; cases this
  | false => have := lt_tri e2 h1; subst this; rw [h2] at e; cases e
/-! ### attributes in order -/
def rising : List At → Bool
 | [] => true
 | [_] => true
 | a :: b :: l => lt a.1 b.1 && rising (b :: l)
def ins (a : At) : List At → List At
 | [] => [a]
 | b :: l => if lt a.1 b.1 then a :: b :: l else b :: ins a l
def srt : List At → List At
 | [] => []
 | a :: l => ins a (srt l)
def Up (l : List At) : Prop := l.Pairwise (fun a b => lt b.1 a.1 = false)
def Strict (l : List At) : Prop := l.Pairwise (fun a b => lt a.1 b.1 = true)
theorem ins_perm (a : At) : ∀ l, (ins a l).Perm (a :: l)
 | [] => List.Perm.refl _
 | b :: l => by
  unfold ins
  split
  ·exact List.Perm.refl _
  ·exact ((ins_perm a l).cons b).trans (List.Perm.swap a b l)
theorem srt_perm : ∀ l, (srt l).Perm l
 | [] => List.Perm.refl _
 | a :: l => (ins_perm a (srt l)).trans ((srt_perm l).cons a)
theorem ins_up {a : At} : ∀ {l}, Up l → Up (ins a l)
 | [], _ => List.pairwise_singleton _ _
 | b :: l, h => by
  unfold ins
  have h' := List.pairwise_cons.1 h
  split
  ·rename_i hlt
   refine List.pairwise_cons.2 ⟨fun c hc => ?_, h⟩
   rcases List.mem_cons.1 hc with rfl | hc
   ·exact lt_asymm hlt
   ·exact le_trans (lt_asymm hlt) (h'.1 c hc)
  ·rename_i hlt
   refine List.pairwise_cons.2 ⟨fun c hc => ?_, ins_up h'.2⟩
   rcases List.mem_cons.1 ((ins_perm a l).mem_iff.1 hc) with rfl | hc
   ·simpa using hlt
   ·exact h'.1 c hc
theorem srt_up : ∀ l, Up (srt l)
 | [] => List.Pairwise.nil
 | _ :: l => ins_up (srt_up l)
theorem rising_iff : ∀ l, rising l = true ↔ Strict l
 | [] => by simp [rising, Strict]
 | [a] => by simp [rising, Strict]
 | a :: b :: l => by
  have ih := rising_iff (b :: l)
  unfold rising Strict
  rw [Bool.and_eq_true, ih, List.pairwise_cons]
  constructor
  ·rintro ⟨h1, h2⟩
   refine ⟨fun c hc => ?_, h2⟩
   rcases List.mem_cons.1 hc with rfl | hc
   ·exact h1
   ·exact lt_trans h1 ((List.pairwise_cons.1 h2).1 c hc)
  ·rintro ⟨h1, h2⟩
   exact ⟨h1 b List.mem_cons_self, h2⟩
theorem strict_iff {l : List At} (h : Up l) : Strict l ↔ (l.map (·.1)).Nodup := by
 unfold Strict List.Nodup Up at *
 rw [List.pairwise_map]
 constructor
 ·intro h1
  refine h1.imp fun {a b} hab e => ?_
  rw [e, lt_irrefl] at hab; cases hab
 ·intro h1
  have := h.and h1
  refine this.imp fun {a b} hab => ?_
  cases e : lt a.1 b.1 with
  | true => rfl
  | false => exact absurd (lt_tri e hab.1) hab.2
theorem strict_eq : ∀ {l m : List At}, Strict l → Strict m → l.Perm m → l = m
 | [], m, _, _, h => (List.nil_perm.1 h).symm
 | a :: l, [], _, _, h => by have := h.length_eq; cases this
 | a :: l, b :: m, h1, h2, h => by
  have k1 := List.pairwise_cons.1 h1
  have k2 := List.pairwise_cons.1 h2
  have e : a = b := by
   rcases List.mem_cons.1 (h.mem_iff.1 List.mem_cons_self) with e | ha
   ·exact e
   ·rcases List.mem_cons.1 (h.mem_iff.2 List.mem_cons_self) with e | hb
    ·exact e.symm
    ·have q1 := k2.1 a ha
     have q2 := k1.1 b hb
     have := lt_trans q1 q2
     rw [lt_irrefl] at this; cases this
  subst e
  rw [strict_eq k1.2 k2.2 (List.Perm.cons_inv h)]
theorem sort_tells {al d : List At} (hp : d.Perm al) (hu : Up d) : rising d = rising (srt al) ∧ (rising d = true → d = srt al) := by
 have hq : d.Perm (srt al) := hp.trans (srt_perm al).symm
 have e : rising d = rising (srt al) := by
  rw [Bool.eq_iff_iff, rising_iff, rising_iff, strict_iff hu, strict_iff (srt_up al)]
  exact (hq.map (·.1)).nodup_iff
 refine ⟨e, fun h => ?_⟩
 exact strict_eq ((rising_iff d).1 h) ((rising_iff _).1 (e ▸ h)) hq
/-! ### a tree that grows -/
structure E where
 pl : Int
 yg : Int
 tx : List (List UInt8)
structure G where
 ns : List N
 op : List E
def G0 : G := ⟨[], []⟩
def noE : E := ⟨-1, -1, []⟩
def inn (g : G) : E := g.op.getLast?.getD noE
def behind (g : G) : Bool := g.op.isEmpty && !g.ns.isEmpty
def link (ns : List N) (pa el : Int) : List N :=
 if 0 ≤ el ∧ el < ns.length then ns.modify el.toNat (fun x => { x with nx := ns.length })
 else if 0 ≤ pa ∧ pa < ns.length then ns.modify pa.toNat (fun x => { x with fi := ns.length }) else ns
def add (ns : List N) (n : N) (pa el : Int) : List N := link ns pa el ++ [{ n with pa := pa, fi := -1, nx := -1 }]
def young (op : List E) (y : Int) : List E := match op.getLast? with
 | none => []
 | some e => op.dropLast ++ [{ e with yg := y }]
def opn (g : G) (n : N) : G := ⟨add g.ns n (inn g).pl (inn g).yg, young g.op g.ns.length ++ [⟨g.ns.length, -1, []⟩]⟩
def cls (g : G) : G := ⟨g.ns, g.op.dropLast⟩
def more (op : List E) (t : List UInt8) : List E := match op.getLast? with
 | none => []
 | some e => op.dropLast ++ [{ e with tx := e.tx ++ [t] }]
def settle (g : G) : G := if Tk.allB (inn g).tx.flatten then g else ⟨g.ns.modify (inn g).pl.toNat (fun x => { x with tx := (inn g).tx.flatten }), g.op⟩
def nodeAs (t : Tk.T) : N := ⟨t.nm, t.as, [], 0, 0, 0, t.p⟩
def nodeOf (t : Tk.T) : N := ⟨t.nm, srt t.as, [], 0, 0, 0, t.p⟩
def take (g : G) (t : Tk.T) : G :=
 if t.k = 4 then ⟨g.ns, more g.op t.tx⟩ else if t.k = 1 then opn g (nodeOf t) else if t.k = 3 then cls (opn g (nodeOf t)) else if t.k = 2 then cls (settle g) else g
def takeAs (g : G) (t : Tk.T) : G :=
 if t.k = 4 then ⟨g.ns, more g.op t.tx⟩ else if t.k = 1 then opn g (nodeAs t) else if t.k = 3 then cls (opn g (nodeAs t)) else if t.k = 2 then cls (settle g) else g
theorem take_as (g : G) (t : Tk.T) : take g t = takeAs g ⟨t.k, t.nm, srt t.as, t.tx, t.p⟩ := rfl
def begins (t : Tk.T) : Bool := t.k == 1 || t.k == 3
def wrong (g : G) (t : Tk.T) : Int :=
 if t.k = 4 ∧ g.op = [] ∧ Tk.allB t.tx = false then 50
 else if begins t = true ∧ behind g = true then 50
 else if begins t = true ∧ rising (srt t.as) = false then 50
 else if begins t = true ∧ 4096 ≤ g.ns.length then 3
 else if begins t = true ∧ 64 ≤ g.op.length then 3
 else if t.k = 2 ∧ (g.op = [] ∨ ((g.ns[(inn g).pl.toNat]?).map N.nm ≠ some t.nm)) then 50
 else 0
def broken (g : G) (t : Tk.T) : Nat → Bool
 | 0 => t.k == 4 && g.op.isEmpty && !Tk.allB t.tx
 | 1 => begins t && behind g
 | 2 => begins t && !rising t.as
 | 3 => begins t && decide (4096 ≤ g.ns.length)
 | 4 => begins t && decide (64 ≤ g.op.length)
 | _ => t.k == 2 && (g.op.isEmpty || (g.ns[(inn g).pl.toNat]?).map N.nm != some t.nm)
def err5 : Nat → Int
 | 3 => 3
 | 4 => 3
 | _ => 50
def wrongAs (g : G) (t : Tk.T) : Int :=
 if broken g t 0 then 50 else if broken g t 1 then 50 else if broken g t 2 then 50 else if broken g t 3 then 3 else if broken g t 4 then 3 else if broken g t 5 then 50 else 0
theorem wrong_as (g : G) (t : Tk.T) : wrong g t = wrongAs g ⟨t.k, t.nm, srt t.as, t.tx, t.p⟩ := by
 unfold wrong wrongAs broken
 simp only [Bool.and_eq_true, beq_iff_eq, List.isEmpty_iff, Bool.not_eq_true', decide_eq_true_eq, Bool.or_eq_true, bne_iff_ne, ne_eq, and_assoc]
 rfl
def loop (len : Nat) : List Tk.T → G → List N × Nat × Int
 | [], g => if behind g then (g.ns, 0, 0) else ([], len, 50)
 | t :: ts, g => if wrong g t ≠ 0 then ([], t.p, wrong g t) else loop len ts (take g t)
def parse (l : List UInt8) : List N × Nat × Int :=
 if (Tk.toks l).2.2 ≠ 0 then ([], (Tk.toks l).2.1, (Tk.toks l).2.2) else loop l.length (Tk.toks l).1 G0
structure Ok (g : G) : Prop where
 pl : ∀ e ∈ g.op, 0 ≤ e.pl ∧ e.pl < g.ns.length
 yg : ∀ e ∈ g.op, -1 ≤ e.yg ∧ e.yg < g.ns.length
theorem link_len (ns : List N) (pa el : Int) : (link ns pa el).length = ns.length := by
 unfold link
 repeat' split
 all_goals simp
theorem add_len (ns : List N) (n : N) (pa el : Int) : (add ns n pa el).length = ns.length + 1 := by
 unfold add; rw [List.length_append, link_len]; rfl
theorem mem_young {op : List E} {y : Int} {e : E} (h : e ∈ young op y) : (∃ e' ∈ op, e = e' ∨ e = { e' with yg := y }) := by
 unfold young at h
 cases hl : op.getLast? with
 | none => rw [hl] at h; cases h
 | some x =>
  rw [hl] at h
  simp only [List.mem_append, List.mem_singleton] at h
  rcases h with h | rfl
  ·exact ⟨e, (List.dropLast_sublist _).subset h, Or.inl rfl⟩
  ·exact ⟨x, List.mem_of_getLast? hl, Or.inr rfl⟩
theorem mem_more {op : List E} {t : List UInt8} {e : E} (h : e ∈ more op t) : (∃ e' ∈ op, e = e' ∨ e = { e' with tx := e'.tx ++ [t] }) := by
 unfold more at h
 cases hl : op.getLast? with
 | none => rw [hl] at h; cases h
 | some x =>
  rw [hl] at h
  simp only [List.mem_append, List.mem_singleton] at h
  rcases h with h | rfl
  ·exact ⟨e, (List.dropLast_sublist _).subset h, Or.inl rfl⟩
  ·exact ⟨x, List.mem_of_getLast? hl, Or.inr rfl⟩
theorem Ok.opn {g : G} (h : Ok g) (n : N) : Ok (opn g n) := by
 constructor
 ·intro e he
  unfold Tr.opn at he ⊢
  simp only [add_len]
  rw [List.mem_append] at he
  rcases he with he | he
  ·obtain ⟨e', h1, rfl | rfl⟩ := mem_young he
   ·have := h.pl _ h1; omega
   ·have := h.pl _ h1; simp only; omega
  ·simp only [List.mem_singleton] at he
   subst he; simp only; omega
 ·intro e he
  unfold Tr.opn at he ⊢
  simp only [add_len]
  rw [List.mem_append] at he
  rcases he with he | he
  ·obtain ⟨e', h1, rfl | rfl⟩ := mem_young he
   ·have := h.yg _ h1; omega
   ·simp only; omega
  ·simp only [List.mem_singleton] at he
   subst he; simp only; omega
theorem Ok.cls {g : G} (h : Ok g) : Ok (cls g) :=
 ⟨fun e he => h.pl e ((List.dropLast_sublist _).subset he), fun e he => h.yg e ((List.dropLast_sublist _).subset he)⟩
theorem Ok.settle {g : G} (h : Ok g) : Ok (settle g) := by
 unfold Tr.settle
 split
 ·exact h
 ·exact ⟨fun e he => by have := h.pl e he; simpa using this, fun e he => by have := h.yg e he; simpa using this⟩
theorem Ok.more {g : G} (h : Ok g) (t : List UInt8) : Ok ⟨g.ns, more g.op t⟩ := by
 constructor
 ·intro e he
  obtain ⟨e', h1, rfl | rfl⟩ := mem_more he
  ·exact h.pl _ h1
  ·exact (show 0 ≤ e'.pl ∧ e'.pl < g.ns.length from h.pl _ h1)
 ·intro e he
  obtain ⟨e', h1, rfl | rfl⟩ := mem_more he
  ·exact h.yg _ h1
  ·exact (show -1 ≤ e'.yg ∧ e'.yg < g.ns.length from h.yg _ h1)
theorem Ok.zero : Ok G0 := ⟨fun _ h => (by cases h), fun _ h => (by cases h)⟩
end Tr
end Go.Proofs.YteadfpkihhaadaaGreatDoor
namespace Go.Proofs.YteadfpkihhaadaaGreatDoor.Tr
open Go
inductive Rs where
 | bad (a : Nat) (e : Int)
 | ok (r : List Tk.T) (M : List N)
def nodeAt (t : Tk.T) (pa : Int) : N := { nodeOf t with pa := pa, fi := -1, nx := -1 }
def lnk (M : List N) (base : Nat) (last : Int) (kid : Nat) : List N :=
 if last < 0 then M.modify 0 (fun x => { x with fi := kid }) else M.modify (last.toNat - base) (fun x => { x with nx := kid })
mutual
def elP : Nat → Nat → List Tk.T → Nat → Int → Nat → Rs
 | 0, _, _, _, _, _ => .bad 0 0
 | _ + 1, len, [], _, _, _ => .bad len 50
 | f + 1, len, x :: ts, base, pa, deep =>
  if rising (srt x.as) = false then .bad x.p 50
  else if base = 4096 ∨ 64 < deep then .bad x.p 3
  else if x.k = 3 then .ok ts [nodeAt x pa]
  else kdP f len x.nm base deep ts [nodeAt x pa] [] (-1)
def kdP : Nat → Nat → List UInt8 → Nat → Nat → List Tk.T → List N → List UInt8 → Int → Rs
 | 0, _, _, _, _, _, _, _, _ => .bad 0 0
 | _ + 1, len, _, _, _, [], _, _, _ => .bad len 50
 | f + 1, len, nm, base, deep, t :: r, M, text, last =>
  if t.k = 2 then
   if t.nm ≠ nm then .bad t.p 50
   else .ok r (if Tk.allB text = true then M else M.modify 0 (fun x => { x with tx := text }))
  else if t.k = 4 then kdP f len nm base deep r M (text ++ t.tx) last
  else match elP f len (t :: r) (base + M.length) base (deep + 1) with
   | .bad a e => .bad a e
   | .ok r' K => kdP f len nm base deep r' (lnk M base last (base + M.length) ++ K) text (base + M.length)
end
def blanksP : List Tk.T → List Tk.T
 | [] => []
 | t :: r => if t.k = 4 ∧ Tk.allB t.tx = true then blanksP r else t :: r
def rparse (l : List UInt8) : List N × Nat × Int :=
 if (Tk.toks l).2.2 ≠ 0 then ([], (Tk.toks l).2.1, (Tk.toks l).2.2)
 else match blanksP (Tk.toks l).1 with
  | [] => ([], l.length, 50)
  | t :: r => if t.k = 2 ∨ t.k = 4 then ([], t.p, 50)
   else match elP (2 * (t :: r).length + 2) l.length (t :: r) 0 (-1) 1 with
    | .bad a e => ([], a, e)
    | .ok r' M => match blanksP r' with
     | [] => (M, 0, 0)
     | t' :: _ => ([], t'.p, 50)
def Kinds (ts : List Tk.T) : Prop := ∀ t ∈ ts, t.k = 1 ∨ t.k = 2 ∨ t.k = 3 ∨ t.k = 4
theorem Kinds.tail {t : Tk.T} {ts : List Tk.T} (h : Kinds (t :: ts)) : Kinds ts := fun x hx => h x (List.mem_cons_of_mem _ hx)
theorem lnk_len (M : List N) (base : Nat) (last : Int) (kid : Nat) : (lnk M base last kid).length = M.length := by
 unfold lnk; split <;> simp
theorem modify_nm (M : List N) (i : Nat) (f : N → N) (hf : ∀ x, (f x).nm = x.nm) : (M.modify i f).head?.map N.nm = M.head?.map N.nm := by
 cases M with
 | nil => simp
 | cons x M => cases i <;> simp [hf]
theorem lnk_nm (M : List N) (base : Nat) (last : Int) (kid : Nat) : (lnk M base last kid).head?.map N.nm = M.head?.map N.nm := by
 unfold lnk; split <;> exact modify_nm _ _ _ (fun _ => rfl)
theorem head_app {M K : List N} (h : M ≠ []) : (M ++ K).head? = M.head? := by cases M with
 | nil => exact absurd rfl h
 | cons x M => rfl
theorem ends_el : ∀ f,
  (∀ (len : Nat) (ts : List Tk.T) (base : Nat) (pa : Int) (deep : Nat) (r : List Tk.T) (M : List N), base ≤ 4096 → elP f len ts base pa deep = .ok r M → r <:+ ts ∧ r.length < ts.length ∧ M ≠ [] ∧ base + M.length ≤ 4096) ∧
  (∀ (len : Nat) (nm : List UInt8) (base deep : Nat) (ts : List Tk.T) (M : List N) (text : List UInt8) (last : Int) (r : List Tk.T) (M' : List N), M ≠ [] → base + M.length ≤ 4096 → kdP f len nm base deep ts M text last = .ok r M' → r <:+ ts ∧ r.length < ts.length ∧ M' ≠ [] ∧ base + M'.length ≤ 4096)
 | 0 => by
  constructor
  ·intro len ts base pa deep r M _ h
   unfold elP at h; cases h
  ·intro len nm base deep ts M text last r M' _ _ h
   unfold kdP at h; cases h
 | f + 1 => by
  obtain ⟨ih1, ih2⟩ := ends_el f
  constructor
  ·intro len ts base pa deep r M hb h
   cases ts with
   | nil => unfold elP at h; cases h
   | cons x ts =>
    unfold elP at h
    split at h
    ·cases h
    ·split at h
     ·cases h
     ·rename_i h2
      split at h
      ·injection h with h3 h4
       subst h3 h4
       exact ⟨List.suffix_cons _ _, by simp, by simp, by simp; omega⟩
      ·have := ih2 _ _ _ _ _ _ _ _ _ _ (by simp) (by simp; omega) h
       exact ⟨this.1.trans (List.suffix_cons _ _), by have := this.2.1; simp; omega, this.2.2⟩
  ·intro len nm base deep ts M text last r M' hM hb h
   cases ts with
   | nil => unfold kdP at h; cases h
   | cons t ts =>
    unfold kdP at h
    split at h
    ·split at h
     ·cases h
     ·injection h with h3 h4
      subst h3 h4
      refine ⟨List.suffix_cons _ _, by simp, ?_, ?_⟩
      ·split
       ·exact hM
       ·intro e
        have := congrArg List.length e
        simp at this
        exact hM this
      ·split
       ·exact hb
       ·simpa using hb
    ·split at h
     ·have := ih2 _ _ _ _ _ _ _ _ _ _ hM hb h
      exact ⟨this.1.trans (List.suffix_cons _ _), by have := this.2.1; simp; omega, this.2.2⟩
     ·cases e : elP f len (t :: ts) (base + M.length) base (deep + 1) with
      | bad a b => rw [e] at h; cases h
      | ok r' K =>
       rw [e] at h
       have k1 := ih1 _ _ _ _ _ _ _ hb e
       have k2 := ih2 _ _ _ _ _ _ _ _ _ _ (by intro e; have := congrArg List.length e; simp at this; exact k1.2.2.1 this.2) (by rw [List.length_append, lnk_len]; have := k1.2.2.2; omega) h
       exact ⟨k2.1.trans k1.1, by have := k2.2.1; have := k1.2.1; omega, k2.2.2⟩
theorem Kinds.suffix {r ts : List Tk.T} (h : Kinds ts) (hs : r <:+ ts) : Kinds r := fun x hx => h x (hs.subset hx)
theorem modify_app (P M : List N) (i : Nat) (f : N → N) (h : P.length ≤ i) : (P ++ M).modify i f = P ++ M.modify (i - P.length) f := by
 induction P generalizing i with
 | nil => simp
 | cons x P ih =>
  cases i with
  | zero => simp at h
  | succ i =>
   rw [List.cons_append, List.modify_succ_cons, ih i (by simpa using h)]
   simp
theorem link_app {P M : List N} {base : Nat} {last : Int} (hP : P.length = base) (hM : M ≠ []) (hl : last = -1 ∨ (base ≤ last ∧ last < base + M.length)) :
  link (P ++ M) base last = P ++ lnk M base last (base + M.length) := by
 have hp : 0 < M.length := by cases M with
  | nil => exact absurd rfl hM
  | cons _ _ => simp
 unfold link lnk
 rw [List.length_append, hP]
 rcases hl with rfl | ⟨h1, h2⟩
 ·rw [if_neg (by omega), if_pos (by omega), if_pos (by omega), Int.toNat_natCast, ← hP, modify_app _ _ _ _ (by omega)]
  simp
 ·rw [if_pos (by omega), if_neg (by omega), ← hP, modify_app _ _ _ _ (by omega)]
theorem young_snoc (os : List E) (e : E) (y : Int) : young (os ++ [e]) y = os ++ [{ e with yg := y }] := by
 unfold young; simp
theorem more_snoc (os : List E) (e : E) (t : List UInt8) : more (os ++ [e]) t = os ++ [{ e with tx := e.tx ++ [t] }] := by
 unfold more; simp
theorem inn_snoc (ns : List N) (os : List E) (e : E) : inn ⟨ns, os ++ [e]⟩ = e := by unfold inn; simp
theorem young_len (os : List E) (y : Int) : (young os y).length = os.length := by
 rcases List.eq_nil_or_concat os with rfl | ⟨l, e, rfl⟩
 ·rfl
 ·rw [List.concat_eq_append, young_snoc]; simp
theorem wrong_tag {g : G} {t : Tk.T} (hk : t.k = 1 ∨ t.k = 3) (hb : behind g = false) :
  wrong g t = if rising (srt t.as) = false then 50 else if 4096 ≤ g.ns.length ∨ 64 ≤ g.op.length then 3 else 0 := by
 have hg : begins t = true := by unfold begins; rcases hk with h | h <;> rw [h] <;> rfl
 have h4 : ¬ (t.k = 4 ∧ g.op = [] ∧ Tk.allB t.tx = false) := fun h => by omega
 have h2 : ¬ (t.k = 2 ∧ (g.op = [] ∨ ((g.ns[(inn g).pl.toNat]?).map N.nm ≠ some t.nm))) := fun h => by omega
 unfold wrong
 rw [hg, hb, if_neg h4, if_neg h2, if_neg (by simp)]
 by_cases h1 : rising (srt t.as) = false
 ·rw [if_pos ⟨rfl, h1⟩, if_pos h1]
 ·rw [if_neg (fun h => h1 h.2), if_neg h1]
  by_cases h3 : 4096 ≤ g.ns.length
  ·rw [if_pos ⟨rfl, h3⟩, if_pos (Or.inl h3)]
  ·rw [if_neg (fun h => h3 h.2)]
   by_cases h5 : 64 ≤ g.op.length
   ·rw [if_pos ⟨rfl, h5⟩, if_pos (Or.inr h5)]
   ·rw [if_neg (fun h => h5 h.2), if_neg (by rintro (h | h) <;> contradiction)]
theorem wrong_text {g : G} {t : Tk.T} (hk : t.k = 4) : wrong g t = if g.op = [] ∧ Tk.allB t.tx = false then 50 else 0 := by
 have hg : begins t = false := by unfold begins; rw [hk]; rfl
 unfold wrong
 rw [hg, hk]
 simp
theorem wrong_close {g : G} {t : Tk.T} (hk : t.k = 2) : wrong g t = if g.op = [] ∨ (g.ns[(inn g).pl.toNat]?).map N.nm ≠ some t.nm then 50 else 0 := by
 have hg : begins t = false := by unfold begins; rw [hk]; rfl
 unfold wrong
 rw [hg, hk]
 simp
theorem loop_bad {len : Nat} {t : Tk.T} {ts : List Tk.T} {g : G} {e : Int} (h : wrong g t = e) (he : e ≠ 0) : loop len (t :: ts) g = ([], t.p, e) := by
 rw [loop, h, if_pos he]
theorem loop_go {len : Nat} {t : Tk.T} {ts : List Tk.T} {g : G} (h : wrong g t = 0) : loop len (t :: ts) g = loop len ts (take g t) := by
 rw [loop, h, if_neg (by decide)]
theorem loop_el : ∀ f,
  (∀ (len : Nat) (x : Tk.T) (ts : List Tk.T) (ns : List N) (os : List E), (x.k = 1 ∨ x.k = 3) → Kinds (x :: ts) → (os ≠ [] ∨ ns = []) → ns.length ≤ 4096 → os.length ≤ 64 → 2 * (x :: ts).length < f →
   loop len (x :: ts) ⟨ns, os⟩ = match elP f len (x :: ts) ns.length (inn ⟨ns, os⟩).pl (os.length + 1) with
    | .bad a e => ([], a, e)
    | .ok r M => loop len r ⟨link ns (inn ⟨ns, os⟩).pl (inn ⟨ns, os⟩).yg ++ M, young os ns.length⟩) ∧
  (∀ (len : Nat) (nm : List UInt8) (base : Nat) (P M : List N) (os : List E) (texts : List (List UInt8)) (last : Int) (ts : List Tk.T), P.length = base → M ≠ [] → M.head?.map N.nm = some nm → (last = -1 ∨ ((base : Int) ≤ last ∧ last < base + M.length)) → base + M.length ≤ 4096 → os.length < 64 → Kinds ts → 2 * ts.length + 1 < f →
   loop len ts ⟨P ++ M, os ++ [⟨base, last, texts⟩]⟩ = match kdP f len nm base (os.length + 1) ts M texts.flatten last with
    | .bad a e => ([], a, e)
    | .ok r M' => loop len r ⟨P ++ M', os⟩)
 | 0 => by
  constructor
  ·intro len x ts ns os _ _ _ _ _ h
   omega
  ·intro len nm base P M os texts last ts _ _ _ _ _ _ _ h
   omega
 | f + 1 => by
  obtain ⟨ih1, ih2⟩ := loop_el f
  constructor
  ·intro len x ts ns os hk hks h0 hn ho hf
   have hb : behind ⟨ns, os⟩ = false := by
    unfold behind
    rcases h0 with h0 | h0
    ·cases os with
     | nil => exact absurd rfl h0
     | cons _ _ => rfl
    ·rw [h0]; simp
   have hw := wrong_tag hk hb
   unfold elP
   by_cases h1 : rising (srt x.as) = false
   ·rw [if_pos h1] at hw
    rw [if_pos h1, loop_bad hw (by decide)]
   ·rw [if_neg h1] at hw
    rw [if_neg h1]
    by_cases h2 : ns.length = 4096 ∨ 64 < os.length + 1
    ·rw [if_pos (by simp only; omega)] at hw
     rw [if_pos h2, loop_bad hw (by decide)]
    ·rw [if_neg (by simp only; omega)] at hw
     rw [if_neg h2, loop_go hw]
     unfold take
     rw [if_neg (by omega)]
     rcases hk with hk | hk
     ·rw [if_pos hk, if_neg (by omega)]
      have := ih2 len x.nm ns.length (link ns (inn ⟨ns, os⟩).pl (inn ⟨ns, os⟩).yg) [nodeAt x (inn ⟨ns, os⟩).pl] (young os ns.length) [] (-1) ts (link_len _ _ _) (by simp) rfl (Or.inl rfl) (by simp; omega) (by rw [young_len]; omega) hks.tail (by simp at hf ⊢; omega)
      rw [young_len] at this
      exact this
     ·rw [if_neg (by omega), if_pos hk, if_pos hk]
      unfold cls opn
      simp only [List.dropLast_concat]
      rfl
  ·intro len nm base P M os texts last ts hP hM hnm hl hb ho hks hf
   cases ts with
   | nil =>
    unfold kdP
    rw [loop]
    have : behind ⟨P ++ M, os ++ [⟨base, last, texts⟩]⟩ = false := by unfold behind; simp
    rw [this]; rfl
   | cons t r =>
    unfold kdP
    have hMp : 0 < M.length := by cases M with
     | nil => exact absurd rfl hM
     | cons _ _ => simp
    rcases hks t List.mem_cons_self with hk | hk | hk | hk
    rotate_left
    ·-- Close
     have hw := wrong_close (g := ⟨P ++ M, os ++ [⟨base, last, texts⟩]⟩) hk
     rw [inn_snoc] at hw
     have e1 : ((P ++ M)[(base : Int).toNat]?).map N.nm = some nm := by
      rw [Int.toNat_natCast, List.getElem?_append_right (by omega), hP, Nat.sub_self, ← List.head?_eq_getElem?, hnm]
     simp only [e1] at hw
     rw [if_pos hk]
     by_cases hn : t.nm = nm
     ·rw [if_neg (by simp [hn])] at hw
      rw [loop_go hw, if_neg (by simp [hn])]
      unfold take
      rw [if_neg (by omega), if_neg (by omega), if_neg (by omega), if_pos hk]
      unfold settle
      rw [inn_snoc]
      simp only
      split
      ·unfold cls; simp
      ·unfold cls
       simp only [List.dropLast_concat]
       rw [Int.toNat_natCast, modify_app _ _ _ _ (by omega), hP, Nat.sub_self]
     ·rw [if_pos (Or.inr (by intro e; injection e with e; exact hn e.symm))] at hw
      rw [if_pos hn, loop_bad hw (by decide)]
    ·-- Empty
     have E := ih1 len t r (P ++ M) (os ++ [⟨base, last, texts⟩]) (Or.inr hk) hks (Or.inl (by simp)) (by simp; omega) (by simp; omega) (by simp at hf ⊢; omega)
     rw [inn_snoc] at E
     rw [if_neg (by omega), if_neg (by omega), E]
     simp only [List.length_append, List.length_cons, List.length_nil, hP]
     cases e : elP f len (t :: r) (base + M.length) base (os.length + 1 + 1) with
     | bad a b => rfl
     | ok r' K =>
      have k1 := (ends_el f).1 _ _ _ _ _ _ _ hb e
      simp only
      rw [link_app hP hM hl, young_snoc, List.append_assoc]
      have k2 := k1.2.1
      have k3 : 0 < K.length := by cases K with
       | nil => exact absurd rfl k1.2.2.1
       | cons _ _ => simp
      refine ih2 len nm base P _ os texts _ r' hP (by intro e; have := congrArg List.length e; simp at this; exact k1.2.2.1 this.2) ?_ (Or.inr ?_) ?_ ho (hks.suffix k1.1) ?_
      ·rw [head_app (by intro e; have := congrArg List.length e; rw [lnk_len] at this; simp at this; exact hM this), lnk_nm, hnm]
      ·rw [List.length_append, lnk_len]; omega
      ·rw [List.length_append, lnk_len]; have := k1.2.2.2; omega
      ·simp at hf k2 ⊢; omega
    ·-- a text
     have hw := wrong_text (g := ⟨P ++ M, os ++ [⟨base, last, texts⟩]⟩) hk
     rw [if_neg (by simp)] at hw
     rw [if_neg (by omega), if_pos hk, loop_go hw]
     unfold take
     rw [if_pos hk, more_snoc]
     have := ih2 len nm base P M os (texts ++ [t.tx]) last r hP hM hnm hl hb ho hks.tail (by simp at hf ⊢; omega)
     rw [List.flatten_append] at this
     simpa using this
    ·-- Open
     have E := ih1 len t r (P ++ M) (os ++ [⟨base, last, texts⟩]) (Or.inl hk) hks (Or.inl (by simp)) (by simp; omega) (by simp; omega) (by simp at hf ⊢; omega)
     rw [inn_snoc] at E
     rw [if_neg (by omega), if_neg (by omega), E]
     simp only [List.length_append, List.length_cons, List.length_nil, hP]
     cases e : elP f len (t :: r) (base + M.length) base (os.length + 1 + 1) with
     | bad a b => rfl
     | ok r' K =>
      have k1 := (ends_el f).1 _ _ _ _ _ _ _ hb e
      simp only
      rw [link_app hP hM hl, young_snoc, List.append_assoc]
      have k2 := k1.2.1
      have k3 : 0 < K.length := by cases K with
       | nil => exact absurd rfl k1.2.2.1
       | cons _ _ => simp
      refine ih2 len nm base P _ os texts _ r' hP (by intro e; have := congrArg List.length e; simp at this; exact k1.2.2.1 this.2) ?_ (Or.inr ?_) ?_ ho (hks.suffix k1.1) ?_
      ·rw [head_app (by intro e; have := congrArg List.length e; rw [lnk_len] at this; simp at this; exact hM this), lnk_nm, hnm]
      ·rw [List.length_append, lnk_len]; omega
      ·rw [List.length_append, lnk_len]; have := k1.2.2.2; omega
      ·simp at hf k2 ⊢; omega
theorem blanks_suffix : ∀ ts, blanksP ts <:+ ts
 | [] => List.suffix_refl _
 | t :: r => by
  unfold blanksP
  split
  ·exact (blanks_suffix r).trans (List.suffix_cons _ _)
  ·exact List.suffix_refl _
theorem loop_blanks (len : Nat) (ns : List N) : ∀ ts, loop len ts ⟨ns, []⟩ = loop len (blanksP ts) ⟨ns, []⟩
 | [] => rfl
 | t :: r => by
  unfold blanksP
  split
  ·rename_i h
   have hw := wrong_text (g := ⟨ns, []⟩) h.1
   rw [if_neg (by rw [h.2]; simp)] at hw
   rw [loop_go hw]
   unfold take
   rw [if_pos h.1]
   exact loop_blanks len ns r
  ·rfl
theorem blanks_head {ts r : List Tk.T} {t : Tk.T} (h : blanksP ts = t :: r) (hk : t.k = 4) : Tk.allB t.tx = false := by
 induction ts with
 | nil => cases h
 | cons x l ih =>
  unfold blanksP at h
  split at h
  ·exact ih h
  ·rename_i h2
   injection h with h3 h4
   subst h3
   cases e : Tk.allB x.tx with
   | false => rfl
   | true => exact absurd ⟨hk, e⟩ h2
theorem rparse_eq {l : List UInt8} (hk : Kinds (Tk.toks l).1) : rparse l = parse l := by
 unfold rparse parse
 split
 ·rfl
 ·rw [show loop l.length (Tk.toks l).1 G0 = loop l.length (blanksP (Tk.toks l).1) G0 from loop_blanks _ _ _]
  have hks := hk.suffix (blanks_suffix _)
  cases e : blanksP (Tk.toks l).1 with
  | nil => rfl
  | cons t r =>
   rw [e] at hks
   simp only
   rcases hks t List.mem_cons_self with h1 | h1 | h1 | h1
   case inr.inl =>
    rw [if_pos (Or.inl h1), loop_bad (e := 50) (by rw [wrong_close h1]; exact if_pos (Or.inl rfl)) (by decide)]
   case inr.inr.inr =>
    rw [if_pos (Or.inr h1), loop_bad (e := 50) (by rw [wrong_text h1]; exact if_pos ⟨rfl, blanks_head e h1⟩) (by decide)]
   all_goals
    rw [if_neg (by omega)]
    have E := (loop_el (2 * (t :: r).length + 2)).1 l.length t r [] [] (by omega) hks (Or.inr rfl) (by simp) (by simp) (by omega)
    rw [show G0 = ⟨[], []⟩ from rfl, E]
    change _ = match elP (2 * (t :: r).length + 2) l.length (t :: r) 0 (-1) 1 with
     | .bad a e => ([], a, e)
     | .ok r M => loop l.length r ⟨link [] (-1) (-1) ++ M, []⟩
    cases e2 : elP (2 * (t :: r).length + 2) l.length (t :: r) 0 (-1) 1 with
    | bad a b => rfl
    | ok r' M =>
     have k1 := (ends_el _).1 _ _ _ _ _ _ _ (by omega) e2
     simp only
     rw [show link [] (-1) (-1) = ([] : List N) from rfl, List.nil_append, loop_blanks]
     have hk2 := (hks.suffix k1.1).suffix (blanks_suffix r')
     have hbe : behind ⟨M, []⟩ = true := by
      unfold behind
      cases M with
      | nil => exact absurd rfl k1.2.2.1
      | cons _ _ => rfl
     cases e3 : blanksP r' with
     | nil => rw [loop, hbe]; rfl
     | cons t' r2 =>
      rw [e3] at hk2
      have : wrong ⟨M, []⟩ t' = 50 := by
       rcases hk2 t' List.mem_cons_self with h2 | h2 | h2 | h2
       case inr.inl => rw [wrong_close h2, if_pos (Or.inl rfl)]
       case inr.inr.inr => rw [wrong_text h2, if_pos ⟨rfl, blanks_head e3 h2⟩]
       all_goals
        unfold wrong
        rw [if_neg (by intro h; omega), if_pos ⟨by unfold begins; rw [h2]; rfl, hbe⟩]
      rw [loop_bad this (by decide)]
end Go.Proofs.YteadfpkihhaadaaGreatDoor.Tr
namespace Go.Proofs.YteadfpkihhaadaaGreatDoor
open Go
theorem En.goes_len : ∀ (f : Nat) (l out : List UInt8) (at_ : Nat), (En.goes En.dF f l out at_).1.length ≤ out.length + 6 * l.length
 | 0, l, out, at_ => by unfold En.goes; simp
 | f + 1, l, out, at_ => by
  unfold En.goes
  split
  ·simp
  ·split
   ·simp
   ·rename_i h1 h2
    have h3 : (En.dF l).2.2 = 0 := Classical.byContradiction h2
    have := En.goes_len f (l.drop (En.dF l).2.1) (out ++ (En.dF l).1) (at_ + (En.dF l).2.1)
    have h4 := En.long_dF h1 h3
    have h5 := En.moves_dF l h1 h3
    rw [List.length_append, List.length_drop] at this
    omega
theorem En.rep_len (l : List UInt8) : (En.rep En.dF l).1.length ≤ 6 * l.length := by
 have := En.goes_len l.length l [] 0
 unfold En.rep
 simpa using this
namespace Tk
theorem step_tx {l : List UInt8} {t : T} (ht : (step l).t = some t) : t.tx.length ≤ 6 * (step l).n := by
 unfold step at ht ⊢
 split
 ·rename_i h1
  rw [if_pos h1] at ht
  unfold txt at ht ⊢
  split
  ·rename_i h2; rw [if_pos h2] at ht; cases ht
  ·rename_i h2
   rw [if_neg h2] at ht
   simp only [Option.some.injEq] at ht
   subst ht
   have := En.rep_len (l.take (upto l))
   rw [List.length_take] at this
   simp only; omega
 ·rename_i h1
  rw [if_neg h1] at ht
  split
  ·rename_i h2; rw [if_pos h2] at ht; cases ht
  ·rename_i h2
   rw [if_neg h2] at ht
   split
   ·rename_i h3
    rw [if_pos h3] at ht
    unfold cls at ht ⊢
    split
    ·rename_i h4; rw [if_pos h4] at ht; cases ht
    ·rename_i h4
     rw [if_neg h4] at ht
     simp only [Option.some.injEq] at ht
     subst ht; simp
   ·rename_i h3
    rw [if_neg h3] at ht
    unfold opn at ht ⊢
    split
    ·rename_i h4; rw [if_pos h4] at ht; cases ht
    ·rename_i h4
     rw [if_neg h4] at ht
     split
     ·rename_i h5; rw [if_pos h5] at ht; cases ht
     ·rename_i h5
      rw [if_neg h5] at ht
      split
      ·rename_i h6; rw [if_pos h6] at ht; cases ht
      ·rename_i h6
       rw [if_neg h6] at ht
       simp only [Option.some.injEq] at ht
       subst ht; simp
def txs (ts : List T) : Nat := (ts.map (fun t => t.tx.length)).sum
theorem goT_txs : ∀ (f : Nat) (l : List UInt8) (at_ : Nat) (acc : List T), l.length ≤ f → txs acc ≤ 6 * at_ → (goT f l at_ acc).2.2 = 0 → txs (goT f l at_ acc).1 ≤ 6 * (at_ + l.length)
 | 0, l, at_, acc, hf, ha, _ => by unfold goT; simp only; omega
 | f + 1, l, at_, acc, hf, ha, h => by
  by_cases hne : l = []
  ·subst hne
   rw [goT_nil]; simp only [List.length_nil]; omega
  ·by_cases hs : (step l).e = 0
   ·have hle := step_le hne hs
    rw [goT_good hf hne hs, goT_more (f + 1) f _ _ _ (by rw [List.length_drop]; omega) (by rw [List.length_drop]; omega)] at h ⊢
    have := goT_txs f (l.drop (step l).n) (at_ + (step l).n) (put1 (step l).t at_ acc) (by rw [List.length_drop]; omega) ?_ h
    ·rw [List.length_drop] at this; omega
    ·unfold put1
     cases e : (step l).t with
     | none => simp only; omega
     | some t =>
      have := step_tx e
      simp only [txs, List.map_append, List.map_cons, List.map_nil, List.sum_append, List.sum_cons, List.sum_nil] at ha ⊢
      omega
   ·rw [goT_bad hf hne hs] at h
    exact absurd h hs
theorem toks_txs (L : List UInt8) : txs (toks L).1 ≤ 6 * L.length := by
 by_cases h : (toks L).2.2 = 0
 ·unfold toks at h ⊢
  split
  ·simp [txs]
  ·rename_i h1
   rw [if_neg h1] at h
   split
   ·simp [txs]
   ·rename_i h2
    rw [if_neg h2] at h
    have := goT_txs L.length L 0 [] (Nat.le_refl _) (by simp [txs]) h
    unfold cutT
    simpa using this
 ·rw [((toks_ord L).2 h).1]; simp [txs]
theorem toks_kinds (L : List UInt8) : Tr.Kinds (toks L).1 := by
 by_cases h : (toks L).2.2 = 0
 ·intro t ht
  have := (((toks_ord L).1 h).1.1 t ht).1
  have h1 := this.2.1
  have h2 := this.2.2.1
  omega
 ·rw [((toks_ord L).2 h).1]; exact fun t ht => by cases ht
theorem toks_as (L : List UInt8) : ∀ t ∈ (toks L).1, t.as.length ≤ 32 := by
 by_cases h : (toks L).2.2 = 0
 ·exact fun t ht => (((toks_ord L).1 h).1.1 t ht).1.2.2.2.2.1
 ·rw [((toks_ord L).2 h).1]; exact fun t ht => by cases ht
theorem toks_short (L : List UInt8) : 65536 < L.length → (toks L).1 = [] := fun h => by unfold toks; rw [if_pos h]
end Tk
end Go.Proofs.YteadfpkihhaadaaGreatDoor
namespace Go.Proofs.YteadfpkihhaadaaGreatDoor.Tr
open Go
structure Bd (g : G) (n k : Nat) : Prop where
 ns : g.ns.length ≤ 4096
 op : g.op.length ≤ 64
 tx : ∀ e ∈ g.op, e.tx.flatten.length ≤ n ∧ e.tx.length ≤ k
theorem Bd.zero : Bd G0 0 0 := ⟨by decide, by decide, fun _ h => (by cases h)⟩
theorem young_tx {op : List E} {y : Int} {e : E} (h : e ∈ young op y) : ∃ e' ∈ op, e.tx = e'.tx := by
 obtain ⟨e', h1, rfl | rfl⟩ := mem_young h
 ·exact ⟨_, h1, rfl⟩
 ·exact ⟨_, h1, rfl⟩
theorem more_len (op : List E) (t : List UInt8) : (more op t).length = op.length := by
 rcases List.eq_nil_or_concat op with rfl | ⟨l, e, rfl⟩
 ·rfl
 ·rw [List.concat_eq_append, more_snoc]; simp
theorem Bd.more {g : G} {n k : Nat} (h : Bd g n k) (t : List UInt8) : Bd ⟨g.ns, more g.op t⟩ (n + t.length) (k + 1) := by
 refine ⟨h.ns, by rw [more_len]; exact h.op, fun e he => ?_⟩
 obtain ⟨e', h1, rfl | rfl⟩ := mem_more he
 ·have := h.tx _ h1; omega
 ·have := h.tx _ h1
  simp only [List.flatten_append, List.length_append, List.flatten_cons, List.flatten_nil, List.append_nil, List.length_cons, List.length_nil]
  omega
theorem Bd.opn {g : G} {n k : Nat} (h : Bd g n k) (x : N) (h1 : g.ns.length < 4096) (h2 : g.op.length < 64) : Bd (opn g x) n k := by
 refine ⟨?_, ?_, ?_⟩
 ·unfold Tr.opn; simp only [add_len]; omega
 ·unfold Tr.opn; simp only [List.length_append, young_len, List.length_cons, List.length_nil]; omega
 ·intro e he
  unfold Tr.opn at he
  simp only [List.mem_append, List.mem_singleton] at he
  rcases he with he | rfl
  ·obtain ⟨e', h3, h4⟩ := young_tx he
   rw [h4]; exact h.tx _ h3
  ·simp
theorem Bd.cls {g : G} {n k : Nat} (h : Bd g n k) : Bd (cls g) n k :=
 ⟨h.ns, by unfold Tr.cls; rw [List.length_dropLast]; have := h.op; omega, fun e he => h.tx e ((List.dropLast_sublist _).subset he)⟩
theorem Bd.settle {g : G} {n k : Nat} (h : Bd g n k) : Bd (settle g) n k := by
 unfold Tr.settle
 split
 ·exact h
 ·exact ⟨by simpa using h.ns, h.op, h.tx⟩
theorem Bd.le {g : G} {n k n' k' : Nat} (h : Bd g n k) (h1 : n ≤ n') (h2 : k ≤ k') : Bd g n' k' := ⟨h.ns, h.op, fun e he => by have := h.tx e he; omega⟩
theorem Bd.takeAs {g : G} {n k : Nat} (h : Bd g n k) (t : Tk.T) (hw : wrongAs g t = 0) : Bd (takeAs g t) (n + t.tx.length) (k + 1) := by
 have hb : begins t = true → g.ns.length < 4096 ∧ g.op.length < 64 := by
  intro hb
  have h3 : broken g t 3 = false := by
   cases e : broken g t 3 with
   | false => rfl
   | true =>
    exfalso
    unfold wrongAs at hw
    rw [e] at hw
    revert hw
    repeat' split
    all_goals first | (simp; done) | (intro _; simp_all; done)
  have h4 : broken g t 4 = false := by
   cases e : broken g t 4 with
   | false => rfl
   | true =>
    exfalso
    unfold wrongAs at hw
    rw [e] at hw
    revert hw
    repeat' split
    all_goals first | (simp; done) | (intro _; simp_all; done)
  unfold broken at h3 h4
  rw [hb] at h3 h4
  simp only [Bool.true_and, decide_eq_false_iff_not] at h3 h4
  omega
 unfold Tr.takeAs
 split
 ·exact h.more _
 ·split
  ·rename_i h1
   have := hb (by unfold begins; rw [h1]; rfl)
   exact (h.opn _ this.1 this.2).le (by omega) (by omega)
  ·split
   ·rename_i h1
    have := hb (by unfold begins; rw [h1]; rfl)
    exact ((h.opn _ this.1 this.2).cls).le (by omega) (by omega)
   ·split
    ·exact h.settle.cls.le (by omega) (by omega)
    ·exact h.le (by omega) (by omega)
theorem inn_bd {g : G} {n k : Nat} (h : Bd g n k) : (inn g).tx.flatten.length ≤ n ∧ (inn g).tx.length ≤ k := by
 rcases List.eq_nil_or_concat g.op with he | ⟨l, e, he⟩
 ·unfold inn; rw [he]; simp [noE]
 ·unfold inn
  rw [he, List.concat_eq_append]
  simp only [List.getLast?_concat, Option.getD_some]
  exact h.tx e (by rw [he]; simp)
theorem wrong_open {g : G} {t : Tk.T} (hw : wrongAs g t = 0) (hk : t.k = 2) : g.op ≠ [] := fun he => by
 have : broken g t 5 = true := by unfold broken; rw [hk, he]; rfl
 unfold wrongAs at hw
 rw [this] at hw
 revert hw
 repeat' split
 all_goals first | (simp; done) | (intro _; simp_all; done)
theorem loop_step {len : Nat} {t : Tk.T} {ts : List Tk.T} {g : G} {d : List At} (hp : d.Perm t.as) (hu : Up d) :
  loop len (t :: ts) g = if wrongAs g ⟨t.k, t.nm, d, t.tx, t.p⟩ ≠ 0 then ([], t.p, wrongAs g ⟨t.k, t.nm, d, t.tx, t.p⟩) else loop len ts (takeAs g ⟨t.k, t.nm, d, t.tx, t.p⟩) := by
 obtain ⟨h1, h2⟩ := sort_tells hp hu
 have hw : wrongAs g ⟨t.k, t.nm, d, t.tx, t.p⟩ = wrong g t := by
  rw [wrong_as]
  unfold wrongAs broken begins
  simp only [h1]
 rw [hw]
 by_cases h : wrong g t = 0
 ·rw [loop_go h, if_neg (by simp [h])]
  rw [take_as]
  cases hr : rising d with
  | true => rw [h2 hr]
  | false =>
   have hb : begins t = false := by
    cases hb : begins t with
    | false => rfl
    | true =>
     exfalso
     rw [← hw] at h
     have : broken g ⟨t.k, t.nm, d, t.tx, t.p⟩ 2 = true := by
      unfold broken
      simp only [hr]
      rw [show begins (⟨t.k, t.nm, d, t.tx, t.p⟩ : Tk.T) = true from hb]; rfl
     unfold wrongAs at h
     rw [this] at h
     revert h
     repeat' split
     all_goals first | (simp; done) | (intro _; simp_all; done)
   have e1 : t.k ≠ 1 ∧ t.k ≠ 3 := by
    unfold begins at hb
    simp only [Bool.or_eq_false_iff, beq_eq_false_iff_ne] at hb
    exact hb
   unfold takeAs
   simp only [e1.1, e1.2, if_false]
 ·rw [loop_bad rfl h, if_pos h]
end Go.Proofs.YteadfpkihhaadaaGreatDoor.Tr
namespace Go.Proofs.YteadfpkihhaadaaGreatDoor.Tr
open Go
def Lk (n : Nat) (i : Nat) (k : Int) : Prop := k = -1 ∨ ((i : Int) < k ∧ k < n)
def Linked (ns : List N) : Prop := ∀ i x, ns[i]? = some x → Lk ns.length i x.fi ∧ Lk ns.length i x.nx
def nxt (ns : List N) (k : Nat) : Int := ((ns[k]?).map N.nx).getD (-1)
def fst (ns : List N) (k : Nat) : Int := ((ns[k]?).map N.fi).getD (-1)
def chain : Nat → List N → Int → List Nat
 | 0, _, _ => []
 | f + 1, ns, k => if k < 0 then [] else k.toNat :: chain f ns (nxt ns k.toNat)
def chainOf (ns : List N) (k : Int) : List Nat := chain ns.length ns k
def kidsOf (ns : List N) (n : Nat) : List Nat := chainOf ns (fst ns n)
theorem Linked.nxt {ns : List N} (h : Linked ns) {k : Nat} (hk : k < ns.length) : Lk ns.length k (nxt ns k) := by
 unfold Tr.nxt
 rw [List.getElem?_eq_getElem hk]
 exact (h k _ (List.getElem?_eq_getElem hk)).2
theorem Linked.fst {ns : List N} (h : Linked ns) {k : Nat} (hk : k < ns.length) : Lk ns.length k (fst ns k) := by
 unfold Tr.fst
 rw [List.getElem?_eq_getElem hk]
 exact (h k _ (List.getElem?_eq_getElem hk)).1
theorem chain_succ (f : Nat) (ns : List N) (k : Int) : chain (f + 1) ns k = if k < 0 then [] else k.toNat :: chain f ns (nxt ns k.toNat) := rfl
theorem chain_neg (f : Nat) (ns : List N) {k : Int} (hk : k < 0) : chain f ns k = [] := by
 cases f with
 | zero => rfl
 | succ f => unfold chain; rw [if_pos hk]
theorem chain_fuel {ns : List N} (h : Linked ns) : ∀ (f f' : Nat) (k : Int), k < ns.length → (0 ≤ k → ns.length - k.toNat ≤ f) → (0 ≤ k → ns.length - k.toNat ≤ f') → chain f ns k = chain f' ns k
 | 0, f', k, hk, h1, _ => by
  have hn : k < 0 := by
   rcases Int.lt_or_le k 0 with h0 | h0
   ·exact h0
   ·have := h1 h0; omega
  rw [chain_neg _ _ hn, chain_neg _ _ hn]
 | f + 1, 0, k, hk, _, h2 => by
  have hn : k < 0 := by
   rcases Int.lt_or_le k 0 with h0 | h0
   ·exact h0
   ·have := h2 h0; omega
  rw [chain_neg _ _ hn, chain_neg _ _ hn]
 | f + 1, f' + 1, k, hk, h1, h2 => by
  unfold chain
  by_cases h0 : k < 0
  ·rw [if_pos h0, if_pos h0]
  ·rw [if_neg h0, if_neg h0]
   have hlt : k.toNat < ns.length := by omega
   have hl := h.nxt hlt
   have a1 := h1 (by omega)
   have a2 := h2 (by omega)
   rw [chain_fuel h f f' (nxt ns k.toNat) (by rcases hl with e | e <;> omega) (fun q => by rcases hl with e | e <;> omega) (fun q => by rcases hl with e | e <;> omega)]
theorem chain_step {ns : List N} (h : Linked ns) {k : Nat} (hk : k < ns.length) : chainOf ns k = k :: chainOf ns (nxt ns k) := by
 unfold chainOf
 have e : ns.length = (ns.length - 1) + 1 := by omega
 have hl := h.nxt hk
 conv => lhs; rw [e]
 rw [chain_succ, if_neg (by omega), Int.toNat_natCast]
 rw [chain_fuel h (ns.length - 1) ns.length (nxt ns k) (by rcases hl with e | e <;> omega) (fun q => by rcases hl with e | e <;> omega) (fun q => by omega)]
theorem chain_end (ns : List N) : chainOf ns (-1) = [] := chain_neg _ _ (by omega)
theorem chain_in {ns : List N} (h : Linked ns) : ∀ (f : Nat) (k : Int), k < ns.length → ∀ j ∈ chain f ns k, k ≤ (j : Int) ∧ j < ns.length
 | 0, _, _, j, hj => by cases hj
 | f + 1, k, hk, j, hj => by
  unfold chain at hj
  by_cases h0 : k < 0
  ·rw [if_pos h0] at hj; cases hj
  ·rw [if_neg h0] at hj
   rcases List.mem_cons.1 hj with rfl | hj
   ·omega
   ·have hl := h.nxt (k := k.toNat) (by omega)
    have := chain_in h f (nxt ns k.toNat) (by rcases hl with e | e <;> omega) j hj
    rcases hl with e | e
    ·rw [e, chain_neg _ _ (by omega)] at hj; cases hj
    ·omega
theorem kids_in {ns : List N} (h : Linked ns) {n : Nat} (hn : n < ns.length) : ∀ j ∈ kidsOf ns n, n < j ∧ j < ns.length := by
 intro j hj
 have hl := h.fst hn
 unfold kidsOf chainOf at hj
 have := chain_in h ns.length (fst ns n) (by rcases hl with e | e <;> omega) j hj
 rcases hl with e | e
 ·rw [e, chain_neg _ _ (by omega)] at hj; cases hj
 ·omega
def wr : Nat → List N → Nat → List UInt8
 | 0, _, _ => []
 | f + 1, ns, n => match ns[n]? with
  | none => []
  | some x => 60 :: (x.nm ++ (Tk.asw x.al ++ (if x.tx = [] ∧ x.fi = -1 then [47, 62] else 62 :: (En.encB false x.tx ++ ((kidsOf ns n).flatMap (wr f ns) ++ 60 :: 47 :: (x.nm ++ [62]))))))
theorem wr_succ (f : Nat) (ns : List N) (n : Nat) : wr (f + 1) ns n = match ns[n]? with
  | none => []
  | some x => 60 :: (x.nm ++ (Tk.asw x.al ++ (if x.tx = [] ∧ x.fi = -1 then [47, 62] else 62 :: (En.encB false x.tx ++ ((kidsOf ns n).flatMap (wr f ns) ++ 60 :: 47 :: (x.nm ++ [62])))))) := rfl
def wrOf (ns : List N) (n : Nat) : List UInt8 := wr ns.length ns n
theorem flatMap_on {α β : Type} {f g : α → List β} : ∀ {l : List α}, (∀ a ∈ l, f a = g a) → l.flatMap f = l.flatMap g
 | [], _ => rfl
 | a :: l, h => by
  rw [List.flatMap_cons, List.flatMap_cons, h a List.mem_cons_self, flatMap_on fun b hb => h b (List.mem_cons_of_mem _ hb)]
theorem wr_fuel {ns : List N} (h : Linked ns) : ∀ (f f' : Nat) (n : Nat), n < ns.length → ns.length - n ≤ f → ns.length - n ≤ f' → wr f ns n = wr f' ns n
 | 0, _, _, _, _, _ => by omega
 | _ + 1, 0, _, _, _, _ => by omega
 | f + 1, f' + 1, n, hn, h1, h2 => by
  unfold wr
  rw [List.getElem?_eq_getElem hn]
  simp only
  rw [flatMap_on (f := wr f ns) (g := wr f' ns) (fun j hj => by
   have := kids_in h hn j hj
   exact wr_fuel h f f' j (by omega) (by omega) (by omega))]
theorem wr_step {ns : List N} (h : Linked ns) {n : Nat} (hn : n < ns.length) :
  wrOf ns n = 60 :: (ns[n].nm ++ (Tk.asw ns[n].al ++ (if ns[n].tx = [] ∧ ns[n].fi = -1 then [47, 62] else 62 :: (En.encB false ns[n].tx ++ ((kidsOf ns n).flatMap (wrOf ns) ++ 60 :: 47 :: (ns[n].nm ++ [62])))))) := by
 unfold wrOf
 have e : ns.length = (ns.length - 1) + 1 := by omega
 conv => lhs; rw [e]
 rw [wr_succ, List.getElem?_eq_getElem hn]
 simp only
 rw [flatMap_on (f := wr (ns.length - 1) ns) (g := wr ns.length ns) (fun j hj => by
  have := kids_in h hn j hj
  exact wr_fuel h _ _ j (by omega) (by omega) (by omega))]
def get1 (nm : List UInt8) : List At → List UInt8 × Bool
 | [] => ([], false)
 | a :: l => if a.1 = nm then (a.2, true) else get1 nm l
end Go.Proofs.YteadfpkihhaadaaGreatDoor.Tr
