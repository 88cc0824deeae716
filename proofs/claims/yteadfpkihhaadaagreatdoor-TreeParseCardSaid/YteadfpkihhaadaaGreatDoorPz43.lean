/- Facts and walks for the statement. -/
import Derived.Test.YteadfpkihhaadaaGreatDoorPz25
import Derived.Test.YteadfpkihhaadaaGreatDoorPz42
namespace Go.Proofs.YteadfpkihhaadaaGreatDoor.Tr
open Go
def core (x : N) : N := { x with fi := 0, nx := 0 }
def strip (x : N) : N := { x with tx := [] }
theorem chkL_app : ∀ (a b : List N) (g : G), chkL (a ++ b) g = (chkL a g).bind (chkL b)
 | [], b, g => rfl
 | n :: a, b, g => by
  show (chk1 g n).bind (chkL (a ++ b)) = ((chk1 g n).bind (chkL a)).bind (chkL b)
  cases chk1 g n with
  | none => rfl
  | some g1 => exact chkL_app a b g1
theorem chk1_core (g : G) (n : N) : chk1 g (core n) = chk1 g n := rfl
theorem chkL_ext : ∀ (a b : List N) (g : G), a.map core = b.map core → chkL a g = chkL b g
 | [], [], _, _ => rfl
 | [], _ :: _, _, h => by cases h
 | _ :: _, [], _, h => by cases h
 | x :: a, y :: b, g, h => by
  rw [List.map_cons, List.map_cons] at h
  injection h with h1 h2
  show (chk1 g x).bind (chkL a) = (chk1 g y).bind (chkL b)
  rw [← chk1_core g x, h1, chk1_core g y]
  cases chk1 g y with
  | none => rfl
  | some g1 => exact chkL_ext a b g1 h2
theorem mod_map_id {β : Type} {f : N → N} {u : N → β} (h : ∀ x, u (f x) = u x) : ∀ (l : List N) (i : Nat), (l.modify i f).map u = l.map u
 | [], i => by simp
 | x :: l, 0 => by simp [h]
 | x :: l, i + 1 => by rw [List.modify_succ_cons, List.map_cons, List.map_cons, mod_map_id h l i]
theorem modi_map {f u : N → N} (h : ∀ x, u (f x) = f (u x)) : ∀ (l : List N) (i : Nat), (l.modify i f).map u = (l.map u).modify i f
 | [], i => by simp
 | x :: l, 0 => by simp [h]
 | x :: l, i + 1 => by rw [List.modify_succ_cons, List.map_cons, List.map_cons, List.modify_succ_cons, modi_map h l i]
theorem link_id {β : Type} {u : N → β} (h1 : ∀ (x : N) (k : Int), u { x with fi := k } = u x) (h2 : ∀ (x : N) (k : Int), u { x with nx := k } = u x) (ns : List N) (pa el : Int) : (link ns pa el).map u = ns.map u := by
 unfold link
 split
 ·exact mod_map_id (fun x => h2 x _) _ _
 ·split
  ·exact mod_map_id (fun x => h1 x _) _ _
  ·rfl
theorem link_strip (ns : List N) (pa el : Int) : (link ns pa el).map strip = link (ns.map strip) pa el := by
 unfold link
 rw [List.length_map]
 split
 ·exact modi_map (f := fun x : N => { x with nx := (ns.length : Int) }) (u := strip) (fun x => rfl) _ _
 ·split
  ·exact modi_map (f := fun x : N => { x with fi := (ns.length : Int) }) (u := strip) (fun x => rfl) _ _
  ·rfl
theorem add_strip (ns : List N) (n : N) (pa el : Int) : (add ns n pa el).map strip = add (ns.map strip) (strip n) pa el := by
 unfold add
 rw [List.map_append, link_strip]; rfl
theorem add_tx (ns : List N) (n : N) (pa el : Int) : (add ns n pa el).map N.tx = ns.map N.tx ++ [n.tx] := by
 unfold add
 rw [List.map_append, link_id (u := N.tx) (fun _ _ => rfl) (fun _ _ => rfl)]; rfl
theorem chk1_of {g : G} {n : N} (h1 : proper n = true) (h2 : g.ns.length < 4096) (h3 : (inn ⟨g.ns, toPlace n.pa g.op⟩).pl = n.pa) (h4 : behind ⟨g.ns, toPlace n.pa g.op⟩ = false) (h5 : (toPlace n.pa g.op).length < 64) :
  chk1 g n = some (opn ⟨g.ns, toPlace n.pa g.op⟩ n) := by
 unfold chk1
 rw [if_pos]
 simp only [Bool.and_eq_true, decide_eq_true_eq, Bool.not_eq_true', decide_eq_false_iff_not]
 exact ⟨⟨⟨⟨h1, h3⟩, h4⟩, by omega⟩, by omega⟩
theorem eq_of_strip : ∀ {a b : List N}, a.map strip = b.map strip → a.map N.tx = b.map N.tx → a = b
 | [], [], _, _ => rfl
 | [], _ :: _, h, _ => by cases h
 | _ :: _, [], h, _ => by cases h
 | x :: a, y :: b, h1, h2 => by
  rw [List.map_cons, List.map_cons] at h1 h2
  injection h1 with e1 e2
  injection h2 with e3 e4
  obtain ⟨n1, a1, t1, p1, f1, x1, q1⟩ := x
  obtain ⟨n2, a2, t2, p2, f2, x2, q2⟩ := y
  unfold strip at e1
  simp only [N.mk.injEq] at e1 e3
  obtain ⟨rfl, rfl, _, rfl, rfl, rfl, rfl⟩ := e1
  subst e3
  rw [eq_of_strip e2 e4]
theorem chkL_tx : ∀ (xs ys : List N) (gx gy gx' : G), xs.map strip = ys.map strip → (∀ y ∈ ys, proper y = true) → gx.op = gy.op → gx.ns.map strip = gy.ns.map strip → chkL xs gx = some gx' →
  ∃ gy', chkL ys gy = some gy' ∧ gy'.op = gx'.op ∧ gy'.ns.map strip = gx'.ns.map strip ∧ gy'.ns.map N.tx = gy.ns.map N.tx ++ ys.map N.tx
 | [], [], gx, gy, gx', _, _, ho, hs, h => by
  unfold chkL at h
  simp only [Option.some.injEq] at h
  subst h
  exact ⟨gy, rfl, ho.symm, hs.symm, by simp⟩
 | [], _ :: _, _, _, _, h, _, _, _, _ => by cases h
 | _ :: _, [], _, _, _, h, _, _, _, _ => by cases h
 | x :: xs, y :: ys, gx, gy, gx', hxy, hp, ho, hs, h => by
  rw [List.map_cons, List.map_cons] at hxy
  injection hxy with e1 e2
  have hpa : y.pa = x.pa := by have := congrArg N.pa e1; exact this.symm
  have hlen : gy.ns.length = gx.ns.length := by have := congrArg List.length hs; rw [List.length_map, List.length_map] at this; exact this.symm
  unfold chkL at h
  cases e : chk1 gx x with
  | none => rw [e] at h; cases h
  | some g1 =>
   rw [e] at h
   obtain ⟨_, c2, c3, c4, c5, c6⟩ := chk1_ok e
   have hy := chk1_of (g := gy) (n := y) (hp y List.mem_cons_self) (by omega) (by rw [hpa, ← ho]; exact c4) (by
    rw [hpa, ← ho]
    unfold behind at c5 ⊢
    have hem : gy.ns.isEmpty = gx.ns.isEmpty := by
     cases h1 : gy.ns with
     | nil => cases h2 : gx.ns with
      | nil => rfl
      | cons _ _ => rw [h1, h2] at hlen; simp at hlen
     | cons _ _ => cases h2 : gx.ns with
      | nil => rw [h1, h2] at hlen; simp at hlen
      | cons _ _ => rfl
    simp only at c5 ⊢
    rw [hem]; exact c5) (by rw [hpa, ← ho]; exact c6)
   rw [hpa, ← ho] at hy
   have := chkL_tx xs ys g1 (opn ⟨gy.ns, toPlace x.pa gx.op⟩ y) gx' e2 (fun z hz => hp z (List.mem_cons_of_mem _ hz)) (by
    rw [c3]
    unfold opn
    simp only [hlen]) (by
    rw [c3]
    unfold opn
    simp only
    rw [add_strip, add_strip, hs, e1]
    rfl) h
   obtain ⟨gy', r1, r2, r3, r4⟩ := this
   refine ⟨gy', ?_, r2, r3, ?_⟩
   ·show (chk1 gy y).bind (chkL ys) = _
    rw [hy]; exact r1
   ·rw [r4]
    show (add gy.ns y _ _).map N.tx ++ _ = _
    rw [add_tx, List.map_cons, List.append_assoc]; rfl
def ple (e : E) : Int × Int := (e.pl, e.yg)
structure Sim (g g2 : G) : Prop where
 run : chkL g.ns G0 = some g2
 ns : g2.ns = g.ns
 op : g.op.map ple <+: g2.op.map ple
 inc : g2.op.Pairwise (fun a b => a.pl < b.pl)
 lt : ∀ e ∈ g2.op, e.pl < g2.ns.length
theorem Sim.zero : Sim G0 G0 := ⟨rfl, rfl, List.prefix_refl _, List.Pairwise.nil, fun _ h => (by cases h)⟩
theorem toPlace_cut {A B : List E} {e : E} {p : Int} (h : e.pl = p) (hB : ∀ x ∈ B, x.pl ≠ p) : toPlace p (A ++ [e] ++ B) = A ++ [e] := by
 unfold toPlace
 rw [List.reverse_append, List.dropWhile_append_of_pos (fun x hx => by
  have := hB x (List.mem_reverse.1 hx)
  simpa using this)]
 rw [List.reverse_append]
 simp [h]
theorem Sim.drop {g g2 : G} (h : Sim g g2) : Sim ⟨g.ns, g.op.dropLast⟩ g2 :=
 ⟨h.run, h.ns, by rw [show (g.op.dropLast).map ple = (g.op.map ple).dropLast from (List.map_dropLast ..)]; exact (List.dropLast_prefix _).trans h.op, h.inc, h.lt⟩
theorem Sim.more {g g2 : G} (h : Sim g g2) (t : List UInt8) : Sim ⟨g.ns, Tr.more g.op t⟩ g2 := by
 refine ⟨h.run, h.ns, ?_, h.inc, h.lt⟩
 rcases List.eq_nil_or_concat g.op with he | ⟨l, e, he⟩
 ·have := h.op
  rw [he] at this ⊢
  exact this
 ·have := h.op
  rw [he, List.concat_eq_append] at this ⊢
  rw [more_snoc]
  rw [List.map_append] at this ⊢
  exact this
theorem Sim.opn {g g2 : G} (h : Sim g g2) {n : N} (hn : proper n = true) (hb : behind g = false) (h1 : g.ns.length < 4096) (h2 : g.op.length < 64) : ∃ g3, Sim (Tr.opn g n) g3 := by
 obtain ⟨ns, op⟩ := g
 simp only at h1 h2
 rcases List.eq_nil_or_concat op with he | ⟨os, e, he⟩
 ·subst he
  have hns : ns = [] := by
   unfold behind at hb
   cases ns with
   | nil => rfl
   | cons _ _ => simp at hb
  subst hns
  have hn1 : proper { n with pa := -1, fi := -1, nx := -1 } = true := hn
  refine ⟨Tr.opn ⟨[], []⟩ { n with pa := -1, fi := -1, nx := -1 }, ?_, rfl, List.prefix_refl _, List.pairwise_singleton _ _, ?_⟩
  ·show (chk1 G0 { n with pa := -1, fi := -1, nx := -1 }).bind (chkL []) = _
   rw [chk1_of hn1 (by decide) rfl rfl (by show (0 : Nat) < 64; decide)]
   rfl
  ·intro e he
   have : e = ⟨0, -1, []⟩ := List.mem_singleton.1 he
   rw [this]
   show (0 : Int) < ((1 : Nat) : Int)
   decide
 ·rw [List.concat_eq_append] at he
  subst he
  have hop := h.op
  obtain ⟨t, ht⟩ := hop
  obtain ⟨B12, B2, hB, h12, _⟩ := List.map_eq_append_iff.1 ht.symm
  simp only [List.map_append, List.map_cons, List.map_nil] at h12
  obtain ⟨B1, Be, hB12, hB1, hBe⟩ := List.map_eq_append_iff.1 h12
  obtain ⟨e', rfl⟩ : ∃ e', Be = [e'] := by
   cases Be with
   | nil => cases hBe
   | cons e' r =>
    cases r with
    | nil => exact ⟨e', rfl⟩
    | cons _ _ => simp at hBe
  simp only [List.map_cons, List.map_nil, List.cons.injEq, and_true] at hBe
  unfold ple at hBe
  rw [Prod.mk.injEq] at hBe
  obtain ⟨epl, eyg⟩ := hBe
  have hns := h.ns
  simp only at hns
  have hinc := h.inc
  have hlt := h.lt
  rw [hB, hB12] at hinc hlt
  have hlenB : B1.length = os.length := by have := congrArg List.length hB1; simpa using this
  have hcut : toPlace e.pl g2.op = B1 ++ [e'] := by
   rw [hB, hB12]
   refine toPlace_cut epl (fun x hx => ?_)
   have := (List.pairwise_append.1 hinc).2.2 e' (by simp) x hx
   omega
  have hn1 : proper { n with pa := e.pl, fi := -1, nx := -1 } = true := hn
  have hrun : chkL (Tr.opn ⟨ns, os ++ [e]⟩ n).ns G0 = some (Tr.opn ⟨g2.ns, B1 ++ [e']⟩ { n with pa := e.pl, fi := -1, nx := -1 }) := by
   have e1 : (Tr.opn ⟨ns, os ++ [e]⟩ n).ns = link ns e.pl e.yg ++ [{ n with pa := e.pl, fi := -1, nx := -1 }] := by
    unfold Tr.opn add
    rw [inn_snoc]
   have e2 : chkL (link ns e.pl e.yg) G0 = some g2 := by
    rw [chkL_ext _ ns G0 (link_id (u := core) (fun _ _ => rfl) (fun _ _ => rfl) _ _ _)]
    exact h.run
   rw [e1, chkL_app, e2]
   show (chk1 g2 { n with pa := e.pl, fi := -1, nx := -1 }).bind (chkL []) = _
   rw [chk1_of hn1 (by rw [hns]; exact h1) (by simp only; rw [hcut, inn_snoc]; exact epl) (by
    simp only
    rw [hcut]
    unfold behind
    simp) (by
    simp only
    rw [hcut, List.length_append, hlenB]
    simp at h2 ⊢
    omega)]
   simp only
   rw [hcut]
   rfl
  refine ⟨_, hrun, ?_, ?_, ?_, ?_⟩
  ·unfold Tr.opn
   simp only
   rw [inn_snoc, inn_snoc, epl, eyg, hns]
   rfl
  ·unfold Tr.opn
   simp only
   rw [young_snoc, young_snoc, hns]
   simp only [List.map_append, List.map_cons, List.map_nil, hB1]
   unfold ple
   simp only [epl]
   exact List.prefix_refl _
  ·unfold Tr.opn
   simp only
   rw [young_snoc]
   have hp0 := (List.pairwise_append.1 hinc).1
   rw [List.pairwise_append] at hp0 ⊢
   refine ⟨List.pairwise_append.2 ⟨hp0.1, List.pairwise_singleton _ _, fun a ha b hb => ?_⟩, List.pairwise_singleton _ _, fun a ha b hb => ?_⟩
   ·rw [List.mem_singleton.1 hb]
    exact hp0.2.2 a ha e' (by simp)
   ·rw [List.mem_singleton.1 hb]
    simp only
    rcases List.mem_append.1 ha with ha | ha
    ·exact hlt a (by simp [ha])
    ·rw [List.mem_singleton.1 ha]
     exact hlt e' (by simp)
  ·unfold Tr.opn
   simp only
   rw [young_snoc, add_len]
   intro a ha
   rcases List.mem_append.1 ha with ha | ha
   ·rcases List.mem_append.1 ha with ha | ha
    ·have := hlt a (by simp [ha]); omega
    ·rw [List.mem_singleton.1 ha]
     have := hlt e' (by simp)
     simp only
     omega
   ·rw [List.mem_singleton.1 ha]
    simp only
    omega
theorem Sim.settle {g g2 : G} (h : Sim g g2) (hp : ∀ n ∈ (Tr.settle g).ns, proper n = true) : ∃ g3, Sim (Tr.settle g) g3 := by
 have hst : g.ns.map strip = (Tr.settle g).ns.map strip := by
  unfold Tr.settle
  split
  ·rfl
  ·exact (mod_map_id (f := fun x : N => { x with tx := (inn g).tx.flatten }) (u := strip) (fun x => rfl) _ _).symm
 have hop : (Tr.settle g).op = g.op := by unfold Tr.settle; split <;> rfl
 obtain ⟨g3, r1, r2, r3, r4⟩ := chkL_tx g.ns (Tr.settle g).ns G0 G0 g2 hst hp rfl rfl h.run
 have hns : g3.ns = (Tr.settle g).ns := eq_of_strip (by rw [r3, h.ns]; exact hst) (by rw [r4]; rfl)
 refine ⟨g3, r1, hns, by rw [hop, r2]; exact h.op, by rw [r2]; exact h.inc, fun e he => ?_⟩
 rw [r2] at he
 have := h.lt e he
 have h1 := congrArg List.length r3
 rw [List.length_map, List.length_map] at h1
 omega
/-! ### what holds while tokens are taken -/
theorem valid_chs {l : List UInt8} (h : En.validL l) : chs l = true := by
 unfold En.validL at h
 unfold chs vld
 rw [if_neg (by omega)]; rfl
def wg1 (n : N) : Nat := n.nm.length + n.tx.length + Tk.wAs n.al
def wgN (ns : List N) : Nat := (ns.map wg1).sum
def wgE (op : List E) : Nat := (op.map (fun e => e.tx.flatten.length)).sum
theorem wAs_perm {a b : List At} (h : a.Perm b) : Tk.wAs a = Tk.wAs b := (h.map _).sum_nat
theorem wgN_snoc (ns : List N) (n : N) : wgN (ns ++ [n]) = wgN ns + wg1 n := by unfold wgN; simp
theorem wgE_snoc (op : List E) (e : E) : wgE (op ++ [e]) = wgE op + e.tx.flatten.length := by unfold wgE; simp
theorem wgN_mod {f : N → N} {c : Nat} (h : ∀ x, wg1 (f x) ≤ wg1 x + c) : ∀ (ns : List N) (i : Nat), wgN (ns.modify i f) ≤ wgN ns + c
 | [], i => by simp [wgN]
 | x :: l, 0 => by
  have := h x
  unfold wgN
  simp only [List.modify_zero_cons, List.map_cons, List.sum_cons]; omega
 | x :: l, i + 1 => by
  have := wgN_mod h l i
  unfold wgN at *
  simp only [List.modify_succ_cons, List.map_cons, List.sum_cons] at this ⊢; omega
structure PI (g : G) (done : List Tk.T) : Prop where
 ok : Ok g
 sim : ∃ g2, Sim g g2
 pr : ∀ n ∈ g.ns, proper n = true
 tx : ∀ e ∈ g.op, ∀ s ∈ e.tx, En.validL s
 sz : wgN g.ns + wgE g.op ≤ Tk.wgs done
 cnt : g.ns.length ≤ done.length
theorem PI.zero : PI G0 [] := ⟨Ok.zero, ⟨_, Sim.zero⟩, fun _ h => (by cases h), fun _ h => (by cases h), Nat.le_refl _, Nat.le_refl _⟩
theorem wgs_snoc (ts : List Tk.T) (t : Tk.T) : Tk.wgs (ts ++ [t]) = Tk.wgs ts + Tk.wgt t := by unfold Tk.wgs; simp
theorem wrong_beg {g : G} {t : Tk.T} (hw : wrong g t = 0) (hk : t.k = 1 ∨ t.k = 3) : behind g = false ∧ rising (srt t.as) = true ∧ g.ns.length < 4096 ∧ g.op.length < 64 := by
 cases hb : behind g with
 | true =>
  exfalso
  have hg : begins t = true := by unfold begins; rcases hk with h | h <;> rw [h] <;> rfl
  unfold wrong at hw
  rw [if_neg (fun h => by omega), if_pos ⟨hg, hb⟩] at hw
  cases hw
 | false =>
  have h := wrong_tag hk hb
  rw [hw] at h
  by_cases h1 : rising (srt t.as) = false
  ·rw [if_pos h1] at h; cases h
  ·rw [if_neg h1] at h
   by_cases h2 : 4096 ≤ g.ns.length ∨ 64 ≤ g.op.length
   ·rw [if_pos h2] at h; cases h
   ·refine ⟨rfl, by simpa using h1, by omega, by omega⟩
theorem node_proper {t : Tk.T} (hk : t.k = 1 ∨ t.k = 3) (hg : Tk.GT t) (h32 : t.as.length ≤ 32) (hr : rising (srt t.as) = true) : proper (nodeOf t) = true := by
 have hp := srt_perm t.as
 refine proper_iff.2 ⟨hg.1 (by omega), Or.inl rfl, valid_chs En.validL_nil, ?_, hr, fun a ha => ?_⟩
 ·show (srt t.as).length ≤ 32
  rw [hp.length_eq]; exact h32
 ·have := hg.2.1 a (hp.mem_iff.1 ha)
  exact ⟨this.1, valid_chs this.2⟩
theorem young_wg (op : List E) (y : Int) : wgE (young op y) = wgE op := by
 rcases List.eq_nil_or_concat op with rfl | ⟨l, e, rfl⟩
 ·rfl
 ·rw [List.concat_eq_append, young_snoc, wgE_snoc, wgE_snoc]
theorem link_mem {ns : List N} {pa el : Int} {x : N} (h : x ∈ link ns pa el) : ∃ y ∈ ns, core x = core y := by
 have : core x ∈ (link ns pa el).map core := List.mem_map.2 ⟨x, h, rfl⟩
 rw [link_id (u := core) (fun _ _ => rfl) (fun _ _ => rfl)] at this
 obtain ⟨y, hy, e⟩ := List.mem_map.1 this
 exact ⟨y, hy, e.symm⟩
theorem proper_core {x y : N} (h : core x = core y) : proper x = proper y := by
 rw [show proper x = proper (core x) from rfl, h]; rfl
theorem PI.opn {g : G} {done : List Tk.T} (h : PI g done) {t : Tk.T} (hk : t.k = 1 ∨ t.k = 3) (hg : Tk.GT t) (h32 : t.as.length ≤ 32) (hw : wrong g t = 0) : PI (Tr.opn g (nodeOf t)) (done ++ [t]) := by
 obtain ⟨hb, hr, h1, h2⟩ := wrong_beg hw hk
 have hp := node_proper hk hg h32 hr
 obtain ⟨g2, hs⟩ := h.sim
 refine ⟨h.ok.opn _, hs.opn hp hb h1 h2, ?_, ?_, ?_, ?_⟩
 ·intro n hn
  unfold Tr.opn add at hn
  rcases List.mem_append.1 hn with hn | hn
  ·obtain ⟨y, hy, e⟩ := link_mem hn
   rw [proper_core e]; exact h.pr y hy
  ·rw [List.mem_singleton.1 hn]; exact hp
 ·intro e he
  unfold Tr.opn at he
  rcases List.mem_append.1 he with he | he
  ·obtain ⟨e', h3, h4⟩ := young_tx he
   rw [h4]; exact h.tx e' h3
  ·rw [List.mem_singleton.1 he]; exact fun _ h => (by cases h)
 ·unfold Tr.opn add
  simp only
  rw [wgN_snoc, wgE_snoc, young_wg, wgs_snoc]
  have e1 : wgN (link g.ns (inn g).pl (inn g).yg) = wgN g.ns := by unfold wgN; rw [link_id (u := wg1) (fun _ _ => rfl) (fun _ _ => rfl)]
  rw [e1]
  have e2 : wg1 { nodeOf t with pa := (inn g).pl, fi := -1, nx := -1 } = t.nm.length + Tk.wAs t.as := by
   unfold wg1 nodeOf
   simp only [List.length_nil, Nat.add_zero]
   rw [wAs_perm (srt_perm t.as)]
  rw [e2]
  have := h.sz
  unfold Tk.wgt
  simp only [List.flatten_nil, List.length_nil]
  omega
 ·unfold Tr.opn
  simp only
  rw [add_len, List.length_append]
  have := h.cnt
  simp only [List.length_cons, List.length_nil]; omega
theorem PI.cls {g : G} {done : List Tk.T} (h : PI g done) : PI (Tr.cls g) done := by
 obtain ⟨g2, hs⟩ := h.sim
 refine ⟨h.ok.cls, ⟨g2, hs.drop⟩, h.pr, fun e he => h.tx e ((List.dropLast_sublist _).subset he), ?_, h.cnt⟩
 have := h.sz
 unfold Tr.cls
 simp only
 rcases List.eq_nil_or_concat g.op with he | ⟨l, e, he⟩
 ·rw [he] at this ⊢; exact this
 ·rw [he, List.concat_eq_append] at this ⊢
  rw [List.dropLast_concat]
  rw [wgE_snoc] at this
  omega
theorem PI.more {g : G} {done : List Tk.T} (h : PI g done) {t : Tk.T} (hg : Tk.GT t) : PI ⟨g.ns, Tr.more g.op t.tx⟩ (done ++ [t]) := by
 obtain ⟨g2, hs⟩ := h.sim
 refine ⟨h.ok.more _, ⟨g2, hs.more _⟩, h.pr, ?_, ?_, by rw [List.length_append]; have := h.cnt; simp only; omega⟩
 ·intro e he s hs
  obtain ⟨e', h1, rfl | rfl⟩ := mem_more he
  ·exact h.tx _ h1 s hs
  ·simp only at hs
   rcases List.mem_append.1 hs with hs | hs
   ·exact h.tx _ h1 s hs
   ·rw [List.mem_singleton.1 hs]; exact hg.2.2
 ·have := h.sz
  rw [wgs_snoc]
  unfold Tk.wgt
  simp only
  rcases List.eq_nil_or_concat g.op with he | ⟨l, e, he⟩
  ·rw [he] at this ⊢
   have e0 : Tr.more [] t.tx = [] := rfl
   rw [e0]; omega
  ·rw [he, List.concat_eq_append] at this ⊢
   rw [more_snoc, wgE_snoc]
   rw [wgE_snoc] at this
   simp only [List.flatten_append, List.length_append, List.flatten_cons, List.flatten_nil, List.append_nil]
   omega
theorem valid_flat : ∀ {l : List (List UInt8)}, (∀ s ∈ l, En.validL s) → En.validL l.flatten
 | [], _ => En.validL_nil
 | s :: l, h => by
  rw [List.flatten_cons]
  exact Tk.validL_append (h s List.mem_cons_self) (valid_flat fun x hx => h x (List.mem_cons_of_mem _ hx))
theorem PI.close {g : G} {done : List Tk.T} (h : PI g done) (t : Tk.T) : PI (Tr.cls (Tr.settle g)) (done ++ [t]) := by
 have hpr : ∀ n ∈ (Tr.settle g).ns, proper n = true := by
  intro n hn
  unfold Tr.settle at hn
  split at hn
  ·exact h.pr n hn
  ·rename_i h1
   obtain ⟨i, hi⟩ := List.getElem?_of_mem hn
   obtain ⟨y, hy, e⟩ := mod_at hi
   have hyp := h.pr y (List.mem_of_getElem? hy)
   rcases e with rfl | rfl
   ·exact hyp
   ·obtain ⟨a, _, _, d, e, f⟩ := proper_iff.1 hyp
    refine proper_iff.2 ⟨a, Or.inr (by simpa using h1), valid_chs (valid_flat ?_), d, e, f⟩
    rcases List.eq_nil_or_concat g.op with he | ⟨l, e', he⟩
    ·have : (inn g).tx = [] := by unfold inn; rw [he]; rfl
     rw [this]; exact fun _ h => (by cases h)
    ·have : inn g = e' := by unfold inn; rw [he, List.concat_eq_append]; simp
     rw [this]
     exact h.tx e' (by rw [he]; simp)
 obtain ⟨g2, hs⟩ := h.sim
 obtain ⟨g3, hs3⟩ := hs.settle hpr
 have hop : (Tr.settle g).op = g.op := by unfold Tr.settle; split <;> rfl
 have hlen : (Tr.settle g).ns.length = g.ns.length := by unfold Tr.settle; split <;> simp
 have hsz : wgN (Tr.settle g).ns + wgE (g.op.dropLast) ≤ wgN g.ns + wgE g.op := by
  have hw : wgE g.op = wgE g.op.dropLast + (inn g).tx.flatten.length := by
   rcases List.eq_nil_or_concat g.op with he | ⟨l, e, he⟩
   ·unfold inn; rw [he]; rfl
   ·unfold inn
    rw [he, List.concat_eq_append, List.dropLast_concat, wgE_snoc]
    simp
  unfold Tr.settle
  split
  ·omega
  ·have := wgN_mod (f := fun x : N => { x with tx := (inn g).tx.flatten }) (c := (inn g).tx.flatten.length) (fun x => by unfold wg1; simp only; omega) g.ns (inn g).pl.toNat
   simp only
   omega
 refine ⟨h.ok.settle.cls, ⟨g3, hs3.drop⟩, hpr, ?_, ?_, ?_⟩
 ·intro e he
  unfold Tr.cls at he
  simp only [hop] at he
  exact h.tx e ((List.dropLast_sublist _).subset he)
 ·have := h.sz
  unfold Tr.cls
  simp only
  rw [hop, wgs_snoc]; omega
 ·have := h.cnt
  show (Tr.settle g).ns.length ≤ _
  rw [hlen, List.length_append]; omega
theorem PI.take {g : G} {done : List Tk.T} (h : PI g done) {t : Tk.T} (hkd : t.k = 1 ∨ t.k = 2 ∨ t.k = 3 ∨ t.k = 4) (hg : Tk.GT t) (h32 : t.as.length ≤ 32) (hw : wrong g t = 0) : PI (take g t) (done ++ [t]) := by
 unfold Tr.take
 rcases hkd with hk | hk | hk | hk
 ·rw [if_neg (by omega), if_pos hk]; exact h.opn (Or.inl hk) hg h32 hw
 ·rw [if_neg (by omega), if_neg (by omega), if_neg (by omega), if_pos hk]; exact h.close t
 ·rw [if_neg (by omega), if_neg (by omega), if_pos hk]; exact (h.opn (Or.inr hk) hg h32 hw).cls
 ·rw [if_pos hk]; exact h.more hg
theorem loop_pi (len : Nat) : ∀ (ts : List Tk.T) (g : G) (done : List Tk.T), PI g done → Kinds ts → (∀ t ∈ ts, Tk.GT t) → (∀ t ∈ ts, t.as.length ≤ 32) → (loop len ts g).2.2 = 0 → ∃ g', (loop len ts g).1 = g'.ns ∧ behind g' = true ∧ PI g' (done ++ ts)
 | [], g, done, h, _, _, _, h0 => by
  unfold loop at h0 ⊢
  cases hb : behind g with
  | true => exact ⟨g, rfl, hb, by rw [List.append_nil]; exact h⟩
  | false => rw [hb] at h0; cases h0
 | t :: ts, g, done, h, hk, hg, h32, h0 => by
  by_cases hw : wrong g t = 0
  ·rw [loop_go hw] at h0 ⊢
   obtain ⟨g', e1, e2, e3⟩ := loop_pi len ts (take g t) (done ++ [t]) (h.take (hk t List.mem_cons_self) (hg t List.mem_cons_self) (h32 t List.mem_cons_self) hw) hk.tail (fun x hx => hg x (List.mem_cons_of_mem _ hx)) (fun x hx => h32 x (List.mem_cons_of_mem _ hx)) h0
   exact ⟨g', e1, e2, by rw [List.append_assoc] at e3; exact e3⟩
  ·rw [loop_bad rfl hw] at h0
   exact absurd h0 hw
theorem parse_pi {L : List UInt8} (h : (parse L).2.2 = 0) : ∃ g, (parse L).1 = g.ns ∧ behind g = true ∧ PI g (Tk.toks L).1 := by
 unfold parse at h ⊢
 split at h
 ·rename_i h1; exact absurd h h1
 ·rename_i h1
  rw [if_neg h1]
  exact loop_pi L.length (Tk.toks L).1 G0 [] PI.zero (Tk.toks_kinds L) (Tk.toks_gt L).1 (Tk.toks_as L) h
end Go.Proofs.YteadfpkihhaadaaGreatDoor.Tr
