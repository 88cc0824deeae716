/- Plain facts: how a tree is written, that it is not long, and that it is cut into its tags and texts. No program is named here; no condition. -/
import Derived.Test.YtgidpcfaeekjhaaGreatDoorTrBk3
import Derived.Test.YtgidpcfaeekjhaaGreatDoorTrWr2
namespace Go.Proofs.YtgidpcfaeekjhaaGreatDoor.Tr
open Go

theorem at_same {xs ys : List N} (h : same xs ys = true) (k : Nat) : (xs[k]? = none ∧ ys[k]? = none) ∨ ∃ x y, xs[k]? = some x ∧ ys[k]? = some y ∧ same1 x y = true := by
  obtain ⟨h1, h2⟩ := same_iff.1 h
  rcases Nat.lt_or_ge k xs.length with hk | hk
  · right
    have e1 := List.getElem?_eq_getElem hk
    have e2 := List.getElem?_eq_getElem (l := ys) (i := k) (by omega)
    exact ⟨_, _, e1, e2, h2 k _ _ e1 e2⟩
  · left
    exact ⟨List.getElem?_eq_none hk, List.getElem?_eq_none (by omega)⟩
theorem nxt_same {xs ys : List N} (h : same xs ys = true) (k : Nat) : nxt xs k = nxt ys k := by
  unfold nxt
  rcases at_same h k with ⟨a, b⟩ | ⟨x, y, a, b, c⟩
  · rw [a, b]
  · rw [a, b]
    have := (same1_iff.1 c).2.2.2.2.2
    simp [this]
theorem fst_same {xs ys : List N} (h : same xs ys = true) (k : Nat) : fst xs k = fst ys k := by
  unfold fst
  rcases at_same h k with ⟨a, b⟩ | ⟨x, y, a, b, c⟩
  · rw [a, b]
  · rw [a, b]
    have := (same1_iff.1 c).2.2.2.2.1
    simp [this]
theorem chain_same {xs ys : List N} (h : same xs ys = true) : ∀ (f : Nat) (k : Int), chain f xs k = chain f ys k
  | 0, _ => rfl
  | f + 1, k => by rw [chain_succ, chain_succ, nxt_same h, chain_same h f]
theorem kidsOf_same {xs ys : List N} (h : same xs ys = true) (n : Nat) : kidsOf xs n = kidsOf ys n := by
  unfold kidsOf chainOf
  rw [(same_iff.1 h).1, fst_same h, chain_same h]
theorem wr_same {xs ys : List N} (h : same xs ys = true) : ∀ (f n : Nat), wr f xs n = wr f ys n
  | 0, _ => rfl
  | f + 1, n => by
    rw [wr_succ, wr_succ]
    rcases at_same h n with ⟨a, b⟩ | ⟨x, y, a, b, c⟩
    · rw [a, b]
    · rw [a, b]
      obtain ⟨c1, c2, c3, _, c5, _⟩ := same1_iff.1 c
      simp only
      rw [c1, c2, c3, c5, kidsOf_same h, flatMap_on (f := wr f xs) (g := wr f ys) (fun j _ => wr_same h f j)]
theorem wrOf_same {xs ys : List N} (h : same xs ys = true) (n : Nat) : wrOf xs n = wrOf ys n := by
  unfold wrOf
  rw [(same_iff.1 h).1, wr_same h]
theorem F.wr_node (x : N) (k r : F) : (F.node x k r).wr = 60 :: (x.nm ++ (Tk.asw x.al ++ (if x.tx = [] ∧ k.e = true then [47, 62] else 62 :: (En.encB false x.tx ++ (k.wr ++ 60 :: 47 :: (x.nm ++ [62])))))) ++ r.wr := rfl
/-- What hangs together by links is written as the tree that it is. -/
theorem wr_F : ∀ (f : F) (ns P Q : List N) (b : Nat) (pa : Int), ns = P ++ (f.flat b pa ++ Q) → P.length = b → Linked ns → (chainOf ns (if f.e then -1 else (b : Int))).flatMap (wrOf ns) = f.wr
  | .nil, ns, _, _, _, _, _, _, _ => by
    show (chainOf ns (-1)).flatMap (wrOf ns) = []
    rw [chain_end]; rfl
  | .node x k r, ns, P, Q, b, pa, hns, hP, hL => by
    rw [F.flat_node] at hns
    obtain ⟨y, hy⟩ : ∃ y : N, y = { x with pa := pa, fi := if k.e then -1 else ((b + 1 : Nat) : Int), nx := if r.e then -1 else ((b + 1 + k.size : Nat) : Int) } := ⟨_, rfl⟩
    rw [← hy] at hns
    have hlen : b < ns.length := by rw [hns, List.length_append, hP]; simp
    have hat : ns[b]? = some y := by rw [hns, List.getElem?_append_right (by omega), hP, Nat.sub_self]; rfl
    have hget : ns[b] = y := by
      have := List.getElem?_eq_getElem hlen
      rw [hat] at this
      exact (Option.some.inj this).symm
    have hnx : nxt ns b = if r.e then -1 else ((b + 1 + k.size : Nat) : Int) := by unfold nxt; rw [hat, hy]; rfl
    have hfs : fst ns b = if k.e then -1 else ((b + 1 : Nat) : Int) := by unfold fst; rw [hat, hy]; rfl
    have ihk := wr_F k ns (P ++ [y]) (r.flat (b + 1 + k.size) pa ++ Q) (b + 1) b (by rw [hns]; simp) (by rw [List.length_append, hP]; rfl) hL
    have ihr := wr_F r ns (P ++ y :: k.flat (b + 1) b) Q (b + 1 + k.size) pa (by rw [hns]; simp) (by rw [List.length_append, List.length_cons, F.flat_len, hP]; omega) hL
    show (chainOf ns (b : Int)).flatMap (wrOf ns) = _
    rw [chain_step hL hlen, List.flatMap_cons, hnx, ihr, wr_step hL hlen, hget]
    have hkid : (kidsOf ns b).flatMap (wrOf ns) = k.wr := by unfold kidsOf; rw [hfs]; exact ihk
    rw [hkid, F.wr_node, hy]
    have hcond : ((if k.e = true then (-1 : Int) else ((b + 1 : Nat) : Int)) = -1) = (k.e = true) := by
      cases k.e with
      | true => simp
      | false => simp; omega
    simp only [hcond]
theorem check_linked {xs : List N} (h : check xs = true) : Linked xs := (check_ok h).1
/-- A right tree is written as the tree that it is. -/
theorem write_F {xs : List N} (h : check xs = true) {n : N} {k : F} (hs : same xs ((F.node n k .nil).flat 0 (-1)) = true) : write xs = (F.node n k .nil).wr := by
  have hl : Linked ((F.node n k .nil).flat 0 (-1)) := (check_linked h).same (same_symm hs)
  unfold write
  rw [if_pos h, wrOf_same hs]
  have := wr_F (.node n k .nil) ((F.node n k .nil).flat 0 (-1)) [] [] 0 (-1) (by simp) rfl hl
  have h0 : 0 < ((F.node n k .nil).flat 0 (-1)).length := by rw [F.flat_node]; simp
  have e0 : (if (F.node n k .nil).e = true then (-1 : Int) else ((0 : Nat) : Int)) = ((0 : Nat) : Int) := rfl
  have e1 : nxt ((F.node n k .nil).flat 0 (-1)) 0 = -1 := by rw [F.flat_node]; rfl
  rw [e0, chain_step hl h0, e1, chain_end, List.flatMap_cons] at this
  simpa using this

/-! ### not long -/
theorem asw_le : ∀ {al : List At}, (∀ a ∈ al, 1 ≤ a.1.length) → (Tk.asw al).length ≤ 6 * Tk.wAs al
  | [], _ => Nat.le_refl _
  | a :: al, h => by
    have ih := asw_le (al := al) (fun b hb => h b (List.mem_cons_of_mem _ hb))
    have h1 := h a List.mem_cons_self
    have h2 := Tk.encB_len true a.2
    have h3 := Tk.aw_len a
    rw [Tk.asw_cons, List.length_append, h3]
    unfold Tk.wAs at ih ⊢
    simp only [List.map_cons, List.sum_cons]
    omega
theorem F.wr_len : ∀ f : F, (∀ x ∈ f.pre, proper x = true) → f.wr.length ≤ 6 * wgN f.pre + 6 * f.pre.length
  | .nil, _ => Nat.zero_le _
  | .node x k r, h => by
    have hk := F.wr_len k (fun y hy => h y (by rw [F.pre_node]; simp [hy]))
    have hr := F.wr_len r (fun y hy => h y (by rw [F.pre_node]; simp [hy]))
    obtain ⟨p1, _, _, _, _, p6⟩ := proper_iff.1 (h x (by rw [F.pre_node]; simp))
    have h1 := Nm.isn_len p1
    have h2 := asw_le (al := x.al) (fun a ha => (Nm.isn_len (p6 a ha).1).1)
    have h3 := Tk.encB_len false x.tx
    rw [F.wr_node, F.pre_node]
    have e1 : wgN (x :: (k.pre ++ r.pre)) = wg1 x + wgN k.pre + wgN r.pre := by unfold wgN; simp; omega
    rw [e1]
    unfold wg1
    simp only [List.length_append, List.length_cons]
    split
    · simp only [List.length_cons, List.length_nil]; omega
    · simp only [List.length_append, List.length_cons, List.length_nil]; omega
theorem write_len {xs : List N} (h : check xs = true) : (write xs).length ≤ 6 * wgN xs + 6 * xs.length := by
  obtain ⟨n, k, e, hs, _⟩ := check_F h
  have := F.wr_len (.node n k .nil) (fun y hy => (check_ok h).2.1 y (by rw [e]; exact hy))
  rw [write_F h hs]
  rw [← e] at this
  exact this
theorem wAs_wtA : ∀ al : List At, Tk.wAs al = wtA al
  | [] => rfl
  | a :: al => by
    have := wAs_wtA al
    unfold Tk.wAs at this ⊢
    unfold wtA
    simp only [List.map_cons, List.sum_cons]; omega
theorem wgN_le : ∀ xs : List N, wgN xs ≤ wts xs
  | [] => Nat.le_refl _
  | x :: xs => by
    have := wgN_le xs
    have h2 := wAs_wtA x.al
    have h3 : wg1 x ≤ wt x := by unfold wg1 wt; omega
    unfold wgN at this ⊢
    show ((x :: xs).map wg1).sum ≤ wt x + wts xs
    simp only [List.map_cons, List.sum_cons]
    omega
theorem len2 {xs : List N} (hn : xs.length ≤ 60) (hw : wts xs ≤ 4000) (h : check xs = true) : (write xs).length ≤ 65536 := by
  have h1 := write_len h
  have h2 := wgN_le xs
  omega
theorem incr_len' : ∀ (ps : List Nat) (lo n : Nat), ps.Pairwise (· < ·) → (∀ p ∈ ps, lo ≤ p ∧ p < n) → ps.length ≤ n - lo
  | [], _, _, _, _ => Nat.zero_le _
  | p :: ps, lo, n, h, hb => by
    have h1 := List.pairwise_cons.1 h
    have h2 := hb p List.mem_cons_self
    have := incr_len' ps (p + 1) n h1.2 (fun q hq => ⟨h1.1 q hq, (hb q (List.mem_cons_of_mem _ hq)).2⟩)
    rw [List.length_cons]; omega
theorem toks_many (L : List UInt8) : (Tk.toks L).1.length ≤ L.length := by
  by_cases h : (Tk.toks L).2.2 = 0
  · have ho := ((Tk.toks_ord L).1 h).1
    have := incr_len' ((Tk.toks L).1.map Tk.T.p) 0 L.length (by rw [List.pairwise_map]; exact ho.2) (by
      intro p hp
      obtain ⟨t, ht, rfl⟩ := List.mem_map.1 hp
      exact ⟨Nat.zero_le _, (ho.1 t ht).2⟩)
    rw [List.length_map] at this
    omega
  · rw [((Tk.toks_ord L).2 h).1]; exact Nat.zero_le _
theorem len1 {L : List UInt8} (h : L.length ≤ 1000) (h0 : (parse L).2.2 = 0) : (write (parse L).1).length ≤ 65536 := by
  obtain ⟨g, e, _, hp⟩ := parse_pi h0
  have h1 := write_len (back1 h0)
  rw [e] at h1 ⊢
  have h2 := hp.sz
  have h3 := hp.cnt
  have h4 := (Tk.toks_gt L).2
  have h5 := toks_many L
  omega
theorem loop_none (len : Nat) : ∀ (ts : List Tk.T) (g : G), (loop len ts g).2.2 ≠ 0 → (loop len ts g).1 = []
  | [], g, h => by
    unfold loop at h ⊢
    cases hb : behind g with
    | true => rw [hb] at h; exact absurd rfl h
    | false => rfl
  | t :: ts, g, h => by
    by_cases hw : wrong g t = 0
    · rw [loop_go hw] at h ⊢; exact loop_none len ts _ h
    · rw [loop_bad rfl hw]
theorem parse_none {L : List UInt8} (h : (parse L).2.2 ≠ 0) : (parse L).1 = [] := by
  unfold parse at h ⊢
  split
  · rfl
  · rename_i h1
    rw [if_neg h1] at h
    exact loop_none _ _ _ h
theorem wgN_mem : ∀ {xs : List N} {x : N}, x ∈ xs → wg1 x ≤ wgN xs
  | y :: xs, x, h => by
    unfold wgN
    simp only [List.map_cons, List.sum_cons]
    rcases List.mem_cons.1 h with rfl | h
    · omega
    · have := wgN_mem h
      unfold wgN at this; omega
theorem parse_small {L : List UInt8} (h : L.length ≤ 1000) {n : N} (hn : n ∈ (parse L).1) : proper n = true ∧ wg1 n ≤ 6000 := by
  by_cases h0 : (parse L).2.2 = 0
  · obtain ⟨g, e, _, hp⟩ := parse_pi h0
    rw [e] at hn
    have h1 := wgN_mem hn
    have h2 := hp.sz
    have h4 := (Tk.toks_gt L).2
    exact ⟨hp.pr n hn, by omega⟩
  · rw [parse_none h0] at hn; cases hn
end Go.Proofs.YtgidpcfaeekjhaaGreatDoor.Tr
