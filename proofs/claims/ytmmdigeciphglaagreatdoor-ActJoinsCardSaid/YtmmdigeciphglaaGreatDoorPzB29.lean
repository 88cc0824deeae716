/- Facts and walks for the statement. -/
import Derived.Test.YtmmdigeciphglaaGreatDoorPzB23
import Derived.Test.YtmmdigeciphglaaGreatDoorPzB01
import Derived.Test.YtmmdigeciphglaaGreatDoorPzB26
import Derived.Deep.RegionHeld3
namespace Go.Proofs.YtmmdigeciphglaaGreatDoor
open Ex
namespace Ac
theorem frm_more {l T : List Tk} (hT : Ex.St 1 T) (h : (frm l).2.2 = 0) : frm (l ++ T) = frm l := by
  obtain ⟨r, x, h1, h2, h3⟩ := frm_ok h
  have h4 : R (.lev 1) (l ++ T) = .ok (r ++ T) x := rd_more hT _ (.lev 1) l r x (by simp [okm]) (fun n e => by cases e; exact Nat.le_refl _) (fun _ _ e => by cases e) h1
  rw [h3]
  unfold frm
  rw [h4]
  simp only
  rw [if_neg (by omega), List.length_append, List.length_append, show l.length + T.length - (r.length + T.length) = l.length - r.length by omega]
theorem tx0_more {l : List Tk} (h : l ≠ []) (T : List Tk) : tx0 (l ++ T) = tx0 l := by
  cases l with
  | nil => exact absurd rfl h
  | cons _ _ => rfl
theorem come_more {T : List Tk} : ∀ (b : List (List UInt8)) (l : List Tk), (∀ t ∈ b, t ≠ []) → (come b l).2 = true → come b (l ++ T) = ((come b l).1 ++ T, true)
  | [], _, _, _ => rfl
  | t :: r, l, hb, h => by
    unfold come at h ⊢
    by_cases e : tx0 l = t
    · have hne := tx0_ne (l := l) (by rw [e]; exact hb t (List.mem_cons_self ..))
      rw [if_pos e] at h
      rw [tx0_more hne, if_pos e, if_pos e, tail_more hne]
      exact come_more r l.tail (fun q hq => hb q (List.mem_cons_of_mem _ hq)) h
    · rw [if_neg e] at h; exact absurd h (by simp)
theorem shut_more {k : Int} {nm : List UInt8} {x : List Nd} {b : List (List UInt8)} {r r2 : List Tk} {s : St} (hb : ∀ t ∈ b, t ≠ []) (h : shut k nm x b r = .ok r2 s) (T : List Tk) : shut k nm x b (r ++ T) = .ok (r2 ++ T) s := by
  unfold shut at h ⊢
  by_cases e : (come b r).2 = true
  · rw [if_pos e] at h
    injection h with h1 h2
    rw [come_more b r hb e, if_pos rfl, h1, h2]
  · rw [if_neg e] at h; cases h
theorem frm_nil : (frm []).2.2 ≠ 0 := fun h => by
  obtain ⟨e, h1, _, _, _, h5, h6⟩ := frm_vol h
  have := Ex.sz_pos e
  rw [h1, flat_len] at h5
  simp only [List.length_nil] at h6
  omega
theorem parts_more {k : Int} {ah b0 : List UInt8} {b : List (List UInt8)} {l r T : List Tk} {s : St} (ha : ah ≠ []) (h0 : b0 ≠ []) (hb : ∀ t ∈ b, t ≠ []) (hT : Ex.St 1 T) (h : parts k ah b0 b l = .ok r s) : parts k ah b0 b (l ++ T) = .ok (r ++ T) s := by
  unfold parts at h ⊢
  by_cases hk : kd l ≠ 2
  · rw [if_pos hk] at h; cases h
  rw [if_neg hk] at h
  have hne := kd_ne (Decidable.byContradiction hk)
  rw [kd_more hne, if_neg hk, tail_more hne]
  by_cases h1 : tx0 l.tail ≠ ah
  · rw [if_pos h1] at h; cases h
  rw [if_neg h1] at h
  have hne1 := tx0_ne (l := l.tail) (by rw [Decidable.byContradiction h1]; exact ha)
  rw [tx0_more hne1, if_neg h1, tail_more hne1, tx0_more hne]
  by_cases h2 : k = 1 ∨ tx0 l.tail.tail ≠ b0
  · rw [if_pos h2] at h
    by_cases h3 : (frm l.tail.tail).2.2 ≠ 0
    · rw [if_pos h3] at h; cases h
    rw [if_neg h3] at h
    have h3' : (frm l.tail.tail).2.2 = 0 := Decidable.byContradiction h3
    have hne2 : l.tail.tail ≠ [] := fun e => by rw [e] at h3'; exact frm_nil h3'
    have hv := (frm_vol h3').choose_spec.2.2.2.2.2
    rw [tx0_more hne2, if_pos h2, frm_more hT h3', if_neg h3, List.drop_append_of_le_length hv]
    exact shut_more hb h T
  · rw [if_neg h2] at h
    have h2' : tx0 l.tail.tail = b0 := Decidable.byContradiction fun q => h2 (Or.inr q)
    have hne2 := tx0_ne (l := l.tail.tail) (by rw [h2']; exact h0)
    rw [tx0_more hne2, if_neg h2]
    exact shut_more hb h T
theorem stm_more {l r T : List Tk} {s : St} (hT : Ex.St 1 T) (h : stm l = .ok r s) : stm (l ++ T) = .ok (r ++ T) s := by
  unfold stm at h ⊢
  by_cases e : tx0 l = emW
  · have hne := tx0_ne (l := l) (by rw [e]; decide)
    rw [if_pos e] at h
    rw [tx0_more hne, if_pos e, tail_more hne]
    exact parts_more (by decide) (by decide) (by decide) hT h
  · rw [if_neg e] at h
    have hne : l ≠ [] := fun q => by
      subst q
      exact absurd h (by rw [show parts 1 [58, 61] [59] [[59]] [] = .bad 0 110 from rfl]; exact fun q => by cases q)
    rw [tx0_more hne, if_neg e]
    exact parts_more (by decide) (by decide) (by decide) hT h
theorem bod_more {T : List Tk} (hT : Ex.St 1 T) (hgT : ∀ t ∈ T, Lx.is t.2 = t.1) : ∀ (n : Nat) (l : List Tk) (acc b : List St), l.length ≤ n → (∀ t ∈ l, Lx.is t.2 = t.1) → B l acc = .ok b → B (l ++ T) acc = B T b
  | n, l, acc, b, hn, hg, h => by
    by_cases e : l = []
    · subst e
      rw [B_nil] at h
      injection h with h
      rw [h]; rfl
    by_cases e2 : acc.length = 512
    · rw [B_lim e e2] at h; cases h
    cases hs : stm l with
    | bad m z => rw [B_bad e e2 hs] at h; cases h
    | ok r s =>
      rw [B_ok hg e e2 hs] at h
      obtain ⟨_, _, h4, h5⟩ := stm_ok hs hg
      have hv : 0 < vol s := by unfold vol; split <;> omega
      have hgl : ∀ t ∈ l ++ T, Lx.is t.2 = t.1 := fun t ht => by
        rcases List.mem_append.1 ht with ht | ht
        · exact hg t ht
        · exact hgT t ht
      rw [B_ok hgl (by simp [e]) e2 (stm_more hT hs)]
      cases n with
      | zero => exact absurd (List.length_eq_zero_iff.1 (Nat.le_zero.1 hn)) e
      | succ n => exact bod_more hT hgT n r (acc ++ [s]) b (by omega) (fun t ht => hg t (h5 t ht)) h
theorem bod_acc : ∀ (n : Nat) (l : List Tk) (a b c : List St), l.length ≤ n → (∀ t ∈ l, Lx.is t.2 = t.1) → a.length ≤ 512 → B l a = .ok (a ++ c) → b.length + c.length ≤ 512 → B l b = .ok (b ++ c)
  | n, l, a, b, c, hn, hg, ha, h, hb => by
    by_cases e : l = []
    · subst e
      rw [B_nil] at h ⊢
      injection h with h
      have : c = [] := by simpa using h.symm
      rw [this, List.append_nil]
    by_cases e2 : a.length = 512
    · rw [B_lim e e2] at h; cases h
    cases hs : stm l with
    | bad m z => rw [B_bad e e2 hs] at h; cases h
    | ok r s =>
      rw [B_ok hg e e2 hs] at h
      obtain ⟨_, _, h4, h5⟩ := stm_ok hs hg
      have hv : 0 < vol s := by unfold vol; split <;> omega
      have ha1 : (a ++ [s]).length ≤ 512 := by simp; omega
      have hg2 : ∀ t ∈ r, Lx.is t.2 = t.1 := fun t ht => hg t (h5 t ht)
      obtain ⟨c', q1, _, _, _⟩ := B_right r.length r (a ++ [s]) (a ++ c) (Nat.le_refl _) hg2 ha1 h
      have hc : c = s :: c' := by
        rw [List.append_assoc] at q1
        exact List.append_cancel_left q1
      subst hc
      simp only [List.length_cons] at hb
      rw [B_ok hg e (by omega) hs, show b ++ s :: c' = (b ++ [s]) ++ c' by simp]
      cases n with
      | zero => exact absurd (List.length_eq_zero_iff.1 (Nat.le_zero.1 hn)) e
      | succ n => exact bod_acc n r (a ++ [s]) (b ++ [s]) c' (by omega) hg2 ha1 (by rw [h]; simp) (by simp; omega)
theorem ops_names : ∀ op : Fin 22, 7 ≤ op.1 → Lx.is (opS op.1) ≠ 2 ∧ opS op.1 ≠ emW := by decide
theorem bod_st {T : List Tk} {c : List St} (hg : ∀ t ∈ T, Lx.is t.2 = t.1) (h : B T [] = .ok c) : Ex.St 1 T := by
  by_cases e : T = []
  · rw [e]; exact st_nil
  have hs : ∃ r s, stm T = .ok r s := by
    cases hs : stm T with
    | bad m z => rw [B_bad e (by simp) hs] at h; cases h
    | ok r s => exact ⟨r, s, rfl⟩
  obtain ⟨r, s, hs⟩ := hs
  intro m _ _
  refine Decidable.byContradiction fun h2 => ?_
  obtain ⟨q1, q2, _, q4⟩ := of2_tells h2
  have hn := ops_names ⟨_, Nat.lt_succ_of_le q2⟩ q1
  simp only [q4] at hn
  cases T with
  | nil => exact e rfl
  | cons t T =>
    have hx : nx (t :: T) = t.2 := if_pos (hg t (List.mem_cons_self ..))
    rw [hx] at hn
    unfold stm at hs
    rw [if_neg (show ¬ tx0 (t :: T) = emW from hn.2)] at hs
    obtain ⟨_, p2, _⟩ := parts_ok hs (by decide) (by decide)
    exact hn.1 ((hg t (List.mem_cons_self ..)).trans p2)
theorem act_of {s : List UInt8} (h : (act s).2.2 = 0) : (Lx.toks s).2.2 = 0 ∧ B (kxs (Lx.toks s).1) [] = .ok (act s).1 ∧ (act s).2.1 = 0 := by
  by_cases h1 : (Lx.toks s).2.2 ≠ 0
  · unfold act at h
    rw [if_pos h1] at h; exact absurd h h1
  have e : act s = match B (kxs (Lx.toks s).1) [] with
      | .bad n e => ([], plc (Lx.toks s).1 ((Lx.toks s).1.length - n) s.length, e)
      | .ok b => (b, 0, 0) := if_neg h1
  rw [e] at h ⊢
  refine ⟨Decidable.byContradiction h1, ?_⟩
  cases hb : B (kxs (Lx.toks s).1) [] with
  | bad n z =>
    rw [hb] at h
    have hgood : ∀ t ∈ kxs (Lx.toks s).1, Lx.is t.2 = t.1 := by
      by_cases h : s.length ≤ 65536
      · exact Ac.good_kxs (by rw [Lx.toks_C h]; exact Lx.C_goods _ _ _ (Nat.le_refl _))
      · have e : (Lx.toks s).1 = [] := by unfold Lx.toks; rw [if_pos (by omega)]
        rw [e]
        exact fun t ht => by cases ht
    exact absurd h (B_ne _ _ _ (Nat.le_refl _) hgood hb)
  | ok b => exact ⟨rfl, rfl⟩
theorem vols_ge (l : List St) : 3 * l.length ≤ vols l := by
  induction l with
  | nil => exact Nat.zero_le _
  | cons s l ih =>
    have : 3 ≤ vol s := by unfold vol; split <;> omega
    show 3 * (l.length + 1) ≤ vol s + vols l
    omega
theorem act_cat {a b : List UInt8} (ha : a.length ≤ 300) (hb : b.length ≤ 300) (h1 : (act a).2.2 = 0) (h2 : (act b).2.2 = 0) : act (a ++ 10 :: b) = ((act a).1 ++ (act b).1, 0, 0) := by
  obtain ⟨t1, b1, _⟩ := act_of h1
  obtain ⟨t2, b2, _⟩ := act_of h2
  have ra := act_right (by omega) h1
  have rb := act_right (by omega) h2
  have hz := Lx.toks_cat a b (by omega)
  have e : Lx.toks (a ++ 10 :: b) = ((Lx.toks a).1 ++ (Lx.toks b).1.map (Lx.mvT (a.length + 1)), 0, 0) := by
    rw [hz]
    unfold Lx.jq Lx.mvR
    rw [if_neg (fun q => q t1), if_pos t2]
    exact if_pos rfl
  have hk : kxs ((Lx.toks a).1 ++ (Lx.toks b).1.map (Lx.mvT (a.length + 1))) = kxs (Lx.toks a).1 ++ kxs (Lx.toks b).1 := by
    unfold kxs
    rw [List.map_append, List.map_map]
    rfl
  have ga : ∀ t ∈ kxs (Lx.toks a).1, Lx.is t.2 = t.1 := good_kxs (by rw [Lx.toks_C (by omega)]; exact Lx.C_goods _ _ _ (Nat.le_refl _))
  have gb : ∀ t ∈ kxs (Lx.toks b).1, Lx.is t.2 = t.1 := good_kxs (by rw [Lx.toks_C (by omega)]; exact Lx.C_goods _ _ _ (Nat.le_refl _))
  have hv := vols_ge
  have hB : B (kxs (Lx.toks a).1 ++ kxs (Lx.toks b).1) [] = .ok ((act a).1 ++ (act b).1) := by
    rw [bod_more (bod_st gb b2) gb _ _ _ _ (Nat.le_refl _) ga b1]
    exact bod_acc _ _ [] _ _ (Nat.le_refl _) gb (by simp) b2 (by have := hv (act a).1; have := hv (act b).1; have := ra.2.2.1; have := rb.2.2.1; omega)
  unfold act
  rw [e]
  refine Eq.trans (if_neg (fun q => q rfl)) ?_
  simp only [hk, hB]
  rfl
end Ac
theorem tyg_zero {vs es : List Ty.Nm} : ∀ (ss : List Ac.St) (i : Nat), (tyg vs es ss i).2 = 0 ↔ ∀ s ∈ ss, tak vs es s = true
  | [], _ => ⟨fun _ s hs => (nomatch hs), fun _ => rfl⟩
  | s :: r, i => by
    unfold tyg
    by_cases h : tak vs es s = true
    · rw [if_pos h, tyg_zero r (i + 1)]
      exact ⟨fun q t ht => by
        rcases List.mem_cons.1 ht with rfl | ht
        · exact h
        · exact q t ht, fun q t ht => q t (List.mem_cons_of_mem _ ht)⟩
    · rw [if_neg h]
      exact ⟨fun q => absurd (show (90 : Int) = 0 from q) (by decide), fun q => absurd (q s (List.mem_cons_self ..)) h⟩
theorem tyg_app {vs es : List Ty.Nm} (a b : List Ac.St) : (tyg vs es (a ++ b) 0).2 = 0 ↔ (tyg vs es a 0).2 = 0 ∧ (tyg vs es b 0).2 = 0 := by
  rw [tyg_zero, tyg_zero, tyg_zero]
  exact ⟨fun q => ⟨fun s hs => q s (List.mem_append_left _ hs), fun s hs => q s (List.mem_append_right _ hs)⟩, fun q s hs => (List.mem_append.1 hs).elim (q.1 s) (q.2 s)⟩
theorem isI_more {vs vs' : List Ty.Nm} (hv : ∀ q ∈ vs, q ∈ vs') {l : List Nd} (h : isI vs l = true) : isI vs' l = true := by
  unfold isI at h ⊢
  rw [Bool.and_eq_true] at h ⊢
  refine ⟨List.all_eq_true.2 fun q hq => ?_, h.2⟩
  have := of_decide_eq_true (List.all_eq_true.1 h.1 q hq)
  exact decide_eq_true (this.imp id (hv q))
theorem tak_more {vs vs' es es' : List Ty.Nm} (hv : ∀ q ∈ vs, q ∈ vs') (he : ∀ q ∈ es, q ∈ es') {s : Ac.St} (h : tak vs es s = true) : tak vs' es' s = true := by
  unfold tak at h ⊢
  by_cases hk : s.k = 2
  · rw [if_pos hk] at h ⊢
    simp only [Bool.and_eq_true, decide_eq_true_eq, Bool.or_eq_true] at h ⊢
    exact ⟨he _ h.1, h.2.imp id (isI_more hv)⟩
  · rw [if_neg hk] at h ⊢
    simp only [Bool.and_eq_true, decide_eq_true_eq] at h ⊢
    exact ⟨hv _ h.1, isI_more hv h.2⟩
theorem tyg_more {vs vs' es es' : List Ty.Nm} (hv : ∀ q ∈ vs, q ∈ vs') (he : ∀ q ∈ es, q ∈ es') {ss : List Ac.St} (h : (tyg vs es ss 0).2 = 0) : (tyg vs' es' ss 0).2 = 0 := by
  rw [tyg_zero] at h ⊢
  exact fun s hs => tak_more hv he (h s hs)
end Go.Proofs.YtmmdigeciphglaaGreatDoor
namespace Go.Proofs.YtmmdigeciphglaaGreatDoor
open Go.RowKit Ex
theorem step_append_src {P : Program} {ops : Array Oper} {o : Oper} {a : Act} {w : World} {K : Act → World → Prop} {Q : Exit → Act → World → Prop} {E : Prop} (hgd : o.guard = none) (s x : Operand) (t : TypeId)
    (ho : o.op = .call { callee := .builtin .append, args := #[s, x], argTypes := #[t, t] })
    (base : Nat) (e : TypeId) (i : TypeInfo) (z : Value) (size bytes : Nat) (ht : P.underlying t = some (.slice e)) (hi : P.info? e = some i) (hz : i.zero = some z)
    (hsize : i.size = size) (hby : i.bytes = bytes) (hzs : z.cells.size = size) (hsz : 0 < size)
    (v : Value) (n : Nat) (xs : List Value) (hs : a.eval s = v) (hown : w.ownsRow base e size v n xs)
    (A : Option Addr) (m c : Nat) (news : List Value) (hx : a.eval x = .slice A m c) (hA : A = none → m = 0 ∧ c = 0) (hl : news.length = m * size) (hnews : ∀ ad, A = some ad → ∀ j u, news[j]? = some u → w.cell? (ad.add j) = some u) (h1 : ∀ u ∈ news, u.oneCell' = true)
    (h63 : n + m ≤ maxLen) (hbytes : (n + m) * bytes ≤ 140737488355328) (hbase : base ≤ w.heap.size)
    (h : ∀ A' c' w', w'.ownsRow base e size (.slice A' (n + m) c') (n + m) (xs ++ news) → w.grownBy w' v.ownBlock → K (a.put o.dst (.slice A' (n + m) c')) w') :
    if Region.wanted o (yielded ops a.tmps) = true then Oper.wp P o a w K Q else E := by
  have hw : Region.wanted o (yielded ops a.tmps) = true := by simp [Region.wanted, hgd]
  rw [if_pos hw]
  have h' : ∀ v' w', w'.ownsRow base e size v' (n + m) (xs ++ news) → w.grownBy w' v.ownBlock → K (a.put o.dst v') w' := fun v' w' q1 q2 => by
    obtain ⟨A', c', e1, _⟩ := own_sliced q1
    rw [e1] at q1 ⊢
    exact h A' c' w' q1 q2
  cases A with
  | none =>
    obtain ⟨rfl, rfl⟩ := hA rfl
    obtain rfl : news = [] := List.eq_nil_of_length_eq_zero (by rw [hl, Nat.zero_mul])
    have hrun := run_append_owned_none (P := P) (w := w) base t o.type e i size ht hi v n xs hown
    unfold Oper.wp
    simp [execOp, ho, resolve, invoke, builtin, hs, hx, hrun, Result.andThen]
    refine h' v w ?_ ?_
    · rw [List.append_nil]; exact hown
    · exact ⟨rfl, rfl, rfl, Nat.le_refl _, fun _ _ _ => rfl⟩
  | some ad => exact wp_append_own w s x t ho base e i z size bytes ht hi hz hsize hby hzs hsz v n xs hs hown ad m c news hx hl (hnews ad rfl) h1 h63 hbytes hbase (fun v' w' q1 q2 _ => h' v' w' q1 q2)
theorem own_src {w : World} {B : Nat} {e : TypeId} {size n c : Nat} {A : Option Addr} {xs : List Value} (h : w.ownsRow B e size (.slice A n c) n xs) : (A = none → n = 0 ∧ c = 0) ∧ ∀ ad, A = some ad → ∀ j u, xs[j]? = some u → w.cell? (ad.add j) = some u := by
  rcases h.2 with ⟨e1, e2⟩ | ⟨g, cap, cur, e1, _⟩
  · injection e1 with a1 _ a3
    subst a1 a3
    exact ⟨fun _ => ⟨e2, rfl⟩, fun ad q => (nomatch q)⟩
  · injection e1 with a1 _ a3
    subst a1
    exact ⟨fun q => (nomatch q), fun ad q j u hu => by injection q with q; subst q; exact h.cells (g := g) rfl j u hu⟩
theorem stV_one (ps : List (Ac.St × Value)) (h : ∀ p ∈ ps, ∃ A n c, p.2 = .slice A n c) : ∀ u ∈ ps.flatMap stV, u.oneCell' = true := by
  intro u hu
  obtain ⟨p, hp, hu⟩ := List.mem_flatMap.1 hu
  obtain ⟨A, n, c, e⟩ := h p hp
  simp only [stV, e, List.mem_cons, List.not_mem_nil, or_false] at hu
  rcases hu with rfl | rfl | rfl <;> rfl
theorem SrO.cat {B : Nat} {w1 w2 : World} {v1 v2 v' : Value} {ps qs : List (Ac.St × Value)} (h1 : SrO B w1 v1 ps) (h2 : SrO B w1 v2 qs) (hgr : w1.grownBy w2 v1.ownBlock)
    (hown : w2.ownsRow B 91 3 v' (ps.length + qs.length) (ps.flatMap stV ++ qs.flatMap stV)) : SrO B w2 v' (ps ++ qs) := by
  have kg : Kt [91] w1 w2 := Kt.grown hgr h1.row (by simp)
  refine ⟨by rw [List.length_append, List.flatMap_append]; exact hown, fun q hq => ?_⟩
  rcases List.mem_append.1 hq with hq | hq
  · exact kg.own (h1.nds q hq) (by decide)
  · exact kg.own (h2.nds q hq) (by decide)
structure JoS (w : World) (bx : Nat) (Ax : Option Addr) (nx cx : Nat) (px : List (Ac.St × Value)) (by_ : Nat) (Ay : Option Addr) (ny cy : Nat) (py : List (Ac.St × Value)) (bz : Nat) (Az : Option Addr) (nz cz : Nat) (pz : List (Ac.St × Value)) (v : World) : Prop where
  below : Below w.heap.size w v
  tx : Tyx v
  x1 : Bb v bx Ax nx cx px
  x2 : Bb v by_ Ay ny cy py
  x3 : Bb v bz Az nz cz pz
theorem JoS.on {w : World} {bx : Nat} {Ax : Option Addr} {nx cx : Nat} {px : List (Ac.St × Value)} {by_ : Nat} {Ay : Option Addr} {ny cy : Nat} {py : List (Ac.St × Value)} {bz : Nat} {Az : Option Addr} {nz cz : Nat} {pz : List (Ac.St × Value)} {v v' : World} (h : JoS w bx Ax nx cx px by_ Ay ny cy py bz Az nz cz pz v) (hb : Below v.heap.size v v') : JoS w bx Ax nx cx px by_ Ay ny cy py bz Az nz cz pz v' :=
  ⟨h.below.trans (hb.mono h.below.size), h.tx.below hb, h.x1.below hb, h.x2.below hb, h.x3.below hb⟩
theorem JoS.s2 {w : World} {bx : Nat} {Ax : Option Addr} {nx cx : Nat} {px : List (Ac.St × Value)} {by_ : Nat} {Ay : Option Addr} {ny cy : Nat} {py : List (Ac.St × Value)} {bz : Nat} {Az : Option Addr} {nz cz : Nat} {pz : List (Ac.St × Value)} {v : World} (h : JoS w bx Ax nx cx px by_ Ay ny cy py bz Az nz cz pz v) : v.cell? ⟨bx, 0, none⟩ = some (.slice Ax nx cx) ∧ v.cell? ⟨by_, 0, none⟩ = some (.slice Ay ny cy) := ⟨h.x1.at_, h.x2.at_⟩
set_option maxHeartbeats 16000000 in
set_option maxRecDepth 100000 in
theorem ajoins_any (w : World) (T : Tyx w) (a b : ByteArray) (ha : a.size ≤ maxLen) (hb_ : b.size ≤ maxLen) (Av : Option Addr) (cv : Nat) (vs : List Ty.Nm) (hv : NsR w w.heap.size Av vs) (hcv : vs.length ≤ cv) (hmv : cv ≤ maxLen) (hov : Av = none → vs.length = 0 ∧ cv = 0)
    (Ae : Option Addr) (ce : Nat) (es : List Ty.Nm) (he : NsR w w.heap.size Ae es) (hce : es.length ≤ ce) (hme : ce ≤ maxLen) (hoe : Ae = none → es.length = 0 ∧ ce = 0)
    (Am : Option Addr) (cm : Nat) (ms : List Ty.Nm) (hm : NsR w w.heap.size Am ms) (hcm : ms.length ≤ cm) (hmm : cm ≤ maxLen) (hom : Am = none → ms.length = 0 ∧ cm = 0) :
    Calls Tryz.prog 6 #[.string a, .string b, .slice Av vs.length cv, .slice Ae es.length ce, .slice Am ms.length cm] w fun e w' => e = .returned (.bool true) ∧ Below w.heap.size w w' := by
  have HT := Lib.hid T
  have HWK := Lib.hid (fun v (T0 : Tyx v) => aworks_any v T0)
  have B0 := Lib.hid (Below.refl w.heap.size w)
  have HNV := Lib.hid (fun v (hb : Below w.heap.size w v) => lanames_any v Av cv vs ((hv.below hb).more hb.size) hcv hmv)
  have HNE := Lib.hid (fun v (hb : Below w.heap.size w v) => lanames_any v Ae ce es ((he.below hb).more hb.size) hce hme)
  have HNM := Lib.hid (fun v (hb : Below w.heap.size w v) => lanames_any v Am cm ms ((hm.below hb).more hb.size) hcm hmm)
  have HV := Lib.hid (And.intro hv (And.intro hcv hov))
  have HE := Lib.hid (And.intro he (And.intro hce hoe))
  have HM := Lib.hid (And.intro hm (And.intro hcm hom))
  have HLA := Lib.hid (show a.data.toList.length = a.size from (Lib.size_eq a).symm)
  have HLB := Lib.hid (show b.data.toList.length = b.size from (Lib.size_eq b).symm)
  have HPA := Lib.hid (fun v (T0 : Tx v) => aparse_val a rfl ha v T0)
  have HPB := Lib.hid (fun v (T0 : Tx v) => aparse_val b rfl hb_ v T0)
  obtain ⟨nv, hnv⟩ : ∃ n, n = vs.length := ⟨_, rfl⟩
  obtain ⟨ne, hne⟩ : ∃ n, n = es.length := ⟨_, rfl⟩
  obtain ⟨nm, hnm⟩ : ∃ n, n = ms.length := ⟨_, rfl⟩
  have HLN := Lib.hid (And.intro hnv (And.intro hne hnm))
  rw [← hnv] at HNV HV ⊢
  rw [← hne] at HNE HE ⊢
  rw [← hnm] at HNM HM ⊢
  clear T ha hb_ hv hcv hmv hov he hce hme hoe hm hcm hmm hom hnv hne hnm
  by_cases h3 : a.size ≤ 300
  case neg =>
    have h3' : (a.size : Int) > 300 := by omega
    have h3d : decide ((a.size : Int) > 300) = true := decide_eq_true h3'
    clear h3
    go_enter Tryz.func6, Tryz.ntmps6
    go_wp2_with fail
    refine (HWK.out _ (HT.out.below B0.out)).mono ?_
    rintro e vw ⟨rfl, hb⟩
    have BW := Lib.hid ((B0.out).trans (hb.mono (B0.out).size))
    clear hb
    go_wp2
    go_ret
    exact ⟨rfl, BW.out⟩
  have h3' : ¬ (a.size : Int) > 300 := by omega
  have h3d : decide ((a.size : Int) > 300) = false := decide_eq_false h3'
  by_cases h4 : b.size ≤ 300
  case neg =>
    have h4' : (b.size : Int) > 300 := by omega
    have h4d : decide ((b.size : Int) > 300) = true := decide_eq_true h4'
    clear h3 h4
    go_enter Tryz.func6, Tryz.ntmps6
    go_wp2_with fail
    refine (HWK.out _ (HT.out.below B0.out)).mono ?_
    rintro e vw ⟨rfl, hb⟩
    have BW := Lib.hid ((B0.out).trans (hb.mono (B0.out).size))
    clear hb
    go_wp2
    go_ret
    exact ⟨rfl, BW.out⟩
  have h4' : ¬ (b.size : Int) > 300 := by omega
  have h4d : decide ((b.size : Int) > 300) = false := decide_eq_false h4'
  have HCAT := Lib.hid (fun (q1 : (Ac.act a.data.toList).2.2 = 0) (q2 : (Ac.act b.data.toList).2.2 = 0) => Ac.act_cat (by rw [HLA.out]; exact h3) (by rw [HLB.out]; exact h4) q1 q2)
  have HRA := Lib.hid (fun (q : (Ac.act a.data.toList).2.2 = 0) => Ac.act_right (by rw [HLA.out]; omega) q)
  have HRB := Lib.hid (fun (q : (Ac.act b.data.toList).2.2 = 0) => Ac.act_right (by rw [HLB.out]; omega) q)
  have hadd : a.size + 1 ≤ 9223372036854775807 := by omega
  have hadd2 : a.size + 1 + b.size ≤ 9223372036854775807 := by omega
  have hszc : (a ++ ⟨#[10]⟩ : ByteArray).size = a.size + 1 := by rw [ByteArray.size_append]; rfl
  have HPZ := Lib.hid (fun (q1 : (Ac.act a.data.toList).2.2 = 0) (q2 : (Ac.act b.data.toList).2.2 = 0) v (T0 : Tx v) => aparse_val ((a ++ ⟨#[10]⟩) ++ b) (X := ((Ac.act a.data.toList).1 ++ (Ac.act b.data.toList).1, 0, 0)) (by
    rw [show ((a ++ ⟨#[10]⟩) ++ b : ByteArray).data.toList = a.data.toList ++ 10 :: b.data.toList by simp]
    exact HCAT.out q1 q2) (by rw [ByteArray.size_append, hszc]; unfold maxLen; omega) v T0)
  have HFA := Lib.hid (And.intro (act_fit a.data.toList) (act_fit b.data.toList))
  generalize Ac.act a.data.toList = X at *
  generalize Ac.act b.data.toList = Y at *
  obtain ⟨sx, ax, zx⟩ := X
  obtain ⟨sy, ay, zy⟩ := Y
  simp only at HRA HRB HPZ HFA
  have HSZ := Lib.hid (show a.data.toList.length ≤ 300 ∧ b.data.toList.length ≤ 300 from ⟨by rw [HLA.out]; exact h3, by rw [HLB.out]; exact h4⟩)
  clear h3 h4 HLA HLB HCAT
  go_enter Tryz.func6, Tryz.ntmps6
  go_wp2_with fail
  refine (HNV.out _ B0.out).mono ?_
  rintro e w1 ⟨⟨b1, rfl, hbb⟩, hb⟩
  have B1 := Lib.hid (B0.out.trans (hb.mono B0.out.size))
  have HBB1 := Lib.hid hbb
  clear hb hbb
  cases b1 with
  | false =>
    go_wp2_with fail
    refine (HWK.out _ (HT.out.below B1.out)).mono ?_
    rintro e vw ⟨rfl, hb⟩
    have BW := Lib.hid ((B1.out).trans (hb.mono (B1.out).size))
    clear hb
    go_wp2
    go_ret
    exact ⟨rfl, BW.out⟩
  | true =>
    go_wp2_with fail
    refine (HNE.out _ B1.out).mono ?_
    rintro e w2 ⟨⟨b2, rfl, hbb⟩, hb⟩
    have B2 := Lib.hid (B1.out.trans (hb.mono B1.out.size))
    have HBB2 := Lib.hid hbb
    clear hb hbb
    cases b2 with
    | false =>
      go_wp2_with fail
      refine (HWK.out _ (HT.out.below B2.out)).mono ?_
      rintro e vw ⟨rfl, hb⟩
      have BW := Lib.hid ((B2.out).trans (hb.mono (B2.out).size))
      clear hb
      go_wp2
      go_ret
      exact ⟨rfl, BW.out⟩
    | true =>
      go_wp2_with fail
      refine (HNM.out _ B2.out).mono ?_
      rintro e w3 ⟨⟨b3, rfl, hbb⟩, hb⟩
      have B3 := Lib.hid (B2.out.trans (hb.mono B2.out.size))
      have HBB3 := Lib.hid hbb
      clear hb hbb
      cases b3 with
      | false =>
        go_wp2_with fail
        refine (HWK.out _ (HT.out.below B3.out)).mono ?_
        rintro e vw ⟨rfl, hb⟩
        have BW := Lib.hid ((B3.out).trans (hb.mono (B3.out).size))
        clear hb
        go_wp2
        go_ret
        exact ⟨rfl, BW.out⟩
      | true =>
        clear HNV HNE HNM h3' h3d h4' h4d
        go_wp2_with fail
        refine (HPA.out _ (HT.out.below B3.out).tx).mono ?_
        rintro e w4 ⟨Ax, cx, px, hpx, hrx, hcx, hmx, rfl, _, hb⟩
        simp only at hcx hpx ⊢
        obtain ⟨nx, hnx⟩ : ∃ n, n = sx.length := ⟨_, rfl⟩
        rw [← hnx] at hcx ⊢
        obtain ⟨bx, hbx⟩ : ∃ b, b = w4.heap.size := ⟨_, rfl⟩
        obtain ⟨W4, hW4⟩ : ∃ W, W = w4.alloc (.cells #[.slice Ax nx cx] 29) := ⟨_, rfl⟩
        have hv4 : Below w3.heap.size w3 W4 := by rw [hW4]; exact hb.alloc hb.size _
        have B4 := Lib.hid (B3.out.trans (hv4.mono B3.out.size))
        have X4 := Lib.hid (show Bb W4 bx Ax nx cx px from by rw [hW4, hbx]; exact Bb.new hrx (by rw [hnx, ← hpx, List.length_map]) hcx hmx)
        have HPX := Lib.hid (And.intro hpx hnx)
        have HW4 := Lib.hid (And.intro hW4 hbx)
        clear hb hv4 hpx hrx hcx hmx hW4 hbx hnx
        go_wp2_with fail
        rw [← HW4.out.1, ← HW4.out.2]
        refine (HPB.out _ (HT.out.below B4.out).tx).mono ?_
        rintro e w5 ⟨Ay, cy, py, hpy, hry, hcy, hmy, rfl, _, hb⟩
        simp only at hcy hpy ⊢
        obtain ⟨ny, hny⟩ : ∃ n, n = sy.length := ⟨_, rfl⟩
        rw [← hny] at hcy ⊢
        obtain ⟨by_, hby⟩ : ∃ b, b = w5.heap.size := ⟨_, rfl⟩
        obtain ⟨W5, hW5⟩ : ∃ W, W = w5.alloc (.cells #[.slice Ay ny cy] 29) := ⟨_, rfl⟩
        have hv5 : Below W4.heap.size W4 W5 := by rw [hW5]; exact hb.alloc hb.size _
        have B5 := Lib.hid (B4.out.trans (hv5.mono B4.out.size))
        have X5 := Lib.hid (X4.out.below hv5)
        have Y5 := Lib.hid (show Bb W5 by_ Ay ny cy py from by rw [hW5, hby]; exact Bb.new hry (by rw [hny, ← hpy, List.length_map]) hcy hmy)
        have HPY := Lib.hid (And.intro hpy hny)
        have HW5 := Lib.hid (And.intro hW5 hby)
        clear hb hv5 hpy hry hcy hmy hW5 hby hny X4
        by_cases hzx : zx = 0
        case neg =>
          have hzx' : (zx != 0) = true := by simpa using hzx
          clear hzx
          go_wp2_with fail
          rw [← HW5.out.1]
          go_wp2_with fail
          refine (HWK.out _ (HT.out.below B5.out)).mono ?_
          rintro e vw ⟨rfl, hb⟩
          have BW := Lib.hid ((B5.out).trans (hb.mono (B5.out).size))
          clear hb
          go_wp2
          go_ret
          exact ⟨rfl, BW.out⟩
        have hzx' : (zx != 0) = false := by rw [hzx]; rfl
        by_cases hzy : zy = 0
        case neg =>
          have hzy' : (zy != 0) = true := by simpa using hzy
          clear hzx hzy
          go_wp2_with fail
          rw [← HW5.out.1]
          go_wp2_with fail
          refine (HWK.out _ (HT.out.below B5.out)).mono ?_
          rintro e vw ⟨rfl, hb⟩
          have BW := Lib.hid ((B5.out).trans (hb.mono (B5.out).size))
          clear hb
          go_wp2
          go_ret
          exact ⟨rfl, BW.out⟩
        have hzy' : (zy != 0) = false := by rw [hzy]; rfl
        have HPZ := Lib.hid (HPZ.out hzx hzy)
        have HRA := Lib.hid (HRA.out hzx)
        have HRB := Lib.hid (HRB.out hzy)
        clear hzx hzy
        go_wp2_with fail
        rw [← HW5.out.1, ← HW5.out.2]
        refine (HPZ.out _ (HT.out.below B5.out).tx).mono ?_
        rintro e w6 ⟨Az, cz, pz, hpz, hrz, hcz, hmz, rfl, _, hb⟩
        simp only at hcz hpz ⊢
        obtain ⟨nz, hnz⟩ : ∃ n, n = (sx ++ sy).length := ⟨_, rfl⟩
        rw [← hnz] at hcz ⊢
        obtain ⟨bz, hbz⟩ : ∃ b, b = w6.heap.size := ⟨_, rfl⟩
        obtain ⟨W6, hW6⟩ : ∃ W, W = w6.alloc (.cells #[.slice Az nz cz] 29) := ⟨_, rfl⟩
        have hv6 : Below W5.heap.size W5 W6 := by rw [hW6]; exact hb.alloc hb.size _
        have HK := Lib.hid (show JoS w bx Ax nx cx px by_ Ay ny cy py bz Az nz cz pz W6 from ⟨B5.out.trans (hv6.mono B5.out.size), HT.out.below (B5.out.trans (hv6.mono B5.out.size)), X5.out.below hv6, Y5.out.below hv6, by rw [hW6, hbz]; exact Bb.new hrz (by rw [hnz, ← hpz, List.length_map]) hcz hmz⟩)
        have HNN := Lib.hid (show nz = nx + ny ∧ nx ≤ 512 ∧ ny ≤ 512 from ⟨by rw [hnz, List.length_append, HPX.out.2, HPY.out.2], by rw [HPX.out.2]; exact HRA.out.1.1, by rw [HPY.out.2]; exact HRB.out.1.1⟩)
        have hlen : ((nz : Int) != ((nx : Int) + (ny : Int))) = false := by
          have : (nz : Int) = (nx : Int) + (ny : Int) := by have := HNN.out.1; omega
          simpa using this
        have hnxI : (nx : Int) ≤ 512 := by have := HNN.out.2.1; omega
        have hnyI : (ny : Int) ≤ 512 := by have := HNN.out.2.2; omega
        have HPZ2 := Lib.hid hpz
        have x1 := HK.out.x1.at_
        have x2 := HK.out.x2.at_
        have x3 := HK.out.x3.at_
        have HW6 := Lib.hid (And.intro hW6 hbz)
        rw [hW6] at x1 x2 x3
        rw [hbz] at x3
        clear hb hv6 hpz hrz hcz hmz hW6 hbz hnz X5 Y5
        go_wp2_with fail
        rw [← HW6.out.1, ← HW6.out.2]
        clear x1 x2 x3
        refine wp_region_held_drew (S := fun w' => w'.cell? ⟨bx, 0, none⟩ = some (.slice Ax nx cx) ∧ w'.cell? ⟨by_, 0, none⟩ = some (.slice Ay ny cy)) (by kernel_rfl) (HK.out.on (Below.refl _ _).drew).s2 (fun hHeld => ?_)
        refine wpAnyH_take (i := 0) (v := .agg #[.slice Ax nx cx]) rfl (by kernel_rfl) (by kernel_rfl) (by kernel_rfl) (fun _ _ _ h => h) (Or.inl ⟨by rfl, by (intro w hS; try (obtain ⟨s0, s1⟩ := hS); go_simp)⟩) hHeld ?_
        try simp only [Act.put, List.getElem_toArray, List.getElem_cons_zero, List.setIfInBounds_toArray, List.set_cons_zero, List.set_cons_succ]
        refine wpAnyH_take (i := 2) (v := .agg #[.slice Ay ny cy]) rfl (by kernel_rfl) (by kernel_rfl) (by kernel_rfl) (fun _ _ _ h => h) (Or.inl ⟨by rfl, by (intro w hS; try (obtain ⟨s0, s1⟩ := hS); go_simp)⟩) hHeld ?_
        try simp only [Act.put, List.getElem_toArray, List.getElem_cons_succ, List.getElem_cons_zero, List.setIfInBounds_toArray, List.set_cons_zero, List.set_cons_succ]
        refine wpAnyH_ready (rs := [1]) (by kernel_rfl) (by simp) ?_
        refine AllReadyH.cons rfl (fun K hK => ?_) AllReadyH.nil
        go_simp
        replace HK := Lib.hid (HK.out.on (Below.refl _ _).drew)
        refine (HK.out.x1.ref (by have := HNN.out; omega) (fits_x HPX.out.1 HFA.out.1)).mono ?_
        rintro e w7 ⟨A7, c7, q7, rfl, hs7, _, hq7, hl7, hc7, hb⟩
        have HB7 := Lib.hid hb
        have HS7 := Lib.hid hs7
        have HK0 := HK
        replace HK := Lib.hid (HK.out.on hb)
        have HQ7 := Lib.hid (And.intro hq7 (And.intro hl7 hc7))
        clear hb hs7 hq7 hl7 hc7
        refine hK _ _ HK.out.s2 (fun hHeld => ?_)
        clear hK K
        try simp only [Act.put, List.getElem_toArray, List.getElem_cons_succ, List.getElem_cons_zero, List.setIfInBounds_toArray, List.set_cons_zero, List.set_cons_succ]
        refine wpAnyH_ready (rs := [3]) (by kernel_rfl) (by simp) ?_
        refine AllReadyH.cons rfl (fun K hK => ?_) AllReadyH.nil
        go_simp
        refine (HK.out.x2.ref (by have := HNN.out; omega) (fits_x HPY.out.1 HFA.out.2)).mono ?_
        rintro e w8 ⟨A8, c8, q8, rfl, hs8, _, hq8, hl8, hc8, hb⟩
        have HS8 := Lib.hid (hs8.less HB7.out.size)
        have HB8 := Lib.hid (HB7.out.trans (hb.mono HB7.out.size))
        replace HS7 := Lib.hid (HS7.out.below hb)
        replace HK := Lib.hid (HK.out.on hb)
        have HQ8 := Lib.hid (And.intro hq8 (And.intro hl8 hc8))
        clear hb hs8 hq8 hl8 hc8 HB7
        refine hK _ _ HK.out.s2 (fun hHeld => ?_)
        clear hK K
        try simp only [Act.put, List.getElem_toArray, List.getElem_cons_succ, List.getElem_cons_zero, List.setIfInBounds_toArray, List.set_cons_zero, List.set_cons_succ]
        refine wpAnyH_ready (rs := [4]) (by kernel_rfl) (by simp) ?_
        refine AllReadyH.cons rfl (fun K hK => ?_) AllReadyH.nil
        obtain ⟨i0, hi, hz0, hz1, hz2⟩ := info_parts infoRS11
        have hrow7 := HS7.out.row
        have hrow8 := HS8.out.row
        rw [HQ7.out.2.1] at hrow7
        rw [HQ8.out.2.1] at hrow8
        have hnx5 := HNN.out.2.1
        have hny5 := HNN.out.2.2
        have hbs := HB8.out.size
        refine step_append_src (by rfl) _ _ _ (by rfl) _ 91 i0 _ 3 48 Tryz.underlying23 hi hz0 hz1 hz2 rfl (by omega) (.slice A7 nx c7) nx (q7.flatMap stV) (by rfl) hrow7 A8 ny c8 (q8.flatMap stV) (by rfl) (own_src hrow8).1 (by rw [fl_len (k := 3) (fun _ => rfl), HQ8.out.2.1]) (own_src hrow8).2 (stV_one q8 (fun p hp => by obtain ⟨A', c', e1, _⟩ := own_sliced (HS8.out.nds p hp); exact ⟨A', _, c', e1⟩)) (by unfold maxLen; omega) (by omega) hbs ?_
        intro A9 c9 w9 hown9 hgr9
        have HS9 := Lib.hid (SrO.cat HS7.out HS8.out hgr9 (by rw [HQ7.out.2.1, HQ8.out.2.1]; exact hown9))
        have hb9 := Below.grown HB8.out hgr9 hbs (fun k hk => (hrow7.lt k hk).1)
        rw [← HNN.out.1] at HS9 ⊢
        have HR9 := Lib.hid (show StR w9 w9.heap.size A9 (q7 ++ q8) ∧ (q7 ++ q8).map (·.1) = sx ++ sy ∧ (q7 ++ q8).length = nz ∧ nz ≤ c9 from by
          have hl : (q7 ++ q8).length = nz := by rw [List.length_append, HQ7.out.2.1, HQ8.out.2.1, HNN.out.1]
          obtain ⟨r1, r2, _⟩ := HS9.out.reads hl.symm
          exact ⟨r1, by rw [List.map_append, HQ7.out.1, HQ8.out.1, HPX.out.1, HPY.out.1], hl, r2⟩)
        replace HK := Lib.hid (HK0.out.on hb9)
        clear hown9 hgr9 hb9 HS7 HS8 HS9 HQ7 HQ8 HB8 HK0 hrow7 hrow8 hbs hi hz0 hz1 hz2
        refine hK.out _ _ HK.out.s2 (fun hHeld => ?_)
        clear hK K
        try simp only [Act.put, List.getElem_toArray, List.getElem_cons_succ, List.getElem_cons_zero, List.setIfInBounds_toArray, List.set_cons_zero, List.set_cons_succ]
        refine wpAnyH_take (i := 5) (v := .slice A9 nz c9) rfl (by kernel_rfl) (by kernel_rfl) (by kernel_rfl) (fun _ _ _ h => h) (Or.inl ⟨by rfl, by (intro w hS; try (obtain ⟨s0, s1⟩ := hS); go_simp)⟩) hHeld ?_
        try simp only [Act.put, List.getElem_toArray, List.getElem_cons_succ, List.getElem_cons_zero, List.setIfInBounds_toArray, List.set_cons_zero, List.set_cons_succ]
        refine wpAnyH_done (by kernel_rfl) ?_ _
        have x3 := HK.out.x3.at_
        go_wp2_with fail
        refine (HK.out.x3.ref (by have := HNN.out; omega) (fits_x HPZ2.out (fun t ht => (List.mem_append.1 ht).elim (HFA.out.1 t) (HFA.out.2 t)))).mono ?_
        rintro e w10 ⟨A10, c10, q10, rfl, _, hs10, hq10, hl10, hc10, hb⟩
        have HR10 := Lib.hid (And.intro hs10 (And.intro hq10 (And.intro hl10 hc10)))
        replace HR9 := Lib.hid (show StR w10 w10.heap.size A9 (q7 ++ q8) ∧ (q7 ++ q8).map (·.1) = sx ++ sy ∧ (q7 ++ q8).length = nz ∧ nz ≤ c9 from ⟨HR9.out.1.on hb, HR9.out.2⟩)
        replace HK := Lib.hid (HK.out.on hb)
        clear hb hs10 hq10 hl10 hc10 x3
        go_wp2_with fail
        refine (rsame_yes _ A10 nz c10 q10 HR10.out.1 HR10.out.2.2.1 HR10.out.2.2.2 A9 c9 _ HR9.out.1 HR9.out.2.2.1 HR9.out.2.2.2 (by have := HNN.out; omega) (fits_x (HR10.out.2.1.trans HPZ2.out) (fun t ht => (List.mem_append.1 ht).elim (HFA.out.1 t) (HFA.out.2 t))) (by rw [HR9.out.2.1, HR10.out.2.1, HPZ2.out])).mono ?_
        rintro e w11 ⟨rfl, hb⟩
        replace HK := Lib.hid (HK.out.on hb)
        clear hb HR9 HR10
        -- the types
        have HVF := Lib.hid (show FitN vs ∧ FitN es ∧ FitN ms from ⟨⟨by have := (HBB1.out.1 (by first | exact True.intro | rfl)).1; omega, fun q hq => by have := (HBB1.out.1 (by first | exact True.intro | rfl)).2 q hq; omega⟩, ⟨by have := (HBB2.out.1 (by first | exact True.intro | rfl)).1; omega, fun q hq => by have := (HBB2.out.1 (by first | exact True.intro | rfl)).2 q hq; omega⟩, ⟨by have := (HBB3.out.1 (by first | exact True.intro | rfl)).1; omega, fun q hq => by have := (HBB3.out.1 (by first | exact True.intro | rfl)).2 q hq; omega⟩⟩)
        have HFZ := Lib.hid (fits_p HPZ2.out (fun t ht => (List.mem_append.1 ht).elim (HFA.out.1 t) (HFA.out.2 t)))
        have HTZ := Lib.hid (fun v (k : JoS w bx Ax nx cx px by_ Ay ny cy py bz Az nz cz pz v) => (show Calls Tryz.prog 21 #[.agg #[.slice Az nz cz], .slice Av nv cv, .slice Ae ne ce] v (TpP (sx ++ sy) vs es v) from by
          have q := k.x3.types k.tx HFZ.out.b (Av := Av) (cv := cv) ((HV.out.1.below k.below).more k.below.size) (by rw [← HLN.out.1]; exact HV.out.2.1) HVF.out.1 (Ae := Ae) (ce := ce) ((HE.out.1.below k.below).more k.below.size) (by rw [← HLN.out.2.1]; exact HE.out.2.1) HVF.out.2.1
          rw [← HLN.out.1, ← HLN.out.2.1, HPZ2.out] at q; exact q))
        have HTX := Lib.hid (fun v (k : JoS w bx Ax nx cx px by_ Ay ny cy py bz Az nz cz pz v) => (show Calls Tryz.prog 21 #[.agg #[.slice Ax nx cx], .slice Av nv cv, .slice Ae ne ce] v (TpP sx vs es v) from by
          have q := k.x1.types k.tx (fits_p HPX.out.1 HFA.out.1).b (Av := Av) (cv := cv) ((HV.out.1.below k.below).more k.below.size) (by rw [← HLN.out.1]; exact HV.out.2.1) HVF.out.1 (Ae := Ae) (ce := ce) ((HE.out.1.below k.below).more k.below.size) (by rw [← HLN.out.2.1]; exact HE.out.2.1) HVF.out.2.1
          rw [← HLN.out.1, ← HLN.out.2.1, HPX.out.1] at q; exact q))
        have HTYY := Lib.hid (fun v (k : JoS w bx Ax nx cx px by_ Ay ny cy py bz Az nz cz pz v) => (show Calls Tryz.prog 21 #[.agg #[.slice Ay ny cy], .slice Av nv cv, .slice Ae ne ce] v (TpP sy vs es v) from by
          have q := k.x2.types k.tx (fits_p HPY.out.1 HFA.out.2).b (Av := Av) (cv := cv) ((HV.out.1.below k.below).more k.below.size) (by rw [← HLN.out.1]; exact HV.out.2.1) HVF.out.1 (Ae := Ae) (ce := ce) ((HE.out.1.below k.below).more k.below.size) (by rw [← HLN.out.2.1]; exact HE.out.2.1) HVF.out.2.1
          rw [← HLN.out.1, ← HLN.out.2.1, HPY.out.1] at q; exact q))
        have HT4 := Lib.hid (fun v (k : JoS w bx Ax nx cx px by_ Ay ny cy py bz Az nz cz pz v) (A2 A3 : Option Addr) (c2 c3 : Nat) (h2 : NsR v v.heap.size A2 (ms ++ vs)) (hc2 : nm + nv ≤ c2) (h3 : NsR v v.heap.size A3 (ms ++ es)) (hc3 : nm + ne ≤ c3) => (show Calls Tryz.prog 21 #[.agg #[.slice Az nz cz], .slice A2 (nm + nv) c2, .slice A3 (nm + ne) c3] v (TpP (sx ++ sy) (ms ++ vs) (ms ++ es) v) from by
          have l2 : (ms ++ vs).length = nm + nv := by rw [List.length_append, HLN.out.1, HLN.out.2.2]
          have l3 : (ms ++ es).length = nm + ne := by rw [List.length_append, HLN.out.2.1, HLN.out.2.2]
          have q := k.x3.types k.tx HFZ.out.b h2 (by rw [l2]; exact hc2) ⟨by rw [l2]; have := HVF.out.1.1; have := HVF.out.2.2.1; have := HLN.out; have h1 := (HBB1.out.1 (by first | exact True.intro | rfl)).1; have h3 := (HBB3.out.1 (by first | exact True.intro | rfl)).1; omega, fun x hx => (List.mem_append.1 hx).elim (HVF.out.2.2.2 x) (HVF.out.1.2 x)⟩ h3 (by rw [l3]; exact hc3) ⟨by rw [l3]; have := HLN.out; have h1 := (HBB2.out.1 (by first | exact True.intro | rfl)).1; have h3 := (HBB3.out.1 (by first | exact True.intro | rfl)).1; omega, fun x hx => (List.mem_append.1 hx).elim (HVF.out.2.2.2 x) (HVF.out.2.1.2 x)⟩
          rw [l2, l3, HPZ2.out] at q; exact q))
        have HOZ := Lib.hid (show Ac.okB (sx ++ sy) ∧ Ac.okB sx ∧ Ac.okB sy from ⟨⟨by rw [List.length_append, ← HPX.out.2, ← HPY.out.2]; have q1 := HRA.out.2.2.1; have q2 := HRB.out.2.2.1; have q3 := HSZ.out; have q4 := Ac.vols_ge sx; have q5 := Ac.vols_ge sy; have q6 := HPX.out.2; have q7 := HPY.out.2; omega, fun s hs => (List.mem_append.1 hs).elim (HRA.out.1.2 s) (HRB.out.1.2 s)⟩, HRA.out.1, HRB.out.1⟩)
        have HZ1 := Lib.hid (tyg_app (vs := vs) (es := es) sx sy)
        have HZ4 := Lib.hid (fun (q : (tyg vs es (sx ++ sy) 0).2 = 0) => tyg_more (vs' := ms ++ vs) (es' := ms ++ es) (fun x hx => List.mem_append_right _ hx) (fun x hx => List.mem_append_right _ hx) q)
        have HLM := Lib.hid (show nv ≤ 20 ∧ ne ≤ 20 ∧ nm ≤ 20 from ⟨by rw [HLN.out.1]; exact (HBB1.out.1 (by first | exact True.intro | rfl)).1, by rw [HLN.out.2.1]; exact (HBB2.out.1 (by first | exact True.intro | rfl)).1, by rw [HLN.out.2.2]; exact (HBB3.out.1 (by first | exact True.intro | rfl)).1⟩)
        unfold TpP at HTZ HTX HTYY HT4
        generalize tyg vs es (sx ++ sy) 0 = T1 at *
        generalize tyg vs es sx 0 = T2 at *
        generalize tyg vs es sy 0 = T3 at *
        generalize tyg (ms ++ vs) (ms ++ es) (sx ++ sy) 0 = T4 at *
        obtain ⟨t1, z1⟩ := T1
        obtain ⟨t2, z2⟩ := T2
        obtain ⟨t3, z3⟩ := T3
        obtain ⟨t4, z4⟩ := T4
        simp only at HTZ HTX HTYY HT4 HZ1 HZ4
        clear HRA HRB HFA HPX HPY HPZ HPZ2 HFZ HVF HBB1 HBB2 HBB3 hlen hnxI hnyI HNN
        have x3 := HK.out.x3.at_
        go_wp2_with fail
        refine (HTZ.out _ HK.out).mono ?_
        rintro e w12 ⟨hq, hb⟩
        rcases hq with ⟨_, rfl⟩ | ⟨hno, _⟩
        case inr => exact absurd HOZ.out.1 hno
        replace HK := Lib.hid (HK.out.on hb)
        have x1 := HK.out.x1.at_
        clear hb x3
        go_wp2_with fail
        refine (HTX.out _ HK.out).mono ?_
        rintro e w13 ⟨hq, hb⟩
        rcases hq with ⟨_, rfl⟩ | ⟨hno, _⟩
        case inr => exact absurd HOZ.out.2.1 hno
        replace HK := Lib.hid (HK.out.on hb)
        have x2 := HK.out.x2.at_
        clear hb x1
        go_wp2_with fail
        refine (HTYY.out _ HK.out).mono ?_
        rintro e w14 ⟨hq, hb⟩
        rcases hq with ⟨_, rfl⟩ | ⟨hno, _⟩
        case inr => exact absurd HOZ.out.2.2 hno
        replace HK := Lib.hid (HK.out.on hb)
        have x3 := HK.out.x3.at_
        clear hb x2 HTZ HTX HTYY
        have HZC := Lib.hid (show ((z2 == 0) = true ∧ ((z1 == 0) == (z3 == 0)) = true ∧ ((z1 == 0) != (z3 == 0)) = false) ∨ ((z2 == 0) = false ∧ (z1 == 0) = false ∧ (z1 != 0) = true) from by
          have q := HZ1.out
          by_cases a2 : z2 = 0
          · left
            refine ⟨by rw [a2]; rfl, ?_⟩
            by_cases a3 : z3 = 0
            · rw [a3, q.2 ⟨a2, a3⟩]; exact ⟨rfl, rfl⟩
            · have a1 : z1 ≠ 0 := fun h => a3 (q.1 h).2
              rw [beq_eq_false_iff_ne.2 a3, beq_eq_false_iff_ne.2 a1]; exact ⟨rfl, rfl⟩
          · right
            have a1 : z1 ≠ 0 := fun h => a2 (q.1 h).1
            exact ⟨beq_eq_false_iff_ne.2 a2, beq_eq_false_iff_ne.2 a1, by simpa using a1⟩)
        obtain ⟨i0, hi, hy0, hy1, hy2⟩ := info_parts infoStr
        have hnv20 : nv ≤ 20 := HLM.out.1
        have hne20 : ne ≤ 20 := HLM.out.2.1
        have hnm20 : nm ≤ 20 := HLM.out.2.2
        obtain ⟨bt, hbt⟩ : ∃ b, b = w14.heap.size := ⟨_, rfl⟩
        have HBT := Lib.hid hbt
        have hbt0 : bt ≤ w14.heap.size := by omega
        have J3 := Lib.hid (show Below bt w14 w14 from Below.refl _ _)
        have HMC := Lib.hid (fun (v : World) (hb : Below bt w14 v) => (show NsR v v.heap.size Am ms ∧ NsR v v.heap.size Av vs ∧ NsR v v.heap.size Ae es from by
          have q := HK.out.below.trans (hb.mono (by rw [HBT.out]; exact HK.out.below.size))
          exact ⟨(HM.out.1.below q).more q.size, (HV.out.1.below q).more q.size, (HE.out.1.below q).more q.size⟩))
        have hM0 := HM.out.2.2
        have hV0 := HV.out.2.2
        have hE0 := HE.out.2.2
        have HLN2 := Lib.hid (show (ms.map nmV).length = nm * 1 ∧ (vs.map nmV).length = nv * 1 ∧ (es.map nmV).length = ne * 1 from ⟨by rw [List.length_map, HLN.out.2.2, Nat.mul_one], by rw [List.length_map, HLN.out.1, Nat.mul_one], by rw [List.length_map, HLN.out.2.1, Nat.mul_one]⟩)
        clear hbt
        rcases HZC.out with ⟨e1, e2, e3⟩ | ⟨e1, e2, e3⟩
        all_goals
          go_upto_region 20 with (at_builtin; first | (refine wpList_append_src rfl _ _ _ rfl bt 9 i0 _ 1 16 Tryz.underlying36 hi hy0 hy1 hy2 rfl (by omega) (.slice none 0 0) 0 [] (by rfl) (World.ownsRow_nil _ _ _ _) Am nm cm (ms.map nmV) rfl hM0 HLN2.out.1 (nsr_cells (HMC.out _ J3.out).1) (nmV_one ms) (by unfold maxLen; omega) (by omega) hbt0 ?_; intro v4 w4 hown4 hgr4; rw [Nat.zero_add, List.nil_append] at hown4; obtain ⟨A4, c4, hv4, _, _, _, _⟩ := own_slice hown4; subst hv4; have J4 := Lib.hid (And.intro hown4 (Below.grown J3.out hgr4 hbt0 (fun k hk => nomatch hk))); have hb4 := Nat.le_trans hbt0 J4.out.2.size; clear hown4 hgr4) | (refine wpList_append_src rfl _ _ _ rfl bt 9 i0 _ 1 16 Tryz.underlying36 hi hy0 hy1 hy2 rfl (by omega) (.slice A4 nm c4) nm (ms.map nmV) (by rfl) J4.out.1 Av nv cv (vs.map nmV) rfl hV0 HLN2.out.2.1 (nsr_cells (HMC.out _ J4.out.2).2.1) (nmV_one vs) (by unfold maxLen; omega) (by omega) hb4 ?_; intro v5 w5 hown5 hgr5; obtain ⟨A5, c5, hv5, _, _, _, _⟩ := own_slice hown5; subst hv5; have J5 := Lib.hid (And.intro hown5 (Below.grown J4.out.2 hgr5 hb4 (fun k hk => (J4.out.1.lt k hk).1))); have hb5 := Nat.le_trans hbt0 J5.out.2.size; clear hown5 hgr5))
          have hb5' : w5.heap.size ≤ w5.heap.size := Nat.le_refl _
          go_wp2_with (at_builtin; first | (refine wpList_append_src rfl _ _ _ rfl w5.heap.size 9 i0 _ 1 16 Tryz.underlying36 hi hy0 hy1 hy2 rfl (by omega) (.slice none 0 0) 0 [] (by rfl) (World.ownsRow_nil _ _ _ _) Am nm cm (ms.map nmV) rfl hM0 HLN2.out.1 (nsr_cells (HMC.out _ J5.out.2).1) (nmV_one ms) (by unfold maxLen; omega) (by omega) hb5' ?_; go_must (intro v6 w6 hown6 hgr6; rw [Nat.zero_add, List.nil_append] at hown6; obtain ⟨A6, c6, hv6, _, _, _, _⟩ := own_slice hown6; subst hv6; have J6 := Lib.hid (And.intro hown6 (Below.grown (Below.refl w5.heap.size w5) hgr6 hb5' (fun k hk => nomatch hk))); have hb6 := J6.out.2.size; clear hown6 hgr6)) | (refine wpList_append_src rfl _ _ _ rfl w5.heap.size 9 i0 _ 1 16 Tryz.underlying36 hi hy0 hy1 hy2 rfl (by omega) (.slice A6 nm c6) nm (ms.map nmV) (by rfl) J6.out.1 Ae ne ce (es.map nmV) rfl hE0 HLN2.out.2.2 (nsr_cells (HMC.out _ (J5.out.2.trans (J6.out.2.mono hb5))).2.2) (nmV_one es) (by unfold maxLen; omega) (by omega) hb6 ?_; go_must (intro v7 w7 hown7 hgr7; obtain ⟨A7, c7, hv7, _, _, _, _⟩ := own_slice hown7; subst hv7; have J7 := Lib.hid (And.intro hown7 (Below.grown J6.out.2 hgr7 hb6 (fun k hk => (J6.out.1.lt k hk).1))); have x3 := (HK.out.on (by rw [← HBT.out]; exact J5.out.2.trans (J7.out.2.mono hb5))).x3.at_; clear hown7 hgr7)))
          have hbf : Below w14.heap.size w14 w7 := by rw [← HBT.out]; exact J5.out.2.trans (J7.out.2.mono hb5)
          have HK7 := Lib.hid (HK.out.on hbf)
          have HR5 := Lib.hid (show NsR w7 w7.heap.size A5 (ms ++ vs) ∧ nm + nv ≤ c5 from by
            have q := own_below J5.out.1 J7.out.2
            rw [← List.map_append] at q
            have q2 := own_nsr q (by rw [List.length_append, HLN.out.1, HLN.out.2.2])
            exact ⟨q2.1, q2.2.1⟩)
          have HR7 := Lib.hid (show NsR w7 w7.heap.size A7 (ms ++ es) ∧ nm + ne ≤ c7 from by
            have q := J7.out.1
            rw [← List.map_append] at q
            have q2 := own_nsr q (by rw [List.length_append, HLN.out.2.1, HLN.out.2.2])
            exact ⟨q2.1, q2.2.1⟩)
          clear hbf
          refine (HT4.out _ HK7.out A5 A7 c5 c7 HR5.out.1 HR5.out.2 HR7.out.1 HR7.out.2).mono ?_
          rintro e w15 ⟨hq, hb⟩
          rcases hq with ⟨_, rfl⟩ | ⟨hno, _⟩
          case inr => exact absurd HOZ.out.1 hno
          have BF := Lib.hid (HK7.out.below.trans (hb.mono HK7.out.below.size))
          have TF := Lib.hid (HK7.out.tx.below hb)
          clear hb x3 HR5 HR7 HK7 J3 J4 J5 J6 J7 HMC HT4
          by_cases hz1 : z1 = 0
          · have hz4 : (z4 == 0) = true := by rw [HZ4.out hz1]; rfl
            have hz1a : (z1 != 0) = false := by rw [hz1]; rfl
            clear hz1
            go_wp2_with fail
            refine (HWK.out _ TF.out).mono ?_
            rintro e vw ⟨rfl, hb⟩
            have BW := Lib.hid (BF.out.trans (hb.mono BF.out.size))
            clear hb
            go_wp2
            go_ret
            exact ⟨rfl, BW.out⟩
          · have hz1a : (z1 != 0) = true := by simpa using hz1
            clear hz1
            go_wp2_with fail
            refine (HWK.out _ TF.out).mono ?_
            rintro e vw ⟨rfl, hb⟩
            have BW := Lib.hid (BF.out.trans (hb.mono BF.out.size))
            clear hb
            go_wp2
            go_ret
            exact ⟨rfl, BW.out⟩
end Go.Proofs.YtmmdigeciphglaaGreatDoor
