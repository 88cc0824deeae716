/- Facts and walks for the statement. -/
import Derived.Test.YtdcjpinbflmikaaGreatDoorPzW03
import Derived.Test.YtdcjpinbflmikaaGreatDoorPzW13
import Derived.Test.YtdcjpinbflmikaaGreatDoorPzW11
import Derived.Shelf.Strings.BuilderK
import Derived.Laws.Externs
import Derived.Lib.FrozenHead2
import Derived.Lib.UnsafeStr
import Derived.Test.YtdcjpinbflmikaaGreatDoorPzW14
import Derived.Test.YtdcjpinbflmikaaGreatDoorPzW12
namespace Go.Proofs.YtdcjpinbflmikaaGreatDoor
namespace Ex
theorem pr_mem : ∀ {x : E}, wf x → ∀ (L : Nat) (t : Tk), t ∈ pr x L → Lx.is t.2 = t.1 ∧ t.1 ≠ 0
  | .num n, h, L, t, ht => by
    obtain rfl := List.mem_singleton.1 ht
    exact ⟨h.2, by show (1 : Int) ≠ 0; decide⟩
  | .name s, h, L, t, ht => by
    obtain rfl := List.mem_singleton.1 ht
    exact ⟨h, by show (2 : Int) ≠ 0; decide⟩
  | .tt, _, L, t, ht => by
    obtain rfl := List.mem_singleton.1 ht
    exact ⟨by decide, by decide⟩
  | .ff, _, L, t, ht => by
    obtain rfl := List.mem_singleton.1 ht
    exact ⟨by decide, by decide⟩
  | .un op a, h, L, t, ht => by
    have ho : Lx.is (tok op).2 = (tok op).1 ∧ (tok op).1 ≠ 0 := by rcases h.1 with e | e <;> subst e <;> decide
    have ih := pr_mem h.2 9 t
    unfold pr at ht
    split at ht
    · simp only [List.cons_append, List.mem_cons, List.mem_append, List.not_mem_nil, or_false] at ht
      rcases ht with rfl | rfl | ht | rfl
      · exact ⟨by decide, by decide⟩
      · exact ho
      · exact ih ht
      · exact ⟨by decide, by decide⟩
    · rcases List.mem_cons.1 ht with rfl | ht
      · exact ho
      · exact ih ht
  | .bin op a b, h, L, t, ht => by
    obtain ⟨h7, h21, wa, wb⟩ := h
    have hall : ∀ op : Fin 22, 7 ≤ op.1 → (tok op.1).1 ≠ 0 := by decide
    have ho : Lx.is (tok op).2 = (tok op).1 ∧ (tok op).1 ≠ 0 := ⟨rfl, hall ⟨op, by omega⟩ h7⟩
    have ia := pr_mem wa (lvl op) t
    have ib := pr_mem wb (lvl op + 1) t
    unfold pr at ht
    split at ht
    · simp only [List.cons_append, List.mem_cons, List.mem_append, List.not_mem_nil, or_false] at ht
      rcases ht with rfl | (ht | rfl | ht) | rfl
      · exact ⟨by decide, by decide⟩
      · exact ia ht
      · exact ho
      · exact ib ht
      · exact ⟨by decide, by decide⟩
    · rcases List.mem_append.1 ht with ht | ht
      · exact ia ht
      · rcases List.mem_cons.1 ht with rfl | ht
        · exact ho
        · exact ib ht
  | .ite a b c, h, L, t, ht => by
    have ia := pr_mem h.1 0 t
    have ib := pr_mem h.2.1 0 t
    have ic := pr_mem h.2.2 0 t
    unfold pr at ht
    simp only [List.cons_append, List.mem_cons, List.mem_append, List.not_mem_nil, or_false, or_assoc] at ht
    rcases ht with rfl | ht | rfl | ht | rfl | ht | rfl
    · exact ⟨by decide, by decide⟩
    · exact ia ht
    · exact ⟨by decide, by decide⟩
    · exact ib ht
    · exact ⟨by decide, by decide⟩
    · exact ic ht
    · exact ⟨by decide, by decide⟩
def tT (t : Tk) : Lx.T := ⟨t.1, t.2, 0⟩
theorem sh_jn : ∀ l : List Tk, Lx.sh (l.map tT) = jn l
  | [] => rfl
  | [t] => by simp [Lx.sh, jn, tT]
  | t :: u :: r => by
    have ih := sh_jn (u :: r)
    show (if (u :: r).map tT = [] then t.2 else t.2 ++ 32 :: Lx.sh ((u :: r).map tT)) = (if u :: r = [] then t.2 else t.2 ++ 32 :: jn (u :: r))
    rw [if_neg (by simp), if_neg (by simp), ih]
theorem good_tT {t : Tk} (h : Lx.is t.2 = t.1 ∧ t.1 ≠ 0) : Lx.Good (tT t) := by
  have h64 : t.2.length ≤ 64 := by
    rcases Nat.lt_or_ge 64 t.2.length with hl | hl
    · exact absurd (by rw [← h.1]; unfold Lx.is; rw [if_pos hl]) h.2
    · exact hl
  refine ⟨?_, h.2, h64⟩
  show Lx.whole t.2 = t.1
  rw [← h.1]
  unfold Lx.is
  rw [if_neg (by omega)]
theorem toks_pr {x : E} (h : wf x) (hl : (prs x 0).length ≤ 65536) : (Lx.toks (prs x 0)).2.2 = 0 ∧ (Lx.toks (prs x 0)).1.map Lx.kx = pr x 0 := by
  have e : prs x 0 = Lx.sh ((pr x 0).map tT) := by rw [prs_jn, sh_jn]
  rw [e] at hl ⊢
  have := Lx.toks_sh (l := (pr x 0).map tT) (fun t ht => by
    obtain ⟨u, hu, rfl⟩ := List.mem_map.1 ht
    exact good_tT (pr_mem h 0 u hu)) hl
  refine ⟨this.1, this.2.trans ?_⟩
  rw [List.map_map]
  exact List.map_id' _
end Ex
end Go.Proofs.YtdcjpinbflmikaaGreatDoor
namespace Go.Proofs.YtdcjpinbflmikaaGreatDoor
open Go.RowKit Go.Shelf Ex
end Go.Proofs.YtdcjpinbflmikaaGreatDoor
namespace Go.Proofs.YtdcjpinbflmikaaGreatDoor
open Go.RowKit Ex
end Go.Proofs.YtdcjpinbflmikaaGreatDoor
namespace Go.Proofs.YtdcjpinbflmikaaGreatDoor
open Go.RowKit Ex
end Go.Proofs.YtdcjpinbflmikaaGreatDoor
namespace Go.Proofs.YtdcjpinbflmikaaGreatDoor
open Go.RowKit Ex
end Go.Proofs.YtdcjpinbflmikaaGreatDoor
namespace Go.Proofs.YtdcjpinbflmikaaGreatDoor
open Go.RowKit Ex
/-! ### all parts -/
end Go.Proofs.YtdcjpinbflmikaaGreatDoor
namespace Go.Proofs.YtdcjpinbflmikaaGreatDoor
open Go.RowKit Ex
theorem opS_len : ∀ o : Fin 23, (opS o.1).length ≤ 7 := by decide
theorem row_small (M : Nat) : ∀ (x : E) (p L : Nat), wr x → (∀ n ∈ flat x p, n.nm.length ≤ M ∧ n.num ≤ 9223372036854775807) → small x ∧ (Ex.prs x L).length + 30 ≤ (M + 60) * sz x
  | .num n, p, L, _, h => by
    have h1 := (h _ (List.mem_singleton.2 rfl)).2
    have h2 : n ≤ 9223372036854775807 := by simp only at h1; omega
    have h3 := dg_len h2
    exact ⟨h2, by show (dg n).length + 30 ≤ (M + 60) * 1; omega⟩
  | .name s, p, L, _, h => by
    have h1 := (h _ (List.mem_singleton.2 rfl)).1
    exact ⟨True.intro, by show s.length + 30 ≤ (M + 60) * 1; simp only at h1; omega⟩
  | .tt, p, L, _, h => ⟨True.intro, by show 4 + 30 ≤ (M + 60) * 1; omega⟩
  | .ff, p, L, _, h => ⟨True.intro, by show 5 + 30 ≤ (M + 60) * 1; omega⟩
  | .un op a, p, L, hw, h => by
    obtain ⟨s1, l1⟩ := row_small M a p 9 hw.2 (fun n hn => h n (List.mem_append_left _ hn))
    have ho := opS_len ⟨op, by have := hw.1; omega⟩
    refine ⟨s1, ?_⟩
    have e : (M + 60) * sz (.un op a) = (M + 60) * sz a + (M + 60) := by show (M + 60) * (sz a + 1) = _; rw [Nat.mul_succ]
    rw [e]
    show (if lvl op < L then [40, 32] ++ (opS op ++ [32] ++ Ex.prs a 9) ++ [32, 41] else opS op ++ [32] ++ Ex.prs a 9).length + 30 ≤ _
    simp only at ho
    split <;> simp only [List.length_append, List.length_cons, List.length_nil] <;> omega
  | .bin op a b, p, L, hw, h => by
    obtain ⟨s1, l1⟩ := row_small M a p (lvl op) hw.2.2.1 (fun n hn => h n (List.mem_append_left _ (List.mem_append_left _ hn)))
    obtain ⟨s2, l2⟩ := row_small M b (p + sz a) (lvl op + 1) hw.2.2.2 (fun n hn => h n (List.mem_append_left _ (List.mem_append_right _ hn)))
    have ho := opS_len ⟨op, by have := hw.2.1; omega⟩
    refine ⟨⟨s1, s2⟩, ?_⟩
    have e : (M + 60) * sz (.bin op a b) = (M + 60) * sz a + (M + 60) * sz b + (M + 60) := by show (M + 60) * (sz a + sz b + 1) = _; rw [Nat.mul_succ, Nat.mul_add]
    rw [e]
    show (if lvl op < L then [40, 32] ++ (Ex.prs a (lvl op) ++ [32] ++ opS op ++ [32] ++ Ex.prs b (lvl op + 1)) ++ [32, 41] else Ex.prs a (lvl op) ++ [32] ++ opS op ++ [32] ++ Ex.prs b (lvl op + 1)).length + 30 ≤ _
    simp only at ho
    split <;> simp only [List.length_append, List.length_cons, List.length_nil] <;> omega
  | .ite a b c, p, L, hw, h => by
    obtain ⟨s1, l1⟩ := row_small M a p 0 hw.1 (fun n hn => h n (List.mem_append_left _ (List.mem_append_left _ (List.mem_append_left _ hn))))
    obtain ⟨s2, l2⟩ := row_small M b (p + sz a) 0 hw.2.1 (fun n hn => h n (List.mem_append_left _ (List.mem_append_left _ (List.mem_append_right _ hn))))
    obtain ⟨s3, l3⟩ := row_small M c (p + sz a + sz b) 0 hw.2.2 (fun n hn => h n (List.mem_append_left _ (List.mem_append_right _ hn)))
    refine ⟨⟨s1, s2, s3⟩, ?_⟩
    have e : (M + 60) * sz (.ite a b c) = (M + 60) * sz a + (M + 60) * sz b + (M + 60) * sz c + (M + 60) := by show (M + 60) * (sz a + sz b + sz c + 1) = _; rw [Nat.mul_succ, Nat.mul_add, Nat.mul_add]
    rw [e]
    show ([105, 102, 32] ++ Ex.prs a 0 ++ [32, 116, 104, 101, 110, 32] ++ Ex.prs b 0 ++ [32, 101, 108, 115, 101, 32] ++ Ex.prs c 0 ++ [32, 101, 110, 100, 105, 102] : List UInt8).length + 30 ≤ _
    simp only [List.length_append, List.length_cons, List.length_nil]; omega
theorem chk_row {l : List Nd} (h : chk l = 0) : ∃ x, wr x ∧ dp x ≤ 64 ∧ l = flat x 0 := by
  unfold chk at h
  split at h
  · cases h
  · rename_i h0
    split at h
    · cases h
    · rename_i h1
      obtain ⟨x, h2, h3, h4⟩ := dep_row h0
      exact ⟨x, h2, by omega, h3⟩
def Fitn (l : List Nd) : Prop := Fit l ∧ ∀ n ∈ l, n.num ≤ 9223372036854775807
end Go.Proofs.YtdcjpinbflmikaaGreatDoor
namespace Go.Proofs.YtdcjpinbflmikaaGreatDoor
open Ex
theorem run_ne : ∀ (ts : List Tk) (K : List Fr) (c : Option E), (Ex.run ts K c).2.1 ≠ 0
  | [], K, c => Ex.step_end K c
  | t :: ts, K, c => by
    unfold Ex.run
    split
    · exact run_ne ts _ _
    · assumption
theorem R_ne {ts : List Tk} {l : Nat} {e : Int} (h : R (.lev 1) ts = .bad l e) : e ≠ 0 := by
  rw [← run_R] at h
  unfold fin at h
  split at h
  · cases h
  · injection h with _ h2
    rw [← h2]; exact run_ne _ _ _
theorem frm_ok {ts : List Tk} (h : (frm ts).2.2 = 0) : ∃ r x, R (.lev 1) ts = .ok r x ∧ dp x ≤ 64 ∧ frm ts = (flat x 0, ts.length - r.length, 0) := by
  unfold frm at h ⊢
  cases hR : R (.lev 1) ts with
  | bad l e => rw [hR] at h; exact absurd h (R_ne hR)
  | ok r x =>
    rw [hR] at h; simp only at h ⊢
    by_cases hd : 64 < dp x
    · rw [if_pos hd] at h; cases h
    · exact ⟨r, x, rfl, by omega, if_neg hd⟩
theorem prse_ok {s : List UInt8} (h : (prse s).2.2 = 0) : ∃ x, prse s = (flat x 0, 0, 0) ∧ dp x ≤ 64 ∧ R (.lev 1) (kxs (Lx.toks s).1) = .ok [] x ∧ (Lx.toks s).2.2 = 0 := by
  unfold prse at h ⊢
  by_cases h1 : (Lx.toks s).2.2 ≠ 0
  · rw [if_pos h1] at h; exact absurd h h1
  · rw [if_neg h1] at h ⊢
    by_cases h2 : (frm (kxs (Lx.toks s).1)).2.2 = 3
    · rw [if_pos h2] at h; cases h
    · rw [if_neg h2] at h ⊢
      by_cases h3 : (frm (kxs (Lx.toks s).1)).2.2 = 0 ∧ (frm (kxs (Lx.toks s).1)).2.1 = (Lx.toks s).1.length
      · rw [if_pos h3]
        obtain ⟨r, x, q1, q2, q3⟩ := frm_ok h3.1
        have q4 := rd_less _ _ _ _ _ q1
        have q5 := h3.2
        rw [q3] at q5
        have q6 : (kxs (Lx.toks s).1).length = (Lx.toks s).1.length := by simp [kxs]
        have q7 : r = [] := List.length_eq_zero_iff.1 (by simp [one] at q4; simp only at q5; omega)
        subst q7
        exact ⟨x, by rw [q3], q2, q1, Decidable.byContradiction h1⟩
      · rw [if_neg h3] at h; simp only at h
        by_cases h4 : (frm (kxs (Lx.toks s).1)).2.2 = 0
        · rw [if_pos h4] at h; cases h
        · rw [if_neg h4] at h; exact absurd h h4
theorem prse_of {s : List UInt8} {x : E} (h : R (.lev 1) (kxs (Lx.toks s).1) = .ok [] x) (hd : dp x ≤ 64) (ht : (Lx.toks s).2.2 = 0) : prse s = (flat x 0, 0, 0) := by
  have hf : frm (kxs (Lx.toks s).1) = (flat x 0, (Lx.toks s).1.length, 0) := by unfold frm; rw [h]; simp only; rw [if_neg (by omega)]; simp [kxs]
  unfold prse
  rw [hf, if_neg (by simp [ht]), if_neg (by simp), if_pos ⟨rfl, rfl⟩]
theorem prse_prs {x : E} (h : wf x) (hd : dp x ≤ 64) (hl : (Ex.prs x 0).length ≤ 65536) : prse (Ex.prs x 0) = (flat x 0, 0, 0) := by
  obtain ⟨h1, h2⟩ := toks_pr h hl
  refine prse_of ?_ hd h1
  rw [show kxs (Lx.toks (Ex.prs x 0)).1 = pr x 0 from h2]
  have := (reads x h).top (pr01 h) (T := []) st_nil
  rwa [List.append_nil] at this
theorem sz_pr : ∀ (x : E) (L : Nat), sz x ≤ (pr x L).length
  | .num _, _ => Nat.le_refl _
  | .name _, _ => Nat.le_refl _
  | .tt, _ => Nat.le_refl _
  | .ff, _ => Nat.le_refl _
  | .un op a, L => by
    have h1 := sz_pr a 9
    show sz a + 1 ≤ (if lvl op < L then _ else _ : List Tk).length
    split <;> simp only [List.length_append, List.length_cons, List.length_nil] <;> omega
  | .bin op a b, L => by
    have h1 := sz_pr a (lvl op)
    have h2 := sz_pr b (lvl op + 1)
    show sz a + sz b + 1 ≤ (if lvl op < L then _ else _ : List Tk).length
    split <;> simp only [List.length_append, List.length_cons, List.length_nil] <;> omega
  | .ite a b c, L => by
    have h1 := sz_pr a 0
    have h2 := sz_pr b 0
    have h3 := sz_pr c 0
    show sz a + sz b + sz c + 1 ≤ (wT [105, 102] :: pr a 0 ++ wT [116, 104, 101, 110] :: pr b 0 ++ wT [101, 108, 115, 101] :: pr c 0 ++ [wT [101, 110, 100, 105, 102]]).length
    simp only [List.length_append, List.length_cons, List.length_nil]; omega
theorem read_fine {ts : List Tk} {x : E} (h : R (.lev 1) ts = .ok [] x) : wr x ∧ small x ∧ wf x ∧ sz x ≤ ts.length := by
  have hf : wr x ∧ small x := rd_fine _ (.lev 1) _ _ _ h
  exact ⟨hf.1, hf.2, wf_of hf.1 hf.2, Nat.le_trans (sz_pr x 0) (least h)⟩
/-! ### two of one row are the same -/
def rt : E → Nat → Nd
  | .num n, _ => ⟨1, n, [], -1, -1, -1⟩
  | .name s, _ => ⟨2, 0, s, -1, -1, -1⟩
  | .tt, _ => ⟨3, 0, [], -1, -1, -1⟩
  | .ff, _ => ⟨4, 0, [], -1, -1, -1⟩
  | .un op a, p => ⟨op, 0, [], (p + sz a : Nat) - 1, -1, -1⟩
  | .bin op a b, p => ⟨op, 0, [], (p + sz a : Nat) - 1, (p + sz a + sz b : Nat) - 1, -1⟩
  | .ite a b c, p => ⟨22, 0, [], (p + sz a : Nat) - 1, (p + sz a + sz b : Nat) - 1, (p + sz a + sz b + sz c : Nat) - 1⟩
def ini : E → Nat → List Nd
  | .un _ a, p => flat a p
  | .bin _ a b, p => flat a p ++ flat b (p + sz a)
  | .ite a b c, p => flat a p ++ flat b (p + sz a) ++ flat c (p + sz a + sz b)
  | _, _ => []
theorem flat_rt (x : E) (p : Nat) : flat x p = ini x p ++ [rt x p] := by cases x <;> rfl
def ar (n : Nd) : Nat := if n.c ≠ -1 then 3 else if n.b ≠ -1 then 2 else if n.a ≠ -1 then 1 else 0
def arE : E → Nat
  | .un _ _ => 1
  | .bin _ _ _ => 2
  | .ite _ _ _ => 3
  | _ => 0
theorem ar3 {n : Nd} (h : n.c ≠ -1) : ar n = 3 := if_pos h
theorem ar2 {n : Nd} (h : n.c = -1) (h2 : n.b ≠ -1) : ar n = 2 := (if_neg (fun q => q h)).trans (if_pos h2)
theorem ar1 {n : Nd} (h : n.c = -1) (h2 : n.b = -1) (h3 : n.a ≠ -1) : ar n = 1 := (if_neg (fun q => q h)).trans ((if_neg (fun q => q h2)).trans (if_pos h3))
theorem ar0 {n : Nd} (h : n.c = -1) (h2 : n.b = -1) (h3 : n.a = -1) : ar n = 0 := (if_neg (fun q => q h)).trans ((if_neg (fun q => q h2)).trans (if_neg (fun q => q h3)))
theorem ar_rt (x : E) (p : Nat) : ar (rt x p) = arE x := by
  cases x with
  | un op a => have := sz_pos a; exact ar1 rfl rfl (show ((p + sz a : Nat) : Int) - 1 ≠ -1 by omega)
  | bin op a b => have := sz_pos b; exact ar2 rfl (show ((p + sz a + sz b : Nat) : Int) - 1 ≠ -1 by omega)
  | ite a b c => have := sz_pos c; exact ar3 (show ((p + sz a + sz b + sz c : Nat) : Int) - 1 ≠ -1 by omega)
  | _ => exact ar0 rfl rfl rfl
theorem flat_inj : ∀ (x y : E) (p : Nat), flat x p = flat y p → x = y := by
  intro x
  induction x with
  | un op a iha =>
    intro y p h
    rw [flat_rt _ p, flat_rt y p] at h
    obtain ⟨h1, h2⟩ := List.append_inj' h rfl
    injection h2 with h2 _
    have h3 := congrArg ar h2
    rw [ar_rt, ar_rt] at h3
    cases y <;> simp only [arE] at h3 <;> first | (exfalso; omega) | skip
    rename_i op' a'
    simp only [rt] at h2
    obtain ⟨q1, _, _, q4, q5, q6⟩ := Nd.mk.inj h2
    rw [iha _ _ h1, show op = op' by omega]
  | bin op a b iha ihb =>
    intro y p h
    rw [flat_rt _ p, flat_rt y p] at h
    obtain ⟨h1, h2⟩ := List.append_inj' h rfl
    injection h2 with h2 _
    have h3 := congrArg ar h2
    rw [ar_rt, ar_rt] at h3
    cases y <;> simp only [arE] at h3 <;> first | (exfalso; omega) | skip
    rename_i op' a' b'
    simp only [rt] at h2
    obtain ⟨q1, _, _, q4, q5, q6⟩ := Nd.mk.inj h2
    have e1 : sz a = sz a' := by omega
    obtain ⟨r1, r2⟩ := List.append_inj h1 (by rw [flat_len, flat_len, e1])
    rw [← e1] at r2
    rw [iha _ _ r1, ihb _ _ r2, show op = op' by omega]
  | ite a b c iha ihb ihc =>
    intro y p h
    rw [flat_rt _ p, flat_rt y p] at h
    obtain ⟨h1, h2⟩ := List.append_inj' h rfl
    injection h2 with h2 _
    have h3 := congrArg ar h2
    rw [ar_rt, ar_rt] at h3
    cases y <;> simp only [arE] at h3 <;> first | (exfalso; omega) | skip
    rename_i a' b' c'
    simp only [rt] at h2
    obtain ⟨_, _, _, q4, q5, q6⟩ := Nd.mk.inj h2
    have e1 : sz a = sz a' := by omega
    have e2 : sz b = sz b' := by omega
    obtain ⟨r0, r3⟩ := List.append_inj h1 (by rw [List.length_append, List.length_append, flat_len, flat_len, flat_len, flat_len, e1, e2])
    obtain ⟨r1, r2⟩ := List.append_inj r0 (by rw [flat_len, flat_len, e1])
    rw [← e1] at r2
    rw [← e1, ← e2] at r3
    rw [iha _ _ r1, ihb _ _ r2, ihc _ _ r3]
  | _ =>
    intro y p h
    rw [flat_rt _ p, flat_rt y p] at h
    obtain ⟨_, h2⟩ := List.append_inj' h rfl
    injection h2 with h2 _
    have h3 := congrArg ar h2
    rw [ar_rt, ar_rt] at h3
    cases y <;> simp only [arE] at h3 <;> first | (exfalso; omega) | skip
    all_goals
      have q1 := congrArg Nd.op h2
      have q2 := congrArg Nd.num h2
      have q3 := congrArg Nd.nm h2
      simp only [rt] at q1 q2 q3
      first | rfl | (exfalso; omega) | (rw [q3]) | (congr 1; omega)
/-! ### in parentheses -/
theorem toks_par {s : List UInt8} (h : s.length + 3 ≤ 65536) (ht : (Lx.toks s).2.2 = 0) :
    (Lx.toks (40 :: s ++ [10, 41])).2.2 = 0 ∧ kxs (Lx.toks (40 :: s ++ [10, 41])).1 = (4, [40]) :: kxs (Lx.toks s).1 ++ [(4, [41])] := by
  have h1 : Lx.toks [41] = ([⟨4, [41], 0⟩], 0, 0) := by rfl
  have h2 : Lx.toks (40 :: s) = Lx.pt ⟨4, [40], 0⟩ (Lx.mvR 1 (Lx.toks s)) := by
    have b0 : Lx.blk false (40 :: s) = 0 := by unfold Lx.blk; rw [if_neg (by decide), if_neg (by intro h; exact absurd h.1 (by decide))]
    have l1 : Lx.lng (40 :: s) = 1 := by
      rw [Lx.lng_other (by decide) (by decide)]
      cases s with
      | nil => decide
      | cons d r =>
        show (if Lx.signs.contains [40, d] = true then 2 else if Lx.signs.contains [40] = true then 1 else 0) = 1
        rw [if_neg (by simp [Lx.signs]), if_pos (by decide)]
    rw [Lx.toks_C (show (40 :: s).length ≤ 65536 by simp; omega), Lx.toks_C (show s.length ≤ 65536 by omega)]
    rw [b0, List.drop_zero, Lx.C_good 0 (by simp) (by rw [l1]; simp), ← Lx.C_shift 1 _ _ _ (Nat.le_refl _)]
    have n1 : Lx.nx (40 :: s) = Lx.blk false s + 1 := by unfold Lx.nx; rw [l1]; simp [Nat.add_comm]
    rw [n1, List.drop_succ_cons, Nat.zero_add]
    congr 1
    unfold Lx.tk; rw [l1]; rfl
  rw [show 40 :: s ++ [10, 41] = (40 :: s) ++ 10 :: [41] from rfl, Lx.toks_cat _ _ (by simp; omega), h1, h2]
  unfold Lx.jq Lx.pt Lx.mvR
  simp only [ht, if_true, ne_eq, not_true_eq_false, if_false]
  refine ⟨trivial, ?_⟩
  unfold kxs
  simp [Lx.mvT]
theorem prse_par {s : List UInt8} {x : E} (h : s.length + 3 ≤ 65536) (hR : R (.lev 1) (kxs (Lx.toks s).1) = .ok [] x) (hd : dp x ≤ 64) (ht : (Lx.toks s).2.2 = 0) : prse (40 :: s ++ [10, 41]) = (flat x 0, 0, 0) := by
  obtain ⟨h1, h2⟩ := toks_par h ht
  refine prse_of ?_ hd h1
  rw [h2]
  have := in_par hR (T := []) st_nil
  rwa [List.append_nil] at this
end Go.Proofs.YtdcjpinbflmikaaGreatDoor
namespace Go.Proofs.YtdcjpinbflmikaaGreatDoor
open Go.RowKit Ex
structure Xb (w : World) (b : Nat) (A : Option Addr) (c : Nat) (l : List Nd) : Prop where
  blk : IsBlk w b 29 #[.slice A l.length c]
  row : NdR w w.heap.size A l
  cap : l.length ≤ c
theorem NdR.on {w w' : World} {A : Option Addr} {l : List Nd} (h : NdR w w.heap.size A l) (hb : Below w.heap.size w w') : NdR w' w'.heap.size A l := (h.below hb).more hb.size
theorem Xb.below {w w' : World} {b : Nat} {A : Option Addr} {c : Nat} {l : List Nd} (h : Xb w b A c l) (hb : Below w.heap.size w w') : Xb w' b A c l := ⟨h.blk.below hb h.blk.lt, h.row.on hb, h.cap⟩
theorem Xb.at_ {w : World} {b : Nat} {A : Option Addr} {c : Nat} {l : List Nd} (h : Xb w b A c l) : w.cell? ⟨b, 0, none⟩ = some (.slice A l.length c) := h.blk.at_ 0
theorem Xb.new {w : World} {A : Option Addr} {c : Nat} {l : List Nd} (h : NdR w w.heap.size A l) (hc : l.length ≤ c) : Xb (w.alloc (.cells #[.slice A l.length c] 29)) w.heap.size A c l :=
  ⟨IsBlk.new _ _ _, h.on ((Below.refl _ _).alloc (Nat.le_refl _) _), hc⟩
def PrA (X : List Nd × Nat × Int) (w : World) (e : Ending) (w' : World) : Prop :=
  ∃ A c, NdR w' w'.heap.size A X.1 ∧ X.1.length ≤ c ∧ e = .returned (.tuple #[.agg #[.slice A X.1.length c], .int .i64 (X.2.1 : Nat), .int .i64 X.2.2]) ∧ Below w.heap.size w w'
theorem parse_val (s : ByteArray) {X : List Nd × Nat × Int} (hX : prse s.data.toList = X) (hs : s.size ≤ maxLen) (w : World) (T : Tx w) : Calls Tryz.prog 16 #[.string s] w (PrA X w) := by
  refine (eparse_any s w T hs).mono ?_
  rintro e w' ⟨A, c, ho, he, hb⟩
  rw [hX] at ho he
  obtain ⟨h1, h2, _⟩ := own_ndr ho rfl
  exact ⟨A, c, h1, h2, he, hb⟩
theorem chk_flat {x : E} (hw : wr x) (hd : dp x ≤ 64) : chk (flat x 0) = 0 := by
  have h0 := dep_flat hw
  have h1 : dp x ≠ 0 := by cases x <;> simp [dp]
  unfold chk
  rw [h0, if_neg h1, if_neg (by omega)]
end Go.Proofs.YtdcjpinbflmikaaGreatDoor
namespace Go.Proofs.YtdcjpinbflmikaaGreatDoor
open Go.RowKit Ex
end Go.Proofs.YtdcjpinbflmikaaGreatDoor
namespace Go.Proofs.YtdcjpinbflmikaaGreatDoor
open Ex
theorem toks_less {s : List UInt8} (h : s.length ≤ 65536) : (Lx.toks s).1.length ≤ s.length := by
  rw [Lx.toks_C h]
  have h1 := Lx.C_sum _ (s.drop (Lx.blk false s)) (Lx.blk false s) (Nat.le_refl _)
  have h2 := Lx.C_goods _ (s.drop (Lx.blk false s)) (Lx.blk false s) (Nat.le_refl _)
  have h3 : ∀ l : List Lx.T, (∀ t ∈ l, Lx.Good t) → 2 * l.length ≤ (l.map fun t => t.tx.length + 1).sum := by
    intro l
    induction l with
    | nil => intro _; exact Nat.le_refl _
    | cons t l ih =>
      intro h
      have h4 := ih (fun q hq => h q (List.mem_cons_of_mem _ hq))
      have h5 := h t List.mem_cons_self
      have h6 : 1 ≤ t.tx.length := by
        refine Nat.one_le_iff_ne_zero.2 fun e => ?_
        have e2 := List.length_eq_zero_iff.1 e
        exact absurd h5.2.1 (by rw [← h5.1, e2]; decide)
      simp only [List.length_cons, List.map_cons, List.sum_cons]; omega
  have h4 := h3 _ h2
  have h5 : (s.drop (Lx.blk false s)).length ≤ s.length := by rw [List.length_drop]; omega
  omega
theorem flat_fine : ∀ (x : E) (p : Nat), wr x → small x → ∀ n ∈ flat x p, (n.nm.length ≤ 64 ∧ 0 ≤ n.op) ∧ n.num ≤ 9223372036854775807
  | .num n, p, _, h, q, hq => by
    rw [List.mem_singleton.1 hq]
    have h : n ≤ 9223372036854775807 := h
    exact ⟨⟨by simp, by simp⟩, by simp only; omega⟩
  | .name s, p, hw, _, q, hq => by
    rw [List.mem_singleton.1 hq]
    refine ⟨⟨?_, by simp⟩, by simp⟩
    have hw : Lx.is s = 2 := hw
    refine Decidable.byContradiction fun h => ?_
    unfold Lx.is at hw
    rw [if_pos (by simp only at h; omega)] at hw
    cases hw
  | .tt, p, _, _, q, hq => by rw [List.mem_singleton.1 hq]; exact ⟨⟨by simp, by simp⟩, by simp⟩
  | .ff, p, _, _, q, hq => by rw [List.mem_singleton.1 hq]; exact ⟨⟨by simp, by simp⟩, by simp⟩
  | .un op a, p, hw, hs, q, hq => by
    rcases List.mem_append.1 hq with hq | hq
    · exact flat_fine a p hw.2 hs q hq
    · rw [List.mem_singleton.1 hq]; exact ⟨⟨by simp, by simp⟩, by simp⟩
  | .bin op a b, p, hw, hs, q, hq => by
    rcases List.mem_append.1 hq with hq | hq
    · rcases List.mem_append.1 hq with hq | hq
      · exact flat_fine a p hw.2.2.1 hs.1 q hq
      · exact flat_fine b _ hw.2.2.2 hs.2 q hq
    · rw [List.mem_singleton.1 hq]; exact ⟨⟨by simp, by simp⟩, by simp⟩
  | .ite a b c, p, hw, hs, q, hq => by
    rcases List.mem_append.1 hq with hq | hq
    · rcases List.mem_append.1 hq with hq | hq
      · rcases List.mem_append.1 hq with hq | hq
        · exact flat_fine a p hw.1 hs.1 q hq
        · exact flat_fine b _ hw.2.1 hs.2.1 q hq
      · exact flat_fine c _ hw.2.2 hs.2.2 q hq
    · rw [List.mem_singleton.1 hq]; exact ⟨⟨by simp, by simp⟩, by simp⟩
theorem short_facts {s : ByteArray} (hs : s.size ≤ 400) (h : (prse s.data.toList).2.2 = 0) : ∃ x, prse s.data.toList = (flat x 0, 0, 0) ∧ wr x ∧ wf x ∧ dp x ≤ 64 ∧ Fitn (flat x 0) ∧ prse (Ex.prs x 0) = (flat x 0, 0, 0) ∧ (Ex.prs x 0).length ≤ 65536 ∧ prse (40 :: s.data.toList ++ [10, 41]) = (flat x 0, 0, 0) := by
  obtain ⟨x, h1, h2, h3, h4⟩ := prse_ok h
  obtain ⟨q1, q2, q3, q4⟩ := read_fine h3
  have hl : s.data.toList.length = s.size := (Lib.size_eq s).symm
  have hk : (kxs (Lx.toks s.data.toList).1).length = (Lx.toks s.data.toList).1.length := by simp [kxs]
  have h5 := toks_less (s := s.data.toList) (by omega)
  have hf := flat_fine x 0 q1 q2
  have hlen := (row_small 64 x 0 0 q1 (fun n hn => ⟨(hf n hn).1.1, (hf n hn).2⟩)).2
  have hsz : sz x ≤ 400 := by omega
  have hpl : (Ex.prs x 0).length + 30 ≤ (64 + 60) * 400 := Nat.le_trans hlen (Nat.mul_le_mul_left _ hsz)
  have hp : (Ex.prs x 0).length ≤ 65536 := by omega
  exact ⟨x, h1, q1, q3, h2, ⟨⟨by rw [flat_len]; omega, fun n hn => ⟨by have := (hf n hn).1.1; omega, (hf n hn).1.2⟩⟩, fun n hn => (hf n hn).2⟩, prse_prs q3 h2 hp, hp, prse_par (by omega) h3 h2 h4⟩
def Okn (l : List Nd) : Prop := ∀ n ∈ l, 0 ≤ n.op ∧ n.num ≤ 9223372036854775807
end Go.Proofs.YtdcjpinbflmikaaGreatDoor
namespace Go.Proofs.YtdcjpinbflmikaaGreatDoor
open Go.RowKit Ex
end Go.Proofs.YtdcjpinbflmikaaGreatDoor
