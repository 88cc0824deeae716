/- Facts and walks for the statement. -/
import Derived.Test.YtkgoikdppikkpaaGreatDoorPzT22
namespace Go.Proofs.YtkgoikdppikkpaaGreatDoor
open Ex
theorem run_ne : ∀ (ts : List Tk) (K : List Fr) (c : Option E), (Ex.run ts K c).2.1 ≠ 0
  | [], K, c => Ex.step_end K c
  | t :: ts, K, c => by
    unfold Ex.run
    split
    · exact run_ne ts _ _
    · assumption
theorem R_ne {ts : List Tk} {l : Nat} {e : Int} (h : R (.lev 1) ts = .bad l e) : e ≠ 0 := by
  rw [← run_R] at h
  unfold fin at h
  split at h
  · cases h
  · injection h with _ h2
    rw [← h2]; exact run_ne _ _ _
theorem frm_ok {ts : List Tk} (h : (frm ts).2.2 = 0) : ∃ r x, R (.lev 1) ts = .ok r x ∧ dp x ≤ 64 ∧ frm ts = (flat x 0, ts.length - r.length, 0) := by
  unfold frm at h ⊢
  cases hR : R (.lev 1) ts with
  | bad l e => rw [hR] at h; exact absurd h (R_ne hR)
  | ok r x =>
    rw [hR] at h; simp only at h ⊢
    by_cases hd : 64 < dp x
    · rw [if_pos hd] at h; cases h
    · exact ⟨r, x, rfl, by omega, if_neg hd⟩
theorem prse_ok {s : List UInt8} (h : (prse s).2.2 = 0) : ∃ x, prse s = (flat x 0, 0, 0) ∧ dp x ≤ 64 ∧ R (.lev 1) (kxs (Lx.toks s).1) = .ok [] x ∧ (Lx.toks s).2.2 = 0 := by
  unfold prse at h ⊢
  by_cases h1 : (Lx.toks s).2.2 ≠ 0
  · rw [if_pos h1] at h; exact absurd h h1
  · rw [if_neg h1] at h ⊢
    by_cases h2 : (frm (kxs (Lx.toks s).1)).2.2 = 3
    · rw [if_pos h2] at h; cases h
    · rw [if_neg h2] at h ⊢
      by_cases h3 : (frm (kxs (Lx.toks s).1)).2.2 = 0 ∧ (frm (kxs (Lx.toks s).1)).2.1 = (Lx.toks s).1.length
      · rw [if_pos h3]
        obtain ⟨r, x, q1, q2, q3⟩ := frm_ok h3.1
        have q4 := rd_less _ _ _ _ _ q1
        have q5 := h3.2
        rw [q3] at q5
        have q6 : (kxs (Lx.toks s).1).length = (Lx.toks s).1.length := by simp [kxs]
        have q7 : r = [] := List.length_eq_zero_iff.1 (by simp [one] at q4; simp only at q5; omega)
        subst q7
        exact ⟨x, by rw [q3], q2, q1, Decidable.byContradiction h1⟩
      · rw [if_neg h3] at h; simp only at h
        by_cases h4 : (frm (kxs (Lx.toks s).1)).2.2 = 0
        · rw [if_pos h4] at h; cases h
        · rw [if_neg h4] at h; exact absurd h h4
theorem prse_of {s : List UInt8} {x : E} (h : R (.lev 1) (kxs (Lx.toks s).1) = .ok [] x) (hd : dp x ≤ 64) (ht : (Lx.toks s).2.2 = 0) : prse s = (flat x 0, 0, 0) := by
  have hf : frm (kxs (Lx.toks s).1) = (flat x 0, (Lx.toks s).1.length, 0) := by unfold frm; rw [h]; simp only; rw [if_neg (by omega)]; simp [kxs]
  unfold prse
  rw [hf, if_neg (by simp [ht]), if_neg (by simp), if_pos ⟨rfl, rfl⟩]
theorem prse_prs {x : E} (h : wf x) (hd : dp x ≤ 64) (hl : (Ex.prs x 0).length ≤ 65536) : prse (Ex.prs x 0) = (flat x 0, 0, 0) := by
  obtain ⟨h1, h2⟩ := toks_pr h hl
  refine prse_of ?_ hd h1
  rw [show kxs (Lx.toks (Ex.prs x 0)).1 = pr x 0 from h2]
  have := (reads x h).top (pr01 h) (T := []) st_nil
  rwa [List.append_nil] at this
theorem sz_pr : ∀ (x : E) (L : Nat), sz x ≤ (pr x L).length
  | .num _, _ => Nat.le_refl _
  | .name _, _ => Nat.le_refl _
  | .tt, _ => Nat.le_refl _
  | .ff, _ => Nat.le_refl _
  | .un op a, L => by
    have h1 := sz_pr a 9
    show sz a + 1 ≤ (if lvl op < L then _ else _ : List Tk).length
    split <;> simp only [List.length_append, List.length_cons, List.length_nil] <;> omega
  | .bin op a b, L => by
    have h1 := sz_pr a (lvl op)
    have h2 := sz_pr b (lvl op + 1)
    show sz a + sz b + 1 ≤ (if lvl op < L then _ else _ : List Tk).length
    split <;> simp only [List.length_append, List.length_cons, List.length_nil] <;> omega
  | .ite a b c, L => by
    have h1 := sz_pr a 0
    have h2 := sz_pr b 0
    have h3 := sz_pr c 0
    show sz a + sz b + sz c + 1 ≤ (wT [105, 102] :: pr a 0 ++ wT [116, 104, 101, 110] :: pr b 0 ++ wT [101, 108, 115, 101] :: pr c 0 ++ [wT [101, 110, 100, 105, 102]]).length
    simp only [List.length_append, List.length_cons, List.length_nil]; omega
theorem read_fine {ts : List Tk} {x : E} (h : R (.lev 1) ts = .ok [] x) : wr x ∧ small x ∧ wf x ∧ sz x ≤ ts.length := by
  have hf : wr x ∧ small x := rd_fine _ (.lev 1) _ _ _ h
  exact ⟨hf.1, hf.2, wf_of hf.1 hf.2, Nat.le_trans (sz_pr x 0) (least h)⟩
/-! ### two of one row are the same -/
def rt : E → Nat → Nd
  | .num n, _ => ⟨1, n, [], -1, -1, -1⟩
  | .name s, _ => ⟨2, 0, s, -1, -1, -1⟩
  | .tt, _ => ⟨3, 0, [], -1, -1, -1⟩
  | .ff, _ => ⟨4, 0, [], -1, -1, -1⟩
  | .un op a, p => ⟨op, 0, [], (p + sz a : Nat) - 1, -1, -1⟩
  | .bin op a b, p => ⟨op, 0, [], (p + sz a : Nat) - 1, (p + sz a + sz b : Nat) - 1, -1⟩
  | .ite a b c, p => ⟨22, 0, [], (p + sz a : Nat) - 1, (p + sz a + sz b : Nat) - 1, (p + sz a + sz b + sz c : Nat) - 1⟩
def ini : E → Nat → List Nd
  | .un _ a, p => flat a p
  | .bin _ a b, p => flat a p ++ flat b (p + sz a)
  | .ite a b c, p => flat a p ++ flat b (p + sz a) ++ flat c (p + sz a + sz b)
  | _, _ => []
theorem flat_rt (x : E) (p : Nat) : flat x p = ini x p ++ [rt x p] := by cases x <;> rfl
def ar (n : Nd) : Nat := if n.c ≠ -1 then 3 else if n.b ≠ -1 then 2 else if n.a ≠ -1 then 1 else 0
def arE : E → Nat
  | .un _ _ => 1
  | .bin _ _ _ => 2
  | .ite _ _ _ => 3
  | _ => 0
theorem ar3 {n : Nd} (h : n.c ≠ -1) : ar n = 3 := if_pos h
theorem ar2 {n : Nd} (h : n.c = -1) (h2 : n.b ≠ -1) : ar n = 2 := (if_neg (fun q => q h)).trans (if_pos h2)
theorem ar1 {n : Nd} (h : n.c = -1) (h2 : n.b = -1) (h3 : n.a ≠ -1) : ar n = 1 := (if_neg (fun q => q h)).trans ((if_neg (fun q => q h2)).trans (if_pos h3))
theorem ar0 {n : Nd} (h : n.c = -1) (h2 : n.b = -1) (h3 : n.a = -1) : ar n = 0 := (if_neg (fun q => q h)).trans ((if_neg (fun q => q h2)).trans (if_neg (fun q => q h3)))
theorem ar_rt (x : E) (p : Nat) : ar (rt x p) = arE x := by
  cases x with
  | un op a => have := sz_pos a; exact ar1 rfl rfl (show ((p + sz a : Nat) : Int) - 1 ≠ -1 by omega)
  | bin op a b => have := sz_pos b; exact ar2 rfl (show ((p + sz a + sz b : Nat) : Int) - 1 ≠ -1 by omega)
  | ite a b c => have := sz_pos c; exact ar3 (show ((p + sz a + sz b + sz c : Nat) : Int) - 1 ≠ -1 by omega)
  | _ => exact ar0 rfl rfl rfl
theorem flat_inj : ∀ (x y : E) (p : Nat), flat x p = flat y p → x = y := by
  intro x
  induction x with
  | un op a iha =>
    intro y p h
    rw [flat_rt _ p, flat_rt y p] at h
    obtain ⟨h1, h2⟩ := List.append_inj' h rfl
    injection h2 with h2 _
    have h3 := congrArg ar h2
    rw [ar_rt, ar_rt] at h3
    cases y <;> simp only [arE] at h3 <;> first | (exfalso; omega) | skip
    rename_i op' a'
    simp only [rt] at h2
    obtain ⟨q1, _, _, q4, q5, q6⟩ := Nd.mk.inj h2
    rw [iha _ _ h1, show op = op' by omega]
  | bin op a b iha ihb =>
    intro y p h
    rw [flat_rt _ p, flat_rt y p] at h
    obtain ⟨h1, h2⟩ := List.append_inj' h rfl
    injection h2 with h2 _
    have h3 := congrArg ar h2
    rw [ar_rt, ar_rt] at h3
    cases y <;> simp only [arE] at h3 <;> first | (exfalso; omega) | skip
    rename_i op' a' b'
    simp only [rt] at h2
    obtain ⟨q1, _, _, q4, q5, q6⟩ := Nd.mk.inj h2
    have e1 : sz a = sz a' := by omega
    obtain ⟨r1, r2⟩ := List.append_inj h1 (by rw [flat_len, flat_len, e1])
    rw [← e1] at r2
    rw [iha _ _ r1, ihb _ _ r2, show op = op' by omega]
  | ite a b c iha ihb ihc =>
    intro y p h
    rw [flat_rt _ p, flat_rt y p] at h
    obtain ⟨h1, h2⟩ := List.append_inj' h rfl
    injection h2 with h2 _
    have h3 := congrArg ar h2
    rw [ar_rt, ar_rt] at h3
    cases y <;> simp only [arE] at h3 <;> first | (exfalso; omega) | skip
    rename_i a' b' c'
    simp only [rt] at h2
    obtain ⟨_, _, _, q4, q5, q6⟩ := Nd.mk.inj h2
    have e1 : sz a = sz a' := by omega
    have e2 : sz b = sz b' := by omega
    obtain ⟨r0, r3⟩ := List.append_inj h1 (by rw [List.length_append, List.length_append, flat_len, flat_len, flat_len, flat_len, e1, e2])
    obtain ⟨r1, r2⟩ := List.append_inj r0 (by rw [flat_len, flat_len, e1])
    rw [← e1] at r2
    rw [← e1, ← e2] at r3
    rw [iha _ _ r1, ihb _ _ r2, ihc _ _ r3]
  | _ =>
    intro y p h
    rw [flat_rt _ p, flat_rt y p] at h
    obtain ⟨_, h2⟩ := List.append_inj' h rfl
    injection h2 with h2 _
    have h3 := congrArg ar h2
    rw [ar_rt, ar_rt] at h3
    cases y <;> simp only [arE] at h3 <;> first | (exfalso; omega) | skip
    all_goals
      have q1 := congrArg Nd.op h2
      have q2 := congrArg Nd.num h2
      have q3 := congrArg Nd.nm h2
      simp only [rt] at q1 q2 q3
      first | rfl | (exfalso; omega) | (rw [q3]) | (congr 1; omega)
/-! ### in parentheses -/
theorem toks_par {s : List UInt8} (h : s.length + 3 ≤ 65536) (ht : (Lx.toks s).2.2 = 0) :
    (Lx.toks (40 :: s ++ [10, 41])).2.2 = 0 ∧ kxs (Lx.toks (40 :: s ++ [10, 41])).1 = (4, [40]) :: kxs (Lx.toks s).1 ++ [(4, [41])] := by
  have h1 : Lx.toks [41] = ([⟨4, [41], 0⟩], 0, 0) := by rfl
  have h2 : Lx.toks (40 :: s) = Lx.pt ⟨4, [40], 0⟩ (Lx.mvR 1 (Lx.toks s)) := by
    have b0 : Lx.blk false (40 :: s) = 0 := by unfold Lx.blk; rw [if_neg (by decide), if_neg (by intro h; exact absurd h.1 (by decide))]
    have l1 : Lx.lng (40 :: s) = 1 := by
      rw [Lx.lng_other (by decide) (by decide)]
      cases s with
      | nil => decide
      | cons d r =>
        show (if Lx.signs.contains [40, d] = true then 2 else if Lx.signs.contains [40] = true then 1 else 0) = 1
        rw [if_neg (by simp [Lx.signs]), if_pos (by decide)]
    rw [Lx.toks_C (show (40 :: s).length ≤ 65536 by simp; omega), Lx.toks_C (show s.length ≤ 65536 by omega)]
    rw [b0, List.drop_zero, Lx.C_good 0 (by simp) (by rw [l1]; simp), ← Lx.C_shift 1 _ _ _ (Nat.le_refl _)]
    have n1 : Lx.nx (40 :: s) = Lx.blk false s + 1 := by unfold Lx.nx; rw [l1]; simp [Nat.add_comm]
    rw [n1, List.drop_succ_cons, Nat.zero_add]
    congr 1
    unfold Lx.tk; rw [l1]; rfl
  rw [show 40 :: s ++ [10, 41] = (40 :: s) ++ 10 :: [41] from rfl, Lx.toks_cat _ _ (by simp; omega), h1, h2]
  unfold Lx.jq Lx.pt Lx.mvR
  simp only [ht, if_true, ne_eq, not_true_eq_false, if_false]
  refine ⟨trivial, ?_⟩
  unfold kxs
  simp [Lx.mvT]
theorem prse_par {s : List UInt8} {x : E} (h : s.length + 3 ≤ 65536) (hR : R (.lev 1) (kxs (Lx.toks s).1) = .ok [] x) (hd : dp x ≤ 64) (ht : (Lx.toks s).2.2 = 0) : prse (40 :: s ++ [10, 41]) = (flat x 0, 0, 0) := by
  obtain ⟨h1, h2⟩ := toks_par h ht
  refine prse_of ?_ hd h1
  rw [h2]
  have := in_par hR (T := []) st_nil
  rwa [List.append_nil] at this
end Go.Proofs.YtkgoikdppikkpaaGreatDoor
namespace Go.Proofs.YtkgoikdppikkpaaGreatDoor
open Go.RowKit Ex
structure Xb (w : World) (b : Nat) (A : Option Addr) (c : Nat) (l : List Nd) : Prop where
  blk : IsBlk w b 29 #[.slice A l.length c]
  row : NdR w w.heap.size A l
  cap : l.length ≤ c
theorem NdR.on {w w' : World} {A : Option Addr} {l : List Nd} (h : NdR w w.heap.size A l) (hb : Below w.heap.size w w') : NdR w' w'.heap.size A l := (h.below hb).more hb.size
theorem Xb.below {w w' : World} {b : Nat} {A : Option Addr} {c : Nat} {l : List Nd} (h : Xb w b A c l) (hb : Below w.heap.size w w') : Xb w' b A c l := ⟨h.blk.below hb h.blk.lt, h.row.on hb, h.cap⟩
theorem Xb.at_ {w : World} {b : Nat} {A : Option Addr} {c : Nat} {l : List Nd} (h : Xb w b A c l) : w.cell? ⟨b, 0, none⟩ = some (.slice A l.length c) := h.blk.at_ 0
theorem Xb.new {w : World} {A : Option Addr} {c : Nat} {l : List Nd} (h : NdR w w.heap.size A l) (hc : l.length ≤ c) : Xb (w.alloc (.cells #[.slice A l.length c] 29)) w.heap.size A c l :=
  ⟨IsBlk.new _ _ _, h.on ((Below.refl _ _).alloc (Nat.le_refl _) _), hc⟩
def PrA (X : List Nd × Nat × Int) (w : World) (e : Ending) (w' : World) : Prop :=
  ∃ A c, NdR w' w'.heap.size A X.1 ∧ X.1.length ≤ c ∧ e = .returned (.tuple #[.agg #[.slice A X.1.length c], .int .i64 (X.2.1 : Nat), .int .i64 X.2.2]) ∧ Below w.heap.size w w'
theorem parse_val (s : ByteArray) {X : List Nd × Nat × Int} (hX : prse s.data.toList = X) (hs : s.size ≤ maxLen) (w : World) (T : Tx w) : Calls Tryz.prog 16 #[.string s] w (PrA X w) := by
  refine (eparse_any s w T hs).mono ?_
  rintro e w' ⟨A, c, ho, he, hb⟩
  rw [hX] at ho he
  obtain ⟨h1, h2, _⟩ := own_ndr ho rfl
  exact ⟨A, c, h1, h2, he, hb⟩
theorem chk_flat {x : E} (hw : wr x) (hd : dp x ≤ 64) : chk (flat x 0) = 0 := by
  have h0 := dep_flat hw
  have h1 : dp x ≠ 0 := by cases x <;> simp [dp]
  unfold chk
  rw [h0, if_neg h1, if_neg (by omega)]
end Go.Proofs.YtkgoikdppikkpaaGreatDoor
namespace Go.Proofs.YtkgoikdppikkpaaGreatDoor
open Go.RowKit Ex
end Go.Proofs.YtkgoikdppikkpaaGreatDoor
namespace Go.Proofs.YtkgoikdppikkpaaGreatDoor
open Ex
theorem toks_less {s : List UInt8} (h : s.length ≤ 65536) : (Lx.toks s).1.length ≤ s.length := by
  rw [Lx.toks_C h]
  have h1 := Lx.C_sum _ (s.drop (Lx.blk false s)) (Lx.blk false s) (Nat.le_refl _)
  have h2 := Lx.C_goods _ (s.drop (Lx.blk false s)) (Lx.blk false s) (Nat.le_refl _)
  have h3 : ∀ l : List Lx.T, (∀ t ∈ l, Lx.Good t) → 2 * l.length ≤ (l.map fun t => t.tx.length + 1).sum := by
    intro l
    induction l with
    | nil => intro _; exact Nat.le_refl _
    | cons t l ih =>
      intro h
      have h4 := ih (fun q hq => h q (List.mem_cons_of_mem _ hq))
      have h5 := h t List.mem_cons_self
      have h6 : 1 ≤ t.tx.length := by
        refine Nat.one_le_iff_ne_zero.2 fun e => ?_
        have e2 := List.length_eq_zero_iff.1 e
        exact absurd h5.2.1 (by rw [← h5.1, e2]; decide)
      simp only [List.length_cons, List.map_cons, List.sum_cons]; omega
  have h4 := h3 _ h2
  have h5 : (s.drop (Lx.blk false s)).length ≤ s.length := by rw [List.length_drop]; omega
  omega
theorem flat_fine : ∀ (x : E) (p : Nat), wr x → small x → ∀ n ∈ flat x p, (n.nm.length ≤ 64 ∧ 0 ≤ n.op) ∧ n.num ≤ 9223372036854775807
  | .num n, p, _, h, q, hq => by
    rw [List.mem_singleton.1 hq]
    have h : n ≤ 9223372036854775807 := h
    exact ⟨⟨by simp, by simp⟩, by simp only; omega⟩
  | .name s, p, hw, _, q, hq => by
    rw [List.mem_singleton.1 hq]
    refine ⟨⟨?_, by simp⟩, by simp⟩
    have hw : Lx.is s = 2 := hw
    refine Decidable.byContradiction fun h => ?_
    unfold Lx.is at hw
    rw [if_pos (by simp only at h; omega)] at hw
    cases hw
  | .tt, p, _, _, q, hq => by rw [List.mem_singleton.1 hq]; exact ⟨⟨by simp, by simp⟩, by simp⟩
  | .ff, p, _, _, q, hq => by rw [List.mem_singleton.1 hq]; exact ⟨⟨by simp, by simp⟩, by simp⟩
  | .un op a, p, hw, hs, q, hq => by
    rcases List.mem_append.1 hq with hq | hq
    · exact flat_fine a p hw.2 hs q hq
    · rw [List.mem_singleton.1 hq]; exact ⟨⟨by simp, by simp⟩, by simp⟩
  | .bin op a b, p, hw, hs, q, hq => by
    rcases List.mem_append.1 hq with hq | hq
    · rcases List.mem_append.1 hq with hq | hq
      · exact flat_fine a p hw.2.2.1 hs.1 q hq
      · exact flat_fine b _ hw.2.2.2 hs.2 q hq
    · rw [List.mem_singleton.1 hq]; exact ⟨⟨by simp, by simp⟩, by simp⟩
  | .ite a b c, p, hw, hs, q, hq => by
    rcases List.mem_append.1 hq with hq | hq
    · rcases List.mem_append.1 hq with hq | hq
      · rcases List.mem_append.1 hq with hq | hq
        · exact flat_fine a p hw.1 hs.1 q hq
        · exact flat_fine b _ hw.2.1 hs.2.1 q hq
      · exact flat_fine c _ hw.2.2 hs.2.2 q hq
    · rw [List.mem_singleton.1 hq]; exact ⟨⟨by simp, by simp⟩, by simp⟩
theorem short_facts {s : ByteArray} (hs : s.size ≤ 400) (h : (prse s.data.toList).2.2 = 0) : ∃ x, prse s.data.toList = (flat x 0, 0, 0) ∧ wr x ∧ wf x ∧ dp x ≤ 64 ∧ Fitn (flat x 0) ∧ prse (Ex.prs x 0) = (flat x 0, 0, 0) ∧ (Ex.prs x 0).length ≤ 65536 ∧ prse (40 :: s.data.toList ++ [10, 41]) = (flat x 0, 0, 0) := by
  obtain ⟨x, h1, h2, h3, h4⟩ := prse_ok h
  obtain ⟨q1, q2, q3, q4⟩ := read_fine h3
  have hl : s.data.toList.length = s.size := (Lib.size_eq s).symm
  have hk : (kxs (Lx.toks s.data.toList).1).length = (Lx.toks s.data.toList).1.length := by simp [kxs]
  have h5 := toks_less (s := s.data.toList) (by omega)
  have hf := flat_fine x 0 q1 q2
  have hlen := (row_small 64 x 0 0 q1 (fun n hn => ⟨(hf n hn).1.1, (hf n hn).2⟩)).2
  have hsz : sz x ≤ 400 := by omega
  have hpl : (Ex.prs x 0).length + 30 ≤ (64 + 60) * 400 := Nat.le_trans hlen (Nat.mul_le_mul_left _ hsz)
  have hp : (Ex.prs x 0).length ≤ 65536 := by omega
  exact ⟨x, h1, q1, q3, h2, ⟨⟨by rw [flat_len]; omega, fun n hn => ⟨by have := (hf n hn).1.1; omega, (hf n hn).1.2⟩⟩, fun n hn => (hf n hn).2⟩, prse_prs q3 h2 hp, hp, prse_par (by omega) h3 h2 h4⟩
def Okn (l : List Nd) : Prop := ∀ n ∈ l, 0 ≤ n.op ∧ n.num ≤ 9223372036854775807
end Go.Proofs.YtkgoikdppikkpaaGreatDoor
namespace Go.Proofs.YtkgoikdppikkpaaGreatDoor
open Go.RowKit Ex
end Go.Proofs.YtkgoikdppikkpaaGreatDoor
namespace Go.Proofs.YtkgoikdppikkpaaGreatDoor
open Go.RowKit Ex
def wkS : List ByteArray := [⟨#[55, 32, 100, 105, 118, 32, 50, 32, 45, 32, 120]⟩, ⟨#[49, 32, 60, 32, 50, 32, 97, 110, 100, 32, 120, 32, 61, 32, 53]⟩, ⟨#[102, 97, 108, 115, 101, 32, 97, 110, 100, 32, 121]⟩, ⟨#[116, 114, 117, 101, 32, 111, 114, 32, 49, 32, 100, 105, 118, 32, 48, 32, 61, 32, 49]⟩, ⟨#[49, 32, 100, 105, 118, 32, 48]⟩, ⟨#[49, 32, 43, 32, 116, 114, 117, 101]⟩, ⟨#[121]⟩, ⟨#[105, 102, 32, 116, 114, 117, 101, 32, 116, 104, 101, 110, 32, 49, 32, 101, 108, 115, 101, 32, 102, 97, 108, 115, 101, 32, 101, 110, 100, 105, 102]⟩]
def wkV : List Ev.Vl := [⟨1, -2, false⟩, ⟨2, 0, true⟩, ⟨2, 0, false⟩, ⟨2, 0, true⟩, ⟨0, 0, false⟩, ⟨0, 0, false⟩, ⟨0, 0, false⟩, ⟨1, 1, false⟩]
def wkE : List Int := [0, 0, 0, 0, 61, 90, 90, 0]
def wkB : List Ev.Bd := [([120], 5)]
structure WkI (i : Nat) (s : ByteArray) (x : E) (v : Ev.Vl) (e : Int) : Prop where
  hs : wkS[i]? = some s
  hv : wkV[i]? = some v
  he : wkE[i]? = some e
  hp : prse s.data.toList = (flat x 0, 0, 0)
  hm : small x
  ho : resZ (Ev.wo wkB x) = (v, e)
  hz : s.size ≤ 100
theorem wk_i {i : Nat} (h : i < 8) : ∃ s x v e, WkI i s x v e := by
  match i, h with
  | 0, _ => exact ⟨_, .bin 11 (.bin 8 (.num 7) (.num 2)) (.name [120]), _, _, rfl, rfl, rfl, by kernel_rfl, by simp [small], by kernel_rfl, by decide⟩
  | 1, _ => exact ⟨_, .bin 18 (.bin 12 (.num 1) (.num 2)) (.bin 16 (.name [120]) (.num 5)), _, _, rfl, rfl, rfl, by kernel_rfl, by simp [small], by kernel_rfl, by decide⟩
  | 2, _ => exact ⟨_, .bin 18 .ff (.name [121]), _, _, rfl, rfl, rfl, by kernel_rfl, by simp [small], by kernel_rfl, by decide⟩
  | 3, _ => exact ⟨_, .bin 19 .tt (.bin 16 (.bin 8 (.num 1) (.num 0)) (.num 1)), _, _, rfl, rfl, rfl, by kernel_rfl, by simp [small], by kernel_rfl, by decide⟩
  | 4, _ => exact ⟨_, .bin 8 (.num 1) (.num 0), _, _, rfl, rfl, rfl, by kernel_rfl, by simp [small], by kernel_rfl, by decide⟩
  | 5, _ => exact ⟨_, .bin 10 (.num 1) .tt, _, _, rfl, rfl, rfl, by kernel_rfl, by simp [small], by kernel_rfl, by decide⟩
  | 6, _ => exact ⟨_, .name [121], _, _, rfl, rfl, rfl, by kernel_rfl, by simp [small], by kernel_rfl, by decide⟩
  | 7, _ => exact ⟨_, .ite .tt (.num 1) .ff, _, _, rfl, rfl, rfl, by kernel_rfl, by simp [small], by kernel_rfl, by decide⟩
theorem wkB_fit : FitB wkB := ⟨by decide, fun q hq => by rw [List.mem_singleton.1 hq]; exact ⟨by decide, by decide⟩⟩
def vlC (v : Ev.Vl) : List Value := [.int .u8 (v.k : Nat), .int .i64 v.n, .bool v.b]
structure WkW (w w0 : World) : Prop where
  below : Below w.heap.size w w0
  b0 : IsBlk w0 w.heap.size 88 #[.string ⟨#[120]⟩, .int .i64 5]
  b1 : IsBlk w0 (w.heap.size + 1) 9 (wkS.map Value.string).toArray
  b2 : IsBlk w0 (w.heap.size + 2) 74 (wkV.flatMap vlC).toArray
  b3 : IsBlk w0 (w.heap.size + 3) 24 (wkE.map (Value.int .i64)).toArray
theorem WkW.on {w w0 w1 : World} (h : WkW w w0) (hb : Below w0.heap.size w0 w1) : WkW w w1 :=
  ⟨h.below.trans (hb.mono h.below.size), h.b0.below hb h.b0.lt, h.b1.below hb h.b1.lt, h.b2.below hb h.b2.lt, h.b3.below hb h.b3.lt⟩
theorem WkW.new (w : World) : WkW w ((((w.alloc (.cells #[.string ⟨#[120]⟩, .int .i64 5] 88)).alloc (.cells (wkS.map Value.string).toArray 9)).alloc (.cells (wkV.flatMap vlC).toArray 74)).alloc (.cells (wkE.map (Value.int .i64)).toArray 24)) := by
  have a1 : ∀ (v : World) (o : Obj), Below v.heap.size v (v.alloc o) := fun v o => (Below.refl _ _).alloc (Nat.le_refl _) _
  have s1 : ∀ (v : World) (o : Obj), (v.alloc o).heap.size = v.heap.size + 1 := fun v o => by simp
  obtain ⟨V1, hV1⟩ : ∃ V, V = w.alloc (.cells #[.string ⟨#[120]⟩, .int .i64 5] 88) := ⟨_, rfl⟩
  obtain ⟨V2, hV2⟩ : ∃ V, V = V1.alloc (.cells (wkS.map Value.string).toArray 9) := ⟨_, rfl⟩
  obtain ⟨V3, hV3⟩ : ∃ V, V = V2.alloc (.cells (wkV.flatMap vlC).toArray 74) := ⟨_, rfl⟩
  obtain ⟨V4, hV4⟩ : ∃ V, V = V3.alloc (.cells (wkE.map (Value.int .i64)).toArray 24) := ⟨_, rfl⟩
  rw [← hV1, ← hV2, ← hV3, ← hV4]
  have z1 : V1.heap.size = w.heap.size + 1 := by rw [hV1, s1]
  have z2 : V2.heap.size = w.heap.size + 2 := by rw [hV2, s1, z1]
  have z3 : V3.heap.size = w.heap.size + 3 := by rw [hV3, s1, z2]
  have c1 : Below w.heap.size w V1 := by rw [hV1]; exact a1 _ _
  have c2 : Below V1.heap.size V1 V2 := by rw [hV2]; exact a1 _ _
  have c3 : Below V2.heap.size V2 V3 := by rw [hV3]; exact a1 _ _
  have c4 : Below V3.heap.size V3 V4 := by rw [hV4]; exact a1 _ _
  have k1 : IsBlk V1 w.heap.size 88 #[.string ⟨#[120]⟩, .int .i64 5] := by rw [hV1]; exact IsBlk.new _ _ _
  have k2 : IsBlk V2 (w.heap.size + 1) 9 (wkS.map Value.string).toArray := by rw [hV2, ← z1]; exact IsBlk.new _ _ _
  have k3 : IsBlk V3 (w.heap.size + 2) 74 (wkV.flatMap vlC).toArray := by rw [hV3, ← z2]; exact IsBlk.new _ _ _
  have k4 : IsBlk V4 (w.heap.size + 3) 24 (wkE.map (Value.int .i64)).toArray := by rw [hV4, ← z3]; exact IsBlk.new _ _ _
  have k11 := (k1.below c2 k1.lt)
  have k12 := (k11.below c3 k11.lt)
  have k21 := (k2.below c3 k2.lt)
  exact ⟨c1.trans ((c2.trans ((c3.trans (c4.mono c3.size)).mono c2.size)).mono c1.size), k12.below c4 k12.lt, k21.below c4 k21.lt, k3.below c4 k3.lt, k4⟩
theorem wk_bd {w w0 : World} (h : WkW w w0) : BdR w0 w0.heap.size (some ⟨w.heap.size, 0, none⟩) wkB := fun j hj => by
  obtain rfl : j = 0 := by
    have : j < 1 := hj
    omega
  exact ⟨w.heap.size, 0, rfl, h.b0.lt, h.b0.at_ 0, h.b0.at_ 1⟩
set_option maxHeartbeats 4000000 in
set_option maxRecDepth 100000 in
theorem evworks_any (w : World) (T : Tx w) :
    Calls Tryz.prog 44 #[] w fun e w' => e = .returned (.bool true) ∧ Below w.heap.size w w' := by
  have HW := Lib.hid (WkW.new w)
  have HT := Lib.hid (fun v (h : WkW w v) => T.below h.below)
  clear T
  go_enter Tryz.func44, Tryz.ntmps44
  go_wp2
  go_loopw [5] (fun iv wr => ∃ i : Nat, iv = .int .i64 i ∧ i ≤ 8 ∧ Hid (WkW w wr)) (fun iv _ => 8 - (intOf iv).toNat)
  case atStart => exact ⟨0, rfl, by decide, HW⟩
  case round =>
    obtain ⟨i, rfl, hi, HI⟩ := hrel
    by_cases hi8 : i < 8
    · have hiI : (i : Int) < 8 := by omega
      obtain ⟨S, x, v, er, hk⟩ := wk_i hi8
      obtain ⟨x', e1, hwr, -, hdp, hft, -⟩ := short_facts (Nat.le_trans hk.hz (by decide)) (by rw [hk.hp])
      have e2 : x = x' := flat_inj _ _ _ (Prod.mk.inj (hk.hp.symm.trans e1)).1
      subst e2
      have HP := Lib.hid (parse_val S hk.hp (Nat.le_trans hk.hz (by decide)) wr (HT.out _ HI.out))
      have HEV := Lib.hid (fun v1 (h : WkW w v1) A c (hr : NdR v1 v1.heap.size A (flat x 0)) (hc : (flat x 0).length ≤ c) => eval_any v1 (HT.out _ h) A c (flat x 0) hr hc hft.1 (some ⟨w.heap.size, 0, none⟩) 1 wkB (wk_bd h) (Nat.le_refl _) wkB_fit (v, er) (Or.inr ⟨chk_flat hwr hdp, x, hwr, hdp, hk.hm, rfl, hk.ho.symm⟩))
      have c1 := HI.out.b1.at_ i
      have HC := Lib.hid (fun v1 (h : WkW w v1) => (show v1.cell? ⟨w.heap.size + 2, i * 3, none⟩ = some (.int .u8 (v.k : Nat)) ∧ v1.cell? ⟨w.heap.size + 2, i * 3 + 1, none⟩ = some (.int .i64 v.n) ∧ v1.cell? ⟨w.heap.size + 2, i * 3 + 2, none⟩ = some (.bool v.b) ∧ v1.cell? ⟨w.heap.size + 3, i, none⟩ = some (.int .i64 er) from by
        obtain ⟨hv8, hv⟩ := List.getElem?_eq_some_iff.1 hk.hv
        have q := fun (k : Nat) (u : Value) (hk : k < 3) (hu : (vlC wkV[i])[k]? = some u) => (fl_at (f := vlC) (k := 3) (fun _ => rfl) wkV i k hv8 hk).trans hu
        rw [h.b2.at_, h.b2.at_, h.b2.at_, h.b3.at_, List.getElem?_toArray, List.getElem?_toArray, List.getElem?_toArray, List.getElem?_toArray, List.getElem?_map, hk.he]
        have q0 := q 0 _ (by omega) rfl
        rw [Nat.add_zero] at q0
        rw [q0, q 1 _ (by omega) rfl, q 2 _ (by omega) rfl, hv]
        exact ⟨rfl, rfl, rfl, rfl⟩))
      rw [List.getElem?_toArray, List.getElem?_map, hk.hs] at c1
      simp only [Option.map_some] at c1
      have HI8 := Lib.hid hi8
      generalize flat x 0 = L at *
      obtain ⟨vk, vn, vb⟩ := v
      unfold outZ vlA at HEV
      simp only at HEV HC
      clear hk e1 hwr hdp hft hi8
      go_wp2_with fail
      refine HP.out.mono ?_
      rintro e w1 ⟨A, c, row, cap, rfl, hb⟩
      simp only at row cap
      obtain ⟨V, hV⟩ : ∃ V, V = w1.alloc (.cells #[.slice A L.length c] 29) := ⟨_, rfl⟩
      have hv := hb.alloc hb.size (.cells #[.slice A L.length c] 29)
      rw [← hV] at hv
      have xb : Xb V w1.heap.size A c L := by rw [hV]; exact Xb.new row cap
      have k0 := xb.at_
      have I1 := Lib.hid (HI.out.on hv)
      have HE1 := Lib.hid (HEV.out V I1.out A c xb.row cap)
      have HV := Lib.hid hV
      rw [hV] at k0
      clear hV hv xb row cap hb HEV HP
      go_wp2_with fail
      rw [← HV.out]
      refine HE1.out.mono ?_
      rintro e w2 ⟨rfl, hb⟩
      have I2 := Lib.hid (I1.out.on (hb.alloc hb.size (.cells #[.int .u8 (vk : Nat), .int .i64 vn, .bool vb] 74)))
      obtain ⟨y0, y1, y2, y3⟩ := HC.out _ I2.out
      have ze : (er != er) = false := by simp [bne]
      clear hb HE1 HC
      have i8 : (i : Int) ≤ 8 := by omega
      go_wp2_with fail
      go_quiet (fail)
      go_wp2
      go_roundw
      case rel => exact ⟨i + 1, by go_num, HI8.out, Lib.hid (I2.out.on (below_drewN (Below.refl _ _) _))⟩
      case measure => have := HI8.out; simp [intOf]; omega
    · obtain rfl : i = 8 := by omega
      have HB := Lib.hid HI.out.below
      clear hi8
      go_wp2
      go_ret
      exact ⟨rfl, HB.out⟩
end Go.Proofs.YtkgoikdppikkpaaGreatDoor
