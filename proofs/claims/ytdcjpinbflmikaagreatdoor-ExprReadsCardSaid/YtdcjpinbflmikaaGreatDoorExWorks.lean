/- Plain facts on layer 8: what Print writes Parse reads as it was; what is read may be printed; in parentheses it is the same; two of one row are the same. Nothing is asked.
Layer 8's statements: what they share, walked: boxes of rows; works' values. Conditions: the tables hold what their texts lay.
Layer 8's statements: few, walked. Conditions: the row of nodes lies in memory; lengths are such as come in.
Layer 8's statements, plain: what is parsed of a short text; what is few. Nothing is asked.
Layer 8's statements: works, walked: it answers true. Conditions: the tables hold what their texts lay. -/
import Derived.Test.YtdcjpinbflmikaaGreatDoorExPrint
namespace Go.Proofs.YtdcjpinbflmikaaGreatDoor
open Ex

theorem run_ne : ∀ (ts : List Tk) (K : List Fr) (c : Option E), (Ex.run ts K c).2.1 ≠ 0
  | [], K, c => Ex.step_end K c
  | t :: ts, K, c => by
    unfold Ex.run
    split
    · exact run_ne ts _ _
    · assumption
theorem R_ne {ts : List Tk} {l : Nat} {e : Int} (h : R (.lev 1) ts = .bad l e) : e ≠ 0 := by
  rw [← run_R] at h
  unfold fin at h
  split at h
  · cases h
  · injection h with _ h2
    rw [← h2]; exact run_ne _ _ _
theorem frm_ok {ts : List Tk} (h : (frm ts).2.2 = 0) : ∃ r x, R (.lev 1) ts = .ok r x ∧ dp x ≤ 64 ∧ frm ts = (flat x 0, ts.length - r.length, 0) := by
  unfold frm at h ⊢
  cases hR : R (.lev 1) ts with
  | bad l e => rw [hR] at h; exact absurd h (R_ne hR)
  | ok r x =>
    rw [hR] at h; simp only at h ⊢
    by_cases hd : 64 < dp x
    · rw [if_pos hd] at h; cases h
    · exact ⟨r, x, rfl, by omega, if_neg hd⟩
theorem prse_ok {s : List UInt8} (h : (prse s).2.2 = 0) : ∃ x, prse s = (flat x 0, 0, 0) ∧ dp x ≤ 64 ∧ R (.lev 1) (kxs (Lx.toks s).1) = .ok [] x ∧ (Lx.toks s).2.2 = 0 := by
  unfold prse at h ⊢
  by_cases h1 : (Lx.toks s).2.2 ≠ 0
  · rw [if_pos h1] at h; exact absurd h h1
  · rw [if_neg h1] at h ⊢
    by_cases h2 : (frm (kxs (Lx.toks s).1)).2.2 = 3
    · rw [if_pos h2] at h; cases h
    · rw [if_neg h2] at h ⊢
      by_cases h3 : (frm (kxs (Lx.toks s).1)).2.2 = 0 ∧ (frm (kxs (Lx.toks s).1)).2.1 = (Lx.toks s).1.length
      · rw [if_pos h3]
        obtain ⟨r, x, q1, q2, q3⟩ := frm_ok h3.1
        have q4 := rd_less _ _ _ _ _ q1
        have q5 := h3.2
        rw [q3] at q5
        have q6 : (kxs (Lx.toks s).1).length = (Lx.toks s).1.length := by simp [kxs]
        have q7 : r = [] := List.length_eq_zero_iff.1 (by simp [one] at q4; simp only at q5; omega)
        subst q7
        exact ⟨x, by rw [q3], q2, q1, Decidable.byContradiction h1⟩
      · rw [if_neg h3] at h; simp only at h
        by_cases h4 : (frm (kxs (Lx.toks s).1)).2.2 = 0
        · rw [if_pos h4] at h; cases h
        · rw [if_neg h4] at h; exact absurd h h4
theorem prse_of {s : List UInt8} {x : E} (h : R (.lev 1) (kxs (Lx.toks s).1) = .ok [] x) (hd : dp x ≤ 64) (ht : (Lx.toks s).2.2 = 0) : prse s = (flat x 0, 0, 0) := by
  have hf : frm (kxs (Lx.toks s).1) = (flat x 0, (Lx.toks s).1.length, 0) := by unfold frm; rw [h]; simp only; rw [if_neg (by omega)]; simp [kxs]
  unfold prse
  rw [hf, if_neg (by simp [ht]), if_neg (by simp), if_pos ⟨rfl, rfl⟩]
theorem prse_prs {x : E} (h : wf x) (hd : dp x ≤ 64) (hl : (Ex.prs x 0).length ≤ 65536) : prse (Ex.prs x 0) = (flat x 0, 0, 0) := by
  obtain ⟨h1, h2⟩ := toks_pr h hl
  refine prse_of ?_ hd h1
  rw [show kxs (Lx.toks (Ex.prs x 0)).1 = pr x 0 from h2]
  have := (reads x h).top (pr01 h) (T := []) st_nil
  rwa [List.append_nil] at this
theorem sz_pr : ∀ (x : E) (L : Nat), sz x ≤ (pr x L).length
  | .num _, _ => Nat.le_refl _
  | .name _, _ => Nat.le_refl _
  | .tt, _ => Nat.le_refl _
  | .ff, _ => Nat.le_refl _
  | .un op a, L => by
    have h1 := sz_pr a 9
    show sz a + 1 ≤ (if lvl op < L then _ else _ : List Tk).length
    split <;> simp only [List.length_append, List.length_cons, List.length_nil] <;> omega
  | .bin op a b, L => by
    have h1 := sz_pr a (lvl op)
    have h2 := sz_pr b (lvl op + 1)
    show sz a + sz b + 1 ≤ (if lvl op < L then _ else _ : List Tk).length
    split <;> simp only [List.length_append, List.length_cons, List.length_nil] <;> omega
  | .ite a b c, L => by
    have h1 := sz_pr a 0
    have h2 := sz_pr b 0
    have h3 := sz_pr c 0
    show sz a + sz b + sz c + 1 ≤ (wT [105, 102] :: pr a 0 ++ wT [116, 104, 101, 110] :: pr b 0 ++ wT [101, 108, 115, 101] :: pr c 0 ++ [wT [101, 110, 100, 105, 102]]).length
    simp only [List.length_append, List.length_cons, List.length_nil]; omega
/-- What is read: it may be written, and is as short as its tokens. -/
theorem read_fine {ts : List Tk} {x : E} (h : R (.lev 1) ts = .ok [] x) : wr x ∧ small x ∧ wf x ∧ sz x ≤ ts.length := by
  have hf : wr x ∧ small x := rd_fine _ (.lev 1) _ _ _ h
  exact ⟨hf.1, hf.2, wf_of hf.1 hf.2, Nat.le_trans (sz_pr x 0) (least h)⟩

/-! ### two of one row are the same -/
def rt : E → Nat → Nd
  | .num n, _ => ⟨1, n, [], -1, -1, -1⟩
  | .name s, _ => ⟨2, 0, s, -1, -1, -1⟩
  | .tt, _ => ⟨3, 0, [], -1, -1, -1⟩
  | .ff, _ => ⟨4, 0, [], -1, -1, -1⟩
  | .un op a, p => ⟨op, 0, [], (p + sz a : Nat) - 1, -1, -1⟩
  | .bin op a b, p => ⟨op, 0, [], (p + sz a : Nat) - 1, (p + sz a + sz b : Nat) - 1, -1⟩
  | .ite a b c, p => ⟨22, 0, [], (p + sz a : Nat) - 1, (p + sz a + sz b : Nat) - 1, (p + sz a + sz b + sz c : Nat) - 1⟩
def ini : E → Nat → List Nd
  | .un _ a, p => flat a p
  | .bin _ a b, p => flat a p ++ flat b (p + sz a)
  | .ite a b c, p => flat a p ++ flat b (p + sz a) ++ flat c (p + sz a + sz b)
  | _, _ => []
theorem flat_rt (x : E) (p : Nat) : flat x p = ini x p ++ [rt x p] := by cases x <;> rfl
def ar (n : Nd) : Nat := if n.c ≠ -1 then 3 else if n.b ≠ -1 then 2 else if n.a ≠ -1 then 1 else 0
def arE : E → Nat
  | .un _ _ => 1
  | .bin _ _ _ => 2
  | .ite _ _ _ => 3
  | _ => 0
theorem ar3 {n : Nd} (h : n.c ≠ -1) : ar n = 3 := if_pos h
theorem ar2 {n : Nd} (h : n.c = -1) (h2 : n.b ≠ -1) : ar n = 2 := (if_neg (fun q => q h)).trans (if_pos h2)
theorem ar1 {n : Nd} (h : n.c = -1) (h2 : n.b = -1) (h3 : n.a ≠ -1) : ar n = 1 := (if_neg (fun q => q h)).trans ((if_neg (fun q => q h2)).trans (if_pos h3))
theorem ar0 {n : Nd} (h : n.c = -1) (h2 : n.b = -1) (h3 : n.a = -1) : ar n = 0 := (if_neg (fun q => q h)).trans ((if_neg (fun q => q h2)).trans (if_neg (fun q => q h3)))
theorem ar_rt (x : E) (p : Nat) : ar (rt x p) = arE x := by
  cases x with
  | un op a => have := sz_pos a; exact ar1 rfl rfl (show ((p + sz a : Nat) : Int) - 1 ≠ -1 by omega)
  | bin op a b => have := sz_pos b; exact ar2 rfl (show ((p + sz a + sz b : Nat) : Int) - 1 ≠ -1 by omega)
  | ite a b c => have := sz_pos c; exact ar3 (show ((p + sz a + sz b + sz c : Nat) : Int) - 1 ≠ -1 by omega)
  | _ => exact ar0 rfl rfl rfl
theorem flat_inj : ∀ (x y : E) (p : Nat), flat x p = flat y p → x = y := by
  intro x
  induction x with
  | un op a iha =>
    intro y p h
    rw [flat_rt _ p, flat_rt y p] at h
    obtain ⟨h1, h2⟩ := List.append_inj' h rfl
    injection h2 with h2 _
    have h3 := congrArg ar h2
    rw [ar_rt, ar_rt] at h3
    cases y <;> simp only [arE] at h3 <;> first | (exfalso; omega) | skip
    rename_i op' a'
    simp only [rt] at h2
    obtain ⟨q1, _, _, q4, q5, q6⟩ := Nd.mk.inj h2
    rw [iha _ _ h1, show op = op' by omega]
  | bin op a b iha ihb =>
    intro y p h
    rw [flat_rt _ p, flat_rt y p] at h
    obtain ⟨h1, h2⟩ := List.append_inj' h rfl
    injection h2 with h2 _
    have h3 := congrArg ar h2
    rw [ar_rt, ar_rt] at h3
    cases y <;> simp only [arE] at h3 <;> first | (exfalso; omega) | skip
    rename_i op' a' b'
    simp only [rt] at h2
    obtain ⟨q1, _, _, q4, q5, q6⟩ := Nd.mk.inj h2
    have e1 : sz a = sz a' := by omega
    obtain ⟨r1, r2⟩ := List.append_inj h1 (by rw [flat_len, flat_len, e1])
    rw [← e1] at r2
    rw [iha _ _ r1, ihb _ _ r2, show op = op' by omega]
  | ite a b c iha ihb ihc =>
    intro y p h
    rw [flat_rt _ p, flat_rt y p] at h
    obtain ⟨h1, h2⟩ := List.append_inj' h rfl
    injection h2 with h2 _
    have h3 := congrArg ar h2
    rw [ar_rt, ar_rt] at h3
    cases y <;> simp only [arE] at h3 <;> first | (exfalso; omega) | skip
    rename_i a' b' c'
    simp only [rt] at h2
    obtain ⟨_, _, _, q4, q5, q6⟩ := Nd.mk.inj h2
    have e1 : sz a = sz a' := by omega
    have e2 : sz b = sz b' := by omega
    obtain ⟨r0, r3⟩ := List.append_inj h1 (by rw [List.length_append, List.length_append, flat_len, flat_len, flat_len, flat_len, e1, e2])
    obtain ⟨r1, r2⟩ := List.append_inj r0 (by rw [flat_len, flat_len, e1])
    rw [← e1] at r2
    rw [← e1, ← e2] at r3
    rw [iha _ _ r1, ihb _ _ r2, ihc _ _ r3]
  | _ =>
    intro y p h
    rw [flat_rt _ p, flat_rt y p] at h
    obtain ⟨_, h2⟩ := List.append_inj' h rfl
    injection h2 with h2 _
    have h3 := congrArg ar h2
    rw [ar_rt, ar_rt] at h3
    cases y <;> simp only [arE] at h3 <;> first | (exfalso; omega) | skip
    all_goals
      have q1 := congrArg Nd.op h2
      have q2 := congrArg Nd.num h2
      have q3 := congrArg Nd.nm h2
      simp only [rt] at q1 q2 q3
      first | rfl | (exfalso; omega) | (rw [q3]) | (congr 1; omega)

/-! ### in parentheses -/
theorem toks_par {s : List UInt8} (h : s.length + 3 ≤ 65536) (ht : (Lx.toks s).2.2 = 0) :
    (Lx.toks (40 :: s ++ [10, 41])).2.2 = 0 ∧ kxs (Lx.toks (40 :: s ++ [10, 41])).1 = (4, [40]) :: kxs (Lx.toks s).1 ++ [(4, [41])] := by
  have h1 : Lx.toks [41] = ([⟨4, [41], 0⟩], 0, 0) := by rfl
  have h2 : Lx.toks (40 :: s) = Lx.pt ⟨4, [40], 0⟩ (Lx.mvR 1 (Lx.toks s)) := by
    have b0 : Lx.blk false (40 :: s) = 0 := by unfold Lx.blk; rw [if_neg (by decide), if_neg (by intro h; exact absurd h.1 (by decide))]
    have l1 : Lx.lng (40 :: s) = 1 := by
      rw [Lx.lng_other (by decide) (by decide)]
      cases s with
      | nil => decide
      | cons d r =>
        show (if Lx.signs.contains [40, d] = true then 2 else if Lx.signs.contains [40] = true then 1 else 0) = 1
        rw [if_neg (by simp [Lx.signs]), if_pos (by decide)]
    rw [Lx.toks_C (show (40 :: s).length ≤ 65536 by simp; omega), Lx.toks_C (show s.length ≤ 65536 by omega)]
    rw [b0, List.drop_zero, Lx.C_good 0 (by simp) (by rw [l1]; simp), ← Lx.C_shift 1 _ _ _ (Nat.le_refl _)]
    have n1 : Lx.nx (40 :: s) = Lx.blk false s + 1 := by unfold Lx.nx; rw [l1]; simp [Nat.add_comm]
    rw [n1, List.drop_succ_cons, Nat.zero_add]
    congr 1
    unfold Lx.tk; rw [l1]; rfl
  rw [show 40 :: s ++ [10, 41] = (40 :: s) ++ 10 :: [41] from rfl, Lx.toks_cat _ _ (by simp; omega), h1, h2]
  unfold Lx.jq Lx.pt Lx.mvR
  simp only [ht, if_true, ne_eq, not_true_eq_false, if_false]
  refine ⟨trivial, ?_⟩
  unfold kxs
  simp [Lx.mvT]
theorem prse_par {s : List UInt8} {x : E} (h : s.length + 3 ≤ 65536) (hR : R (.lev 1) (kxs (Lx.toks s).1) = .ok [] x) (hd : dp x ≤ 64) (ht : (Lx.toks s).2.2 = 0) : prse (40 :: s ++ [10, 41]) = (flat x 0, 0, 0) := by
  obtain ⟨h1, h2⟩ := toks_par h ht
  refine prse_of ?_ hd h1
  rw [h2]
  have := in_par hR (T := []) st_nil
  rwa [List.append_nil] at this
end Go.Proofs.YtdcjpinbflmikaaGreatDoor
namespace Go.Proofs.YtdcjpinbflmikaaGreatDoor
open Go.RowKit Ex

/-- A box with a row. -/
structure Xb (w : World) (b : Nat) (A : Option Addr) (c : Nat) (l : List Nd) : Prop where
  blk : IsBlk w b 29 #[.slice A l.length c]
  row : NdR w w.heap.size A l
  cap : l.length ≤ c
theorem NdR.on {w w' : World} {A : Option Addr} {l : List Nd} (h : NdR w w.heap.size A l) (hb : Below w.heap.size w w') : NdR w' w'.heap.size A l := (h.below hb).more hb.size
theorem Xb.below {w w' : World} {b : Nat} {A : Option Addr} {c : Nat} {l : List Nd} (h : Xb w b A c l) (hb : Below w.heap.size w w') : Xb w' b A c l := ⟨h.blk.below hb h.blk.lt, h.row.on hb, h.cap⟩
theorem Xb.at_ {w : World} {b : Nat} {A : Option Addr} {c : Nat} {l : List Nd} (h : Xb w b A c l) : w.cell? ⟨b, 0, none⟩ = some (.slice A l.length c) := h.blk.at_ 0
theorem Xb.new {w : World} {A : Option Addr} {c : Nat} {l : List Nd} (h : NdR w w.heap.size A l) (hc : l.length ≤ c) : Xb (w.alloc (.cells #[.slice A l.length c] 29)) w.heap.size A c l :=
  ⟨IsBlk.new _ _ _, h.on ((Below.refl _ _).alloc (Nat.le_refl _) _), hc⟩
/-- What Parse answers. -/
def PrA (X : List Nd × Nat × Int) (w : World) (e : Ending) (w' : World) : Prop :=
  ∃ A c, NdR w' w'.heap.size A X.1 ∧ X.1.length ≤ c ∧ e = .returned (.tuple #[.agg #[.slice A X.1.length c], .int .i64 (X.2.1 : Nat), .int .i64 X.2.2]) ∧ Below w.heap.size w w'
theorem parse_val (s : ByteArray) {X : List Nd × Nat × Int} (hX : prse s.data.toList = X) (hs : s.size ≤ maxLen) (w : World) (T : Tx w) : Calls Tryz.prog 16 #[.string s] w (PrA X w) := by
  refine (eparse_any s w T hs).mono ?_
  rintro e w' ⟨A, c, ho, he, hb⟩
  rw [hX] at ho he
  obtain ⟨h1, h2, _⟩ := own_ndr ho rfl
  exact ⟨A, c, h1, h2, he, hb⟩
theorem chk_flat {x : E} (hw : wr x) (hd : dp x ≤ 64) : chk (flat x 0) = 0 := by
  have h0 := dep_flat hw
  have h1 : dp x ≠ 0 := by cases x <;> simp [dp]
  unfold chk
  rw [h0, if_neg h1, if_neg (by omega)]
theorem print_val {x : E} (hw : wr x) (hd : dp x ≤ 64) (hf : Fitn (flat x 0)) (A : Option Addr) (c : Nat) (hc : (flat x 0).length ≤ c) (w : World) (T : Tx w) (hl : NdR w w.heap.size A (flat x 0)) :
    Calls Tryz.prog 61 #[.agg #[.slice A (flat x 0).length c]] w fun e w' => e = .returned (.tuple #[.string ⟨(Ex.prs x 0).toArray⟩, .int .i64 0]) ∧ Below w.heap.size w w' := by
  refine (print_any w T A c _ hl hc hf).mono ?_
  rintro e w' ⟨t, er, hp, rfl, hb⟩
  rcases hp with ⟨h1, _⟩ | ⟨rfl, y, _, _, _, h5, rfl⟩
  · exact absurd (chk_flat hw hd) h1
  · rw [flat_inj _ _ _ h5]; exact ⟨rfl, hb⟩
abbrev q1_ : ByteArray := ⟨#[49, 32, 43, 32, 50, 32, 42, 32, 120]⟩
abbrev q2_ : ByteArray := ⟨#[40, 49, 43, 50, 41, 42, 120]⟩
abbrev q3_ : ByteArray := ⟨#[97, 32, 45, 32, 40, 98, 32, 45, 32, 99, 41]⟩
abbrev q4_ : ByteArray := ⟨#[45, 32, 45, 32, 49]⟩
abbrev q5_ : ByteArray := ⟨#[49, 32, 43]⟩
abbrev q6_ : ByteArray := ⟨#[97, 32, 98]⟩
abbrev q7_ : ByteArray := ⟨#[57, 57, 57, 57, 57, 57, 57, 57, 57, 57, 57, 57, 57, 57, 57, 57, 57, 57, 57, 57]⟩
def pl : Nat := infx [43]
def mi : Nat := infx [45]
def ti : Nat := infx [42]
def x1_ : E := .bin pl (.num 1) (.bin ti (.num 2) (.name [120]))
def x2_ : E := .bin ti (.bin pl (.num 1) (.num 2)) (.name [120])
def x3_ : E := .bin mi (.name [97]) (.bin mi (.name [98]) (.name [99]))
def x4_ : E := .un 5 (.un 5 (.num 1))
theorem z1 : prse q1_.data.toList = (flat x1_ 0, 0, 0) := by kernel_rfl
theorem z2 : prse q2_.data.toList = (flat x2_ 0, 0, 0) := by kernel_rfl
theorem z3 : prse q3_.data.toList = (flat x3_ 0, 0, 0) := by kernel_rfl
theorem z4 : prse q4_.data.toList = (flat x4_ 0, 0, 0) := by kernel_rfl
theorem z5 : prse q5_.data.toList = ([], 3, 80) := by kernel_rfl
theorem z6 : prse q6_.data.toList = ([], 2, 80) := by kernel_rfl
theorem z7 : prse q7_.data.toList = ([], 0, 60) := by kernel_rfl
theorem y1 : Ex.prs x1_ 0 = [49, 32, 43, 32, 50, 32, 42, 32, 120] := by kernel_rfl
theorem y2 : Ex.prs x2_ 0 = [40, 32, 49, 32, 43, 32, 50, 32, 41, 32, 42, 32, 120] := by kernel_rfl
theorem y3 : Ex.prs x3_ 0 = [97, 32, 45, 32, 40, 32, 98, 32, 45, 32, 99, 32, 41] := by kernel_rfl
theorem y4 : Ex.prs x4_ 0 = [45, 32, 45, 32, 49] := by kernel_rfl
end Go.Proofs.YtdcjpinbflmikaaGreatDoor
namespace Go.Proofs.YtdcjpinbflmikaaGreatDoor
open Go.RowKit Ex

/-- What few tells. -/
def FewE (l : List Nd) : Prop := l.length ≤ 200 ∧ ∀ n ∈ l, n.nm.length ≤ 70
instance (l : List Nd) : Decidable (FewE l) := inferInstanceAs (Decidable (_ ∧ _))
end Go.Proofs.YtdcjpinbflmikaaGreatDoor
namespace Go.Proofs.YtdcjpinbflmikaaGreatDoor
open Ex

theorem toks_less {s : List UInt8} (h : s.length ≤ 65536) : (Lx.toks s).1.length ≤ s.length := by
  rw [Lx.toks_C h]
  have h1 := Lx.C_sum _ (s.drop (Lx.blk false s)) (Lx.blk false s) (Nat.le_refl _)
  have h2 := Lx.C_goods _ (s.drop (Lx.blk false s)) (Lx.blk false s) (Nat.le_refl _)
  have h3 : ∀ l : List Lx.T, (∀ t ∈ l, Lx.Good t) → 2 * l.length ≤ (l.map fun t => t.tx.length + 1).sum := by
    intro l
    induction l with
    | nil => intro _; exact Nat.le_refl _
    | cons t l ih =>
      intro h
      have h4 := ih (fun q hq => h q (List.mem_cons_of_mem _ hq))
      have h5 := h t List.mem_cons_self
      have h6 : 1 ≤ t.tx.length := by
        refine Nat.one_le_iff_ne_zero.2 fun e => ?_
        have e2 := List.length_eq_zero_iff.1 e
        exact absurd h5.2.1 (by rw [← h5.1, e2]; decide)
      simp only [List.length_cons, List.map_cons, List.sum_cons]; omega
  have h4 := h3 _ h2
  have h5 : (s.drop (Lx.blk false s)).length ≤ s.length := by rw [List.length_drop]; omega
  omega
theorem flat_fine : ∀ (x : E) (p : Nat), wr x → small x → ∀ n ∈ flat x p, (n.nm.length ≤ 64 ∧ 0 ≤ n.op) ∧ n.num ≤ 9223372036854775807
  | .num n, p, _, h, q, hq => by
    rw [List.mem_singleton.1 hq]
    have h : n ≤ 9223372036854775807 := h
    exact ⟨⟨by simp, by simp⟩, by simp only; omega⟩
  | .name s, p, hw, _, q, hq => by
    rw [List.mem_singleton.1 hq]
    refine ⟨⟨?_, by simp⟩, by simp⟩
    have hw : Lx.is s = 2 := hw
    refine Decidable.byContradiction fun h => ?_
    unfold Lx.is at hw
    rw [if_pos (by simp only at h; omega)] at hw
    cases hw
  | .tt, p, _, _, q, hq => by rw [List.mem_singleton.1 hq]; exact ⟨⟨by simp, by simp⟩, by simp⟩
  | .ff, p, _, _, q, hq => by rw [List.mem_singleton.1 hq]; exact ⟨⟨by simp, by simp⟩, by simp⟩
  | .un op a, p, hw, hs, q, hq => by
    rcases List.mem_append.1 hq with hq | hq
    · exact flat_fine a p hw.2 hs q hq
    · rw [List.mem_singleton.1 hq]; exact ⟨⟨by simp, by simp⟩, by simp⟩
  | .bin op a b, p, hw, hs, q, hq => by
    rcases List.mem_append.1 hq with hq | hq
    · rcases List.mem_append.1 hq with hq | hq
      · exact flat_fine a p hw.2.2.1 hs.1 q hq
      · exact flat_fine b _ hw.2.2.2 hs.2 q hq
    · rw [List.mem_singleton.1 hq]; exact ⟨⟨by simp, by simp⟩, by simp⟩
  | .ite a b c, p, hw, hs, q, hq => by
    rcases List.mem_append.1 hq with hq | hq
    · rcases List.mem_append.1 hq with hq | hq
      · rcases List.mem_append.1 hq with hq | hq
        · exact flat_fine a p hw.1 hs.1 q hq
        · exact flat_fine b _ hw.2.1 hs.2.1 q hq
      · exact flat_fine c _ hw.2.2 hs.2.2 q hq
    · rw [List.mem_singleton.1 hq]; exact ⟨⟨by simp, by simp⟩, by simp⟩
theorem prse_bad {s : List UInt8} (h : (prse s).2.2 ≠ 0) : (prse s).1 = [] := by
  unfold prse at h ⊢
  split
  · rfl
  · rename_i h1
    rw [if_neg h1] at h
    split
    · rfl
    · rename_i h2
      rw [if_neg h2] at h
      split
      · rename_i h3; rw [if_pos h3] at h; exact absurd rfl h
      · rfl
/-- What is parsed of a short text. -/
theorem short_facts {s : ByteArray} (hs : s.size ≤ 400) (h : (prse s.data.toList).2.2 = 0) : ∃ x, prse s.data.toList = (flat x 0, 0, 0) ∧ wr x ∧ wf x ∧ dp x ≤ 64 ∧ Fitn (flat x 0) ∧ prse (Ex.prs x 0) = (flat x 0, 0, 0) ∧ (Ex.prs x 0).length ≤ 65536 ∧ prse (40 :: s.data.toList ++ [10, 41]) = (flat x 0, 0, 0) := by
  obtain ⟨x, h1, h2, h3, h4⟩ := prse_ok h
  obtain ⟨q1, q2, q3, q4⟩ := read_fine h3
  have hl : s.data.toList.length = s.size := (Lib.size_eq s).symm
  have hk : (kxs (Lx.toks s.data.toList).1).length = (Lx.toks s.data.toList).1.length := by simp [kxs]
  have h5 := toks_less (s := s.data.toList) (by omega)
  have hf := flat_fine x 0 q1 q2
  have hlen := (row_small 64 x 0 0 q1 (fun n hn => ⟨(hf n hn).1.1, (hf n hn).2⟩)).2
  have hsz : sz x ≤ 400 := by omega
  have hpl : (Ex.prs x 0).length + 30 ≤ (64 + 60) * 400 := Nat.le_trans hlen (Nat.mul_le_mul_left _ hsz)
  have hp : (Ex.prs x 0).length ≤ 65536 := by omega
  exact ⟨x, h1, q1, q3, h2, ⟨⟨by rw [flat_len]; omega, fun n hn => ⟨by have := (hf n hn).1.1; omega, (hf n hn).1.2⟩⟩, fun n hn => (hf n hn).2⟩, prse_prs q3 h2 hp, hp, prse_par (by omega) h3 h2 h4⟩
/-- Numbers are of 64 bits, ops of 8. -/
def Okn (l : List Nd) : Prop := ∀ n ∈ l, 0 ≤ n.op ∧ n.num ≤ 9223372036854775807
theorem fit_few {l : List Nd} (h : FewE l) (ho : Okn l) : Fitn l :=
  ⟨⟨by have := h.1; omega, fun n hn => ⟨by have := h.2 n hn; omega, (ho n hn).1⟩⟩, fun n hn => (ho n hn).2⟩
/-- What is printed of few nodes is parsed as it was. -/
theorem few_back {x : E} (h : FewE (flat x 0)) (ho : Okn (flat x 0)) (hw : wr x) (hf : wf x) (hd : dp x ≤ 64) : prse (Ex.prs x 0) = (flat x 0, 0, 0) ∧ (Ex.prs x 0).length ≤ 65536 := by
  have hlen := (row_small 70 x 0 0 hw (fun n hn => ⟨h.2 n hn, (ho n hn).2⟩)).2
  have hsz : sz x ≤ 200 := by have := h.1; rwa [flat_len] at this
  have hpl : (Ex.prs x 0).length + 30 ≤ (70 + 60) * 200 := Nat.le_trans hlen (Nat.mul_le_mul_left _ hsz)
  have hp : (Ex.prs x 0).length ≤ 65536 := by omega
  exact ⟨prse_prs hf hd hp, hp⟩
end Go.Proofs.YtdcjpinbflmikaaGreatDoor
namespace Go.Proofs.YtdcjpinbflmikaaGreatDoor
open Go.RowKit Ex

theorem f1 : wr x1_ ∧ dp x1_ ≤ 64 ∧ Fitn (flat x1_ 0) := ⟨⟨by decide, by decide, True.intro, by decide, by decide, True.intro, show Lx.is [120] = 2 by decide⟩, by decide, ⟨by decide, by decide⟩, by decide⟩
theorem f2 : wr x2_ ∧ dp x2_ ≤ 64 ∧ Fitn (flat x2_ 0) := ⟨⟨by decide, by decide, ⟨by decide, by decide, True.intro, True.intro⟩, show Lx.is [120] = 2 by decide⟩, by decide, ⟨by decide, by decide⟩, by decide⟩
theorem f3 : wr x3_ ∧ dp x3_ ≤ 64 ∧ Fitn (flat x3_ 0) := ⟨⟨by decide, by decide, show Lx.is [97] = 2 by decide, by decide, by decide, show Lx.is [98] = 2 by decide, show Lx.is [99] = 2 by decide⟩, by decide, ⟨by decide, by decide⟩, by decide⟩
theorem f4 : wr x4_ ∧ dp x4_ ≤ 64 ∧ Fitn (flat x4_ 0) := ⟨⟨Or.inl rfl, Or.inl rfl, True.intro⟩, by decide, ⟨by decide, by decide⟩, by decide⟩
set_option maxHeartbeats 8000000 in
set_option maxRecDepth 100000 in
theorem eworks_any (w : World) (T : Tx w) :
    Calls Tryz.prog 14 #[] w fun e w' => e = .returned (.bool true) ∧ Below w.heap.size w w' := by
  have T0 := Lib.hid T
  have B0 := Lib.hid (Below.refl w.heap.size w)
  have P1 := Lib.hid (fun w0 (T0 : Tx w0) => parse_val q1_ z1 (by decide) w0 T0)
  have P2 := Lib.hid (fun w0 (T0 : Tx w0) => parse_val q2_ z2 (by decide) w0 T0)
  have P3 := Lib.hid (fun w0 (T0 : Tx w0) => parse_val q3_ z3 (by decide) w0 T0)
  have P4 := Lib.hid (fun w0 (T0 : Tx w0) => parse_val q4_ z4 (by decide) w0 T0)
  have P5 := Lib.hid (fun w0 (T0 : Tx w0) => parse_val q5_ z5 (by decide) w0 T0)
  have P6 := Lib.hid (fun w0 (T0 : Tx w0) => parse_val q6_ z6 (by decide) w0 T0)
  have P7 := Lib.hid (fun w0 (T0 : Tx w0) => parse_val q7_ z7 (by decide) w0 T0)
  have R1 := Lib.hid (fun A c hc w0 (T0 : Tx w0) hl => print_val f1.1 f1.2.1 f1.2.2 A c hc w0 T0 hl)
  rw [y1] at R1
  generalize flat x1_ 0 = l1 at P1 R1
  have R2 := Lib.hid (fun A c hc w0 (T0 : Tx w0) hl => print_val f2.1 f2.2.1 f2.2.2 A c hc w0 T0 hl)
  rw [y2] at R2
  generalize flat x2_ 0 = l2 at P2 R2
  have R3 := Lib.hid (fun A c hc w0 (T0 : Tx w0) hl => print_val f3.1 f3.2.1 f3.2.2 A c hc w0 T0 hl)
  rw [y3] at R3
  generalize flat x3_ 0 = l3 at P3 R3
  have R4 := Lib.hid (fun A c hc w0 (T0 : Tx w0) hl => print_val f4.1 f4.2.1 f4.2.2 A c hc w0 T0 hl)
  rw [y4] at R4
  generalize flat x4_ 0 = l4 at P4 R4
  clear T
  go_enter Tryz.func14, Tryz.ntmps14
  go_wp2_with fail
  first | rw [← HV0.out] | skip
  refine (P1.out _ T0.out).mono ?_
  rintro e w1 ⟨A1, c1, row, cap, rfl, hb⟩
  simp only at row cap
  obtain ⟨V1, hV⟩ : ∃ V, V = w1.alloc (.cells #[.slice A1 l1.length c1] 29) := ⟨_, rfl⟩
  have X1 := Lib.hid (show Xb V1 w1.heap.size A1 c1 l1 by rw [hV]; exact Xb.new row cap)
  have hv := hb.alloc hb.size (.cells #[.slice A1 l1.length c1] 29)
  rw [← hV] at hv
  have T1 := Lib.hid (T0.out.below hv)
  have B1 := Lib.hid (B0.out.trans (hv.mono B0.out.size))
  have HV1 := Lib.hid hV
  have N1 := Lib.hid hv
  clear hv hb row cap hV
  go_wp2_with fail
  first | rw [← HV1.out] | skip
  refine (P2.out _ T1.out).mono ?_
  rintro e w2 ⟨A2, c2, row, cap, rfl, hb⟩
  simp only at row cap
  obtain ⟨V2, hV⟩ : ∃ V, V = w2.alloc (.cells #[.slice A2 l2.length c2] 29) := ⟨_, rfl⟩
  have X2 := Lib.hid (show Xb V2 w2.heap.size A2 c2 l2 by rw [hV]; exact Xb.new row cap)
  have hv := hb.alloc hb.size (.cells #[.slice A2 l2.length c2] 29)
  rw [← hV] at hv
  have T2 := Lib.hid (T1.out.below hv)
  have B2 := Lib.hid (B1.out.trans (hv.mono B1.out.size))
  have HV2 := Lib.hid hV
  have N2 := Lib.hid hv
  clear hv hb row cap hV
  go_wp2_with fail
  first | rw [← HV2.out] | skip
  refine (P3.out _ T2.out).mono ?_
  rintro e w3 ⟨A3, c3, row, cap, rfl, hb⟩
  simp only at row cap
  obtain ⟨V3, hV⟩ : ∃ V, V = w3.alloc (.cells #[.slice A3 l3.length c3] 29) := ⟨_, rfl⟩
  have X3 := Lib.hid (show Xb V3 w3.heap.size A3 c3 l3 by rw [hV]; exact Xb.new row cap)
  have hv := hb.alloc hb.size (.cells #[.slice A3 l3.length c3] 29)
  rw [← hV] at hv
  have T3 := Lib.hid (T2.out.below hv)
  have B3 := Lib.hid (B2.out.trans (hv.mono B2.out.size))
  have HV3 := Lib.hid hV
  have N3 := Lib.hid hv
  clear hv hb row cap hV
  go_wp2_with fail
  first | rw [← HV3.out] | skip
  refine (P4.out _ T3.out).mono ?_
  rintro e w4 ⟨A4, c4, row, cap, rfl, hb⟩
  simp only at row cap
  obtain ⟨V4, hV⟩ : ∃ V, V = w4.alloc (.cells #[.slice A4 l4.length c4] 29) := ⟨_, rfl⟩
  have X4 := Lib.hid (show Xb V4 w4.heap.size A4 c4 l4 by rw [hV]; exact Xb.new row cap)
  have hv := hb.alloc hb.size (.cells #[.slice A4 l4.length c4] 29)
  rw [← hV] at hv
  have T4 := Lib.hid (T3.out.below hv)
  have B4 := Lib.hid (B3.out.trans (hv.mono B3.out.size))
  have HV4 := Lib.hid hV
  have N4 := Lib.hid hv
  clear hv hb row cap hV
  have X1 := Lib.hid (((X1.out.below N2.out).below N3.out).below N4.out)
  have X2 := Lib.hid ((X2.out.below N3.out).below N4.out)
  have X3 := Lib.hid (X3.out.below N4.out)
  have k0 := X1.out.at_
  first | rw [HV4.out] at k0 | skip
  go_wp2_with fail
  first | rw [← HV4.out] | skip
  refine (R1.out _ _ X1.out.cap _ T4.out X1.out.row).mono ?_
  rintro e v1 ⟨rfl, hb⟩
  have T4 := Lib.hid (T4.out.below hb)
  have B4 := Lib.hid (B4.out.trans (hb.mono B4.out.size))
  have X2 := Lib.hid (X2.out.below hb)
  have X3 := Lib.hid (X3.out.below hb)
  have X4 := Lib.hid (X4.out.below hb)
  clear hb k0
  have k0 := X2.out.at_
  first | rw [HV4.out] at k0 | skip
  go_wp2_with fail
  first | rw [← HV4.out] | skip
  refine (R2.out _ _ X2.out.cap _ T4.out X2.out.row).mono ?_
  rintro e v2 ⟨rfl, hb⟩
  have T4 := Lib.hid (T4.out.below hb)
  have B4 := Lib.hid (B4.out.trans (hb.mono B4.out.size))
  have X2 := Lib.hid (X2.out.below hb)
  have X3 := Lib.hid (X3.out.below hb)
  have X4 := Lib.hid (X4.out.below hb)
  clear hb k0
  have k0 := X3.out.at_
  first | rw [HV4.out] at k0 | skip
  go_wp2_with fail
  first | rw [← HV4.out] | skip
  refine (R3.out _ _ X3.out.cap _ T4.out X3.out.row).mono ?_
  rintro e v3 ⟨rfl, hb⟩
  have T4 := Lib.hid (T4.out.below hb)
  have B4 := Lib.hid (B4.out.trans (hb.mono B4.out.size))
  have X2 := Lib.hid (X2.out.below hb)
  have X3 := Lib.hid (X3.out.below hb)
  have X4 := Lib.hid (X4.out.below hb)
  clear hb k0
  have k0 := X4.out.at_
  first | rw [HV4.out] at k0 | skip
  go_wp2_with fail
  first | rw [← HV4.out] | skip
  refine (R4.out _ _ X4.out.cap _ T4.out X4.out.row).mono ?_
  rintro e v4 ⟨rfl, hb⟩
  have T4 := Lib.hid (T4.out.below hb)
  have B4 := Lib.hid (B4.out.trans (hb.mono B4.out.size))
  have X2 := Lib.hid (X2.out.below hb)
  have X3 := Lib.hid (X3.out.below hb)
  have X4 := Lib.hid (X4.out.below hb)
  clear hb k0
  go_wp2_with fail
  refine (P5.out _ T4.out).mono ?_
  rintro e w5 ⟨A5, c5, _, cap, rfl, hb⟩
  have hv := hb.alloc hb.size (.cells #[.slice A5 0 c5] 29)
  have T4 := Lib.hid (T4.out.below hv)
  have B4 := Lib.hid (B4.out.trans (hv.mono B4.out.size))
  clear hv hb
  go_wp2_with fail
  refine (P6.out _ T4.out).mono ?_
  rintro e w6 ⟨A6, c6, _, cap, rfl, hb⟩
  have hv := hb.alloc hb.size (.cells #[.slice A6 0 c6] 29)
  have T4 := Lib.hid (T4.out.below hv)
  have B4 := Lib.hid (B4.out.trans (hv.mono B4.out.size))
  clear hv hb
  go_wp2_with fail
  refine (P7.out _ T4.out).mono ?_
  rintro e w7 ⟨A7, c7, _, cap, rfl, hb⟩
  have hv := hb.alloc hb.size (.cells #[.slice A7 0 c7] 29)
  have T4 := Lib.hid (T4.out.below hv)
  have B4 := Lib.hid (B4.out.trans (hv.mono B4.out.size))
  clear hv hb
  go_wp2
  go_ret
  exact ⟨rfl, B4.out⟩
end Go.Proofs.YtdcjpinbflmikaaGreatDoor
