/- Facts and walks for the statement. -/
import Derived.Test.YtdcjpinbflmikaaGreatDoorPzW01
import Derived.Test.YtdcjpinbflmikaaGreatDoorPzW00
import Derived.Laws.Closers25
namespace Go.Proofs.YtdcjpinbflmikaaGreatDoor
namespace Ex
theorem of2_tells {n : Nat} {s : List UInt8} (h : of2 n s ≠ 0) : 7 ≤ of2 n s ∧ of2 n s ≤ 21 ∧ lvl (of2 n s) = n ∧ opS (of2 n s) = s := by
  unfold of2 at h ⊢
  have hm : ∀ op ∈ (List.range 15).map (· + 7), 7 ≤ op ∧ op ≤ 21 := by decide
  generalize (List.range 15).map (· + 7) = l at *
  induction l with
  | nil => exact absurd rfl h
  | cons a r ih =>
    rw [List.foldr_cons] at h ⊢
    by_cases hc : s ≠ [] ∧ opS a = s ∧ lvl a = n
    · rw [if_pos hc]
      have := hm a List.mem_cons_self
      exact ⟨this.1, this.2, hc.2.2, hc.2.1⟩
    · rw [if_neg hc] at h ⊢
      exact ih h (fun op ho => hm op (List.mem_cons_of_mem _ ho))
theorem pr_mono (x : E) {L L' : Nat} (h : L ≤ L') : (pr x L).length ≤ (pr x L').length := by
  cases x with
  | un op a =>
    unfold pr
    split <;> split <;> simp <;> omega
  | bin op a b =>
    unfold pr
    split <;> split <;> simp <;> omega
  | _ => exact Nat.le_refl _
theorem pr_most (x : E) (L : Nat) : (pr x L).length ≤ (pr x 0).length + 2 := by
  cases x with
  | un op a =>
    unfold pr
    split <;> split <;> simp <;> omega
  | bin op a b =>
    unfold pr
    split <;> split <;> simp <;> omega
  | _ => exact Nat.le_add_right _ _
theorem pr_bin {op n : Nat} (h : lvl op = n) (a b : E) : (pr (.bin op a b) n).length = (pr a n).length + 1 + (pr b (n + 1)).length := by
  subst h
  conv => lhs; unfold pr
  rw [if_neg (Nat.lt_irrefl _), List.length_append, List.length_cons]; omega
theorem pr_un {op : Nat} (h : lvl op = 9) (a : E) : (pr (.un op a) 9).length = 1 + (pr a 9).length := by
  conv => lhs; unfold pr
  rw [if_neg (by omega), List.length_cons]; omega
def Long (m : Md) (ts r : List Tk) (x : E) : Prop := match m with
  | .lev n => (pr x n).length + r.length ≤ ts.length
  | .loop n a => (pr x n).length + r.length ≤ ts.length + (pr a n).length
  | .una => (pr x 9).length + r.length ≤ ts.length
  | .pri => (pr x 10).length + r.length ≤ ts.length
  | .bra => (pr x 10).length + r.length ≤ ts.length
theorem rd_long : ∀ (f : Nat) (m : Md) (ts r : List Tk) (x : E), okm m ts → rd f m ts = .ok r x → Long m ts r x
  | 0, _, _, _, _, _, h => by cases h
  | f + 1, .lev n, ts, r, x, ho, h => by
    simp only [okm] at ho
    unfold rd at h
    split at h
    · rename_i e; subst e
      exact rd_long f .pri _ _ _ True.intro h
    · split at h
      · rename_i e; subst e
        exact rd_long f .una _ _ _ True.intro h
      · obtain ⟨r1, a1, h1, h2⟩ := then2_ok h
        have e1 := rd_long f (.lev (n + 1)) _ _ _ (by simp only [okm]; omega) h1
        have e2 := rd_long f (.loop n a1) _ _ _ (by simp only [okm]; omega) h2
        have e3 := pr_mono a1 (Nat.le_succ n)
        simp only [Long] at e1 e2 ⊢
        simp only [Nat.succ_eq_add_one] at e3
        omega
  | f + 1, .loop n a, ts, r, x, ho, h => by
    simp only [okm] at ho
    unfold rd at h
    split at h
    · cases h; simp only [Long]; omega
    · rename_i hop
      have hl := tail_lt (nx_nil (of2_nx hop))
      obtain ⟨_, _, t3, _⟩ := of2_tells hop
      obtain ⟨r1, b1, h1, h2⟩ := then2_ok h
      have e1 := rd_long f (.lev (n + 1)) _ _ _ (by simp only [okm]; omega) h1
      have e2 := rd_long f (.loop n (.bin (of2 n (nx ts)) a b1)) _ _ _ (by simp only [okm]; omega) h2
      have e3 := pr_bin t3 a b1
      simp only [Long] at e1 e2 ⊢
      omega
  | f + 1, .una, ts, r, x, _, h => by
    have hl : nx ts ≠ [] → ts.tail.length + 1 = ts.length := fun h => tail_lt (nx_nil h)
    unfold rd at h
    split at h
    · rename_i hop
      have := hl (by rw [hop]; simp)
      obtain ⟨r1, a1, h1, h2⟩ := then2_ok h
      have e1 := rd_long f .una _ _ _ True.intro h1
      cases h2
      have e3 := pr_un (op := 5) rfl a1
      simp only [Long] at e1 ⊢
      omega
    · split at h
      · rename_i hop
        have := hl (by rw [hop]; simp)
        obtain ⟨r1, a1, h1, h2⟩ := then2_ok h
        have e1 := rd_long f .una _ _ _ True.intro h1
        cases h2
        have e3 := pr_un (op := 6) rfl a1
        simp only [Long] at e1 ⊢
        omega
      · have e1 := rd_long f .pri _ _ _ True.intro h
        have e3 := pr_mono x (show 9 ≤ 10 by decide)
        simp only [Long] at e1 ⊢
        omega
  | f + 1, .pri, ts, r, x, _, h => by
    have hl : nx ts ≠ [] → ts.tail.length + 1 = ts.length := fun h => tail_lt (nx_nil h)
    unfold rd at h
    simp only [Long]
    split at h
    · rename_i hop
      obtain ⟨r1, a1, h1, h2⟩ := then2_ok h
      obtain ⟨_, e3, e4⟩ := eat_ok (by simp) h2
      have e1 := rd_long f (.lev 1) _ _ _ (by simp [okm]) h1
      cases e4
      have := hl (by rw [hop]; simp)
      have q1 := pr_most x 10
      have q2 := pr_mono x (show 0 ≤ 1 by decide)
      simp only [Long] at e1
      omega
    · split at h
      · rename_i hop
        exact rd_long f .bra _ _ _ (nx_nil (by rw [hop]; simp)) h
      · split at h
        · rename_i hop; cases h; have := hl (by rw [hop]; simp); simp [pr]; omega
        · split at h
          · rename_i hop; cases h; have := hl (by rw [hop]; simp); simp [pr]; omega
          · split at h
            · rename_i hop
              split at h
              · cases h; have := hl hop.1; simp [pr]; omega
              · cases h
            · split at h
              · rename_i hop; cases h; have := hl hop.1; simp [pr]; omega
              · cases h
  | f + 1, .bra, ts, r, x, ho, h => by
    have hl := tail_lt (show ts ≠ [] from ho)
    unfold rd at h
    simp only [Long]
    obtain ⟨r1, a1, h1, h2⟩ := then2_ok h
    obtain ⟨_, e3, h3⟩ := eat_ok (by simp) h2
    obtain ⟨r4, a4, h4, h5⟩ := then2_ok h3
    obtain ⟨_, e6, h6⟩ := eat_ok (by simp) h5
    obtain ⟨r7, a7, h7, h8⟩ := then2_ok h6
    obtain ⟨_, e9, h9⟩ := eat_ok (by simp) h8
    have q1 := rd_long f (.lev 1) _ _ _ (by simp [okm]) h1
    have q4 := rd_long f (.lev 1) _ _ _ (by simp [okm]) h4
    have q7 := rd_long f (.lev 1) _ _ _ (by simp [okm]) h7
    have m1 := pr_mono a1 (show 0 ≤ 1 by decide)
    have m4 := pr_mono a4 (show 0 ≤ 1 by decide)
    have m7 := pr_mono a7 (show 0 ≤ 1 by decide)
    cases h9
    simp only [Long] at q1 q4 q7
    simp only [pr, List.length_append, List.length_cons, List.length_nil]
    omega
theorem least {ts : List Tk} {x : E} (h : R (.lev 1) ts = .ok [] x) : (pr x 0).length ≤ ts.length := by
  have h1 := rd_long _ (.lev 1) _ _ _ (by simp [okm]) h
  have h2 := pr_mono x (show 0 ≤ 1 by decide)
  simp only [Long, List.length_nil] at h1
  omega
end Ex
end Go.Proofs.YtdcjpinbflmikaaGreatDoor
namespace Go.Proofs.YtdcjpinbflmikaaGreatDoor
namespace Ex
def jn : List Tk → List UInt8
  | [] => []
  | t :: r => if r = [] then t.2 else t.2 ++ 32 :: jn r
theorem jn_app : ∀ {A B : List Tk}, A ≠ [] → B ≠ [] → jn (A ++ B) = jn A ++ 32 :: jn B
  | [], _, h, _ => absurd rfl h
  | [t], B, _, hB => by
    show (if B = [] then t.2 else t.2 ++ 32 :: jn B) = (if ([] : List Tk) = [] then t.2 else _) ++ 32 :: jn B
    rw [if_neg hB, if_pos rfl]
  | t :: u :: r, B, _, hB => by
    have ih := jn_app (A := u :: r) (B := B) (by simp) hB
    show (if u :: r ++ B = [] then t.2 else t.2 ++ 32 :: jn (u :: r ++ B)) = (if u :: r = [] then t.2 else t.2 ++ 32 :: jn (u :: r)) ++ 32 :: jn B
    rw [if_neg (by simp), if_neg (by simp), ih]
    simp
theorem jn_one (t : Tk) : jn [t] = t.2 := rfl
theorem jn_cons {t : Tk} {r : List Tk} (h : r ≠ []) : jn (t :: r) = t.2 ++ 32 :: jn r := if_neg h
theorem pr_ne (x : E) (L : Nat) : pr x L ≠ [] := by
  cases x with
  | un op a => unfold pr; split <;> simp
  | bin op a b => unfold pr; split <;> simp
  | ite a b c => unfold pr; simp
  | _ => unfold pr; simp
def prs : E → Nat → List UInt8
  | .num n, _ => dg n
  | .name s, _ => s
  | .tt, _ => [116, 114, 117, 101]
  | .ff, _ => [102, 97, 108, 115, 101]
  | .un op a, L => if lvl op < L then [40, 32] ++ (opS op ++ [32] ++ prs a 9) ++ [32, 41] else opS op ++ [32] ++ prs a 9
  | .bin op a b, L => if lvl op < L then [40, 32] ++ (prs a (lvl op) ++ [32] ++ opS op ++ [32] ++ prs b (lvl op + 1)) ++ [32, 41] else prs a (lvl op) ++ [32] ++ opS op ++ [32] ++ prs b (lvl op + 1)
  | .ite a b c, _ => [105, 102, 32] ++ prs a 0 ++ [32, 116, 104, 101, 110, 32] ++ prs b 0 ++ [32, 101, 108, 115, 101, 32] ++ prs c 0 ++ [32, 101, 110, 100, 105, 102]
theorem prs_jn : ∀ (x : E) (L : Nat), prs x L = jn (pr x L)
  | .num _, _ => rfl
  | .name _, _ => rfl
  | .tt, _ => rfl
  | .ff, _ => rfl
  | .un op a, L => by
    have ea := prs_jn a 9
    have hb : jn (tok op :: pr a 9) = opS op ++ [32] ++ prs a 9 := by rw [jn_cons (pr_ne _ _), ← ea]; simp [tok]
    unfold prs pr
    split
    · rw [jn_app (by simp) (by simp), jn_cons (by simp), hb, jn_one]; simp
    · exact hb.symm
  | .bin op a b, L => by
    have ea := prs_jn a (lvl op)
    have eb := prs_jn b (lvl op + 1)
    have hb : jn (pr a (lvl op) ++ tok op :: pr b (lvl op + 1)) = prs a (lvl op) ++ [32] ++ opS op ++ [32] ++ prs b (lvl op + 1) := by
      rw [jn_app (pr_ne _ _) (by simp), jn_cons (pr_ne _ _), ← ea, ← eb]; simp [tok]
    unfold prs pr
    split
    · rw [jn_app (by simp) (by simp), jn_cons (by simp), hb, jn_one]; simp
    · exact hb.symm
  | .ite a b c, L => by
    have ea := prs_jn a 0
    have eb := prs_jn b 0
    have ec := prs_jn c 0
    have e : pr (.ite a b c) L = [wT [105, 102]] ++ (pr a 0 ++ ([wT [116, 104, 101, 110]] ++ (pr b 0 ++ ([wT [101, 108, 115, 101]] ++ (pr c 0 ++ [wT [101, 110, 100, 105, 102]]))))) := by
      conv => lhs; unfold pr
      simp
    rw [e, jn_app (by simp) (by simp), jn_app (pr_ne _ _) (by simp), jn_app (by simp) (by simp), jn_app (pr_ne _ _) (by simp), jn_app (by simp) (by simp), jn_app (pr_ne _ _) (by simp), ← ea, ← eb, ← ec]
    simp only [jn_one, wT, prs]
    simp
def dp : E → Nat
  | .un _ a => dp a + 1
  | .bin _ a b => max (dp a) (dp b) + 1
  | .ite a b c => max (dp a) (max (dp b) (dp c)) + 1
  | _ => 1
end Ex
end Go.Proofs.YtdcjpinbflmikaaGreatDoor
namespace Go.Proofs.YtdcjpinbflmikaaGreatDoor
namespace Ex
theorem dp_pos : ∀ x : E, 1 ≤ dp x := fun x => by cases x <;> simp [dp]
end Ex
end Go.Proofs.YtdcjpinbflmikaaGreatDoor
namespace Go.Proofs.YtdcjpinbflmikaaGreatDoor
namespace Ex
theorem nx_more2 {r T : List Tk} (h : r ≠ []) : nx (r ++ T) = nx r := by
  cases r with
  | nil => exact absurd rfl h
  | cons _ _ => rfl
theorem of2_more {n : Nat} {r T : List Tk} (h : of2 n (nx T) = 0) (h0 : of2 n (nx r) = 0) : of2 n (nx (r ++ T)) = 0 := by
  cases r with
  | nil => exact h
  | cons _ _ => exact h0
theorem tail_more {ts T : List Tk} (h : ts ≠ []) : (ts ++ T).tail = ts.tail ++ T := by
  cases ts with
  | nil => exact absurd rfl h
  | cons _ _ => rfl
theorem eat_more {s : List UInt8} (hs : s ≠ []) {r T : List Tk} {f g : List Tk → Rs} {r2 : List Tk} {a : E} (h : eat s r f = .ok r2 a) (hf : f r.tail = .ok r2 a → g (r.tail ++ T) = .ok (r2 ++ T) a) : eat s (r ++ T) g = .ok (r2 ++ T) a := by
  obtain ⟨h1, _, h3⟩ := eat_ok hs h
  have hne := nx_nil (ts := r) (by rw [h1]; exact hs)
  unfold eat
  rw [nx_more2 hne, if_pos h1, tail_more hne]
  exact hf h3
theorem kd_more {ts T : List Tk} (h : ts ≠ []) : kd (ts ++ T) = kd ts := by
  cases ts with
  | nil => exact absurd rfl h
  | cons _ _ => rfl
theorem then2_r (r : List Tk) (a : E) (f : List Tk → E → Rs) : then2 (.ok r a) f = f r a := rfl
theorem rd_more {T : List Tk} (hT : St 1 T) : ∀ (f : Nat) (m : Md) (ts r : List Tk) (x : E), okm m ts → (∀ n, m = .lev n → 1 ≤ n) → (∀ n a, m = .loop n a → 1 ≤ n) → rd f m ts = .ok r x → R m (ts ++ T) = .ok (r ++ T) x
  | 0, _, _, _, _, _, _, _, h => by cases h
  | f + 1, .lev n, ts, r, x, ho, hl1, _, h => by
    have h1n := hl1 n rfl
    simp only [okm] at ho
    unfold rd at h
    split at h
    · rename_i e; subst e
      rw [R_10]
      exact rd_more hT f .pri _ _ _ True.intro (fun _ e => by cases e) (fun _ _ e => by cases e) h
    · split at h
      · rename_i e; subst e
        rw [R_9]
        exact rd_more hT f .una _ _ _ True.intro (fun _ e => by cases e) (fun _ _ e => by cases e) h
      · obtain ⟨r1, a1, h1, h2⟩ := then2_ok h
        have e1 := rd_more hT f (.lev (n + 1)) _ _ _ (by simp only [okm]; omega) (fun k e => by cases e; omega) (fun _ _ e => by cases e) h1
        have e2 := rd_more hT f (.loop n a1) _ _ _ (by simp only [okm]; omega) (fun _ e => by cases e) (fun k _ e => by cases e; exact h1n) h2
        rw [R_lev (by omega), e1]
        exact e2
  | f + 1, .loop n a, ts, r, x, ho, _, hl2, h => by
    have h1n := hl2 n a rfl
    simp only [okm] at ho
    unfold rd at h
    split at h
    · rename_i h0
      cases h
      exact R_loop0 (of2_more (hT n h1n ho) h0)
    · rename_i hop
      have hne := nx_nil (of2_nx hop)
      obtain ⟨r1, b1, h1, h2⟩ := then2_ok h
      have e1 := rd_more hT f (.lev (n + 1)) _ _ _ (by simp only [okm]; omega) (fun k e => by cases e; omega) (fun _ _ e => by cases e) h1
      have e2 := rd_more hT f (.loop n (.bin (of2 n (nx ts)) a b1)) _ _ _ (by simp only [okm]; omega) (fun _ e => by cases e) (fun k _ e => by cases e; exact h1n) h2
      rw [R_loop ho (by rw [nx_more2 hne]; exact hop), tail_more hne, e1, nx_more2 hne]
      exact e2
  | f + 1, .una, ts, r, x, _, _, _, h => by
    unfold rd at h
    split at h
    · rename_i hop
      have hne := nx_nil (ts := ts) (by rw [hop]; simp)
      obtain ⟨r1, a1, h1, h2⟩ := then2_ok h
      have e1 := rd_more hT f .una _ _ _ True.intro (fun _ e => by cases e) (fun _ _ e => by cases e) h1
      cases h2
      rw [R_una5 (by rw [nx_more2 hne]; exact hop), tail_more hne, e1]; rfl
    · rename_i h5
      split at h
      · rename_i hop
        have hne := nx_nil (ts := ts) (by rw [hop]; simp)
        obtain ⟨r1, a1, h1, h2⟩ := then2_ok h
        have e1 := rd_more hT f .una _ _ _ True.intro (fun _ e => by cases e) (fun _ _ e => by cases e) h1
        cases h2
        rw [R_una6 (by rw [nx_more2 hne]; exact hop), tail_more hne, e1]; rfl
      · rename_i h6
        have hne : ts ≠ [] := fun e => by
          subst e
          cases f with
          | zero => cases h
          | succ f => unfold rd at h; simp [nx] at h
        rw [R_unap (by rw [nx_more2 hne]; exact h5) (by rw [nx_more2 hne]; exact h6)]
        exact rd_more hT f .pri _ _ _ True.intro (fun _ e => by cases e) (fun _ _ e => by cases e) h
  | f + 1, .pri, ts, r, x, _, _, _, h => by
    have hne : ts ≠ [] := fun e => by subst e; unfold rd at h; simp [nx] at h
    unfold rd at h
    split at h
    · rename_i hop
      obtain ⟨r1, a1, h1, h2⟩ := then2_ok h
      have e1 := rd_more hT f (.lev 1) _ _ _ (by simp [okm]) (fun k e => by cases e; exact Nat.le_refl _) (fun _ _ e => by cases e) h1
      rw [R_par (by rw [nx_more2 hne]; exact hop), tail_more hne, e1, then2_r]
      exact eat_more (T := T) (by simp) h2 (fun q => by cases q; rfl)
    · rename_i c1
      split at h
      · rename_i hop
        rw [R_if (by rw [nx_more2 hne]; exact hop)]
        exact rd_more hT f .bra _ _ _ hne (fun _ e => by cases e) (fun _ _ e => by cases e) h
      · rename_i c2
        unfold R rd
        rw [nx_more2 hne, tail_more hne, kd_more hne, if_neg c1, if_neg c2]
        split at h
        · rename_i c3; cases h; rw [if_pos c3]
        · rename_i c3
          rw [if_neg c3]
          split at h
          · rename_i c4; cases h; rw [if_pos c4]
          · rename_i c4
            rw [if_neg c4]
            split at h
            · rename_i c5
              rw [if_pos c5]
              cases hv : numv (nx ts) with
              | none => rw [hv] at h; cases h
              | some v => rw [hv] at h; cases h; rfl
            · rename_i c5
              rw [if_neg c5]
              split at h
              · rename_i c6; cases h; rw [if_pos c6]
              · cases h
  | f + 1, .bra, ts, r, x, ho, _, _, h => by
    have hne : ts ≠ [] := ho
    unfold rd at h
    obtain ⟨r1, a1, h1, h2⟩ := then2_ok h
    have e1 := rd_more hT f (.lev 1) _ _ _ (by simp [okm]) (fun k e => by cases e; exact Nat.le_refl _) (fun _ _ e => by cases e) h1
    rw [R_bra (by simp [hne]), tail_more hne, e1, then2_r]
    refine eat_more (T := T) (by simp) h2 (fun q => ?_)
    obtain ⟨r4, a4, h4, h5⟩ := then2_ok q
    have e4 := rd_more hT f (.lev 1) _ _ _ (by simp [okm]) (fun k e => by cases e; exact Nat.le_refl _) (fun _ _ e => by cases e) h4
    rw [e4, then2_r]
    refine eat_more (T := T) (by simp) h5 (fun q2 => ?_)
    obtain ⟨r7, a7, h7, h8⟩ := then2_ok q2
    have e7 := rd_more hT f (.lev 1) _ _ _ (by simp [okm]) (fun k e => by cases e; exact Nat.le_refl _) (fun _ _ e => by cases e) h7
    rw [e7, then2_r]
    exact eat_more (T := T) (by simp) h8 (fun q3 => by cases q3; rfl)
theorem in_par {ts T : List Tk} {x : E} (h : R (.lev 1) ts = .ok [] x) (hT : St 1 T) : R (.lev 1) ((4, [40]) :: ts ++ [(4, [41])] ++ T) = .ok T x := by
  have h1 : R (.lev 1) (ts ++ (4, [41]) :: T) = .ok ((4, [41]) :: T) x := rd_more (T := (4, [41]) :: T) st_pac _ (.lev 1) _ _ _ (by simp [okm]) (fun k e => by cases e; exact Nat.le_refl _) (fun _ _ e => by cases e) h
  rw [down9 (una_par h1) 1 (by decide) (hT.up (by decide)), hT.end_ (by decide)]
end Ex
end Go.Proofs.YtdcjpinbflmikaaGreatDoor
namespace Go.Proofs.YtdcjpinbflmikaaGreatDoor
namespace Nu
def dig (n : Nat) : List Nat := if h : n = 0 then [] else n % 10 :: dig (n / 10)
termination_by n
decreasing_by omega
theorem dig_zero : dig 0 = [] := by rw [dig]; rfl
theorem dig_pos {n : Nat} (h : n ≠ 0) : dig n = n % 10 :: dig (n / 10) := by rw [dig, dif_neg h]
def val : List Nat → Nat
  | [] => 0
  | d :: l => d + 10 * val l
theorem val_dig (n : Nat) : val (dig n) = n := by
  induction n using Nat.strongRecOn with
  | _ n ih =>
    by_cases h : n = 0
    · subst h; rw [dig_zero]; rfl
    · rw [dig_pos h]; simp only [val]; rw [ih (n / 10) (by omega)]; omega
theorem dig_lt {n d : Nat} (h : d ∈ dig n) : d < 10 := by
  induction n using Nat.strongRecOn with
  | _ n ih =>
    by_cases hn : n = 0
    · subst hn; rw [dig_zero] at h; cases h
    · rw [dig_pos hn] at h
      rcases List.mem_cons.1 h with rfl | h
      · omega
      · exact ih (n / 10) (by omega) h
theorem val_append (l m : List Nat) : val (l ++ m) = val l + 10 ^ l.length * val m := by
  induction l with
  | nil => simp [val]
  | cons d l ih =>
    simp only [List.cons_append, val, ih, List.length_cons, Nat.pow_succ]
    rw [Nat.mul_add, Nat.mul_comm (10 ^ l.length) 10, Nat.mul_assoc, Nat.add_assoc]
theorem val_snoc (l : List Nat) (d : Nat) : val (l ++ [d]) = val l + 10 ^ l.length * d := by rw [val_append]; simp [val]
theorem val_lt {l : List Nat} (h : ∀ d ∈ l, d < 10) : val l < 10 ^ l.length := by
  induction l with
  | nil => simp [val]
  | cons d l ih =>
    have h1 := ih (fun d hd => h d (List.mem_cons_of_mem _ hd))
    have h2 := h d (List.mem_cons_self ..)
    simp only [val, List.length_cons, Nat.pow_succ]
    omega
theorem dig_len_le {n k : Nat} (h : n < 10 ^ k) : (dig n).length ≤ k := by
  induction k generalizing n with
  | zero => have : n = 0 := by simp at h; exact h
            subst this; rw [dig_zero]; exact Nat.le_refl _
  | succ k ih =>
    by_cases hn : n = 0
    · subst hn; rw [dig_zero]; exact Nat.zero_le _
    · rw [dig_pos hn, List.length_cons]
      have := ih (n := n / 10) (by rw [Nat.pow_succ] at h; omega)
      omega
theorem lt_pow_len (n : Nat) : n < 10 ^ (dig n).length := by
  have := val_lt (l := dig n) (fun d hd => dig_lt hd)
  rwa [val_dig] at this
theorem dig_len_iff {n k : Nat} : (dig n).length ≤ k ↔ n < 10 ^ k :=
  ⟨fun h => Nat.lt_of_lt_of_le (lt_pow_len n) (Nat.pow_le_pow_right (by decide) h), dig_len_le⟩
theorem dig_at (n i : Nat) : (dig n).getD i 0 = n / 10 ^ i % 10 := by
  induction i generalizing n with
  | zero =>
    by_cases hn : n = 0
    · subst hn; rw [dig_zero]; rfl
    · rw [dig_pos hn]; simp
  | succ i ih =>
    by_cases hn : n = 0
    · subst hn; rw [dig_zero]; simp
    · rw [dig_pos hn, List.getD_cons_succ, ih, Nat.pow_succ, Nat.mul_comm, Nat.div_div_eq_div_mul]
theorem dig_get {n i : Nat} (h : i < (dig n).length) : (dig n)[i] = n / 10 ^ i % 10 := by
  rw [← dig_at, List.getD_eq_getElem?_getD, List.getElem?_eq_getElem h]; rfl
theorem dig_of_val : ∀ {l : List Nat}, (∀ d ∈ l, d < 10) → (∀ h : l ≠ [], l.getLast h ≠ 0) → dig (val l) = l
  | [], _, _ => dig_zero
  | d :: l, h, hl => by
    have hd := h d (List.mem_cons_self ..)
    have h0 : val (d :: l) ≠ 0 := by
      intro h0
      simp only [val] at h0
      by_cases hn : l = []
      · subst hn
        have := hl (by simp)
        simp at this
        omega
      · have h1 := dig_of_val (l := l) (fun d hd => h d (List.mem_cons_of_mem _ hd)) (fun hh => by have := hl (by simp); rwa [List.getLast_cons hh] at this)
        rw [show val l = 0 by omega, dig_zero] at h1
        exact hn h1.symm
    rw [dig_pos h0]
    simp only [val]
    rw [show (d + 10 * val l) % 10 = d by omega, show (d + 10 * val l) / 10 = val l by omega]
    by_cases hn : l = []
    · subst hn; simp [val, dig_zero]
    · rw [dig_of_val (l := l) (fun d hd => h d (List.mem_cons_of_mem _ hd)) (fun hh => by have := hl (by simp); rwa [List.getLast_cons hh] at this)]
theorem val_zero_end {l : List Nat} {k : Nat} (hk : k + 1 ≤ l.length) (h : l[k] = 0) : val (l.take k) = val (l.take (k + 1)) := by
  rw [List.take_succ_eq_append_getElem (by omega), val_snoc, h]; omega
theorem trim_done {l : List Nat} (hd : ∀ d ∈ l, d < 10) {k : Nat} (hk : k ≤ l.length) (h : ∀ h : 0 < k, l[k - 1] ≠ 0) (hv : val (l.take k) = val l) : l.take k = dig (val l) := by
  rw [← hv]
  refine (dig_of_val (fun d hm => hd d (List.mem_of_mem_take hm)) fun hn => ?_).symm
  have h0 : 0 < k := by
    rcases Nat.eq_zero_or_pos k with rfl | h0
    · simp at hn
    · exact h0
  have h1 := h h0
  rw [List.getLast_eq_getElem]
  simp only [List.getElem_take, List.length_take]
  have : min k l.length - 1 = k - 1 := by omega
  simp only [this]
  exact h1
theorem val_at : ∀ {l : List Nat} (_ : ∀ d ∈ l, d < 10) (i : Nat), l.getD i 0 = val l / 10 ^ i % 10
  | [], _, i => by simp [val]
  | d :: l, h, 0 => by
    have := h d (List.mem_cons_self ..)
    simp only [List.getD_cons_zero, val, Nat.pow_zero, Nat.div_one]
    omega
  | d :: l, h, i + 1 => by
    have h1 := h d (List.mem_cons_self ..)
    rw [List.getD_cons_succ, val_at (l := l) (fun e he => h e (List.mem_cons_of_mem _ he)) i, Nat.pow_succ, Nat.mul_comm, ← Nat.div_div_eq_div_mul]
    simp only [val]
    rw [show (d + 10 * val l) / 10 = val l by omega]
theorem shift_lt (i x : Nat) : ∀ d ∈ List.replicate i 0 ++ dig x, d < 10 := fun d hd => by
  rcases List.mem_append.1 hd with h | h
  · rw [List.mem_replicate] at h; omega
  · exact dig_lt h
theorem mod_pow_step (x i : Nat) : x % 10 ^ (i + 1) = x % 10 ^ i + 10 ^ i * (x / 10 ^ i % 10) := by
  rw [Nat.pow_succ, Nat.mod_mul]
theorem add_step {x y i c v : Nat} (h : v + 10 ^ i * c = x % 10 ^ i + y % 10 ^ i) :
    (v + 10 ^ i * ((x / 10 ^ i % 10 + y / 10 ^ i % 10 + c) % 10)) + 10 ^ (i + 1) * ((x / 10 ^ i % 10 + y / 10 ^ i % 10 + c) / 10) = x % 10 ^ (i + 1) + y % 10 ^ (i + 1) := by
  rw [mod_pow_step x, mod_pow_step y, Nat.pow_succ]
  generalize x / 10 ^ i % 10 = a at *
  generalize y / 10 ^ i % 10 = b at *
  generalize x % 10 ^ i = u at *
  generalize y % 10 ^ i = t at *
  generalize 10 ^ i = P at *
  have e : P * ((a + b + c) % 10) + P * 10 * ((a + b + c) / 10) = P * (a + b + c) := by
    rw [Nat.mul_assoc, ← Nat.mul_add]; congr 1; omega
  have e2 : P * (a + b + c) = P * a + P * b + P * c := by rw [Nat.mul_add, Nat.mul_add]
  omega
theorem take_step {x y i c d v : Nat} (h : x % 10 ^ i + 10 ^ i * c = y % 10 ^ i + v) {c' : Nat} (hd : x / 10 ^ i % 10 + 10 * c' = y / 10 ^ i % 10 + c + d) :
    x % 10 ^ (i + 1) + 10 ^ (i + 1) * c' = y % 10 ^ (i + 1) + (v + 10 ^ i * d) := by
  rw [mod_pow_step x, mod_pow_step y, Nat.pow_succ]
  generalize x / 10 ^ i % 10 = a at *
  generalize y / 10 ^ i % 10 = b at *
  generalize x % 10 ^ i = u at *
  generalize y % 10 ^ i = t at *
  generalize 10 ^ i = P at *
  have e : P * a + P * (10 * c') = P * b + P * c + P * d := by rw [← Nat.mul_add, hd, Nat.mul_add, Nat.mul_add]
  have e2 : P * 10 * c' = P * (10 * c') := Nat.mul_assoc ..
  omega
theorem take_end {x y i c v : Nat} (h : x % 10 ^ i + 10 ^ i * c = y % 10 ^ i + v) (hx : x < 10 ^ i) (hyx : y ≤ x) (hv : v < 10 ^ i) : v = x - y := by
  rw [Nat.mod_eq_of_lt hx, Nat.mod_eq_of_lt (by omega)] at h
  have hc : c = 0 := by
    rcases Nat.eq_zero_or_pos c with h0 | h0
    · exact h0
    · have : 10 ^ i * 1 ≤ 10 ^ i * c := Nat.mul_le_mul_left _ h0
      omega
  subst hc
  omega
theorem top_step (x i : Nat) : x / 10 ^ i = 10 * (x / 10 ^ (i + 1)) + x / 10 ^ i % 10 := by
  have : x / 10 ^ (i + 1) = x / 10 ^ i / 10 := by rw [Nat.pow_succ, Nat.div_div_eq_div_mul]
  omega
theorem top_full (x : Nat) : x / 10 ^ (dig x).length = 0 := Nat.div_eq_of_lt (lt_pow_len x)
theorem top_zero (x : Nat) : x / 10 ^ 0 = x := by simp
theorem lt_of_len {x y : Nat} (h : (dig x).length < (dig y).length) : x < y := by
  rcases Nat.lt_or_ge x y with h1 | h1
  · exact h1
  · have := dig_len_iff.2 (Nat.lt_of_le_of_lt h1 (lt_pow_len x))
    omega
theorem lt_of_top {x y i : Nat} (h : x / 10 ^ (i + 1) = y / 10 ^ (i + 1)) (hd : x / 10 ^ i % 10 < y / 10 ^ i % 10) : x < y := by
  rcases Nat.lt_or_ge x y with h1 | h1
  · exact h1
  · have := Nat.div_le_div_right (c := 10 ^ i) h1
    have e1 := top_step x i
    have e2 := top_step y i
    omega
theorem replicate_val (k : Nat) : val (List.replicate k 0) = 0 := by
  induction k with
  | zero => rfl
  | succ k ih => rw [List.replicate_succ, val, ih]
theorem replicate_dig (k x : Nat) : val (List.replicate k 0 ++ dig x) = 10 ^ k * x := by
  rw [val_append, replicate_val, val_dig, List.length_replicate]; omega
def fits (z : Int) : Prop := -9223372036854775808 ≤ z ∧ z ≤ 9223372036854775807
instance (z : Int) : Decidable (fits z) := by unfold fits; infer_instance
def tell (z : Int) : Int × Int := if fits z then (z, 0) else (0, 60)
theorem tell_in {z : Int} (h : fits z) : tell z = (z, 0) := if_pos h
theorem tell_out {z : Int} (h : ¬ fits z) : tell z = (0, 60) := if_neg h
theorem wrap_of {z : Int} (h : fits z) : IntKind.i64.wrap z = z := by rw [IntKind.wrap_i64]; unfold fits at h; omega
theorem wrap_fits (z : Int) : fits (IntKind.i64.wrap z) := by rw [IntKind.wrap_i64]; unfold fits; omega
theorem wrap_off (z : Int) : ∃ k : Int, IntKind.i64.wrap z = z - k * 18446744073709551616 := by
  rw [IntKind.wrap_i64]
  refine ⟨(z + 9223372036854775808) / 18446744073709551616, ?_⟩
  omega
theorem add_in {a b : Int} : (decide (a < a + b) == decide (0 < b)) = true := by
  by_cases h1 : a < a + b <;> by_cases h2 : 0 < b <;> simp only [h1, h2, decide_true, decide_false] <;> first | rfl | (exfalso; omega)
theorem add_out {a b : Int} (ha : fits a) (hb : fits b) (h : ¬ fits (a + b)) : (decide (a < IntKind.i64.wrap (a + b)) == decide (0 < b)) = false := by
  rw [IntKind.wrap_i64]
  unfold fits at *
  by_cases h1 : a < (a + b + 9223372036854775808) % 18446744073709551616 - 9223372036854775808 <;> by_cases h2 : 0 < b <;> simp only [h1, h2, decide_true, decide_false] <;> first | rfl | (exfalso; omega)
theorem sub_in {a b : Int} : (decide (a - b < a) == decide (0 < b)) = true := by
  by_cases h1 : a - b < a <;> by_cases h2 : 0 < b <;> simp only [h1, h2, decide_true, decide_false] <;> first | rfl | (exfalso; omega)
theorem sub_out {a b : Int} (ha : fits a) (hb : fits b) (h : ¬ fits (a - b)) : (decide (IntKind.i64.wrap (a - b) < a) == decide (0 < b)) = false := by
  rw [IntKind.wrap_i64]
  unfold fits at *
  by_cases h1 : (a - b + 9223372036854775808) % 18446744073709551616 - 9223372036854775808 < a <;> by_cases h2 : 0 < b <;> simp only [h1, h2, decide_true, decide_false] <;> first | rfl | (exfalso; omega)
theorem tdiv_fits {a b : Int} (ha : fits a) (hb : b ≠ 0) (hb1 : b ≠ -1) : fits (a.tdiv b) := by
  have h : (a.tdiv b).natAbs ≤ a.natAbs := by rw [Int.natAbs_tdiv]; exact Nat.div_le_self _ _
  have h2 : b.natAbs ≥ 2 ∨ b = 1 := by omega
  unfold fits at *
  rcases h2 with h2 | rfl
  · have h3 : (a.tdiv b).natAbs ≤ a.natAbs / 2 := by
      rw [Int.natAbs_tdiv]
      exact Nat.div_le_div_left h2 (by decide)
    omega
  · rw [Int.tdiv_one]; exact ha
theorem tmod_lt {a b : Int} (hb : b ≠ 0) : (a.tmod b).natAbs < b.natAbs := by rw [Int.natAbs_tmod]; exact Nat.mod_lt _ (by omega)
theorem tmod_fits {a b : Int} (hb : fits b) (h0 : b ≠ 0) : fits (a.tmod b) := by
  have := tmod_lt (a := a) h0
  unfold fits at *; omega
theorem mul_back_in {a b : Int} (hb : b ≠ 0) : (a * b).tdiv b = a := Int.mul_tdiv_cancel a hb
theorem mul_back_out {a b : Int} (hb : fits b) (h0 : b ≠ 0) (h : ¬ fits (a * b)) : (IntKind.i64.wrap (a * b)).tdiv b ≠ a := by
  intro e
  have h1 := wrap_fits (a * b)
  obtain ⟨k, hk⟩ := wrap_off (a * b)
  have h2 := Int.mul_tdiv_add_tmod (IntKind.i64.wrap (a * b)) b
  rw [e, hk, Int.mul_comm b a] at h2
  have h3 := tmod_lt (a := a * b - k * 18446744073709551616) h0
  rw [hk] at h1
  unfold fits at *
  generalize (a * b - k * 18446744073709551616).tmod b = r at *
  generalize a * b = p at *
  omega
theorem neg_one {a : Int} : a.tdiv (-1) = -a := by rw [Int.tdiv_neg, Int.tdiv_one]
end Nu
end Go.Proofs.YtdcjpinbflmikaaGreatDoor
