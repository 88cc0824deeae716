/- Facts and walks for the statement. -/
import Derived.Test.YtmmdigeciphglaaGreatDoorPzB00
namespace Go.Proofs.YtmmdigeciphglaaGreatDoor
namespace Ex
def St (n : Nat) (T : List Tk) : Prop := ∀ m, n ≤ m → m ≤ 8 → of2 m (nx T) = 0
theorem St.up {n k : Nat} {T : List Tk} (h : St n T) (hk : n ≤ k) : St k T := fun m h1 h2 => h m (by omega) h2
theorem St.end_ {n : Nat} {T : List Tk} (h : St n T) (hn : n ≤ 8) (x : E) : R (.loop n x) T = .ok T x := R_loop0 (h n (Nat.le_refl _) hn)
theorem st_word {n : Nat} {T : List Tk} {s : List UInt8} (h : nx T = s) (hs : ∀ m : Fin 9, of2 m.1 s = 0) : St n T := fun m _ h2 => by rw [h]; exact hs ⟨m, by omega⟩
theorem st_nil {n : Nat} : St n [] := st_word (s := []) rfl (by decide)
theorem down {x : E} {ts T : List Tk} {m : Nat} (hm : m ≤ 8) (h : R (.lev m) ts = R (.loop m x) T) : ∀ (d n : Nat), n + d = m → St (n + 1) T → R (.lev n) ts = R (.loop n x) T
  | 0, n, e, _ => by
    obtain rfl : n = m := by omega
    exact h
  | d + 1, n, e, hs => by
    have h1 := down hm h d (n + 1) (by omega) (hs.up (by omega))
    rw [R_lev (by omega), h1, hs.end_ (by omega)]
    rfl
theorem down9 {x : E} {ts T : List Tk} (h : R .una ts = .ok T x) : ∀ (n : Nat), n ≤ 8 → St (n + 1) T → R (.lev n) ts = R (.loop n x) T := fun n hn hs => by
  have h8 : R (.lev 8) ts = R (.loop 8 x) T := by
    rw [R_lev (Nat.le_refl 8), show (8 : Nat) + 1 = 9 from rfl, R_9, h]; rfl
  exact down (Nat.le_refl 8) h8 (8 - n) n (by omega) hs
structure Reads (x : E) : Prop where
  lev : ∀ n T, n ≤ 8 → St (n + 1) T → R (.lev n) (pr x n ++ T) = R (.loop n x) T
  una : ∀ T, R .una (pr x 9 ++ T) = .ok T x
  pri : ∀ T, R .pri (pr x 10 ++ T) = .ok T x
theorem Reads.top {x : E} (h : Reads x) (hp : pr x 0 = pr x 1) {T : List Tk} (hs : St 1 T) : R (.lev 1) (pr x 0 ++ T) = .ok T x := by
  rw [hp, h.lev 1 T (by decide) (hs.up (by decide)), hs.end_ (by decide)]
theorem pr01 {x : E} (h : wf x) : pr x 0 = pr x 1 := by
  cases x with
  | un op a =>
    have h1 : ¬ lvl op < 1 := by rcases h.1 with e | e <;> subst e <;> decide
    unfold pr
    rw [if_neg (by omega), if_neg h1]
  | bin op a b =>
    obtain ⟨h7, h21, _, _⟩ := h
    have h1 := (ops_all ⟨op, by omega⟩ h7).2.1
    simp only at h1
    unfold pr
    rw [if_neg (by omega), if_neg (by omega)]
  | _ => rfl
theorem Reads.of_pri {x : E} (hL : ∀ L, L ≤ 10 → pr x L = pr x 0) (h5 : ∀ T, nx (pr x 0 ++ T) ≠ [45] ∧ nx (pr x 0 ++ T) ≠ [110, 111, 116]) (h : ∀ T, R .pri (pr x 0 ++ T) = .ok T x) : Reads x := by
  have hu : ∀ T, R .una (pr x 0 ++ T) = .ok T x := fun T => by rw [R_unap (h5 T).1 (h5 T).2]; exact h T
  exact ⟨fun n T hn hs => by rw [hL n (by omega)]; exact down9 (hu T) n hn hs, fun T => by rw [hL 9 (by decide)]; exact hu T, fun T => by rw [hL 10 (by decide)]; exact h T⟩
theorem is_par : Lx.is [40] = 4 ∧ Lx.is [41] = 4 := by decide
theorem nx_par {r : List Tk} : nx ((4, [40]) :: r) = [40] := by simp [nx, is_par.1]
theorem nx_pac {r : List Tk} : nx ((4, [41]) :: r) = [41] := by simp [nx, is_par.2]
theorem pri_par {x : E} {b T : List Tk} (h : R (.lev 1) (b ++ (4, [41]) :: T) = .ok ((4, [41]) :: T) x) : R .pri ((4, [40]) :: b ++ [(4, [41])] ++ T) = .ok T x := by
  have e : (4, [40]) :: b ++ [(4, [41])] ++ T = ((4, [40]) : Tk) :: (b ++ (4, [41]) :: T) := by simp
  rw [e, R_par nx_par, List.tail_cons, h]
  unfold then2 eat
  simp only
  rw [if_pos nx_pac, List.tail_cons]
theorem una_par {x : E} {b T : List Tk} (h : R (.lev 1) (b ++ (4, [41]) :: T) = .ok ((4, [41]) :: T) x) : R .una ((4, [40]) :: b ++ [(4, [41])] ++ T) = .ok T x := by
  rw [R_unap (by rw [List.cons_append, List.cons_append, nx_par]; decide) (by rw [List.cons_append, List.cons_append, nx_par]; decide)]
  exact pri_par h
theorem st_pac {n : Nat} {T : List Tk} : St n ((4, [41]) :: T) := st_word nx_pac (by decide)
theorem reads : ∀ x : E, wf x → Reads x
  | .num n, h => by
    have e : ∀ T, nx ((1, dg n) :: T) = dg n := fun T => by simp [nx, h.2]
    have hd : ∀ s : List UInt8, Lx.is s ≠ 1 → dg n ≠ s := fun s hs e2 => hs (by rw [← e2]; exact h.2)
    refine Reads.of_pri (fun _ _ => rfl) (fun T => ⟨by rw [show pr (.num n) 0 ++ T = (1, dg n) :: T from rfl, e]; exact hd _ (by decide), by rw [show pr (.num n) 0 ++ T = (1, dg n) :: T from rfl, e]; exact hd _ (by decide)⟩) fun T => ?_
    rw [show pr (.num n) 0 ++ T = (1, dg n) :: T from rfl]
    unfold R rd
    rw [e, if_neg (hd _ (by decide)), if_neg (hd _ (by decide)), if_neg (hd _ (by decide)), if_neg (hd _ (by decide)), if_pos ⟨hd _ (by decide), rfl⟩, h.1]
    rfl
  | .name s, h => by
    have h : Lx.is s = 2 := h
    have e : ∀ T, nx ((2, s) :: T) = s := fun T => by simp [nx, h]
    have hd : ∀ t : List UInt8, Lx.is t ≠ 2 → s ≠ t := fun t ht e2 => ht (by rw [← e2]; exact h)
    refine Reads.of_pri (fun _ _ => rfl) (fun T => ⟨by rw [show pr (.name s) 0 ++ T = (2, s) :: T from rfl, e]; exact hd _ (by decide), by rw [show pr (.name s) 0 ++ T = (2, s) :: T from rfl, e]; exact hd _ (by decide)⟩) fun T => ?_
    rw [show pr (.name s) 0 ++ T = (2, s) :: T from rfl]
    unfold R rd
    rw [e, if_neg (hd _ (by decide)), if_neg (hd _ (by decide)), if_neg (hd _ (by decide)), if_neg (hd _ (by decide)), if_neg (fun q => absurd q.2 (by simp [kd])), if_pos ⟨hd _ (by decide), rfl⟩]
    rfl
  | .tt, _ => by
    have e : ∀ T, nx (wT [116, 114, 117, 101] :: T) = [116, 114, 117, 101] := fun T => by simp [nx, wT, show Lx.is [116, 114, 117, 101] = 3 by decide]
    refine Reads.of_pri (fun _ _ => rfl) (fun T => ⟨by rw [show pr .tt 0 ++ T = wT [116, 114, 117, 101] :: T from rfl, e]; decide, by rw [show pr .tt 0 ++ T = wT [116, 114, 117, 101] :: T from rfl, e]; decide⟩) fun T => ?_
    rw [show pr .tt 0 ++ T = wT [116, 114, 117, 101] :: T from rfl]
    unfold R rd
    rw [e, if_neg (by decide), if_neg (by decide), if_pos rfl]
    rfl
  | .ff, _ => by
    have e : ∀ T, nx (wT [102, 97, 108, 115, 101] :: T) = [102, 97, 108, 115, 101] := fun T => by simp [nx, wT, show Lx.is [102, 97, 108, 115, 101] = 3 by decide]
    refine Reads.of_pri (fun _ _ => rfl) (fun T => ⟨by rw [show pr .ff 0 ++ T = wT [102, 97, 108, 115, 101] :: T from rfl, e]; decide, by rw [show pr .ff 0 ++ T = wT [102, 97, 108, 115, 101] :: T from rfl, e]; decide⟩) fun T => ?_
    rw [show pr .ff 0 ++ T = wT [102, 97, 108, 115, 101] :: T from rfl]
    unfold R rd
    rw [e, if_neg (by decide), if_neg (by decide), if_neg (by decide), if_pos rfl]
    rfl
  | .un op a, h => by
    have ha := reads a h.2
    have hlv : lvl op = 9 := by rcases h.1 with e | e <;> subst e <;> rfl
    have hu : ∀ T, R .una (tok op :: pr a 9 ++ T) = .ok T (.un op a) := fun T => by
      rcases h.1 with e | e <;> subst e
      · rw [List.cons_append, R_una5 nx_tok, List.tail_cons, ha.una]; rfl
      · rw [List.cons_append, R_una6 nx_tok, List.tail_cons, ha.una]; rfl
    have p0 : ∀ L, L ≤ 9 → pr (.un op a) L = tok op :: pr a 9 := fun L hL => by
      conv => lhs; unfold pr
      rw [if_neg (by omega)]
    have p1 : pr (.un op a) 10 = (4, [40]) :: (tok op :: pr a 9) ++ [(4, [41])] := by
      conv => lhs; unfold pr
      rw [if_pos (by omega)]
    refine ⟨fun n T hn hs => by rw [p0 n (by omega)]; exact down9 (hu T) n hn hs, fun T => by rw [p0 9 (by decide)]; exact hu T, fun T => ?_⟩
    rw [p1]
    refine pri_par ?_
    rw [down9 (hu _) 1 (by decide) st_pac, (st_pac (n := 1)).end_ (by decide)]
  | .bin op a b, h => by
    obtain ⟨h7, h21, wa, wb⟩ := h
    have ha := reads a wa
    have hb := reads b wb
    obtain ⟨o1, o2, o3, o4⟩ := ops_all ⟨op, by omega⟩ h7
    simp only at o1 o2 o3 o4
    have hne : op ≠ 0 := by omega
    have hst : ∀ r, St (lvl op + 1) (tok op :: r) := fun r m h1 h2 => by rw [nx_tok]; exact o4 ⟨m, by omega⟩ (by simp only; omega)
    have hB : ∀ T, St (lvl op + 1) T → R (.lev (lvl op + 1)) (pr b (lvl op + 1) ++ T) = .ok T b := fun T hs => by
      by_cases h8 : lvl op + 1 ≤ 8
      · rw [hb.lev _ _ h8 (hs.up (by omega)), hs.end_ h8]
      · rw [show lvl op + 1 = 9 by omega, R_9]; exact hb.una T
    have hm : ∀ T, St (lvl op + 1) T → R (.lev (lvl op)) (pr a (lvl op) ++ tok op :: pr b (lvl op + 1) ++ T) = R (.loop (lvl op) (.bin op a b)) T := fun T hs => by
      rw [List.append_assoc, List.cons_append, ha.lev _ _ o3 (hst _), R_loop o3 (by rw [nx_tok, o1]; exact hne), List.tail_cons, hB T hs, nx_tok, o1]
      rfl
    have p0 : ∀ L, L ≤ lvl op → pr (.bin op a b) L = pr a (lvl op) ++ tok op :: pr b (lvl op + 1) := fun L hL => by
      conv => lhs; unfold pr
      rw [if_neg (by omega)]
    have p1 : ∀ L, lvl op < L → pr (.bin op a b) L = (4, [40]) :: (pr a (lvl op) ++ tok op :: pr b (lvl op + 1)) ++ [(4, [41])] := fun L hL => by
      conv => lhs; unfold pr
      rw [if_pos hL]
    have hin : ∀ T, R (.lev 1) (pr a (lvl op) ++ tok op :: pr b (lvl op + 1) ++ (4, [41]) :: T) = .ok ((4, [41]) :: T) (.bin op a b) := fun T => by
      rw [down o3 (hm _ st_pac) (lvl op - 1) 1 (by omega) st_pac, (st_pac (n := 1)).end_ (by decide)]
    refine ⟨fun n T hn hs => ?_, fun T => ?_, fun T => ?_⟩
    · by_cases hc : n ≤ lvl op
      · rw [p0 n hc]
        exact down o3 (hm T (hs.up (by omega))) (lvl op - n) n (by omega) hs
      · rw [p1 n (by omega)]
        exact down9 (una_par (hin T)) n hn hs
    · rw [p1 9 (by omega)]; exact una_par (hin T)
    · rw [p1 10 (by omega)]; exact pri_par (hin T)
  | .ite a b c, h => by
    obtain ⟨wa, wb, wc⟩ := h
    have ha := reads a wa
    have hb := reads b wb
    have hc := reads c wc
    have w1 : ∀ r, nx (wT [105, 102] :: r) = [105, 102] := fun r => by simp [nx, wT, show Lx.is [105, 102] = 3 by decide]
    have w2 : ∀ r, nx (wT [116, 104, 101, 110] :: r) = [116, 104, 101, 110] := fun r => by simp [nx, wT, show Lx.is [116, 104, 101, 110] = 3 by decide]
    have w3 : ∀ r, nx (wT [101, 108, 115, 101] :: r) = [101, 108, 115, 101] := fun r => by simp [nx, wT, show Lx.is [101, 108, 115, 101] = 3 by decide]
    have w4 : ∀ r, nx (wT [101, 110, 100, 105, 102] :: r) = [101, 110, 100, 105, 102] := fun r => by simp [nx, wT, show Lx.is [101, 110, 100, 105, 102] = 3 by decide]
    have ep : ∀ T, pr (.ite a b c) 0 ++ T = wT [105, 102] :: (pr a 0 ++ wT [116, 104, 101, 110] :: (pr b 0 ++ wT [101, 108, 115, 101] :: (pr c 0 ++ wT [101, 110, 100, 105, 102] :: T))) := fun T => by
      conv => lhs; unfold pr
      simp
    refine Reads.of_pri (fun _ _ => rfl) (fun T => ⟨by rw [ep, w1]; decide, by rw [ep, w1]; decide⟩) fun T => ?_
    rw [ep, R_if (w1 _), R_bra (by simp), List.tail_cons, ha.top (pr01 wa) (st_word (w2 _) (by decide))]
    unfold then2 eat
    simp only
    rw [if_pos (w2 _), List.tail_cons, hb.top (pr01 wb) (st_word (w3 _) (by decide))]
    simp only
    rw [if_pos (w3 _), List.tail_cons, hc.top (pr01 wc) (st_word (w4 _) (by decide))]
    simp only
    rw [if_pos (w4 _), List.tail_cons]
end Ex
end Go.Proofs.YtmmdigeciphglaaGreatDoor
namespace Go.Proofs.YtmmdigeciphglaaGreatDoor
namespace Ex
theorem of2_tells {n : Nat} {s : List UInt8} (h : of2 n s ≠ 0) : 7 ≤ of2 n s ∧ of2 n s ≤ 21 ∧ lvl (of2 n s) = n ∧ opS (of2 n s) = s := by
  unfold of2 at h ⊢
  have hm : ∀ op ∈ (List.range 15).map (· + 7), 7 ≤ op ∧ op ≤ 21 := by decide
  generalize (List.range 15).map (· + 7) = l at *
  induction l with
  | nil => exact absurd rfl h
  | cons a r ih =>
    rw [List.foldr_cons] at h ⊢
    by_cases hc : s ≠ [] ∧ opS a = s ∧ lvl a = n
    · rw [if_pos hc]
      have := hm a List.mem_cons_self
      exact ⟨this.1, this.2, hc.2.2, hc.2.1⟩
    · rw [if_neg hc] at h ⊢
      exact ih h (fun op ho => hm op (List.mem_cons_of_mem _ ho))
theorem pr_mono (x : E) {L L' : Nat} (h : L ≤ L') : (pr x L).length ≤ (pr x L').length := by
  cases x with
  | un op a =>
    unfold pr
    split <;> split <;> simp <;> omega
  | bin op a b =>
    unfold pr
    split <;> split <;> simp <;> omega
  | _ => exact Nat.le_refl _
theorem pr_most (x : E) (L : Nat) : (pr x L).length ≤ (pr x 0).length + 2 := by
  cases x with
  | un op a =>
    unfold pr
    split <;> split <;> simp <;> omega
  | bin op a b =>
    unfold pr
    split <;> split <;> simp <;> omega
  | _ => exact Nat.le_add_right _ _
theorem pr_bin {op n : Nat} (h : lvl op = n) (a b : E) : (pr (.bin op a b) n).length = (pr a n).length + 1 + (pr b (n + 1)).length := by
  subst h
  conv => lhs; unfold pr
  rw [if_neg (Nat.lt_irrefl _), List.length_append, List.length_cons]; omega
theorem pr_un {op : Nat} (h : lvl op = 9) (a : E) : (pr (.un op a) 9).length = 1 + (pr a 9).length := by
  conv => lhs; unfold pr
  rw [if_neg (by omega), List.length_cons]; omega
def Long (m : Md) (ts r : List Tk) (x : E) : Prop := match m with
  | .lev n => (pr x n).length + r.length ≤ ts.length
  | .loop n a => (pr x n).length + r.length ≤ ts.length + (pr a n).length
  | .una => (pr x 9).length + r.length ≤ ts.length
  | .pri => (pr x 10).length + r.length ≤ ts.length
  | .bra => (pr x 10).length + r.length ≤ ts.length
theorem rd_long : ∀ (f : Nat) (m : Md) (ts r : List Tk) (x : E), okm m ts → rd f m ts = .ok r x → Long m ts r x
  | 0, _, _, _, _, _, h => by cases h
  | f + 1, .lev n, ts, r, x, ho, h => by
    simp only [okm] at ho
    unfold rd at h
    split at h
    · rename_i e; subst e
      exact rd_long f .pri _ _ _ True.intro h
    · split at h
      · rename_i e; subst e
        exact rd_long f .una _ _ _ True.intro h
      · obtain ⟨r1, a1, h1, h2⟩ := then2_ok h
        have e1 := rd_long f (.lev (n + 1)) _ _ _ (by simp only [okm]; omega) h1
        have e2 := rd_long f (.loop n a1) _ _ _ (by simp only [okm]; omega) h2
        have e3 := pr_mono a1 (Nat.le_succ n)
        simp only [Long] at e1 e2 ⊢
        simp only [Nat.succ_eq_add_one] at e3
        omega
  | f + 1, .loop n a, ts, r, x, ho, h => by
    simp only [okm] at ho
    unfold rd at h
    split at h
    · cases h; simp only [Long]; omega
    · rename_i hop
      have hl := tail_lt (nx_nil (of2_nx hop))
      obtain ⟨_, _, t3, _⟩ := of2_tells hop
      obtain ⟨r1, b1, h1, h2⟩ := then2_ok h
      have e1 := rd_long f (.lev (n + 1)) _ _ _ (by simp only [okm]; omega) h1
      have e2 := rd_long f (.loop n (.bin (of2 n (nx ts)) a b1)) _ _ _ (by simp only [okm]; omega) h2
      have e3 := pr_bin t3 a b1
      simp only [Long] at e1 e2 ⊢
      omega
  | f + 1, .una, ts, r, x, _, h => by
    have hl : nx ts ≠ [] → ts.tail.length + 1 = ts.length := fun h => tail_lt (nx_nil h)
    unfold rd at h
    split at h
    · rename_i hop
      have := hl (by rw [hop]; simp)
      obtain ⟨r1, a1, h1, h2⟩ := then2_ok h
      have e1 := rd_long f .una _ _ _ True.intro h1
      cases h2
      have e3 := pr_un (op := 5) rfl a1
      simp only [Long] at e1 ⊢
      omega
    · split at h
      · rename_i hop
        have := hl (by rw [hop]; simp)
        obtain ⟨r1, a1, h1, h2⟩ := then2_ok h
        have e1 := rd_long f .una _ _ _ True.intro h1
        cases h2
        have e3 := pr_un (op := 6) rfl a1
        simp only [Long] at e1 ⊢
        omega
      · have e1 := rd_long f .pri _ _ _ True.intro h
        have e3 := pr_mono x (show 9 ≤ 10 by decide)
        simp only [Long] at e1 ⊢
        omega
  | f + 1, .pri, ts, r, x, _, h => by
    have hl : nx ts ≠ [] → ts.tail.length + 1 = ts.length := fun h => tail_lt (nx_nil h)
    unfold rd at h
    simp only [Long]
    split at h
    · rename_i hop
      obtain ⟨r1, a1, h1, h2⟩ := then2_ok h
      obtain ⟨_, e3, e4⟩ := eat_ok (by simp) h2
      have e1 := rd_long f (.lev 1) _ _ _ (by simp [okm]) h1
      cases e4
      have := hl (by rw [hop]; simp)
      have q1 := pr_most x 10
      have q2 := pr_mono x (show 0 ≤ 1 by decide)
      simp only [Long] at e1
      omega
    · split at h
      · rename_i hop
        exact rd_long f .bra _ _ _ (nx_nil (by rw [hop]; simp)) h
      · split at h
        · rename_i hop; cases h; have := hl (by rw [hop]; simp); simp [pr]; omega
        · split at h
          · rename_i hop; cases h; have := hl (by rw [hop]; simp); simp [pr]; omega
          · split at h
            · rename_i hop
              split at h
              · cases h; have := hl hop.1; simp [pr]; omega
              · cases h
            · split at h
              · rename_i hop; cases h; have := hl hop.1; simp [pr]; omega
              · cases h
  | f + 1, .bra, ts, r, x, ho, h => by
    have hl := tail_lt (show ts ≠ [] from ho)
    unfold rd at h
    simp only [Long]
    obtain ⟨r1, a1, h1, h2⟩ := then2_ok h
    obtain ⟨_, e3, h3⟩ := eat_ok (by simp) h2
    obtain ⟨r4, a4, h4, h5⟩ := then2_ok h3
    obtain ⟨_, e6, h6⟩ := eat_ok (by simp) h5
    obtain ⟨r7, a7, h7, h8⟩ := then2_ok h6
    obtain ⟨_, e9, h9⟩ := eat_ok (by simp) h8
    have q1 := rd_long f (.lev 1) _ _ _ (by simp [okm]) h1
    have q4 := rd_long f (.lev 1) _ _ _ (by simp [okm]) h4
    have q7 := rd_long f (.lev 1) _ _ _ (by simp [okm]) h7
    have m1 := pr_mono a1 (show 0 ≤ 1 by decide)
    have m4 := pr_mono a4 (show 0 ≤ 1 by decide)
    have m7 := pr_mono a7 (show 0 ≤ 1 by decide)
    cases h9
    simp only [Long] at q1 q4 q7
    simp only [pr, List.length_append, List.length_cons, List.length_nil]
    omega
end Ex
end Go.Proofs.YtmmdigeciphglaaGreatDoor
namespace Go.Proofs.YtmmdigeciphglaaGreatDoor
namespace Ex
def jn : List Tk → List UInt8
  | [] => []
  | t :: r => if r = [] then t.2 else t.2 ++ 32 :: jn r
theorem jn_app : ∀ {A B : List Tk}, A ≠ [] → B ≠ [] → jn (A ++ B) = jn A ++ 32 :: jn B
  | [], _, h, _ => absurd rfl h
  | [t], B, _, hB => by
    show (if B = [] then t.2 else t.2 ++ 32 :: jn B) = (if ([] : List Tk) = [] then t.2 else _) ++ 32 :: jn B
    rw [if_neg hB, if_pos rfl]
  | t :: u :: r, B, _, hB => by
    have ih := jn_app (A := u :: r) (B := B) (by simp) hB
    show (if u :: r ++ B = [] then t.2 else t.2 ++ 32 :: jn (u :: r ++ B)) = (if u :: r = [] then t.2 else t.2 ++ 32 :: jn (u :: r)) ++ 32 :: jn B
    rw [if_neg (by simp), if_neg (by simp), ih]
    simp
theorem jn_one (t : Tk) : jn [t] = t.2 := rfl
theorem jn_cons {t : Tk} {r : List Tk} (h : r ≠ []) : jn (t :: r) = t.2 ++ 32 :: jn r := if_neg h
theorem pr_ne (x : E) (L : Nat) : pr x L ≠ [] := by
  cases x with
  | un op a => unfold pr; split <;> simp
  | bin op a b => unfold pr; split <;> simp
  | ite a b c => unfold pr; simp
  | _ => unfold pr; simp
def prs : E → Nat → List UInt8
  | .num n, _ => dg n
  | .name s, _ => s
  | .tt, _ => [116, 114, 117, 101]
  | .ff, _ => [102, 97, 108, 115, 101]
  | .un op a, L => if lvl op < L then [40, 32] ++ (opS op ++ [32] ++ prs a 9) ++ [32, 41] else opS op ++ [32] ++ prs a 9
  | .bin op a b, L => if lvl op < L then [40, 32] ++ (prs a (lvl op) ++ [32] ++ opS op ++ [32] ++ prs b (lvl op + 1)) ++ [32, 41] else prs a (lvl op) ++ [32] ++ opS op ++ [32] ++ prs b (lvl op + 1)
  | .ite a b c, _ => [105, 102, 32] ++ prs a 0 ++ [32, 116, 104, 101, 110, 32] ++ prs b 0 ++ [32, 101, 108, 115, 101, 32] ++ prs c 0 ++ [32, 101, 110, 100, 105, 102]
theorem prs_jn : ∀ (x : E) (L : Nat), prs x L = jn (pr x L)
  | .num _, _ => rfl
  | .name _, _ => rfl
  | .tt, _ => rfl
  | .ff, _ => rfl
  | .un op a, L => by
    have ea := prs_jn a 9
    have hb : jn (tok op :: pr a 9) = opS op ++ [32] ++ prs a 9 := by rw [jn_cons (pr_ne _ _), ← ea]; simp [tok]
    unfold prs pr
    split
    · rw [jn_app (by simp) (by simp), jn_cons (by simp), hb, jn_one]; simp
    · exact hb.symm
  | .bin op a b, L => by
    have ea := prs_jn a (lvl op)
    have eb := prs_jn b (lvl op + 1)
    have hb : jn (pr a (lvl op) ++ tok op :: pr b (lvl op + 1)) = prs a (lvl op) ++ [32] ++ opS op ++ [32] ++ prs b (lvl op + 1) := by
      rw [jn_app (pr_ne _ _) (by simp), jn_cons (pr_ne _ _), ← ea, ← eb]; simp [tok]
    unfold prs pr
    split
    · rw [jn_app (by simp) (by simp), jn_cons (by simp), hb, jn_one]; simp
    · exact hb.symm
  | .ite a b c, L => by
    have ea := prs_jn a 0
    have eb := prs_jn b 0
    have ec := prs_jn c 0
    have e : pr (.ite a b c) L = [wT [105, 102]] ++ (pr a 0 ++ ([wT [116, 104, 101, 110]] ++ (pr b 0 ++ ([wT [101, 108, 115, 101]] ++ (pr c 0 ++ [wT [101, 110, 100, 105, 102]]))))) := by
      conv => lhs; unfold pr
      simp
    rw [e, jn_app (by simp) (by simp), jn_app (pr_ne _ _) (by simp), jn_app (by simp) (by simp), jn_app (pr_ne _ _) (by simp), jn_app (by simp) (by simp), jn_app (pr_ne _ _) (by simp), ← ea, ← eb, ← ec]
    simp only [jn_one, wT, prs]
    simp
def dp : E → Nat
  | .un _ a => dp a + 1
  | .bin _ a b => max (dp a) (dp b) + 1
  | .ite a b c => max (dp a) (max (dp b) (dp c)) + 1
  | _ => 1
end Ex
end Go.Proofs.YtmmdigeciphglaaGreatDoor
namespace Go.Proofs.YtmmdigeciphglaaGreatDoor
namespace Ex
theorem dp_pos : ∀ x : E, 1 ≤ dp x := fun x => by cases x <;> simp [dp]
end Ex
end Go.Proofs.YtmmdigeciphglaaGreatDoor
namespace Go.Proofs.YtmmdigeciphglaaGreatDoor
namespace Ex
theorem nx_more2 {r T : List Tk} (h : r ≠ []) : nx (r ++ T) = nx r := by
  cases r with
  | nil => exact absurd rfl h
  | cons _ _ => rfl
theorem of2_more {n : Nat} {r T : List Tk} (h : of2 n (nx T) = 0) (h0 : of2 n (nx r) = 0) : of2 n (nx (r ++ T)) = 0 := by
  cases r with
  | nil => exact h
  | cons _ _ => exact h0
theorem tail_more {ts T : List Tk} (h : ts ≠ []) : (ts ++ T).tail = ts.tail ++ T := by
  cases ts with
  | nil => exact absurd rfl h
  | cons _ _ => rfl
theorem eat_more {s : List UInt8} (hs : s ≠ []) {r T : List Tk} {f g : List Tk → Rs} {r2 : List Tk} {a : E} (h : eat s r f = .ok r2 a) (hf : f r.tail = .ok r2 a → g (r.tail ++ T) = .ok (r2 ++ T) a) : eat s (r ++ T) g = .ok (r2 ++ T) a := by
  obtain ⟨h1, _, h3⟩ := eat_ok hs h
  have hne := nx_nil (ts := r) (by rw [h1]; exact hs)
  unfold eat
  rw [nx_more2 hne, if_pos h1, tail_more hne]
  exact hf h3
theorem kd_more {ts T : List Tk} (h : ts ≠ []) : kd (ts ++ T) = kd ts := by
  cases ts with
  | nil => exact absurd rfl h
  | cons _ _ => rfl
theorem then2_r (r : List Tk) (a : E) (f : List Tk → E → Rs) : then2 (.ok r a) f = f r a := rfl
theorem rd_more {T : List Tk} (hT : St 1 T) : ∀ (f : Nat) (m : Md) (ts r : List Tk) (x : E), okm m ts → (∀ n, m = .lev n → 1 ≤ n) → (∀ n a, m = .loop n a → 1 ≤ n) → rd f m ts = .ok r x → R m (ts ++ T) = .ok (r ++ T) x
  | 0, _, _, _, _, _, _, _, h => by cases h
  | f + 1, .lev n, ts, r, x, ho, hl1, _, h => by
    have h1n := hl1 n rfl
    simp only [okm] at ho
    unfold rd at h
    split at h
    · rename_i e; subst e
      rw [R_10]
      exact rd_more hT f .pri _ _ _ True.intro (fun _ e => by cases e) (fun _ _ e => by cases e) h
    · split at h
      · rename_i e; subst e
        rw [R_9]
        exact rd_more hT f .una _ _ _ True.intro (fun _ e => by cases e) (fun _ _ e => by cases e) h
      · obtain ⟨r1, a1, h1, h2⟩ := then2_ok h
        have e1 := rd_more hT f (.lev (n + 1)) _ _ _ (by simp only [okm]; omega) (fun k e => by cases e; omega) (fun _ _ e => by cases e) h1
        have e2 := rd_more hT f (.loop n a1) _ _ _ (by simp only [okm]; omega) (fun _ e => by cases e) (fun k _ e => by cases e; exact h1n) h2
        rw [R_lev (by omega), e1]
        exact e2
  | f + 1, .loop n a, ts, r, x, ho, _, hl2, h => by
    have h1n := hl2 n a rfl
    simp only [okm] at ho
    unfold rd at h
    split at h
    · rename_i h0
      cases h
      exact R_loop0 (of2_more (hT n h1n ho) h0)
    · rename_i hop
      have hne := nx_nil (of2_nx hop)
      obtain ⟨r1, b1, h1, h2⟩ := then2_ok h
      have e1 := rd_more hT f (.lev (n + 1)) _ _ _ (by simp only [okm]; omega) (fun k e => by cases e; omega) (fun _ _ e => by cases e) h1
      have e2 := rd_more hT f (.loop n (.bin (of2 n (nx ts)) a b1)) _ _ _ (by simp only [okm]; omega) (fun _ e => by cases e) (fun k _ e => by cases e; exact h1n) h2
      rw [R_loop ho (by rw [nx_more2 hne]; exact hop), tail_more hne, e1, nx_more2 hne]
      exact e2
  | f + 1, .una, ts, r, x, _, _, _, h => by
    unfold rd at h
    split at h
    · rename_i hop
      have hne := nx_nil (ts := ts) (by rw [hop]; simp)
      obtain ⟨r1, a1, h1, h2⟩ := then2_ok h
      have e1 := rd_more hT f .una _ _ _ True.intro (fun _ e => by cases e) (fun _ _ e => by cases e) h1
      cases h2
      rw [R_una5 (by rw [nx_more2 hne]; exact hop), tail_more hne, e1]; rfl
    · rename_i h5
      split at h
      · rename_i hop
        have hne := nx_nil (ts := ts) (by rw [hop]; simp)
        obtain ⟨r1, a1, h1, h2⟩ := then2_ok h
        have e1 := rd_more hT f .una _ _ _ True.intro (fun _ e => by cases e) (fun _ _ e => by cases e) h1
        cases h2
        rw [R_una6 (by rw [nx_more2 hne]; exact hop), tail_more hne, e1]; rfl
      · rename_i h6
        have hne : ts ≠ [] := fun e => by
          subst e
          cases f with
          | zero => cases h
          | succ f => unfold rd at h; simp [nx] at h
        rw [R_unap (by rw [nx_more2 hne]; exact h5) (by rw [nx_more2 hne]; exact h6)]
        exact rd_more hT f .pri _ _ _ True.intro (fun _ e => by cases e) (fun _ _ e => by cases e) h
  | f + 1, .pri, ts, r, x, _, _, _, h => by
    have hne : ts ≠ [] := fun e => by subst e; unfold rd at h; simp [nx] at h
    unfold rd at h
    split at h
    · rename_i hop
      obtain ⟨r1, a1, h1, h2⟩ := then2_ok h
      have e1 := rd_more hT f (.lev 1) _ _ _ (by simp [okm]) (fun k e => by cases e; exact Nat.le_refl _) (fun _ _ e => by cases e) h1
      rw [R_par (by rw [nx_more2 hne]; exact hop), tail_more hne, e1, then2_r]
      exact eat_more (T := T) (by simp) h2 (fun q => by cases q; rfl)
    · rename_i c1
      split at h
      · rename_i hop
        rw [R_if (by rw [nx_more2 hne]; exact hop)]
        exact rd_more hT f .bra _ _ _ hne (fun _ e => by cases e) (fun _ _ e => by cases e) h
      · rename_i c2
        unfold R rd
        rw [nx_more2 hne, tail_more hne, kd_more hne, if_neg c1, if_neg c2]
        split at h
        · rename_i c3; cases h; rw [if_pos c3]
        · rename_i c3
          rw [if_neg c3]
          split at h
          · rename_i c4; cases h; rw [if_pos c4]
          · rename_i c4
            rw [if_neg c4]
            split at h
            · rename_i c5
              rw [if_pos c5]
              cases hv : numv (nx ts) with
              | none => rw [hv] at h; cases h
              | some v => rw [hv] at h; cases h; rfl
            · rename_i c5
              rw [if_neg c5]
              split at h
              · rename_i c6; cases h; rw [if_pos c6]
              · cases h
  | f + 1, .bra, ts, r, x, ho, _, _, h => by
    have hne : ts ≠ [] := ho
    unfold rd at h
    obtain ⟨r1, a1, h1, h2⟩ := then2_ok h
    have e1 := rd_more hT f (.lev 1) _ _ _ (by simp [okm]) (fun k e => by cases e; exact Nat.le_refl _) (fun _ _ e => by cases e) h1
    rw [R_bra (by simp [hne]), tail_more hne, e1, then2_r]
    refine eat_more (T := T) (by simp) h2 (fun q => ?_)
    obtain ⟨r4, a4, h4, h5⟩ := then2_ok q
    have e4 := rd_more hT f (.lev 1) _ _ _ (by simp [okm]) (fun k e => by cases e; exact Nat.le_refl _) (fun _ _ e => by cases e) h4
    rw [e4, then2_r]
    refine eat_more (T := T) (by simp) h5 (fun q2 => ?_)
    obtain ⟨r7, a7, h7, h8⟩ := then2_ok q2
    have e7 := rd_more hT f (.lev 1) _ _ _ (by simp [okm]) (fun k e => by cases e; exact Nat.le_refl _) (fun _ _ e => by cases e) h7
    rw [e7, then2_r]
    exact eat_more (T := T) (by simp) h8 (fun q3 => by cases q3; rfl)
end Ex
end Go.Proofs.YtmmdigeciphglaaGreatDoor
