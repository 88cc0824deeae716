/- Plain facts on expressions: what is written is read as it was. No program is named here; no condition. -/
import Derived.Test.YtdcjpinbflmikaaGreatDoorExBack
namespace Go.Proofs.YtdcjpinbflmikaaGreatDoor
namespace Ex

/-- The token that comes is no op of such levels. -/
def St (n : Nat) (T : List Tk) : Prop := ∀ m, n ≤ m → m ≤ 8 → of2 m (nx T) = 0
theorem St.up {n k : Nat} {T : List Tk} (h : St n T) (hk : n ≤ k) : St k T := fun m h1 h2 => h m (by omega) h2
theorem St.end_ {n : Nat} {T : List Tk} (h : St n T) (hn : n ≤ 8) (x : E) : R (.loop n x) T = .ok T x := R_loop0 (h n (Nat.le_refl _) hn)
theorem st_word {n : Nat} {T : List Tk} {s : List UInt8} (h : nx T = s) (hs : ∀ m : Fin 9, of2 m.1 s = 0) : St n T := fun m _ h2 => by rw [h]; exact hs ⟨m, by omega⟩
theorem st_nil {n : Nat} : St n [] := st_word (s := []) rfl (by decide)
/-- Down the levels. -/
theorem down {x : E} {ts T : List Tk} {m : Nat} (hm : m ≤ 8) (h : R (.lev m) ts = R (.loop m x) T) : ∀ (d n : Nat), n + d = m → St (n + 1) T → R (.lev n) ts = R (.loop n x) T
  | 0, n, e, _ => by
    obtain rfl : n = m := by omega
    exact h
  | d + 1, n, e, hs => by
    have h1 := down hm h d (n + 1) (by omega) (hs.up (by omega))
    rw [R_lev (by omega), h1, hs.end_ (by omega)]
    rfl
theorem down9 {x : E} {ts T : List Tk} (h : R .una ts = .ok T x) : ∀ (n : Nat), n ≤ 8 → St (n + 1) T → R (.lev n) ts = R (.loop n x) T := fun n hn hs => by
  have h8 : R (.lev 8) ts = R (.loop 8 x) T := by
    rw [R_lev (Nat.le_refl 8), show (8 : Nat) + 1 = 9 from rfl, R_9, h]; rfl
  exact down (Nat.le_refl 8) h8 (8 - n) n (by omega) hs
/-- What was written with a level is read at it. -/
structure Reads (x : E) : Prop where
  lev : ∀ n T, n ≤ 8 → St (n + 1) T → R (.lev n) (pr x n ++ T) = R (.loop n x) T
  una : ∀ T, R .una (pr x 9 ++ T) = .ok T x
  pri : ∀ T, R .pri (pr x 10 ++ T) = .ok T x
theorem Reads.top {x : E} (h : Reads x) (hp : pr x 0 = pr x 1) {T : List Tk} (hs : St 1 T) : R (.lev 1) (pr x 0 ++ T) = .ok T x := by
  rw [hp, h.lev 1 T (by decide) (hs.up (by decide)), hs.end_ (by decide)]
theorem pr01 {x : E} (h : wf x) : pr x 0 = pr x 1 := by
  cases x with
  | un op a =>
    have h1 : ¬ lvl op < 1 := by rcases h.1 with e | e <;> subst e <;> decide
    unfold pr
    rw [if_neg (by omega), if_neg h1]
  | bin op a b =>
    obtain ⟨h7, h21, _, _⟩ := h
    have h1 := (ops_all ⟨op, by omega⟩ h7).2.1
    simp only at h1
    unfold pr
    rw [if_neg (by omega), if_neg (by omega)]
  | _ => rfl
/-- Of one in primary form. -/
theorem Reads.of_pri {x : E} (hL : ∀ L, L ≤ 10 → pr x L = pr x 0) (h5 : ∀ T, nx (pr x 0 ++ T) ≠ [45] ∧ nx (pr x 0 ++ T) ≠ [110, 111, 116]) (h : ∀ T, R .pri (pr x 0 ++ T) = .ok T x) : Reads x := by
  have hu : ∀ T, R .una (pr x 0 ++ T) = .ok T x := fun T => by rw [R_unap (h5 T).1 (h5 T).2]; exact h T
  exact ⟨fun n T hn hs => by rw [hL n (by omega)]; exact down9 (hu T) n hn hs, fun T => by rw [hL 9 (by decide)]; exact hu T, fun T => by rw [hL 10 (by decide)]; exact h T⟩
theorem is_par : Lx.is [40] = 4 ∧ Lx.is [41] = 4 := by decide
theorem nx_par {r : List Tk} : nx ((4, [40]) :: r) = [40] := by simp [nx, is_par.1]
theorem nx_pac {r : List Tk} : nx ((4, [41]) :: r) = [41] := by simp [nx, is_par.2]
/-- In parentheses. -/
theorem pri_par {x : E} {b T : List Tk} (h : R (.lev 1) (b ++ (4, [41]) :: T) = .ok ((4, [41]) :: T) x) : R .pri ((4, [40]) :: b ++ [(4, [41])] ++ T) = .ok T x := by
  have e : (4, [40]) :: b ++ [(4, [41])] ++ T = ((4, [40]) : Tk) :: (b ++ (4, [41]) :: T) := by simp
  rw [e, R_par nx_par, List.tail_cons, h]
  unfold then2 eat
  simp only
  rw [if_pos nx_pac, List.tail_cons]
theorem una_par {x : E} {b T : List Tk} (h : R (.lev 1) (b ++ (4, [41]) :: T) = .ok ((4, [41]) :: T) x) : R .una ((4, [40]) :: b ++ [(4, [41])] ++ T) = .ok T x := by
  rw [R_unap (by rw [List.cons_append, List.cons_append, nx_par]; decide) (by rw [List.cons_append, List.cons_append, nx_par]; decide)]
  exact pri_par h
theorem st_pac {n : Nat} {T : List Tk} : St n ((4, [41]) :: T) := st_word nx_pac (by decide)
theorem reads : ∀ x : E, wf x → Reads x
  | .num n, h => by
    have e : ∀ T, nx ((1, dg n) :: T) = dg n := fun T => by simp [nx, h.2]
    have hd : ∀ s : List UInt8, Lx.is s ≠ 1 → dg n ≠ s := fun s hs e2 => hs (by rw [← e2]; exact h.2)
    refine Reads.of_pri (fun _ _ => rfl) (fun T => ⟨by rw [show pr (.num n) 0 ++ T = (1, dg n) :: T from rfl, e]; exact hd _ (by decide), by rw [show pr (.num n) 0 ++ T = (1, dg n) :: T from rfl, e]; exact hd _ (by decide)⟩) fun T => ?_
    rw [show pr (.num n) 0 ++ T = (1, dg n) :: T from rfl]
    unfold R rd
    rw [e, if_neg (hd _ (by decide)), if_neg (hd _ (by decide)), if_neg (hd _ (by decide)), if_neg (hd _ (by decide)), if_pos ⟨hd _ (by decide), rfl⟩, h.1]
    rfl
  | .name s, h => by
    have h : Lx.is s = 2 := h
    have e : ∀ T, nx ((2, s) :: T) = s := fun T => by simp [nx, h]
    have hd : ∀ t : List UInt8, Lx.is t ≠ 2 → s ≠ t := fun t ht e2 => ht (by rw [← e2]; exact h)
    refine Reads.of_pri (fun _ _ => rfl) (fun T => ⟨by rw [show pr (.name s) 0 ++ T = (2, s) :: T from rfl, e]; exact hd _ (by decide), by rw [show pr (.name s) 0 ++ T = (2, s) :: T from rfl, e]; exact hd _ (by decide)⟩) fun T => ?_
    rw [show pr (.name s) 0 ++ T = (2, s) :: T from rfl]
    unfold R rd
    rw [e, if_neg (hd _ (by decide)), if_neg (hd _ (by decide)), if_neg (hd _ (by decide)), if_neg (hd _ (by decide)), if_neg (fun q => absurd q.2 (by simp [kd])), if_pos ⟨hd _ (by decide), rfl⟩]
    rfl
  | .tt, _ => by
    have e : ∀ T, nx (wT [116, 114, 117, 101] :: T) = [116, 114, 117, 101] := fun T => by simp [nx, wT, show Lx.is [116, 114, 117, 101] = 3 by decide]
    refine Reads.of_pri (fun _ _ => rfl) (fun T => ⟨by rw [show pr .tt 0 ++ T = wT [116, 114, 117, 101] :: T from rfl, e]; decide, by rw [show pr .tt 0 ++ T = wT [116, 114, 117, 101] :: T from rfl, e]; decide⟩) fun T => ?_
    rw [show pr .tt 0 ++ T = wT [116, 114, 117, 101] :: T from rfl]
    unfold R rd
    rw [e, if_neg (by decide), if_neg (by decide), if_pos rfl]
    rfl
  | .ff, _ => by
    have e : ∀ T, nx (wT [102, 97, 108, 115, 101] :: T) = [102, 97, 108, 115, 101] := fun T => by simp [nx, wT, show Lx.is [102, 97, 108, 115, 101] = 3 by decide]
    refine Reads.of_pri (fun _ _ => rfl) (fun T => ⟨by rw [show pr .ff 0 ++ T = wT [102, 97, 108, 115, 101] :: T from rfl, e]; decide, by rw [show pr .ff 0 ++ T = wT [102, 97, 108, 115, 101] :: T from rfl, e]; decide⟩) fun T => ?_
    rw [show pr .ff 0 ++ T = wT [102, 97, 108, 115, 101] :: T from rfl]
    unfold R rd
    rw [e, if_neg (by decide), if_neg (by decide), if_neg (by decide), if_pos rfl]
    rfl
  | .un op a, h => by
    have ha := reads a h.2
    have hlv : lvl op = 9 := by rcases h.1 with e | e <;> subst e <;> rfl
    have hu : ∀ T, R .una (tok op :: pr a 9 ++ T) = .ok T (.un op a) := fun T => by
      rcases h.1 with e | e <;> subst e
      · rw [List.cons_append, R_una5 nx_tok, List.tail_cons, ha.una]; rfl
      · rw [List.cons_append, R_una6 nx_tok, List.tail_cons, ha.una]; rfl
    have p0 : ∀ L, L ≤ 9 → pr (.un op a) L = tok op :: pr a 9 := fun L hL => by
      conv => lhs; unfold pr
      rw [if_neg (by omega)]
    have p1 : pr (.un op a) 10 = (4, [40]) :: (tok op :: pr a 9) ++ [(4, [41])] := by
      conv => lhs; unfold pr
      rw [if_pos (by omega)]
    refine ⟨fun n T hn hs => by rw [p0 n (by omega)]; exact down9 (hu T) n hn hs, fun T => by rw [p0 9 (by decide)]; exact hu T, fun T => ?_⟩
    rw [p1]
    refine pri_par ?_
    rw [down9 (hu _) 1 (by decide) st_pac, (st_pac (n := 1)).end_ (by decide)]
  | .bin op a b, h => by
    obtain ⟨h7, h21, wa, wb⟩ := h
    have ha := reads a wa
    have hb := reads b wb
    obtain ⟨o1, o2, o3, o4⟩ := ops_all ⟨op, by omega⟩ h7
    simp only at o1 o2 o3 o4
    have hne : op ≠ 0 := by omega
    have hst : ∀ r, St (lvl op + 1) (tok op :: r) := fun r m h1 h2 => by rw [nx_tok]; exact o4 ⟨m, by omega⟩ (by simp only; omega)
    have hB : ∀ T, St (lvl op + 1) T → R (.lev (lvl op + 1)) (pr b (lvl op + 1) ++ T) = .ok T b := fun T hs => by
      by_cases h8 : lvl op + 1 ≤ 8
      · rw [hb.lev _ _ h8 (hs.up (by omega)), hs.end_ h8]
      · rw [show lvl op + 1 = 9 by omega, R_9]; exact hb.una T
    have hm : ∀ T, St (lvl op + 1) T → R (.lev (lvl op)) (pr a (lvl op) ++ tok op :: pr b (lvl op + 1) ++ T) = R (.loop (lvl op) (.bin op a b)) T := fun T hs => by
      rw [List.append_assoc, List.cons_append, ha.lev _ _ o3 (hst _), R_loop o3 (by rw [nx_tok, o1]; exact hne), List.tail_cons, hB T hs, nx_tok, o1]
      rfl
    have p0 : ∀ L, L ≤ lvl op → pr (.bin op a b) L = pr a (lvl op) ++ tok op :: pr b (lvl op + 1) := fun L hL => by
      conv => lhs; unfold pr
      rw [if_neg (by omega)]
    have p1 : ∀ L, lvl op < L → pr (.bin op a b) L = (4, [40]) :: (pr a (lvl op) ++ tok op :: pr b (lvl op + 1)) ++ [(4, [41])] := fun L hL => by
      conv => lhs; unfold pr
      rw [if_pos hL]
    have hin : ∀ T, R (.lev 1) (pr a (lvl op) ++ tok op :: pr b (lvl op + 1) ++ (4, [41]) :: T) = .ok ((4, [41]) :: T) (.bin op a b) := fun T => by
      rw [down o3 (hm _ st_pac) (lvl op - 1) 1 (by omega) st_pac, (st_pac (n := 1)).end_ (by decide)]
    refine ⟨fun n T hn hs => ?_, fun T => ?_, fun T => ?_⟩
    · by_cases hc : n ≤ lvl op
      · rw [p0 n hc]
        exact down o3 (hm T (hs.up (by omega))) (lvl op - n) n (by omega) hs
      · rw [p1 n (by omega)]
        exact down9 (una_par (hin T)) n hn hs
    · rw [p1 9 (by omega)]; exact una_par (hin T)
    · rw [p1 10 (by omega)]; exact pri_par (hin T)
  | .ite a b c, h => by
    obtain ⟨wa, wb, wc⟩ := h
    have ha := reads a wa
    have hb := reads b wb
    have hc := reads c wc
    have w1 : ∀ r, nx (wT [105, 102] :: r) = [105, 102] := fun r => by simp [nx, wT, show Lx.is [105, 102] = 3 by decide]
    have w2 : ∀ r, nx (wT [116, 104, 101, 110] :: r) = [116, 104, 101, 110] := fun r => by simp [nx, wT, show Lx.is [116, 104, 101, 110] = 3 by decide]
    have w3 : ∀ r, nx (wT [101, 108, 115, 101] :: r) = [101, 108, 115, 101] := fun r => by simp [nx, wT, show Lx.is [101, 108, 115, 101] = 3 by decide]
    have w4 : ∀ r, nx (wT [101, 110, 100, 105, 102] :: r) = [101, 110, 100, 105, 102] := fun r => by simp [nx, wT, show Lx.is [101, 110, 100, 105, 102] = 3 by decide]
    have ep : ∀ T, pr (.ite a b c) 0 ++ T = wT [105, 102] :: (pr a 0 ++ wT [116, 104, 101, 110] :: (pr b 0 ++ wT [101, 108, 115, 101] :: (pr c 0 ++ wT [101, 110, 100, 105, 102] :: T))) := fun T => by
      conv => lhs; unfold pr
      simp
    refine Reads.of_pri (fun _ _ => rfl) (fun T => ⟨by rw [ep, w1]; decide, by rw [ep, w1]; decide⟩) fun T => ?_
    rw [ep, R_if (w1 _), R_bra (by simp), List.tail_cons, ha.top (pr01 wa) (st_word (w2 _) (by decide))]
    unfold then2 eat
    simp only
    rw [if_pos (w2 _), List.tail_cons, hb.top (pr01 wb) (st_word (w3 _) (by decide))]
    simp only
    rw [if_pos (w3 _), List.tail_cons, hc.top (pr01 wc) (st_word (w4 _) (by decide))]
    simp only
    rw [if_pos (w4 _), List.tail_cons]
end Ex
end Go.Proofs.YtdcjpinbflmikaaGreatDoor
