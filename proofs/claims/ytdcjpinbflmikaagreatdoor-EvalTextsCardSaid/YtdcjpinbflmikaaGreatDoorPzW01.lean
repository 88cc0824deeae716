/- Facts and walks for the statement. -/
import Derived.Test.YtdcjpinbflmikaaGreatDoorPzW00
import Derived.Lib.ItoaNum
namespace Go.Proofs.YtdcjpinbflmikaaGreatDoor
namespace Ex
theorem nx_nil {ts : List Tk} (h : nx ts ≠ []) : ts ≠ [] := fun e => h (by rw [e]; rfl)
theorem tail_lt {ts : List Tk} (h : ts ≠ []) : ts.tail.length + 1 = ts.length := by
  cases ts with
  | nil => exact absurd rfl h
  | cons _ _ => rfl
theorem of2_nx {n : Nat} {s : List UInt8} (h : of2 n s ≠ 0) : s ≠ [] := fun e => h (by
  subst e
  unfold of2
  generalize ((List.range 15).map (· + 7)) = l
  induction l with
  | nil => rfl
  | cons a r ih => rw [List.foldr_cons, if_neg (by simp)]; exact ih)
def one : Md → Nat
  | .loop _ _ => 0
  | _ => 1
theorem then2_ok {x : Rs} {f : List Tk → E → Rs} {r : List Tk} {a : E} (h : then2 x f = .ok r a) : ∃ r1 a1, x = .ok r1 a1 ∧ f r1 a1 = .ok r a := by
  cases x with
  | bad l e => cases h
  | ok r1 a1 => exact ⟨r1, a1, rfl, h⟩
theorem eat_ok {s : List UInt8} (hs : s ≠ []) {r : List Tk} {f : List Tk → Rs} {r2 : List Tk} {a : E} (h : eat s r f = .ok r2 a) : nx r = s ∧ r.tail.length + 1 = r.length ∧ f r.tail = .ok r2 a := by
  unfold eat at h
  split at h
  · rename_i hn
    exact ⟨hn, tail_lt (nx_nil (by rw [hn]; exact hs)), h⟩
  · cases h
theorem rd_less : ∀ (f : Nat) (m : Md) (ts r : List Tk) (x : E), rd f m ts = .ok r x → r.length + one m ≤ ts.length
  | 0, _, _, _, _, h => by cases h
  | f + 1, .lev n, ts, r, x, h => by
    unfold rd at h
    split at h
    · have := rd_less f _ _ _ _ h
      simpa [one] using this
    · split at h
      · have := rd_less f _ _ _ _ h
        simpa [one] using this
      · obtain ⟨r1, a1, h1, h2⟩ := then2_ok h
        have e1 := rd_less f _ _ _ _ h1
        have e2 := rd_less f _ _ _ _ h2
        simp only [one] at e1 e2 ⊢
        omega
  | f + 1, .loop n a, ts, r, x, h => by
    unfold rd at h
    split at h
    · cases h; simp [one]
    · rename_i ho
      have hl := tail_lt (nx_nil (of2_nx ho))
      obtain ⟨r1, a1, h1, h2⟩ := then2_ok h
      have e1 := rd_less f _ _ _ _ h1
      have e2 := rd_less f _ _ _ _ h2
      simp only [one] at e1 e2 ⊢
      omega
  | f + 1, .una, ts, r, x, h => by
    unfold rd at h
    split at h
    · rename_i ho
      have hl := tail_lt (nx_nil (ts := ts) (by rw [ho]; simp))
      obtain ⟨r1, a1, h1, h2⟩ := then2_ok h
      have e1 := rd_less f _ _ _ _ h1
      cases h2
      simp only [one] at e1 ⊢
      omega
    · split at h
      · rename_i ho
        have hl := tail_lt (nx_nil (ts := ts) (by rw [ho]; simp))
        obtain ⟨r1, a1, h1, h2⟩ := then2_ok h
        have e1 := rd_less f _ _ _ _ h1
        cases h2
        simp only [one] at e1 ⊢
        omega
      · have := rd_less f _ _ _ _ h
        simpa [one] using this
  | f + 1, .pri, ts, r, x, h => by
    have hl : nx ts ≠ [] → ts.tail.length + 1 = ts.length := fun h => tail_lt (nx_nil h)
    unfold rd at h
    simp only [one]
    split at h
    · rename_i ho
      obtain ⟨r1, a1, h1, h2⟩ := then2_ok h
      obtain ⟨_, e3, e4⟩ := eat_ok (by simp) h2
      have e1 := rd_less f _ _ _ _ h1
      cases e4
      simp only [one] at e1
      have := hl (by rw [ho]; simp)
      omega
    · split at h
      · have := rd_less f _ _ _ _ h
        simpa [one] using this
      · split at h
        · rename_i ho; cases h; have := hl (by rw [ho]; simp); omega
        · split at h
          · rename_i ho; cases h; have := hl (by rw [ho]; simp); omega
          · split at h
            · rename_i ho
              split at h
              · cases h; have := hl ho.1; omega
              · cases h
            · split at h
              · rename_i ho; cases h; have := hl ho.1; omega
              · cases h
  | f + 1, .bra, ts, r, x, h => by
    unfold rd at h
    simp only [one]
    obtain ⟨r1, a1, h1, h2⟩ := then2_ok h
    obtain ⟨_, e3, h3⟩ := eat_ok (by simp) h2
    obtain ⟨r4, a4, h4, h5⟩ := then2_ok h3
    obtain ⟨_, e6, h6⟩ := eat_ok (by simp) h5
    obtain ⟨r7, a7, h7, h8⟩ := then2_ok h6
    obtain ⟨_, e9, h9⟩ := eat_ok (by simp) h8
    have q1 := rd_less f _ _ _ _ h1
    have q4 := rd_less f _ _ _ _ h4
    have q7 := rd_less f _ _ _ _ h7
    cases h9
    simp only [one, List.length_tail] at q1 q4 q7 e3 e6 e9 ⊢
    omega
theorem then2_cong {x y : Rs} {f g : List Tk → E → Rs} (h : x = y) (hf : ∀ r a, y = .ok r a → f r a = g r a) : then2 x f = then2 y g := by
  subst h
  cases x with
  | bad l e => rfl
  | ok r a => exact hf r a rfl
theorem eat_cong {s : List UInt8} (hs : s ≠ []) {r : List Tk} {f g : List Tk → Rs} (hf : r.tail.length + 1 = r.length → f r.tail = g r.tail) : eat s r f = eat s r g := by
  unfold eat
  split
  · rename_i hn
    exact hf (tail_lt (nx_nil (by rw [hn]; exact hs)))
  · rfl
def okm : Md → List Tk → Prop
  | .lev n, _ => n ≤ 10
  | .loop n _, _ => n ≤ 8
  | .bra, ts => ts ≠ []
  | _, _ => True
theorem rd_fuel : ∀ (f g : Nat) (m : Md) (ts : List Tk), okm m ts → need m ts < f → need m ts < g → rd f m ts = rd g m ts
  | 0, _, _, _, _, h, _ => absurd h (Nat.not_lt_zero _)
  | _, 0, _, _, _, _, h => absurd h (Nat.not_lt_zero _)
  | f + 1, g + 1, m, ts, ho, hf, hg => by
    have ih := rd_fuel f g
    have hb : ∀ (m' : Md) (ts' : List Tk), okm m' ts' → need m' ts' < need m ts → rd f m' ts' = rd g m' ts' := fun m' ts' h0 h => ih m' ts' h0 (by omega) (by omega)
    cases m with
    | lev n =>
      simp only [okm] at ho
      unfold rd
      split
      · rename_i h; subst h; exact hb _ _ True.intro (by simp [need, rank])
      · split
        · rename_i h; subst h; exact hb _ _ True.intro (by simp [need, rank])
        · refine then2_cong (hb _ _ (by simp only [okm]; omega) (by simp only [need, rank]; omega)) fun r a hr => hb _ _ (by simp only [okm]; omega) ?_
          have := rd_less _ _ _ _ _ hr
          simp only [one] at this
          simp only [need, rank]
          omega
    | loop n a =>
      simp only [okm] at ho
      unfold rd
      split
      · rfl
      · rename_i hop
        have hl := tail_lt (nx_nil (of2_nx hop))
        refine then2_cong (hb _ _ (by simp only [okm]; omega) (by simp only [need, rank]; omega)) fun r b hr => hb _ _ (by simp only [okm]; omega) ?_
        have := rd_less _ _ _ _ _ hr
        simp only [one] at this
        simp only [need, rank]
        omega
    | una =>
      unfold rd
      have hl : nx ts ≠ [] → ts.tail.length + 1 = ts.length := fun h => tail_lt (nx_nil h)
      split
      · rename_i hop
        have := hl (by rw [hop]; simp)
        exact then2_cong (hb _ _ True.intro (by simp only [need, rank]; omega)) fun r b hr => rfl
      · split
        · rename_i hop
          have := hl (by rw [hop]; simp)
          exact then2_cong (hb _ _ True.intro (by simp only [need, rank]; omega)) fun r b hr => rfl
        · exact hb _ _ True.intro (by simp only [need, rank]; omega)
    | pri =>
      unfold rd
      have hl : nx ts ≠ [] → ts.tail.length + 1 = ts.length := fun h => tail_lt (nx_nil h)
      split
      · rename_i hop
        have := hl (by rw [hop]; simp)
        exact then2_cong (hb _ _ (by simp [okm]) (by simp only [need, rank]; omega)) fun r b hr => rfl
      · split
        · rename_i hop
          exact hb _ _ (nx_nil (by rw [hop]; simp)) (by simp only [need, rank]; omega)
        · rfl
    | bra =>
      unfold rd
      have hl := tail_lt (show ts ≠ [] from ho)
      refine then2_cong (hb _ _ (by simp [okm]) (by simp only [need, rank]; omega)) fun r a hr => eat_cong (by simp) fun h1 => ?_
      have q1 := rd_less _ _ _ _ _ hr
      simp only [one] at q1
      refine then2_cong (hb _ _ (by simp [okm]) (by simp only [need, rank]; omega)) fun r2 b hr2 => eat_cong (by simp) fun h2 => ?_
      have q2 := rd_less _ _ _ _ _ hr2
      simp only [one] at q2
      exact then2_cong (hb _ _ (by simp [okm]) (by simp only [need, rank]; omega)) fun r3 c hr3 => rfl
end Ex
end Go.Proofs.YtdcjpinbflmikaaGreatDoor
namespace Go.Proofs.YtdcjpinbflmikaaGreatDoor
namespace Ex
def R (m : Md) (ts : List Tk) : Rs := rd (need m ts + 1) m ts
theorem R_of {f : Nat} {m : Md} {ts : List Tk} (ho : okm m ts) (h : need m ts < f) : rd f m ts = R m ts := rd_fuel _ _ m ts ho h (Nat.lt_succ_self _)
theorem R_lev {n : Nat} (h : n ≤ 8) (ts : List Tk) : R (.lev n) ts = then2 (R (.lev (n + 1)) ts) (fun r a => R (.loop n a) r) := by
  conv => lhs; unfold R rd
  rw [if_neg (by omega), if_neg (by omega)]
  refine then2_cong (R_of (by simp only [okm]; omega) (by simp only [need, rank]; omega)) fun r a hr => R_of (by simp only [okm]; omega) ?_
  have := rd_less _ _ _ _ _ hr
  simp only [one] at this
  simp only [need, rank]
  omega
theorem R_9 (ts : List Tk) : R (.lev 9) ts = R .una ts := by
  conv => lhs; unfold R rd
  rw [if_neg (by decide), if_pos rfl]
  exact R_of True.intro (by simp only [need, rank]; omega)
theorem R_10 (ts : List Tk) : R (.lev 10) ts = R .pri ts := by
  conv => lhs; unfold R rd
  rw [if_pos rfl]
  exact R_of True.intro (by simp only [need, rank]; omega)
theorem R_loop0 {n : Nat} {a : E} {ts : List Tk} (h : of2 n (nx ts) = 0) : R (.loop n a) ts = .ok ts a := by
  unfold R rd
  rw [if_pos h]
theorem R_loop {n : Nat} {a : E} {ts : List Tk} (hn : n ≤ 8) (h : of2 n (nx ts) ≠ 0) : R (.loop n a) ts = then2 (R (.lev (n + 1)) ts.tail) (fun r b => R (.loop n (.bin (of2 n (nx ts)) a b)) r) := by
  have hl := tail_lt (nx_nil (of2_nx h))
  conv => lhs; unfold R rd
  rw [if_neg h]
  refine then2_cong (R_of (by simp only [okm]; omega) (by simp only [need, rank]; omega)) fun r b hr => R_of (by simp only [okm]; omega) ?_
  have := rd_less _ _ _ _ _ hr
  simp only [one] at this
  simp only [need, rank]
  omega
theorem R_una5 {ts : List Tk} (h : nx ts = [45]) : R .una ts = then2 (R .una ts.tail) (fun r a => .ok r (.un 5 a)) := by
  have hl := tail_lt (nx_nil (ts := ts) (by rw [h]; simp))
  conv => lhs; unfold R rd
  rw [if_pos h]
  exact then2_cong (R_of True.intro (by simp only [need, rank]; omega)) fun _ _ _ => rfl
theorem R_una6 {ts : List Tk} (h : nx ts = [110, 111, 116]) : R .una ts = then2 (R .una ts.tail) (fun r a => .ok r (.un 6 a)) := by
  have hl := tail_lt (nx_nil (ts := ts) (by rw [h]; simp))
  conv => lhs; unfold R rd
  rw [if_neg (by rw [h]; decide), if_pos h]
  exact then2_cong (R_of True.intro (by simp only [need, rank]; omega)) fun _ _ _ => rfl
theorem R_unap {ts : List Tk} (h5 : nx ts ≠ [45]) (h6 : nx ts ≠ [110, 111, 116]) : R .una ts = R .pri ts := by
  conv => lhs; unfold R rd
  rw [if_neg h5, if_neg h6]
  exact R_of True.intro (by simp only [need, rank]; omega)
theorem R_par {ts : List Tk} (h : nx ts = [40]) : R .pri ts = then2 (R (.lev 1) ts.tail) (fun r a => eat [41] r (fun r => .ok r a)) := by
  have hl := tail_lt (nx_nil (ts := ts) (by rw [h]; simp))
  conv => lhs; unfold R rd
  rw [if_pos h]
  exact then2_cong (R_of (by simp [okm]) (by simp only [need, rank]; omega)) fun _ _ _ => rfl
theorem R_if {ts : List Tk} (h : nx ts = [105, 102]) : R .pri ts = R .bra ts := by
  conv => lhs; unfold R rd
  rw [if_neg (by rw [h]; decide), if_pos h]
  exact R_of (nx_nil (by rw [h]; simp)) (by simp only [need, rank]; omega)
theorem R_bra {ts : List Tk} (h : ts ≠ []) : R .bra ts = then2 (R (.lev 1) ts.tail) (fun r a => eat [116, 104, 101, 110] r (fun r =>
      then2 (R (.lev 1) r) (fun r b => eat [101, 108, 115, 101] r (fun r =>
        then2 (R (.lev 1) r) (fun r c => eat [101, 110, 100, 105, 102] r (fun r => .ok r (.ite a b c))))))) := by
  have hl := tail_lt h
  conv => lhs; unfold R rd
  refine then2_cong (R_of (by simp [okm]) (by simp only [need, rank]; omega)) fun r a hr => eat_cong (by simp) fun h1 => ?_
  have q1 := rd_less _ _ _ _ _ hr
  simp only [one] at q1
  refine then2_cong (R_of (by simp [okm]) (by simp only [need, rank]; omega)) fun r2 b hr2 => eat_cong (by simp) fun h2 => ?_
  have q2 := rd_less _ _ _ _ _ hr2
  simp only [one] at q2
  exact then2_cong (R_of (by simp [okm]) (by simp only [need, rank]; omega)) fun r3 c hr3 => rfl
/-! ### how one is written -/
def tok (op : Nat) : Tk := (Lx.is (opS op), opS op)
def wT (s : List UInt8) : Tk := (3, s)
def dg (n : Nat) : List UInt8 := Lib.decDigits n
def pr : E → Nat → List Tk
  | .num n, _ => [(1, dg n)]
  | .name s, _ => [(2, s)]
  | .tt, _ => [wT [116, 114, 117, 101]]
  | .ff, _ => [wT [102, 97, 108, 115, 101]]
  | .un op a, L => if lvl op < L then (4, [40]) :: (tok op :: pr a 9) ++ [(4, [41])] else tok op :: pr a 9
  | .bin op a b, L => if lvl op < L then (4, [40]) :: (pr a (lvl op) ++ tok op :: pr b (lvl op + 1)) ++ [(4, [41])] else pr a (lvl op) ++ tok op :: pr b (lvl op + 1)
  | .ite a b c, _ => wT [105, 102] :: pr a 0 ++ wT [116, 104, 101, 110] :: pr b 0 ++ wT [101, 108, 115, 101] :: pr c 0 ++ [wT [101, 110, 100, 105, 102]]
def wf : E → Prop
  | .num n => numv (dg n) = some n ∧ Lx.is (dg n) = 1
  | .name s => Lx.is s = 2
  | .tt => True
  | .ff => True
  | .un op a => (op = 5 ∨ op = 6) ∧ wf a
  | .bin op a b => 7 ≤ op ∧ op ≤ 21 ∧ wf a ∧ wf b
  | .ite a b c => wf a ∧ wf b ∧ wf c
theorem ops_all : ∀ op : Fin 22, 7 ≤ op.1 → of2 (lvl op.1) (opS op.1) = op.1 ∧ 1 ≤ lvl op.1 ∧ lvl op.1 ≤ 8 ∧ ∀ m : Fin 9, m.1 ≠ lvl op.1 → of2 m.1 (opS op.1) = 0 := by decide
theorem nx_tok {op : Nat} {r : List Tk} : nx (tok op :: r) = opS op := by simp [nx, tok]
end Ex
end Go.Proofs.YtdcjpinbflmikaaGreatDoor
namespace Go.Proofs.YtdcjpinbflmikaaGreatDoor
namespace Ex
def St (n : Nat) (T : List Tk) : Prop := ∀ m, n ≤ m → m ≤ 8 → of2 m (nx T) = 0
theorem St.up {n k : Nat} {T : List Tk} (h : St n T) (hk : n ≤ k) : St k T := fun m h1 h2 => h m (by omega) h2
theorem St.end_ {n : Nat} {T : List Tk} (h : St n T) (hn : n ≤ 8) (x : E) : R (.loop n x) T = .ok T x := R_loop0 (h n (Nat.le_refl _) hn)
theorem st_word {n : Nat} {T : List Tk} {s : List UInt8} (h : nx T = s) (hs : ∀ m : Fin 9, of2 m.1 s = 0) : St n T := fun m _ h2 => by rw [h]; exact hs ⟨m, by omega⟩
theorem st_nil {n : Nat} : St n [] := st_word (s := []) rfl (by decide)
theorem down {x : E} {ts T : List Tk} {m : Nat} (hm : m ≤ 8) (h : R (.lev m) ts = R (.loop m x) T) : ∀ (d n : Nat), n + d = m → St (n + 1) T → R (.lev n) ts = R (.loop n x) T
  | 0, n, e, _ => by
    obtain rfl : n = m := by omega
    exact h
  | d + 1, n, e, hs => by
    have h1 := down hm h d (n + 1) (by omega) (hs.up (by omega))
    rw [R_lev (by omega), h1, hs.end_ (by omega)]
    rfl
theorem down9 {x : E} {ts T : List Tk} (h : R .una ts = .ok T x) : ∀ (n : Nat), n ≤ 8 → St (n + 1) T → R (.lev n) ts = R (.loop n x) T := fun n hn hs => by
  have h8 : R (.lev 8) ts = R (.loop 8 x) T := by
    rw [R_lev (Nat.le_refl 8), show (8 : Nat) + 1 = 9 from rfl, R_9, h]; rfl
  exact down (Nat.le_refl 8) h8 (8 - n) n (by omega) hs
structure Reads (x : E) : Prop where
  lev : ∀ n T, n ≤ 8 → St (n + 1) T → R (.lev n) (pr x n ++ T) = R (.loop n x) T
  una : ∀ T, R .una (pr x 9 ++ T) = .ok T x
  pri : ∀ T, R .pri (pr x 10 ++ T) = .ok T x
theorem Reads.top {x : E} (h : Reads x) (hp : pr x 0 = pr x 1) {T : List Tk} (hs : St 1 T) : R (.lev 1) (pr x 0 ++ T) = .ok T x := by
  rw [hp, h.lev 1 T (by decide) (hs.up (by decide)), hs.end_ (by decide)]
theorem pr01 {x : E} (h : wf x) : pr x 0 = pr x 1 := by
  cases x with
  | un op a =>
    have h1 : ¬ lvl op < 1 := by rcases h.1 with e | e <;> subst e <;> decide
    unfold pr
    rw [if_neg (by omega), if_neg h1]
  | bin op a b =>
    obtain ⟨h7, h21, _, _⟩ := h
    have h1 := (ops_all ⟨op, by omega⟩ h7).2.1
    simp only at h1
    unfold pr
    rw [if_neg (by omega), if_neg (by omega)]
  | _ => rfl
theorem Reads.of_pri {x : E} (hL : ∀ L, L ≤ 10 → pr x L = pr x 0) (h5 : ∀ T, nx (pr x 0 ++ T) ≠ [45] ∧ nx (pr x 0 ++ T) ≠ [110, 111, 116]) (h : ∀ T, R .pri (pr x 0 ++ T) = .ok T x) : Reads x := by
  have hu : ∀ T, R .una (pr x 0 ++ T) = .ok T x := fun T => by rw [R_unap (h5 T).1 (h5 T).2]; exact h T
  exact ⟨fun n T hn hs => by rw [hL n (by omega)]; exact down9 (hu T) n hn hs, fun T => by rw [hL 9 (by decide)]; exact hu T, fun T => by rw [hL 10 (by decide)]; exact h T⟩
theorem is_par : Lx.is [40] = 4 ∧ Lx.is [41] = 4 := by decide
theorem nx_par {r : List Tk} : nx ((4, [40]) :: r) = [40] := by simp [nx, is_par.1]
theorem nx_pac {r : List Tk} : nx ((4, [41]) :: r) = [41] := by simp [nx, is_par.2]
theorem pri_par {x : E} {b T : List Tk} (h : R (.lev 1) (b ++ (4, [41]) :: T) = .ok ((4, [41]) :: T) x) : R .pri ((4, [40]) :: b ++ [(4, [41])] ++ T) = .ok T x := by
  have e : (4, [40]) :: b ++ [(4, [41])] ++ T = ((4, [40]) : Tk) :: (b ++ (4, [41]) :: T) := by simp
  rw [e, R_par nx_par, List.tail_cons, h]
  unfold then2 eat
  simp only
  rw [if_pos nx_pac, List.tail_cons]
theorem una_par {x : E} {b T : List Tk} (h : R (.lev 1) (b ++ (4, [41]) :: T) = .ok ((4, [41]) :: T) x) : R .una ((4, [40]) :: b ++ [(4, [41])] ++ T) = .ok T x := by
  rw [R_unap (by rw [List.cons_append, List.cons_append, nx_par]; decide) (by rw [List.cons_append, List.cons_append, nx_par]; decide)]
  exact pri_par h
theorem st_pac {n : Nat} {T : List Tk} : St n ((4, [41]) :: T) := st_word nx_pac (by decide)
theorem reads : ∀ x : E, wf x → Reads x
  | .num n, h => by
    have e : ∀ T, nx ((1, dg n) :: T) = dg n := fun T => by simp [nx, h.2]
    have hd : ∀ s : List UInt8, Lx.is s ≠ 1 → dg n ≠ s := fun s hs e2 => hs (by rw [← e2]; exact h.2)
    refine Reads.of_pri (fun _ _ => rfl) (fun T => ⟨by rw [show pr (.num n) 0 ++ T = (1, dg n) :: T from rfl, e]; exact hd _ (by decide), by rw [show pr (.num n) 0 ++ T = (1, dg n) :: T from rfl, e]; exact hd _ (by decide)⟩) fun T => ?_
    rw [show pr (.num n) 0 ++ T = (1, dg n) :: T from rfl]
    unfold R rd
    rw [e, if_neg (hd _ (by decide)), if_neg (hd _ (by decide)), if_neg (hd _ (by decide)), if_neg (hd _ (by decide)), if_pos ⟨hd _ (by decide), rfl⟩, h.1]
    rfl
  | .name s, h => by
    have h : Lx.is s = 2 := h
    have e : ∀ T, nx ((2, s) :: T) = s := fun T => by simp [nx, h]
    have hd : ∀ t : List UInt8, Lx.is t ≠ 2 → s ≠ t := fun t ht e2 => ht (by rw [← e2]; exact h)
    refine Reads.of_pri (fun _ _ => rfl) (fun T => ⟨by rw [show pr (.name s) 0 ++ T = (2, s) :: T from rfl, e]; exact hd _ (by decide), by rw [show pr (.name s) 0 ++ T = (2, s) :: T from rfl, e]; exact hd _ (by decide)⟩) fun T => ?_
    rw [show pr (.name s) 0 ++ T = (2, s) :: T from rfl]
    unfold R rd
    rw [e, if_neg (hd _ (by decide)), if_neg (hd _ (by decide)), if_neg (hd _ (by decide)), if_neg (hd _ (by decide)), if_neg (fun q => absurd q.2 (by simp [kd])), if_pos ⟨hd _ (by decide), rfl⟩]
    rfl
  | .tt, _ => by
    have e : ∀ T, nx (wT [116, 114, 117, 101] :: T) = [116, 114, 117, 101] := fun T => by simp [nx, wT, show Lx.is [116, 114, 117, 101] = 3 by decide]
    refine Reads.of_pri (fun _ _ => rfl) (fun T => ⟨by rw [show pr .tt 0 ++ T = wT [116, 114, 117, 101] :: T from rfl, e]; decide, by rw [show pr .tt 0 ++ T = wT [116, 114, 117, 101] :: T from rfl, e]; decide⟩) fun T => ?_
    rw [show pr .tt 0 ++ T = wT [116, 114, 117, 101] :: T from rfl]
    unfold R rd
    rw [e, if_neg (by decide), if_neg (by decide), if_pos rfl]
    rfl
  | .ff, _ => by
    have e : ∀ T, nx (wT [102, 97, 108, 115, 101] :: T) = [102, 97, 108, 115, 101] := fun T => by simp [nx, wT, show Lx.is [102, 97, 108, 115, 101] = 3 by decide]
    refine Reads.of_pri (fun _ _ => rfl) (fun T => ⟨by rw [show pr .ff 0 ++ T = wT [102, 97, 108, 115, 101] :: T from rfl, e]; decide, by rw [show pr .ff 0 ++ T = wT [102, 97, 108, 115, 101] :: T from rfl, e]; decide⟩) fun T => ?_
    rw [show pr .ff 0 ++ T = wT [102, 97, 108, 115, 101] :: T from rfl]
    unfold R rd
    rw [e, if_neg (by decide), if_neg (by decide), if_neg (by decide), if_pos rfl]
    rfl
  | .un op a, h => by
    have ha := reads a h.2
    have hlv : lvl op = 9 := by rcases h.1 with e | e <;> subst e <;> rfl
    have hu : ∀ T, R .una (tok op :: pr a 9 ++ T) = .ok T (.un op a) := fun T => by
      rcases h.1 with e | e <;> subst e
      · rw [List.cons_append, R_una5 nx_tok, List.tail_cons, ha.una]; rfl
      · rw [List.cons_append, R_una6 nx_tok, List.tail_cons, ha.una]; rfl
    have p0 : ∀ L, L ≤ 9 → pr (.un op a) L = tok op :: pr a 9 := fun L hL => by
      conv => lhs; unfold pr
      rw [if_neg (by omega)]
    have p1 : pr (.un op a) 10 = (4, [40]) :: (tok op :: pr a 9) ++ [(4, [41])] := by
      conv => lhs; unfold pr
      rw [if_pos (by omega)]
    refine ⟨fun n T hn hs => by rw [p0 n (by omega)]; exact down9 (hu T) n hn hs, fun T => by rw [p0 9 (by decide)]; exact hu T, fun T => ?_⟩
    rw [p1]
    refine pri_par ?_
    rw [down9 (hu _) 1 (by decide) st_pac, (st_pac (n := 1)).end_ (by decide)]
  | .bin op a b, h => by
    obtain ⟨h7, h21, wa, wb⟩ := h
    have ha := reads a wa
    have hb := reads b wb
    obtain ⟨o1, o2, o3, o4⟩ := ops_all ⟨op, by omega⟩ h7
    simp only at o1 o2 o3 o4
    have hne : op ≠ 0 := by omega
    have hst : ∀ r, St (lvl op + 1) (tok op :: r) := fun r m h1 h2 => by rw [nx_tok]; exact o4 ⟨m, by omega⟩ (by simp only; omega)
    have hB : ∀ T, St (lvl op + 1) T → R (.lev (lvl op + 1)) (pr b (lvl op + 1) ++ T) = .ok T b := fun T hs => by
      by_cases h8 : lvl op + 1 ≤ 8
      · rw [hb.lev _ _ h8 (hs.up (by omega)), hs.end_ h8]
      · rw [show lvl op + 1 = 9 by omega, R_9]; exact hb.una T
    have hm : ∀ T, St (lvl op + 1) T → R (.lev (lvl op)) (pr a (lvl op) ++ tok op :: pr b (lvl op + 1) ++ T) = R (.loop (lvl op) (.bin op a b)) T := fun T hs => by
      rw [List.append_assoc, List.cons_append, ha.lev _ _ o3 (hst _), R_loop o3 (by rw [nx_tok, o1]; exact hne), List.tail_cons, hB T hs, nx_tok, o1]
      rfl
    have p0 : ∀ L, L ≤ lvl op → pr (.bin op a b) L = pr a (lvl op) ++ tok op :: pr b (lvl op + 1) := fun L hL => by
      conv => lhs; unfold pr
      rw [if_neg (by omega)]
    have p1 : ∀ L, lvl op < L → pr (.bin op a b) L = (4, [40]) :: (pr a (lvl op) ++ tok op :: pr b (lvl op + 1)) ++ [(4, [41])] := fun L hL => by
      conv => lhs; unfold pr
      rw [if_pos hL]
    have hin : ∀ T, R (.lev 1) (pr a (lvl op) ++ tok op :: pr b (lvl op + 1) ++ (4, [41]) :: T) = .ok ((4, [41]) :: T) (.bin op a b) := fun T => by
      rw [down o3 (hm _ st_pac) (lvl op - 1) 1 (by omega) st_pac, (st_pac (n := 1)).end_ (by decide)]
    refine ⟨fun n T hn hs => ?_, fun T => ?_, fun T => ?_⟩
    · by_cases hc : n ≤ lvl op
      · rw [p0 n hc]
        exact down o3 (hm T (hs.up (by omega))) (lvl op - n) n (by omega) hs
      · rw [p1 n (by omega)]
        exact down9 (una_par (hin T)) n hn hs
    · rw [p1 9 (by omega)]; exact una_par (hin T)
    · rw [p1 10 (by omega)]; exact pri_par (hin T)
  | .ite a b c, h => by
    obtain ⟨wa, wb, wc⟩ := h
    have ha := reads a wa
    have hb := reads b wb
    have hc := reads c wc
    have w1 : ∀ r, nx (wT [105, 102] :: r) = [105, 102] := fun r => by simp [nx, wT, show Lx.is [105, 102] = 3 by decide]
    have w2 : ∀ r, nx (wT [116, 104, 101, 110] :: r) = [116, 104, 101, 110] := fun r => by simp [nx, wT, show Lx.is [116, 104, 101, 110] = 3 by decide]
    have w3 : ∀ r, nx (wT [101, 108, 115, 101] :: r) = [101, 108, 115, 101] := fun r => by simp [nx, wT, show Lx.is [101, 108, 115, 101] = 3 by decide]
    have w4 : ∀ r, nx (wT [101, 110, 100, 105, 102] :: r) = [101, 110, 100, 105, 102] := fun r => by simp [nx, wT, show Lx.is [101, 110, 100, 105, 102] = 3 by decide]
    have ep : ∀ T, pr (.ite a b c) 0 ++ T = wT [105, 102] :: (pr a 0 ++ wT [116, 104, 101, 110] :: (pr b 0 ++ wT [101, 108, 115, 101] :: (pr c 0 ++ wT [101, 110, 100, 105, 102] :: T))) := fun T => by
      conv => lhs; unfold pr
      simp
    refine Reads.of_pri (fun _ _ => rfl) (fun T => ⟨by rw [ep, w1]; decide, by rw [ep, w1]; decide⟩) fun T => ?_
    rw [ep, R_if (w1 _), R_bra (by simp), List.tail_cons, ha.top (pr01 wa) (st_word (w2 _) (by decide))]
    unfold then2 eat
    simp only
    rw [if_pos (w2 _), List.tail_cons, hb.top (pr01 wb) (st_word (w3 _) (by decide))]
    simp only
    rw [if_pos (w3 _), List.tail_cons, hc.top (pr01 wc) (st_word (w4 _) (by decide))]
    simp only
    rw [if_pos (w4 _), List.tail_cons]
end Ex
end Go.Proofs.YtdcjpinbflmikaaGreatDoor
