/- Facts and walks for the statement. -/
import Derived.Test.YtmmdigeciphglaaGreatDoorPzB01
namespace Go.Proofs.YtmmdigeciphglaaGreatDoor
namespace Ex
inductive Fr where
  | un (op : Nat)
  | bin (op : Nat) (a : E)
  | par
  | if0
  | if1 (a : E)
  | if2 (a b : E)
abbrev tThen : List UInt8 := [116, 104, 101, 110]
abbrev tElse : List UInt8 := [101, 108, 115, 101]
abbrev tEnd : List UInt8 := [101, 110, 100, 105, 102]
def infx (s : List UInt8) : Nat := ((List.range 15).map (· + 7)).foldr (fun op r => if opS op = s then op else r) 0
def kt (t : Tk) : Tk := if Lx.is t.2 = t.1 then t else (0, [])
def settle (n : Nat) : List Fr → E → List Fr × E
  | .un op :: K, x => if lvl op < n then (.un op :: K, x) else settle n K (.un op x)
  | .bin op a :: K, x => if lvl op < n then (.bin op a :: K, x) else settle n K (.bin op a x)
  | K, x => (K, x)
def wrd (K : List Fr) (x : E) (s : List UInt8) : Option (List Fr × Option E) := match K with
  | .par :: K => if s = [41] then some (K, some x) else none
  | .if0 :: K => if s = tThen then some (.if1 x :: K, none) else none
  | .if1 a :: K => if s = tElse then some (.if2 a x :: K, none) else none
  | .if2 a b :: K => if s = tEnd then some (K, some (.ite a b x)) else none
  | _ => none
def beg (K : List Fr) (t : Tk) : Int × List Fr × Option E :=
  if t.1 = 1 then (match numv t.2 with
    | some v => (0, K, some (.num v))
    | none => (60, K, none))
  else if t.1 = 2 then (0, K, some (.name t.2))
  else if t.2 = [116, 114, 117, 101] then (0, K, some .tt)
  else if t.2 = [102, 97, 108, 115, 101] then (0, K, some .ff)
  else if t.2 = [45] then (0, .un 5 :: K, none)
  else if t.2 = [110, 111, 116] then (0, .un 6 :: K, none)
  else if t.2 = [40] then (0, .par :: K, none)
  else if t.2 = [105, 102] then (0, .if0 :: K, none)
  else (80, K, none)
def beh (K : List Fr) (x : E) (t : Tk) : Int × List Fr × Option E :=
  if infx t.2 ≠ 0 then
    (0, .bin (infx t.2) (settle (lvl (infx t.2)) K x).2 :: (settle (lvl (infx t.2)) K x).1, none)
  else match wrd (settle 0 K x).1 (settle 0 K x).2 t.2 with
    | some (K', c) => (0, K', c)
    | none => (80, (settle 0 K x).1, some (settle 0 K x).2)
def step (K : List Fr) (c : Option E) (t : Tk) : Int × List Fr × Option E := match c with
  | none => beg K t
  | some x => beh K x t
def run : List Tk → List Fr → Option E → List Tk × Int × List Fr × Option E
  | [], K, c => ([], step K c (0, []))
  | t :: ts, K, c => if (step K c (kt t)).1 = 0 then run ts (step K c (kt t)).2.1 (step K c (kt t)).2.2 else (t :: ts, step K c (kt t))
def fin (r : List Tk × Int × List Fr × Option E) : Rs := match r.2.2.1, r.2.2.2 with
  | [], some x => .ok r.1 x
  | _, _ => .bad r.1.length r.2.1
/-! ### what the reader by levels does behind a part -/
def ups (n : Nat) : Nat → E → List Tk → Rs
  | 0, x, ts => .ok ts x
  | m + 1, x, ts => if m < n then .ok ts x else then2 (R (.loop m x) ts) (fun r a => ups n m a r)
def Cl : List Fr → Nat → E → List Tk → Rs
  | [], m, x, ts => ups 1 m x ts
  | .un op :: K, _, x, ts => Cl K 9 (.un op x) ts
  | .bin op a :: K, m, x, ts => then2 (ups (lvl op + 1) m x ts) (fun r b => Cl K (lvl op + 1) (.bin op a b) r)
  | .par :: K, m, x, ts => then2 (ups 1 m x ts) (fun r a => eat [41] r (fun r => Cl K 9 a r))
  | .if0 :: K, m, x, ts => then2 (ups 1 m x ts) (fun r a => eat tThen r (fun r => then2 (R (.lev 1) r) (fun r b => eat tElse r (fun r => then2 (R (.lev 1) r) (fun r c => eat tEnd r (fun r => Cl K 9 (.ite a b c) r))))))
  | .if1 a :: K, m, x, ts => then2 (ups 1 m x ts) (fun r b => eat tElse r (fun r => then2 (R (.lev 1) r) (fun r c => eat tEnd r (fun r => Cl K 9 (.ite a b c) r))))
  | .if2 a b :: K, m, x, ts => then2 (ups 1 m x ts) (fun r c => eat tEnd r (fun r => Cl K 9 (.ite a b c) r))
theorem then2_assoc (x : Rs) (f g : List Tk → E → Rs) : then2 (then2 x f) g = then2 x (fun r a => then2 (f r a) g) := by cases x <;> rfl
theorem then2_at (r : List Tk) (a : E) (f : List Tk → E → Rs) : then2 (.ok r a) f = f r a := rfl
theorem then2_id (x : Rs) : then2 x (fun r a => .ok r a) = x := by cases x <;> rfl
theorem then2_eat (s : List UInt8) (r : List Tk) (f : List Tk → Rs) (g : List Tk → E → Rs) : then2 (eat s r f) g = eat s r (fun r => then2 (f r) g) := by unfold eat; split <;> rfl
theorem ups_le {n m : Nat} (h : m ≤ n) (x : E) (ts : List Tk) : ups n m x ts = .ok ts x := by
  cases m with
  | zero => rfl
  | succ m => unfold ups; rw [if_pos (by omega)]
theorem ups_gt {n m : Nat} (h : n ≤ m) (x : E) (ts : List Tk) : ups n (m + 1) x ts = then2 (R (.loop m x) ts) (fun r a => ups n m a r) := by
  conv => lhs; unfold ups
  rw [if_neg (by omega)]
theorem ups_last {n : Nat} : ∀ (m : Nat), n + 1 ≤ m → ∀ (x : E) (ts : List Tk), ups n m x ts = then2 (ups (n + 1) m x ts) (fun r a => R (.loop n a) r)
  | 0, h, _, _ => absurd h (by omega)
  | m + 1, h, x, ts => by
    rcases Nat.eq_or_lt_of_le h with h1 | h1
    · have e : m = n := by omega
      subst e
      rw [ups_gt (Nat.le_refl _), ups_le (Nat.le_refl _)]
      show _ = R (.loop m x) ts
      refine Eq.trans ?_ (then2_id _)
      congr 1; funext r a; exact ups_le (Nat.le_refl _) _ _
    · rw [ups_gt (by omega), ups_gt (by omega), then2_assoc]
      congr 1; funext r a
      exact ups_last m (by omega) a r
theorem lev_ups : ∀ (d n : Nat), n + d = 9 → ∀ ts, R (.lev n) ts = then2 (R .una ts) (fun r x => ups n 9 x r)
  | 0, n, h, ts => by
    have e : n = 9 := by omega
    subst e
    rw [R_9]
    exact (then2_id _).symm
  | d + 1, n, h, ts => by
    rw [R_lev (by omega), lev_ups d (n + 1) (by omega), then2_assoc]
    congr 1; funext r a
    exact (ups_last 9 (by omega) a r).symm
theorem ups_pass {n m' : Nat} {ts : List Tk} : ∀ (m : Nat), n ≤ m' → m' ≤ m → (∀ k, m' ≤ k → k < m → of2 k (nx ts) = 0) → ∀ x, ups n m x ts = ups n m' x ts
  | 0, _, h, _, x => by have : m' = 0 := by omega
                        subst this; rfl
  | m + 1, h0, h, hp, x => by
    rcases Nat.eq_or_lt_of_le h with h1 | h1
    · rw [h1]
    · rw [ups_gt (by omega), R_loop0 (hp m (by omega) (by omega))]
      exact ups_pass m h0 (by omega) (fun k h2 h3 => hp k h2 (by omega)) x
theorem ups_past {n m m' : Nat} {ts : List Tk} (h : m' ≤ m) (hp : ∀ k, m' ≤ k → k < m → of2 k (nx ts) = 0) (x : E) : ups n m x ts = ups n m' x ts := by
  rcases Nat.lt_or_ge m' n with h1 | h1
  · rcases Nat.lt_or_ge m n with h2 | h2
    · rw [ups_le (Nat.le_of_lt h2), ups_le (Nat.le_of_lt h1)]
    · rw [ups_le (Nat.le_of_lt h1), ups_pass m (Nat.le_refl n) h2 (fun k h3 h4 => hp k (by omega) h4), ups_le (Nat.le_refl _)]
  · exact ups_pass m h1 h hp x
def okf : Fr → Prop
  | .un op => op = 5 ∨ op = 6
  | .bin op _ => 7 ≤ op ∧ op ≤ 21
  | _ => True
theorem lvl_un {op : Nat} (h : op = 5 ∨ op = 6) : lvl op = 9 := by rcases h with rfl | rfl <;> rfl
theorem lvl_bin {op : Nat} (h : 7 ≤ op ∧ op ≤ 21) : 1 ≤ lvl op ∧ lvl op ≤ 8 := by
  have q := ops_all ⟨op, by omega⟩ h.1
  exact ⟨q.2.1, q.2.2.1⟩
theorem settle_ok (n : Nat) : ∀ (K : List Fr) (x : E), (∀ f ∈ K, okf f) → ∀ f ∈ (settle n K x).1, okf f
  | .un op :: K, x, h => by
    unfold settle
    split
    · exact h
    · exact settle_ok n K _ (fun f hf => h f (List.mem_cons_of_mem _ hf))
  | .bin op a :: K, x, h => by
    unfold settle
    split
    · exact h
    · exact settle_ok n K _ (fun f hf => h f (List.mem_cons_of_mem _ hf))
  | [], x, h => h
  | .par :: K, x, h => h
  | .if0 :: K, x, h => h
  | .if1 _ :: K, x, h => h
  | .if2 _ _ :: K, x, h => h
def topok (n : Nat) : List Fr → Prop
  | .un op :: _ => lvl op < n
  | .bin op _ :: _ => lvl op < n
  | _ => True
theorem settle_top (n : Nat) : ∀ (K : List Fr) (x : E), topok n (settle n K x).1
  | .un op :: K, x => by
    unfold settle
    split
    · assumption
    · exact settle_top n K _
  | .bin op a :: K, x => by
    unfold settle
    split
    · assumption
    · exact settle_top n K _
  | [], x => True.intro
  | .par :: K, x => True.intro
  | .if0 :: K, x => True.intro
  | .if1 _ :: K, x => True.intro
  | .if2 _ _ :: K, x => True.intro
theorem Cl_past {m m' : Nat} {ts : List Tk} (h : m' ≤ m) (hp : ∀ k, m' ≤ k → k < m → of2 k (nx ts) = 0) (K : List Fr) (x : E) : Cl K m x ts = Cl K m' x ts := by
  match K with
  | [] => exact ups_past h hp x
  | .un _ :: _ => rfl
  | .bin op a :: K => unfold Cl; rw [ups_past h hp]
  | .par :: K => unfold Cl; rw [ups_past h hp]
  | .if0 :: K => unfold Cl; rw [ups_past h hp]
  | .if1 _ :: K => unfold Cl; rw [ups_past h hp]
  | .if2 _ _ :: K => unfold Cl; rw [ups_past h hp]
theorem settle_Cl {L : Nat} {ts : List Tk} (hL : L ≤ 8) (hp : ∀ k, L + 1 ≤ k → k < 9 → of2 k (nx ts) = 0) : ∀ (K : List Fr) (x : E) (m : Nat), (∀ f ∈ K, okf f) → L + 1 ≤ m → m ≤ 9 → Cl K m x ts = Cl (settle L K x).1 (L + 1) (settle L K x).2 ts
  | .un op :: K, x, m, h, h1, h2 => by
    have hl := lvl_un (h _ List.mem_cons_self)
    conv => rhs; unfold settle
    rw [if_neg (by omega)]
    exact settle_Cl hL hp K (.un op x) 9 (fun f hf => h f (List.mem_cons_of_mem _ hf)) (by omega) (Nat.le_refl _)
  | .bin op a :: K, x, m, h, h1, h2 => by
    have hl := lvl_bin (h _ List.mem_cons_self)
    conv => rhs; unfold settle
    split
    · exact Cl_past h1 (fun k h3 h4 => hp k h3 (by omega)) _ _
    · rename_i hn
      have e : Cl (.bin op a :: K) m x ts = Cl K (lvl op + 1) (.bin op a x) ts := by
        conv => lhs; unfold Cl
        have e2 : ups (lvl op + 1) m x ts = .ok ts x := by
          rcases Nat.lt_or_ge m (lvl op + 1) with h3 | h3
          · exact ups_le (Nat.le_of_lt h3) _ _
          · rw [ups_past (m' := lvl op + 1) h3 (fun k h4 h5 => hp k (by omega) (by omega))]
            exact ups_le (Nat.le_refl _) _ _
        rw [e2]; rfl
      rw [e]
      exact settle_Cl hL hp K (.bin op a x) (lvl op + 1) (fun f hf => h f (List.mem_cons_of_mem _ hf)) (by omega) (by omega)
  | [], x, m, h, h1, h2 => Cl_past h1 (fun k h3 h4 => hp k h3 (by omega)) _ _
  | .par :: K, x, m, h, h1, h2 => Cl_past h1 (fun k h3 h4 => hp k h3 (by omega)) _ _
  | .if0 :: K, x, m, h, h1, h2 => Cl_past h1 (fun k h3 h4 => hp k h3 (by omega)) _ _
  | .if1 _ :: K, x, m, h, h1, h2 => Cl_past h1 (fun k h3 h4 => hp k h3 (by omega)) _ _
  | .if2 _ _ :: K, x, m, h, h1, h2 => Cl_past h1 (fun k h3 h4 => hp k h3 (by omega)) _ _
theorem Cl_loop {L : Nat} (h1 : 1 ≤ L) (K : List Fr) (ht : topok L K) (hk : ∀ f ∈ K, okf f) (hL : L ≤ 8) (x : E) (ts : List Tk) : Cl K (L + 1) x ts = then2 (R (.loop L x) ts) (fun r a => Cl K L a r) := by
  match K with
  | [] => unfold Cl; exact ups_gt h1 x ts
  | .un op :: _ =>
    have := lvl_un (hk _ List.mem_cons_self)
    simp only [topok] at ht
    omega
  | .bin op a :: K =>
    simp only [topok] at ht
    unfold Cl
    rw [ups_gt (by omega), then2_assoc]
  | .par :: K => unfold Cl; rw [ups_gt h1, then2_assoc]
  | .if0 :: K => unfold Cl; rw [ups_gt h1, then2_assoc]
  | .if1 _ :: K => unfold Cl; rw [ups_gt h1, then2_assoc]
  | .if2 _ _ :: K => unfold Cl; rw [ups_gt h1, then2_assoc]
/-! ### words of ops -/
theorem infx_of {s : List UInt8} (h : infx s ≠ 0) : 7 ≤ infx s ∧ infx s ≤ 21 ∧ opS (infx s) = s := by
  unfold infx at h ⊢
  have q : ∀ l : List Nat, (∀ o ∈ l, 7 ≤ o ∧ o ≤ 21) → l.foldr (fun op r => if opS op = s then op else r) 0 ≠ 0 → 7 ≤ l.foldr (fun op r => if opS op = s then op else r) 0 ∧ l.foldr (fun op r => if opS op = s then op else r) 0 ≤ 21 ∧ opS (l.foldr (fun op r => if opS op = s then op else r) 0) = s := by
    intro l
    induction l with
    | nil => intro _ h; exact absurd rfl h
    | cons o l ih =>
      intro hl h
      rw [List.foldr_cons] at h ⊢
      by_cases he : opS o = s
      · rw [if_pos he]; exact ⟨(hl o List.mem_cons_self).1, (hl o List.mem_cons_self).2, he⟩
      · rw [if_neg he] at h ⊢; exact ih (fun o ho => hl o (List.mem_cons_of_mem _ ho)) h
  exact q _ (by decide) h
theorem infx_none {s : List UInt8} (h : infx s = 0) : ∀ o, 7 ≤ o → o ≤ 21 → opS o ≠ s := by
  unfold infx at h
  have q : ∀ l : List Nat, (∀ o ∈ l, o ≠ 0) → l.foldr (fun op r => if opS op = s then op else r) 0 = 0 → ∀ o ∈ l, opS o ≠ s := by
    intro l
    induction l with
    | nil => intro _ _ o ho; cases ho
    | cons a l ih =>
      intro hl h o ho
      rw [List.foldr_cons] at h
      by_cases he : opS a = s
      · rw [if_pos he] at h; exact absurd h (hl a List.mem_cons_self)
      · rw [if_neg he] at h
        rcases List.mem_cons.1 ho with rfl | ho
        · exact he
        · exact ih (fun o ho => hl o (List.mem_cons_of_mem _ ho)) h o ho
  intro o h1 h2
  exact q _ (by decide) h o (List.mem_map.2 ⟨o - 7, List.mem_range.2 (by omega), by omega⟩)
theorem of2_zero {n : Nat} {s : List UInt8} (h : infx s = 0) : of2 n s = 0 := by
  have q := infx_none h
  unfold of2
  have p : ∀ l : List Nat, (∀ o ∈ l, 7 ≤ o ∧ o ≤ 21) → l.foldr (fun op r => if s ≠ [] ∧ opS op = s ∧ lvl op = n then op else r) 0 = 0 := by
    intro l
    induction l with
    | nil => intro _; rfl
    | cons a l ih =>
      intro hl
      have := hl a List.mem_cons_self
      rw [List.foldr_cons, if_neg (fun h => q a this.1 this.2 h.2.1)]
      exact ih (fun o ho => hl o (List.mem_cons_of_mem _ ho))
  exact p _ (by decide)
theorem of2_infx {s : List UInt8} (h : infx s ≠ 0) : of2 (lvl (infx s)) s = infx s ∧ ∀ k, k ≤ 8 → k ≠ lvl (infx s) → of2 k s = 0 := by
  obtain ⟨h1, h2, h3⟩ := infx_of h
  generalize infx s = op at *
  have q := ops_all ⟨op, by omega⟩ h1
  rw [h3] at q
  exact ⟨q.1, fun k hk hn => q.2.2.2 ⟨k, by omega⟩ hn⟩
/-! ### primaries -/
theorem R_pri (ts : List Tk) : R .pri ts = if nx ts = [40] then then2 (R (.lev 1) ts.tail) (fun r a => eat [41] r (fun r => .ok r a))
    else if nx ts = [105, 102] then R .bra ts
    else if nx ts = [116, 114, 117, 101] then .ok ts.tail .tt
    else if nx ts = [102, 97, 108, 115, 101] then .ok ts.tail .ff
    else if nx ts ≠ [] ∧ kd ts = 1 then (match numv (nx ts) with
      | some v => .ok ts.tail (.num v)
      | none => .bad ts.length 60)
    else if nx ts ≠ [] ∧ kd ts = 2 then .ok ts.tail (.name (nx ts))
    else .bad ts.length 80 := by
  by_cases h1 : nx ts = [40]
  · rw [if_pos h1, R_par h1]
  · by_cases h2 : nx ts = [105, 102]
    · rw [if_neg h1, if_pos h2, R_if h2]
    · conv => lhs; unfold R rd
      rw [if_neg h1, if_neg h2]
      rw [if_neg h1, if_neg h2]
      split
      · rfl
      · split
        · rfl
        · split
          · rfl
          · split <;> rfl
theorem R_una (ts : List Tk) : R .una ts = if nx ts = [45] then then2 (R .una ts.tail) (fun r a => .ok r (.un 5 a))
    else if nx ts = [110, 111, 116] then then2 (R .una ts.tail) (fun r a => .ok r (.un 6 a)) else R .pri ts := by
  by_cases h5 : nx ts = [45]
  · rw [if_pos h5, R_una5 h5]
  · by_cases h6 : nx ts = [110, 111, 116]
    · rw [if_neg h5, if_pos h6, R_una6 h6]
    · rw [if_neg h5, if_neg h6, R_unap h5 h6]
theorem words_is : Lx.is [45] = 4 ∧ Lx.is [110, 111, 116] = 3 ∧ Lx.is [40] = 4 ∧ Lx.is [105, 102] = 3 ∧ Lx.is [116, 114, 117, 101] = 3 ∧ Lx.is [102, 97, 108, 115, 101] = 3 ∧ Lx.is [] = 0 := by decide
/-! ### the end, and word by word -/
theorem fin_bad {ts : List Tk} {e : Int} {K : List Fr} {c : Option E} (h : K ≠ [] ∨ c = none) : fin (ts, e, K, c) = .bad ts.length e := by
  unfold fin
  match K, c with
  | [], none => rfl
  | [], some x => rcases h with h | h <;> simp at h
  | _ :: _, none => rfl
  | _ :: _, some _ => rfl
theorem eat_not {s : List UInt8} {r : List Tk} {f : List Tk → Rs} (h : nx r ≠ s) : eat s r f = .bad r.length 80 := if_neg h
theorem eat_yes {s : List UInt8} {r : List Tk} {f : List Tk → Rs} (h : nx r = s) : eat s r f = f r.tail := if_pos h
theorem Cl_stop {K : List Fr} (ht : topok 0 K) {x : E} {ts : List Tk} (hw : wrd K x (nx ts) = none) (e : Int) (he : e = 80) : fin (ts, e, K, some x) = Cl K 1 x ts := by
  subst he
  match K with
  | [] => unfold Cl; rw [ups_le (Nat.le_refl _)]; rfl
  | .un op :: K => simp [topok] at ht
  | .bin op a :: K => simp [topok] at ht
  | .par :: K =>
    have h : nx ts ≠ [41] := fun h => by simp [wrd, h] at hw
    unfold Cl; rw [fin_bad (Or.inl (by simp)), ups_le (Nat.le_refl _), then2_at, eat_not h]
  | .if0 :: K =>
    have h : nx ts ≠ tThen := fun h => by simp [wrd, h] at hw
    unfold Cl; rw [fin_bad (Or.inl (by simp)), ups_le (Nat.le_refl _), then2_at, eat_not h]
  | .if1 a :: K =>
    have h : nx ts ≠ tElse := fun h => by simp [wrd, h] at hw
    unfold Cl; rw [fin_bad (Or.inl (by simp)), ups_le (Nat.le_refl _), then2_at, eat_not h]
  | .if2 a b :: K =>
    have h : nx ts ≠ tEnd := fun h => by simp [wrd, h] at hw
    unfold Cl; rw [fin_bad (Or.inl (by simp)), ups_le (Nat.le_refl _), then2_at, eat_not h]
def Sd (K : List Fr) (c : Option E) (ts : List Tk) : Rs := match c with
  | none => then2 (R .una ts) (fun r x => Cl K 9 x r)
  | some x => Cl K 9 x ts
theorem Cl_word {K K' : List Fr} {c : Option E} {x : E} {ts : List Tk} (hw : wrd K x (nx ts) = some (K', c)) (hk : ∀ f ∈ K, okf f) : Cl K 1 x ts = Sd K' c ts.tail ∧ ∀ f ∈ K', okf f := by
  have lv1 := fun ts => lev_ups 8 1 (by omega) ts
  match K with
  | [] => simp [wrd] at hw
  | .un op :: K => simp [wrd] at hw
  | .bin op a :: K => simp [wrd] at hw
  | .par :: K =>
    simp only [wrd] at hw
    split at hw
    · rename_i h; cases hw
      refine ⟨?_, fun f hf => hk f (List.mem_cons_of_mem _ hf)⟩
      conv => lhs; unfold Cl
      rw [ups_le (Nat.le_refl _), then2_at, eat_yes h]; rfl
    · cases hw
  | .if0 :: K =>
    simp only [wrd] at hw
    split at hw
    · rename_i h; cases hw
      refine ⟨?_, fun f hf => by
        rcases List.mem_cons.1 hf with rfl | hf
        · exact True.intro
        · exact hk f (List.mem_cons_of_mem _ hf)⟩
      conv => lhs; unfold Cl
      rw [ups_le (Nat.le_refl _), then2_at, eat_yes h]
      show then2 (R (.lev 1) ts.tail) _ = then2 (R .una ts.tail) _
      rw [lv1, then2_assoc]
      congr 1
    · cases hw
  | .if1 a :: K =>
    simp only [wrd] at hw
    split at hw
    · rename_i h; cases hw
      refine ⟨?_, fun f hf => by
        rcases List.mem_cons.1 hf with rfl | hf
        · exact True.intro
        · exact hk f (List.mem_cons_of_mem _ hf)⟩
      conv => lhs; unfold Cl
      rw [ups_le (Nat.le_refl _), then2_at, eat_yes h]
      show then2 (R (.lev 1) ts.tail) _ = then2 (R .una ts.tail) _
      rw [lv1, then2_assoc]
      congr 1
    · cases hw
  | .if2 a b :: K =>
    simp only [wrd] at hw
    split at hw
    · rename_i h; cases hw
      refine ⟨?_, fun f hf => hk f (List.mem_cons_of_mem _ hf)⟩
      conv => lhs; unfold Cl
      rw [ups_le (Nat.le_refl _), then2_at, eat_yes h]; rfl
    · cases hw
theorem beh_Sd {K : List Fr} {x : E} {ts : List Tk} (hk : ∀ f ∈ K, okf f) {t : Tk} (ht : t.2 = nx ts) :
    ((beh K x t).1 = 0 → Sd K (some x) ts = Sd (beh K x t).2.1 (beh K x t).2.2 ts.tail ∧ ∀ f ∈ (beh K x t).2.1, okf f) ∧ ((beh K x t).1 ≠ 0 → fin (ts, beh K x t) = Sd K (some x) ts) := by
  unfold beh
  rw [ht]
  by_cases hi : infx (nx ts) = 0
  · rw [if_neg (by simp [hi])]
    have hs : Cl K 9 x ts = Cl (settle 0 K x).1 1 (settle 0 K x).2 ts := settle_Cl (by omega) (fun k _ _ => of2_zero hi) K x 9 hk (by omega) (Nat.le_refl _)
    have h1 := settle_ok 0 K x hk
    have h2 := settle_top 0 K x
    generalize settle 0 K x = S at *
    obtain ⟨K1, x1⟩ := S
    simp only at hs h1 h2 ⊢
    cases hw : wrd K1 x1 (nx ts) with
    | none =>
      refine ⟨fun h => absurd h (by simp), fun _ => ?_⟩
      show _ = Cl K 9 x ts
      rw [hs]
      exact Cl_stop h2 hw 80 rfl
    | some p =>
      obtain ⟨K2, c⟩ := p
      refine ⟨fun _ => ?_, fun h => absurd rfl h⟩
      obtain ⟨q1, q2⟩ := Cl_word hw h1
      exact ⟨hs.trans q1, q2⟩
  · rw [if_pos hi]
    obtain ⟨o1, o2⟩ := of2_infx hi
    obtain ⟨i1, i2, i3⟩ := infx_of hi
    obtain ⟨l1, l2⟩ := lvl_bin ⟨i1, i2⟩
    refine ⟨fun _ => ?_, fun h => absurd rfl h⟩
    have hs : Cl K 9 x ts = Cl (settle (lvl (infx (nx ts))) K x).1 (lvl (infx (nx ts)) + 1) (settle (lvl (infx (nx ts))) K x).2 ts := settle_Cl l2 (fun k h3 h4 => o2 k (by omega) (by omega)) K x 9 hk (by omega) (Nat.le_refl _)
    have h1 := settle_ok (lvl (infx (nx ts))) K x hk
    have h2 := settle_top (lvl (infx (nx ts))) K x
    generalize settle (lvl (infx (nx ts))) K x = S at *
    obtain ⟨K1, x1⟩ := S
    simp only at hs h1 h2 ⊢
    refine ⟨?_, fun f hf => by
      rcases List.mem_cons.1 hf with rfl | hf
      · exact ⟨i1, i2⟩
      · exact h1 f hf⟩
    show Cl K 9 x ts = then2 (R .una ts.tail) _
    rw [hs, Cl_loop l1 K1 h2 h1 l2, R_loop l2 (by rw [o1]; exact hi), o1, then2_assoc, lev_ups (8 - lvl (infx (nx ts))) _ (by omega), then2_assoc]
    congr 1; funext r y
    show _ = Cl (.bin (infx (nx ts)) x1 :: K1) 9 y r
    conv => rhs; unfold Cl
    congr 1; funext r2 b
    exact (Cl_loop l1 K1 h2 h1 l2 _ _).symm
theorem kt_nx (t : Tk) (ts : List Tk) : (kt t).2 = nx (t :: ts) ∧ (nx (t :: ts) ≠ [] → (kt t).1 = kd (t :: ts)) ∧ (Lx.is (kt t).2 = (kt t).1) := by
  unfold kt nx kd
  by_cases h : Lx.is t.2 = t.1
  · simp [h]
  · simp only [if_neg h]; exact ⟨trivial, fun h => absurd rfl h, by decide⟩
theorem beg_Sd {K : List Fr} {ts : List Tk} (hk : ∀ f ∈ K, okf f) {t : Tk} (ht : t.2 = nx ts) (hd : nx ts ≠ [] → t.1 = kd ts) (hi : Lx.is t.2 = t.1) :
    ((beg K t).1 = 0 → Sd K none ts = Sd (beg K t).2.1 (beg K t).2.2 ts.tail ∧ ∀ f ∈ (beg K t).2.1, okf f) ∧ ((beg K t).1 ≠ 0 → fin (ts, beg K t) = Sd K none ts) := by
  have lv1 := fun ts => lev_ups 8 1 (by omega) ts
  obtain ⟨w1, w2, w3, w4, w5, w6, w7⟩ := words_is
  have cons_ok : ∀ f : Fr, okf f → ∀ g ∈ f :: K, okf g := fun f hf g hg => by
    rcases List.mem_cons.1 hg with rfl | hg
    · exact hf
    · exact hk g hg
  show (_ → then2 (R .una ts) (fun r x => Cl K 9 x r) = _ ∧ _) ∧ (_ → _ = then2 (R .una ts) (fun r x => Cl K 9 x r))
  unfold beg
  by_cases k1 : t.1 = 1
  · rw [if_pos k1]
    have hne : nx ts ≠ [] := fun h => by rw [ht, h, w7] at hi; omega
    have hl : R .una ts = (match numv (nx ts) with | some v => .ok ts.tail (.num v) | none => .bad ts.length 60) := by
      rw [R_una, if_neg (fun h => by rw [ht, h, w1] at hi; omega), if_neg (fun h => by rw [ht, h, w2] at hi; omega), R_pri, if_neg (fun h => by rw [ht, h, w3] at hi; omega), if_neg (fun h => by rw [ht, h, w4] at hi; omega), if_neg (fun h => by rw [ht, h, w5] at hi; omega), if_neg (fun h => by rw [ht, h, w6] at hi; omega), if_pos ⟨hne, by rw [← hd hne]; exact k1⟩]
    rw [hl, ht]
    cases numv (nx ts) with
    | none => exact ⟨fun h => absurd h (by simp), fun _ => fin_bad (Or.inr rfl)⟩
    | some v => exact ⟨fun _ => ⟨rfl, hk⟩, fun h => absurd rfl h⟩
  · rw [if_neg k1]
    by_cases k2 : t.1 = 2
    · rw [if_pos k2]
      have hne : nx ts ≠ [] := fun h => by rw [ht, h, w7] at hi; omega
      have hl : R .una ts = .ok ts.tail (.name (nx ts)) := by
        rw [R_una, if_neg (fun h => by rw [ht, h, w1] at hi; omega), if_neg (fun h => by rw [ht, h, w2] at hi; omega), R_pri, if_neg (fun h => by rw [ht, h, w3] at hi; omega), if_neg (fun h => by rw [ht, h, w4] at hi; omega), if_neg (fun h => by rw [ht, h, w5] at hi; omega), if_neg (fun h => by rw [ht, h, w6] at hi; omega), if_neg (fun h => k1 ((hd h.1).trans h.2)), if_pos ⟨hne, by rw [← hd hne]; exact k2⟩]
      rw [hl, ht]
      exact ⟨fun _ => ⟨rfl, hk⟩, fun h => absurd rfl h⟩
    · rw [if_neg k2, ht, R_una, R_pri]
      by_cases h3 : nx ts = [116, 114, 117, 101]
      · rw [if_pos h3, h3]
        exact ⟨fun _ => ⟨rfl, hk⟩, fun h => absurd rfl h⟩
      · rw [if_neg h3]
        by_cases h4 : nx ts = [102, 97, 108, 115, 101]
        · rw [if_pos h4, h4]
          exact ⟨fun _ => ⟨rfl, hk⟩, fun h => absurd rfl h⟩
        · rw [if_neg h4]
          by_cases h5 : nx ts = [45]
          · rw [if_pos h5, if_pos h5]
            exact ⟨fun _ => ⟨by rw [then2_assoc]; rfl, cons_ok _ (Or.inl rfl)⟩, fun h => absurd rfl h⟩
          · rw [if_neg h5, if_neg h5]
            by_cases h6 : nx ts = [110, 111, 116]
            · rw [if_pos h6, if_pos h6]
              exact ⟨fun _ => ⟨by rw [then2_assoc]; rfl, cons_ok _ (Or.inr rfl)⟩, fun h => absurd rfl h⟩
            · rw [if_neg h6, if_neg h6]
              by_cases h7 : nx ts = [40]
              · rw [if_pos h7, if_pos h7]
                refine ⟨fun _ => ⟨?_, cons_ok _ True.intro⟩, fun h => absurd rfl h⟩
                rw [then2_assoc, lv1, then2_assoc]
                show _ = then2 (R .una ts.tail) _
                congr 1; funext r x
                show _ = Cl (.par :: K) 9 x r
                conv => rhs; unfold Cl
                congr 1; funext r2 a
                exact then2_eat _ _ _ _
              · rw [if_neg h7, if_neg h7]
                by_cases h8 : nx ts = [105, 102]
                · rw [if_pos h8, if_pos h8, R_bra (nx_nil (by rw [h8]; simp))]
                  refine ⟨fun _ => ⟨?_, cons_ok _ True.intro⟩, fun h => absurd rfl h⟩
                  rw [then2_assoc]
                  conv => lhs; arg 1; rw [lv1]
                  rw [then2_assoc]
                  show _ = then2 (R .una ts.tail) _
                  congr 1; funext r x
                  show _ = Cl (.if0 :: K) 9 x r
                  conv => rhs; unfold Cl
                  congr 1; funext r2 a
                  rw [then2_eat]
                  congr 1; funext r3
                  rw [then2_assoc]
                  congr 1; funext r4 b
                  rw [then2_eat]
                  congr 1; funext r5
                  rw [then2_assoc]
                  congr 1; funext r6 c
                  rw [then2_eat]
                  rfl
                · rw [if_neg h8, if_neg h8, if_neg h3, if_neg h4, if_neg (fun h => k1 ((hd h.1).trans h.2)), if_neg (fun h => k2 ((hd h.1).trans h.2))]
                  exact ⟨fun h => absurd h (by simp), fun _ => fin_bad (Or.inr rfl)⟩
theorem step_Sd {K : List Fr} {c : Option E} {ts : List Tk} (hk : ∀ f ∈ K, okf f) {t : Tk} (ht : t.2 = nx ts) (hd : nx ts ≠ [] → t.1 = kd ts) (hi : Lx.is t.2 = t.1) :
    ((step K c t).1 = 0 → Sd K c ts = Sd (step K c t).2.1 (step K c t).2.2 ts.tail ∧ ∀ f ∈ (step K c t).2.1, okf f) ∧ ((step K c t).1 ≠ 0 → fin (ts, step K c t) = Sd K c ts) := by
  cases c with
  | none => exact beg_Sd hk ht hd hi
  | some x => exact beh_Sd hk ht
theorem step_end (K : List Fr) (c : Option E) : (step K c (0, [])).1 ≠ 0 := by
  cases c with
  | none => simp [step, beg]
  | some x =>
    have h : infx [] = 0 := by decide
    simp only [step, beh, h]
    rw [if_neg (by simp)]
    have q : ∀ K x, wrd K x [] = none := fun K x => by
      match K with
      | [] => rfl
      | .un _ :: _ => rfl
      | .bin _ _ :: _ => rfl
      | .par :: _ => simp [wrd]
      | .if0 :: _ => simp [wrd, tThen]
      | .if1 _ :: _ => simp [wrd, tElse]
      | .if2 _ _ :: _ => simp [wrd, tEnd]
    rw [q]; simp
theorem run_Sd : ∀ (ts : List Tk) (K : List Fr) (c : Option E), (∀ f ∈ K, okf f) → fin (run ts K c) = Sd K c ts
  | [], K, c, hk => by
    unfold run
    exact (step_Sd (ts := []) (t := (0, [])) hk rfl (fun h => absurd rfl h) (by decide)).2 (step_end K c)
  | t :: ts, K, c, hk => by
    obtain ⟨q1, q2, q3⟩ := kt_nx t ts
    have h := step_Sd (c := c) (ts := t :: ts) hk q1 q2 q3
    unfold run
    split
    · rename_i he
      obtain ⟨h1, h2⟩ := h.1 he
      rw [run_Sd ts _ _ h2, h1]; rfl
    · rename_i he
      exact h.2 he
theorem run_R (ts : List Tk) : fin (run ts [] none) = R (.lev 1) ts := by
  rw [run_Sd ts [] none (by simp), lev_ups 8 1 (by omega)]
  rfl
end Ex
end Go.Proofs.YtmmdigeciphglaaGreatDoor
