/- Layer 8: a row of nodes, told node by node whether it is an expression's. No condition. -/
import Derived.Test.YtdcjpinbflmikaaGreatDoorExTrs
import Derived.Test.YtdcjpinbflmikaaGreatDoorExRow2
namespace Go.Proofs.YtdcjpinbflmikaaGreatDoor
open Ex
namespace Ex

instance : DecidableEq Nd := fun a b => decidable_of_iff (a.op = b.op ∧ a.num = b.num ∧ a.nm = b.nm ∧ a.a = b.a ∧ a.b = b.b ∧ a.c = b.c) ⟨fun h => nd_eq h.1 h.2.1 h.2.2.1 h.2.2.2.1 h.2.2.2.2.1 h.2.2.2.2.2, fun h => by subst h; exact ⟨rfl, rfl, rfl, rfl, rfl, rfl⟩⟩
def prop_ (n : Nd) : Bool := if n.op = 1 then decide (0 ≤ n.num) && decide (n.nm = []) else if n.op = 2 then decide (n.num = 0) && decide (Lx.is n.nm = 2) else decide (3 ≤ n.op) && decide (n.op ≤ 22) && decide (n.num = 0) && decide (n.nm = [])
/-- A row's depth, node by node. -/
def dgo : List Nd → List Nd → List (Nat × Nat) → Nat
  | [], _, ls => dpo ls
  | n :: r, ns, ls => if prop_ n = false ∨ ls.length < fP n.op.toNat then 0
    else if put1 n (ls.drop (ls.length - fP n.op.toNat)) ≠ n then 0
    else dgo r (ns ++ [n]) (ls.take (ls.length - fP n.op.toNat) ++ [(ns.length, dmx (ls.drop (ls.length - fP n.op.toNat)) (fP n.op.toNat) + 1)])
theorem put1_eq {n m : Nd} (h1 : n.op = m.op) (h2 : n.num = m.num) (h3 : n.nm = m.nm) (ps : List (Nat × Nat)) : put1 n ps = put1 m ps := by
  cases n; cases m; simp only at h1 h2 h3; subst h1 h2 h3; rfl
/-- A node that is put behind its parts. -/
theorem dgo_put {op : Nat} {l : List E} {x : E} (h : Cmb op l x) (A : List E) (r : List Nd) {n : Nd} (hn : n = put1 ⟨(op : Int), 0, [], 0, 0, 0⟩ ((loo (A ++ l) 0).drop ((loo (A ++ l) 0).length - fP op))) :
    dgo (n :: r) (flats (A ++ l) 0) (loo (A ++ l) 0) = dgo r (flats (A ++ [x]) 0) (loo (A ++ [x]) 0) := by
  obtain ⟨c1, c2⟩ := comb h A
  rw [← hn] at c1
  have hop : n.op.toNat = op := by rw [hn]; exact Int.toNat_natCast op
  have hpr : prop_ n = true := by
    have e1 : n.op = op := by rw [hn]; rfl
    have e2 : n.num = 0 := by rw [hn]; rfl
    have e3 : n.nm = [] := by rw [hn]; rfl
    have hlt : 3 ≤ op ∧ op ≤ 22 := by
      cases h with
      | un op a h => omega
      | bin op a b h => omega
      | ite a b c => omega
    unfold prop_
    rw [e1, e2, e3, if_neg (by omega), if_neg (by omega)]
    simp; omega
  conv => lhs; unfold dgo
  rw [hop, if_neg (by
    rintro (h1 | h1)
    · rw [hpr] at h1; cases h1
    · rw [loo_len, List.length_append, h.parts.1] at h1; omega), if_neg (by
    intro h2; apply h2
    rw [hn]; rfl), c1, c2]
theorem dgo_leaf {x : E} {n : Nd} (hs : sz x = 1) (hd : dp x = 1) (hf : ∀ p, flat x p = [n]) (hp : prop_ n = true) (h0 : fP n.op.toNat = 0) (hn : put1 n [] = n) (T : List E) (r : List Nd) :
    dgo (n :: r) (flats T 0) (loo T 0) = dgo r (flats (T ++ [x]) 0) (loo (T ++ [x]) 0) := by
  conv => lhs; unfold dgo
  rw [h0, Nat.sub_zero, List.drop_length, List.take_length, if_neg (by
    rintro (h1 | h1)
    · rw [hp] at h1; cases h1
    · omega), if_neg (fun h => h hn), flats_app, loo_app, flats_len]
  simp only [flats, loo, hf, hs, hd, List.append_nil, Nat.zero_add, Nat.add_sub_cancel]
  rfl
theorem drop3 (A l : List E) {k : Nat} (hk : l.length = k) : (loo (A ++ l) 0).drop ((loo (A ++ l) 0).length - k) = loo l (szs A) := by
  rw [loo_app, List.length_append, loo_len l, hk, Nat.add_sub_cancel, List.drop_left, Nat.zero_add]
/-- An expression's nodes pass. -/
theorem dgo_flat : ∀ (x : E) (T : List E) (p : Nat) (r : List Nd), szs T = p → wr x → dgo (flat x p ++ r) (flats T 0) (loo T 0) = dgo r (flats (T ++ [x]) 0) (loo (T ++ [x]) 0)
  | .num n, T, p, r, _, _ => dgo_leaf rfl rfl (fun _ => rfl) (by simp [prop_]) rfl rfl T r
  | .name s, T, p, r, _, h => dgo_leaf rfl rfl (fun _ => rfl) (by have h : Lx.is s = 2 := h; simp [prop_, h]) rfl rfl T r
  | .tt, T, p, r, _, _ => dgo_leaf rfl rfl (fun _ => rfl) (by decide) rfl rfl T r
  | .ff, T, p, r, _, _ => dgo_leaf rfl rfl (fun _ => rfl) (by decide) rfl rfl T r
  | .un op a, T, p, r, hp, h => by
    have hs := sz_pos a
    show dgo ((flat a p ++ [_]) ++ r) _ _ = _
    rw [List.append_assoc, dgo_flat a T p _ hp h.2]
    refine dgo_put (Cmb.un op a h.1) T r ?_
    rw [drop3 T [a] (k := fP op) ((Cmb.un op a h.1).parts.1)]
    refine nd_eq rfl rfl rfl ?_ rfl rfl
    show ((p + sz a : Nat) : Int) - 1 = ((szs T + sz a - 1 : Nat) : Int)
    omega
  | .bin op a b, T, p, r, hp, h => by
    have hs := sz_pos a
    have hs2 := sz_pos b
    show dgo ((flat a p ++ flat b (p + sz a) ++ [_]) ++ r) _ _ = _
    rw [List.append_assoc, List.append_assoc, dgo_flat a T p _ hp h.2.2.1, dgo_flat b (T ++ [a]) (p + sz a) _ (by rw [szs_app, hp]; rfl) h.2.2.2, List.append_assoc]
    have hc := Cmb.bin op a b ⟨h.1, h.2.1⟩
    refine dgo_put hc T r ?_
    rw [drop3 T [a, b] (k := fP op) hc.parts.1]
    refine nd_eq rfl rfl rfl ?_ ?_ rfl
    · show ((p + sz a : Nat) : Int) - 1 = ((szs T + sz a - 1 : Nat) : Int)
      omega
    · show ((p + sz a + sz b : Nat) : Int) - 1 = ((szs T + sz a + sz b - 1 : Nat) : Int)
      omega
  | .ite a b c, T, p, r, hp, h => by
    have hs := sz_pos a
    have hs2 := sz_pos b
    have hs3 := sz_pos c
    show dgo ((flat a p ++ flat b (p + sz a) ++ flat c (p + sz a + sz b) ++ [_]) ++ r) _ _ = _
    rw [List.append_assoc, List.append_assoc, List.append_assoc, dgo_flat a T p _ hp h.1, dgo_flat b (T ++ [a]) (p + sz a) _ (by rw [szs_app, hp]; rfl) h.2.1, dgo_flat c (T ++ [a] ++ [b]) (p + sz a + sz b) _ (by rw [szs_app, szs_app, hp]; rfl) h.2.2, List.append_assoc, List.append_assoc]
    have hc := Cmb.ite a b c
    refine dgo_put hc T r ?_
    show _ = put1 _ ((loo (T ++ [a, b, c]) 0).drop _)
    rw [drop3 T [a, b, c] (k := fP 22) hc.parts.1]
    refine nd_eq rfl rfl rfl ?_ ?_ ?_
    · show ((p + sz a : Nat) : Int) - 1 = ((szs T + sz a - 1 : Nat) : Int)
      omega
    · show ((p + sz a + sz b : Nat) : Int) - 1 = ((szs T + sz a + sz b - 1 : Nat) : Int)
      omega
    · show ((p + sz a + sz b + sz c : Nat) : Int) - 1 = ((szs T + sz a + sz b + sz c - 1 : Nat) : Int)
      omega
theorem split_last {T : List E} : ∀ {k : Nat}, k ≤ T.length → ∃ A l, T = A ++ l ∧ l.length = k := fun {k} h => ⟨T.take (T.length - k), T.drop (T.length - k), (List.take_append_drop _ _).symm, by rw [List.length_drop]; omega⟩
theorem len1 {l : List E} (h : l.length = 1) : ∃ a, l = [a] := List.length_eq_one_iff.1 h
theorem len2 {l : List E} (h : l.length = 2) : ∃ a b, l = [a, b] := match l, h with
  | [a, b], _ => ⟨a, b, rfl⟩
theorem len3 {l : List E} (h : l.length = 3) : ∃ a b c, l = [a, b, c] := match l, h with
  | [a, b, c], _ => ⟨a, b, c, rfl⟩
/-- What a node makes of what is there. -/
theorem dgo_step {n : Nd} {r : List Nd} {T : List E} (hT : ∀ x ∈ T, wr x) (h : dgo (n :: r) (flats T 0) (loo T 0) ≠ 0) : ∃ T', (∀ x ∈ T', wr x) ∧ flats T' 0 = flats T 0 ++ [n] ∧ dgo (n :: r) (flats T 0) (loo T 0) = dgo r (flats T' 0) (loo T' 0) := by
  have h0 := h
  conv at h => lhs; unfold dgo
  split at h
  · exact absurd rfl h
  · rename_i hp
    split at h
    · exact absurd rfl h
    · rename_i hn
      have hn : put1 n ((loo T 0).drop ((loo T 0).length - fP n.op.toNat)) = n := Classical.not_not.1 hn
      have hpr : prop_ n = true := by cases hq : prop_ n with
        | true => rfl
        | false => exact absurd (Or.inl hq) hp
      have hpl : fP n.op.toNat ≤ T.length := by
        have : ¬ (loo T 0).length < fP n.op.toNat := fun q => hp (Or.inr q)
        rw [loo_len] at this; omega
      have fin_leaf : ∀ (x : E), wr x → sz x = 1 → dp x = 1 → (∀ p, flat x p = [n]) → fP n.op.toNat = 0 → ∃ T', (∀ x ∈ T', wr x) ∧ flats T' 0 = flats T 0 ++ [n] ∧ dgo (n :: r) (flats T 0) (loo T 0) = dgo r (flats T' 0) (loo T' 0) := fun x hw hs hd hf h00 => by
        refine ⟨T ++ [x], ?_, ?_, dgo_leaf hs hd hf hpr h00 (by rw [h00, Nat.sub_zero, List.drop_length] at hn; exact hn) T r⟩
        · intro y hy
          rcases List.mem_append.1 hy with hy | hy
          · exact hT y hy
          · rw [List.mem_singleton.1 hy]; exact hw
        · rw [flats_app]; simp only [flats, hf, List.append_nil]
      have fin_put : ∀ (op : Nat) (A l : List E) (x : E), n.op = op → n.num = 0 → n.nm = [] → T = A ++ l → Cmb op l x → wr x → ∃ T', (∀ x ∈ T', wr x) ∧ flats T' 0 = flats T 0 ++ [n] ∧ dgo (n :: r) (flats T 0) (loo T 0) = dgo r (flats T' 0) (loo T' 0) := fun op A l x e1 e2 e3 hAl hc hw => by
        subst hAl
        have hop : n.op.toNat = op := by rw [e1]; exact Int.toNat_natCast op
        rw [hop] at hn
        have hn2 : n = put1 ⟨(op : Int), 0, [], 0, 0, 0⟩ ((loo (A ++ l) 0).drop ((loo (A ++ l) 0).length - fP op)) := by
          rw [← put1_eq (n := n) e1 e2 e3]; exact hn.symm
        refine ⟨A ++ [x], ?_, ?_, dgo_put hc A r hn2⟩
        · intro y hy
          rcases List.mem_append.1 hy with hy | hy
          · exact hT y (List.mem_append_left _ hy)
          · rw [List.mem_singleton.1 hy]; exact hw
        · rw [(comb hc A).1, ← hn2]
      have hT2 : ∀ (A l : List E), T = A ++ l → ∀ x ∈ l, wr x := fun A l e x hx => hT x (e ▸ List.mem_append_right _ hx)
      clear hp h
      unfold prop_ at hpr
      obtain ⟨op, num, nm, na, nb, nc⟩ := n
      simp only at hpr hn hpl fin_leaf fin_put h0 ⊢
      by_cases k1 : op = 1
      · subst k1
        rw [if_pos rfl] at hpr
        simp only [Bool.and_eq_true, decide_eq_true_eq] at hpr
        obtain ⟨p1, rfl⟩ := hpr
        have e0 : fP (1 : Int).toNat = 0 := rfl
        rw [e0, Nat.sub_zero, List.drop_length] at hn
        injection hn with _ _ _ ha hb hc
        refine fin_leaf (.num num.toNat) True.intro rfl rfl (fun p => ?_) rfl
        subst ha hb hc
        show [(⟨1, ((num.toNat : Nat) : Int), [], -1, -1, -1⟩ : Nd)] = _
        rw [Int.toNat_of_nonneg p1]; rfl
      · rw [if_neg k1] at hpr
        by_cases k2 : op = 2
        · subst k2
          rw [if_pos rfl] at hpr
          simp only [Bool.and_eq_true, decide_eq_true_eq] at hpr
          obtain ⟨rfl, p1⟩ := hpr
          have e0 : fP (2 : Int).toNat = 0 := rfl
          rw [e0, Nat.sub_zero, List.drop_length] at hn
          injection hn with _ _ _ ha hb hc
          refine fin_leaf (.name nm) p1 rfl rfl (fun p => ?_) rfl
          subst ha hb hc; rfl
        · rw [if_neg k2] at hpr
          simp only [Bool.and_eq_true, decide_eq_true_eq] at hpr
          obtain ⟨⟨⟨p1, p2⟩, rfl⟩, rfl⟩ := hpr
          obtain ⟨o, rfl⟩ : ∃ o : Nat, op = o := ⟨op.toNat, by omega⟩
          rw [Int.toNat_natCast] at hn hpl
          by_cases k4 : o ≤ 4
          · have e0 : fP o = 0 := if_pos k4
            rw [e0, Nat.sub_zero, List.drop_length] at hn
            injection hn with _ _ _ ha hb hc
            have ho : o = 3 ∨ o = 4 := by omega
            rcases ho with rfl | rfl
            · exact fin_leaf .tt True.intro rfl rfl (fun p => by subst ha hb hc; rfl) rfl
            · exact fin_leaf .ff True.intro rfl rfl (fun p => by subst ha hb hc; rfl) rfl
          · by_cases k6 : o ≤ 6
            · have e1 : fP o = 1 := by unfold fP; rw [if_neg k4, if_pos k6]
              obtain ⟨A, l, hAl, hl⟩ := split_last hpl
              obtain ⟨a, rfl⟩ := len1 (hl.trans e1)
              exact fin_put o A [a] (.un o a) rfl rfl rfl hAl (Cmb.un o a (by omega)) ⟨by omega, hT2 _ _ hAl a (by simp)⟩
            · by_cases k21 : o ≤ 21
              · have e1 : fP o = 2 := by unfold fP; rw [if_neg k4, if_neg k6, if_pos k21]
                obtain ⟨A, l, hAl, hl⟩ := split_last hpl
                obtain ⟨a, b, rfl⟩ := len2 (hl.trans e1)
                exact fin_put o A [a, b] (.bin o a b) rfl rfl rfl hAl (Cmb.bin o a b ⟨by omega, k21⟩) ⟨by omega, k21, hT2 _ _ hAl a (by simp), hT2 _ _ hAl b (by simp)⟩
              · have ho : o = 22 := by omega
                subst ho
                obtain ⟨A, l, hAl, hl⟩ := split_last hpl
                obtain ⟨a, b, c, rfl⟩ := len3 hl
                exact fin_put 22 A [a, b, c] (.ite a b c) rfl rfl rfl hAl (Cmb.ite a b c) ⟨hT2 _ _ hAl a (by simp), hT2 _ _ hAl b (by simp), hT2 _ _ hAl c (by simp)⟩
theorem dgo_sound : ∀ (r : List Nd) (T : List E), (∀ x ∈ T, wr x) → dgo r (flats T 0) (loo T 0) ≠ 0 → ∃ x, wr x ∧ flats T 0 ++ r = flat x 0 ∧ dgo r (flats T 0) (loo T 0) = dp x
  | [], T, hT, h => by
    match T, hT, h with
    | [], _, h => exact absurd rfl h
    | [x], hT, _ => exact ⟨x, hT x (by simp), by simp [flats], rfl⟩
    | x :: y :: T, _, h => exact absurd rfl h
  | n :: r, T, hT, h => by
    obtain ⟨T', h1, h2, h3⟩ := dgo_step hT h
    rw [h3] at h ⊢
    obtain ⟨x, hw, hx, hd⟩ := dgo_sound r T' h1 h
    refine ⟨x, hw, ?_, hd⟩
    rw [← hx, h2, List.append_assoc]; rfl
/-- A row's depth: of an expression, else 0. -/
def dep (l : List Nd) : Nat := dgo l [] []
theorem dep_flat {x : E} (h : wr x) : dep (flat x 0) = dp x := by
  have := dgo_flat x [] 0 [] rfl h
  rw [List.append_nil] at this
  exact this
theorem dep_row {l : List Nd} (h : dep l ≠ 0) : ∃ x, wr x ∧ l = flat x 0 ∧ dep l = dp x := by
  obtain ⟨x, h1, h2, h3⟩ := dgo_sound l [] (by simp) h
  exact ⟨x, h1, h2, h3⟩
end Ex
end Go.Proofs.YtdcjpinbflmikaaGreatDoor
