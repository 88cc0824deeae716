/- Facts and walks for the statement. -/
import Derived.Test.YtmmdigeciphglaaGreatDoorPzB10
import Derived.Test.YtmmdigeciphglaaGreatDoorPzB00
import Derived.Test.YtmmdigeciphglaaGreatDoorPzB12
namespace Go.Proofs.YtmmdigeciphglaaGreatDoor
open Ex
namespace Ex
instance : DecidableEq Nd := fun a b => decidable_of_iff (a.op = b.op ∧ a.num = b.num ∧ a.nm = b.nm ∧ a.a = b.a ∧ a.b = b.b ∧ a.c = b.c) ⟨fun h => nd_eq h.1 h.2.1 h.2.2.1 h.2.2.2.1 h.2.2.2.2.1 h.2.2.2.2.2, fun h => by subst h; exact ⟨rfl, rfl, rfl, rfl, rfl, rfl⟩⟩
def prop_ (n : Nd) : Bool := if n.op = 1 then decide (0 ≤ n.num) && decide (n.nm = []) else if n.op = 2 then decide (n.num = 0) && decide (Lx.is n.nm = 2) else decide (3 ≤ n.op) && decide (n.op ≤ 22) && decide (n.num = 0) && decide (n.nm = [])
def dgo : List Nd → List Nd → List (Nat × Nat) → Nat
  | [], _, ls => dpo ls
  | n :: r, ns, ls => if prop_ n = false ∨ ls.length < fP n.op.toNat then 0
    else if put1 n (ls.drop (ls.length - fP n.op.toNat)) ≠ n then 0
    else dgo r (ns ++ [n]) (ls.take (ls.length - fP n.op.toNat) ++ [(ns.length, dmx (ls.drop (ls.length - fP n.op.toNat)) (fP n.op.toNat) + 1)])
theorem put1_eq {n m : Nd} (h1 : n.op = m.op) (h2 : n.num = m.num) (h3 : n.nm = m.nm) (ps : List (Nat × Nat)) : put1 n ps = put1 m ps := by
  cases n; cases m; simp only at h1 h2 h3; subst h1 h2 h3; rfl
theorem dgo_put {op : Nat} {l : List E} {x : E} (h : Cmb op l x) (A : List E) (r : List Nd) {n : Nd} (hn : n = put1 ⟨(op : Int), 0, [], 0, 0, 0⟩ ((loo (A ++ l) 0).drop ((loo (A ++ l) 0).length - fP op))) :
    dgo (n :: r) (flats (A ++ l) 0) (loo (A ++ l) 0) = dgo r (flats (A ++ [x]) 0) (loo (A ++ [x]) 0) := by
  obtain ⟨c1, c2⟩ := comb h A
  rw [← hn] at c1
  have hop : n.op.toNat = op := by rw [hn]; exact Int.toNat_natCast op
  have hpr : prop_ n = true := by
    have e1 : n.op = op := by rw [hn]; rfl
    have e2 : n.num = 0 := by rw [hn]; rfl
    have e3 : n.nm = [] := by rw [hn]; rfl
    have hlt : 3 ≤ op ∧ op ≤ 22 := by
      cases h with
      | un op a h => omega
      | bin op a b h => omega
      | ite a b c => omega
    unfold prop_
    rw [e1, e2, e3, if_neg (by omega), if_neg (by omega)]
    simp; omega
  conv => lhs; unfold dgo
  rw [hop, if_neg (by
    rintro (h1 | h1)
    · rw [hpr] at h1; cases h1
    · rw [loo_len, List.length_append, h.parts.1] at h1; omega), if_neg (by
    intro h2; apply h2
    rw [hn]; rfl), c1, c2]
theorem dgo_leaf {x : E} {n : Nd} (hs : sz x = 1) (hd : dp x = 1) (hf : ∀ p, flat x p = [n]) (hp : prop_ n = true) (h0 : fP n.op.toNat = 0) (hn : put1 n [] = n) (T : List E) (r : List Nd) :
    dgo (n :: r) (flats T 0) (loo T 0) = dgo r (flats (T ++ [x]) 0) (loo (T ++ [x]) 0) := by
  conv => lhs; unfold dgo
  rw [h0, Nat.sub_zero, List.drop_length, List.take_length, if_neg (by
    rintro (h1 | h1)
    · rw [hp] at h1; cases h1
    · omega), if_neg (fun h => h hn), flats_app, loo_app, flats_len]
  simp only [flats, loo, hf, hs, hd, List.append_nil, Nat.zero_add, Nat.add_sub_cancel]
  rfl
theorem drop3 (A l : List E) {k : Nat} (hk : l.length = k) : (loo (A ++ l) 0).drop ((loo (A ++ l) 0).length - k) = loo l (szs A) := by
  rw [loo_app, List.length_append, loo_len l, hk, Nat.add_sub_cancel, List.drop_left, Nat.zero_add]
theorem dgo_flat : ∀ (x : E) (T : List E) (p : Nat) (r : List Nd), szs T = p → wr x → dgo (flat x p ++ r) (flats T 0) (loo T 0) = dgo r (flats (T ++ [x]) 0) (loo (T ++ [x]) 0)
  | .num n, T, p, r, _, _ => dgo_leaf rfl rfl (fun _ => rfl) (by simp [prop_]) rfl rfl T r
  | .name s, T, p, r, _, h => dgo_leaf rfl rfl (fun _ => rfl) (by have h : Lx.is s = 2 := h; simp [prop_, h]) rfl rfl T r
  | .tt, T, p, r, _, _ => dgo_leaf rfl rfl (fun _ => rfl) (by decide) rfl rfl T r
  | .ff, T, p, r, _, _ => dgo_leaf rfl rfl (fun _ => rfl) (by decide) rfl rfl T r
  | .un op a, T, p, r, hp, h => by
    have hs := sz_pos a
    show dgo ((flat a p ++ [_]) ++ r) _ _ = _
    rw [List.append_assoc, dgo_flat a T p _ hp h.2]
    refine dgo_put (Cmb.un op a h.1) T r ?_
    rw [drop3 T [a] (k := fP op) ((Cmb.un op a h.1).parts.1)]
    refine nd_eq rfl rfl rfl ?_ rfl rfl
    show ((p + sz a : Nat) : Int) - 1 = ((szs T + sz a - 1 : Nat) : Int)
    omega
  | .bin op a b, T, p, r, hp, h => by
    have hs := sz_pos a
    have hs2 := sz_pos b
    show dgo ((flat a p ++ flat b (p + sz a) ++ [_]) ++ r) _ _ = _
    rw [List.append_assoc, List.append_assoc, dgo_flat a T p _ hp h.2.2.1, dgo_flat b (T ++ [a]) (p + sz a) _ (by rw [szs_app, hp]; rfl) h.2.2.2, List.append_assoc]
    have hc := Cmb.bin op a b ⟨h.1, h.2.1⟩
    refine dgo_put hc T r ?_
    rw [drop3 T [a, b] (k := fP op) hc.parts.1]
    refine nd_eq rfl rfl rfl ?_ ?_ rfl
    · show ((p + sz a : Nat) : Int) - 1 = ((szs T + sz a - 1 : Nat) : Int)
      omega
    · show ((p + sz a + sz b : Nat) : Int) - 1 = ((szs T + sz a + sz b - 1 : Nat) : Int)
      omega
  | .ite a b c, T, p, r, hp, h => by
    have hs := sz_pos a
    have hs2 := sz_pos b
    have hs3 := sz_pos c
    show dgo ((flat a p ++ flat b (p + sz a) ++ flat c (p + sz a + sz b) ++ [_]) ++ r) _ _ = _
    rw [List.append_assoc, List.append_assoc, List.append_assoc, dgo_flat a T p _ hp h.1, dgo_flat b (T ++ [a]) (p + sz a) _ (by rw [szs_app, hp]; rfl) h.2.1, dgo_flat c (T ++ [a] ++ [b]) (p + sz a + sz b) _ (by rw [szs_app, szs_app, hp]; rfl) h.2.2, List.append_assoc, List.append_assoc]
    have hc := Cmb.ite a b c
    refine dgo_put hc T r ?_
    show _ = put1 _ ((loo (T ++ [a, b, c]) 0).drop _)
    rw [drop3 T [a, b, c] (k := fP 22) hc.parts.1]
    refine nd_eq rfl rfl rfl ?_ ?_ ?_
    · show ((p + sz a : Nat) : Int) - 1 = ((szs T + sz a - 1 : Nat) : Int)
      omega
    · show ((p + sz a + sz b : Nat) : Int) - 1 = ((szs T + sz a + sz b - 1 : Nat) : Int)
      omega
    · show ((p + sz a + sz b + sz c : Nat) : Int) - 1 = ((szs T + sz a + sz b + sz c - 1 : Nat) : Int)
      omega
theorem split_last {T : List E} : ∀ {k : Nat}, k ≤ T.length → ∃ A l, T = A ++ l ∧ l.length = k := fun {k} h => ⟨T.take (T.length - k), T.drop (T.length - k), (List.take_append_drop _ _).symm, by rw [List.length_drop]; omega⟩
theorem len1 {l : List E} (h : l.length = 1) : ∃ a, l = [a] := List.length_eq_one_iff.1 h
theorem len2 {l : List E} (h : l.length = 2) : ∃ a b, l = [a, b] := match l, h with
  | [a, b], _ => ⟨a, b, rfl⟩
theorem len3 {l : List E} (h : l.length = 3) : ∃ a b c, l = [a, b, c] := match l, h with
  | [a, b, c], _ => ⟨a, b, c, rfl⟩
theorem dgo_step {n : Nd} {r : List Nd} {T : List E} (hT : ∀ x ∈ T, wr x) (h : dgo (n :: r) (flats T 0) (loo T 0) ≠ 0) : ∃ T', (∀ x ∈ T', wr x) ∧ flats T' 0 = flats T 0 ++ [n] ∧ dgo (n :: r) (flats T 0) (loo T 0) = dgo r (flats T' 0) (loo T' 0) := by
  have h0 := h
  conv at h => lhs; unfold dgo
  split at h
  · exact absurd rfl h
  · rename_i hp
    split at h
    · exact absurd rfl h
    · rename_i hn
      have hn : put1 n ((loo T 0).drop ((loo T 0).length - fP n.op.toNat)) = n := Classical.not_not.1 hn
      have hpr : prop_ n = true := by cases hq : prop_ n with
        | true => rfl
        | false => exact absurd (Or.inl hq) hp
      have hpl : fP n.op.toNat ≤ T.length := by
        have : ¬ (loo T 0).length < fP n.op.toNat := fun q => hp (Or.inr q)
        rw [loo_len] at this; omega
      have fin_leaf : ∀ (x : E), wr x → sz x = 1 → dp x = 1 → (∀ p, flat x p = [n]) → fP n.op.toNat = 0 → ∃ T', (∀ x ∈ T', wr x) ∧ flats T' 0 = flats T 0 ++ [n] ∧ dgo (n :: r) (flats T 0) (loo T 0) = dgo r (flats T' 0) (loo T' 0) := fun x hw hs hd hf h00 => by
        refine ⟨T ++ [x], ?_, ?_, dgo_leaf hs hd hf hpr h00 (by rw [h00, Nat.sub_zero, List.drop_length] at hn; exact hn) T r⟩
        · intro y hy
          rcases List.mem_append.1 hy with hy | hy
          · exact hT y hy
          · rw [List.mem_singleton.1 hy]; exact hw
        · rw [flats_app]; simp only [flats, hf, List.append_nil]
      have fin_put : ∀ (op : Nat) (A l : List E) (x : E), n.op = op → n.num = 0 → n.nm = [] → T = A ++ l → Cmb op l x → wr x → ∃ T', (∀ x ∈ T', wr x) ∧ flats T' 0 = flats T 0 ++ [n] ∧ dgo (n :: r) (flats T 0) (loo T 0) = dgo r (flats T' 0) (loo T' 0) := fun op A l x e1 e2 e3 hAl hc hw => by
        subst hAl
        have hop : n.op.toNat = op := by rw [e1]; exact Int.toNat_natCast op
        rw [hop] at hn
        have hn2 : n = put1 ⟨(op : Int), 0, [], 0, 0, 0⟩ ((loo (A ++ l) 0).drop ((loo (A ++ l) 0).length - fP op)) := by
          rw [← put1_eq (n := n) e1 e2 e3]; exact hn.symm
        refine ⟨A ++ [x], ?_, ?_, dgo_put hc A r hn2⟩
        · intro y hy
          rcases List.mem_append.1 hy with hy | hy
          · exact hT y (List.mem_append_left _ hy)
          · rw [List.mem_singleton.1 hy]; exact hw
        · rw [(comb hc A).1, ← hn2]
      have hT2 : ∀ (A l : List E), T = A ++ l → ∀ x ∈ l, wr x := fun A l e x hx => hT x (e ▸ List.mem_append_right _ hx)
      clear hp h
      unfold prop_ at hpr
      obtain ⟨op, num, nm, na, nb, nc⟩ := n
      simp only at hpr hn hpl fin_leaf fin_put h0 ⊢
      by_cases k1 : op = 1
      · subst k1
        rw [if_pos rfl] at hpr
        simp only [Bool.and_eq_true, decide_eq_true_eq] at hpr
        obtain ⟨p1, rfl⟩ := hpr
        have e0 : fP (1 : Int).toNat = 0 := rfl
        rw [e0, Nat.sub_zero, List.drop_length] at hn
        injection hn with _ _ _ ha hb hc
        refine fin_leaf (.num num.toNat) True.intro rfl rfl (fun p => ?_) rfl
        subst ha hb hc
        show [(⟨1, ((num.toNat : Nat) : Int), [], -1, -1, -1⟩ : Nd)] = _
        rw [Int.toNat_of_nonneg p1]; rfl
      · rw [if_neg k1] at hpr
        by_cases k2 : op = 2
        · subst k2
          rw [if_pos rfl] at hpr
          simp only [Bool.and_eq_true, decide_eq_true_eq] at hpr
          obtain ⟨rfl, p1⟩ := hpr
          have e0 : fP (2 : Int).toNat = 0 := rfl
          rw [e0, Nat.sub_zero, List.drop_length] at hn
          injection hn with _ _ _ ha hb hc
          refine fin_leaf (.name nm) p1 rfl rfl (fun p => ?_) rfl
          subst ha hb hc; rfl
        · rw [if_neg k2] at hpr
          simp only [Bool.and_eq_true, decide_eq_true_eq] at hpr
          obtain ⟨⟨⟨p1, p2⟩, rfl⟩, rfl⟩ := hpr
          obtain ⟨o, rfl⟩ : ∃ o : Nat, op = o := ⟨op.toNat, by omega⟩
          rw [Int.toNat_natCast] at hn hpl
          by_cases k4 : o ≤ 4
          · have e0 : fP o = 0 := if_pos k4
            rw [e0, Nat.sub_zero, List.drop_length] at hn
            injection hn with _ _ _ ha hb hc
            have ho : o = 3 ∨ o = 4 := by omega
            rcases ho with rfl | rfl
            · exact fin_leaf .tt True.intro rfl rfl (fun p => by subst ha hb hc; rfl) rfl
            · exact fin_leaf .ff True.intro rfl rfl (fun p => by subst ha hb hc; rfl) rfl
          · by_cases k6 : o ≤ 6
            · have e1 : fP o = 1 := by unfold fP; rw [if_neg k4, if_pos k6]
              obtain ⟨A, l, hAl, hl⟩ := split_last hpl
              obtain ⟨a, rfl⟩ := len1 (hl.trans e1)
              exact fin_put o A [a] (.un o a) rfl rfl rfl hAl (Cmb.un o a (by omega)) ⟨by omega, hT2 _ _ hAl a (by simp)⟩
            · by_cases k21 : o ≤ 21
              · have e1 : fP o = 2 := by unfold fP; rw [if_neg k4, if_neg k6, if_pos k21]
                obtain ⟨A, l, hAl, hl⟩ := split_last hpl
                obtain ⟨a, b, rfl⟩ := len2 (hl.trans e1)
                exact fin_put o A [a, b] (.bin o a b) rfl rfl rfl hAl (Cmb.bin o a b ⟨by omega, k21⟩) ⟨by omega, k21, hT2 _ _ hAl a (by simp), hT2 _ _ hAl b (by simp)⟩
              · have ho : o = 22 := by omega
                subst ho
                obtain ⟨A, l, hAl, hl⟩ := split_last hpl
                obtain ⟨a, b, c, rfl⟩ := len3 hl
                exact fin_put 22 A [a, b, c] (.ite a b c) rfl rfl rfl hAl (Cmb.ite a b c) ⟨hT2 _ _ hAl a (by simp), hT2 _ _ hAl b (by simp), hT2 _ _ hAl c (by simp)⟩
theorem dgo_sound : ∀ (r : List Nd) (T : List E), (∀ x ∈ T, wr x) → dgo r (flats T 0) (loo T 0) ≠ 0 → ∃ x, wr x ∧ flats T 0 ++ r = flat x 0 ∧ dgo r (flats T 0) (loo T 0) = dp x
  | [], T, hT, h => by
    match T, hT, h with
    | [], _, h => exact absurd rfl h
    | [x], hT, _ => exact ⟨x, hT x (by simp), by simp [flats], rfl⟩
    | x :: y :: T, _, h => exact absurd rfl h
  | n :: r, T, hT, h => by
    obtain ⟨T', h1, h2, h3⟩ := dgo_step hT h
    rw [h3] at h ⊢
    obtain ⟨x, hw, hx, hd⟩ := dgo_sound r T' h1 h
    refine ⟨x, hw, ?_, hd⟩
    rw [← hx, h2, List.append_assoc]; rfl
def dep (l : List Nd) : Nat := dgo l [] []
theorem dep_flat {x : E} (h : wr x) : dep (flat x 0) = dp x := by
  have := dgo_flat x [] 0 [] rfl h
  rw [List.append_nil] at this
  exact this
theorem dep_row {l : List Nd} (h : dep l ≠ 0) : ∃ x, wr x ∧ l = flat x 0 ∧ dep l = dp x := by
  obtain ⟨x, h1, h2, h3⟩ := dgo_sound l [] (by simp) h
  exact ⟨x, h1, h2, h3⟩
end Ex
end Go.Proofs.YtmmdigeciphglaaGreatDoor
namespace Go.Proofs.YtmmdigeciphglaaGreatDoor
open Go.RowKit Ex
def ndA (n : Nd) : Value := .agg #[.int .u8 n.op, .int .i64 n.num, .string ⟨n.nm.toArray⟩, .int .i64 n.a, .int .i64 n.b, .int .i64 n.c]
set_option maxHeartbeats 4000000 in
set_option maxRecDepth 100000 in
theorem proper_any (n : Nd) (w : World) (T : Sg w) (hn : n.nm.length ≤ 1000000) (ho : 0 ≤ n.op) :
    Calls Tryz.prog 140 #[ndA n] w fun e w' => e = .returned (.bool (prop_ n)) ∧ Below w.heap.size w w' := by
  obtain ⟨op, num, nm, na, nb, nc⟩ := n
  unfold ndA
  simp only at hn ho ⊢
  obtain ⟨N, hN⟩ : ∃ N : ByteArray, N = ⟨nm.toArray⟩ := ⟨_, rfl⟩
  rw [← hN]
  obtain ⟨W1, hW1⟩ : ∃ W1, W1 = w.alloc (.cells #[.int .u8 op, .int .i64 num, .string N, .int .i64 na, .int .i64 nb, .int .i64 nc] 105) := ⟨_, rfl⟩
  have hb1 : Below w.heap.size w W1 := by rw [hW1]; exact (Below.refl _ _).alloc (Nat.le_refl _) _
  have HW1 := Lib.hid hW1
  have HB1 := Lib.hid hb1
  obtain ⟨R, hR⟩ : ∃ R, R = prop_ ⟨op, num, nm, na, nb, nc⟩ := ⟨_, rfl⟩
  rw [← hR]
  unfold prop_ at hR
  simp only at hR
  have hnm : N.toList = nm := by rw [Lib.toList_data, hN]
  have hNs : N.size ≤ 1000000 := by rw [Lib.size_eq, ← Lib.toList_data, hnm]; exact hn
  have HIS := Lib.hid (is_any N W1 (by unfold maxLen; omega) (T.below hb1 (Nat.le_refl _)))
  rw [← Lib.toList_data, hnm] at HIS
  have hemp : N.toList.isEmpty = decide (nm = []) := by rw [hnm]; cases nm <;> rfl
  have HR := Lib.hid hR
  clear hW1 hb1 hR T hn hNs hN
  by_cases k1 : op = 1
  · subst k1
    have HR := Lib.hid (HR.out.trans (if_pos rfl))
    by_cases k2 : num ≥ 0
    · have HE := Lib.hid (show R = decide (nm = []) from by rw [HR.out, decide_eq_true (show 0 ≤ num from k2), Bool.true_and])
      cases hd : decide (nm = []) with
      | true =>
        rw [hd] at hemp HE
        clear hnm hd
        go_enter Tryz.func140, Tryz.ntmps140
        go_wp2
        rw [← HW1.out]
        go_ret
        exact ⟨by rw [HE.out]; rfl, HB1.out⟩
      | false =>
        rw [hd] at hemp HE
        clear hnm hd
        go_enter Tryz.func140, Tryz.ntmps140
        go_wp2
        rw [← HW1.out]
        go_ret
        exact ⟨by rw [HE.out]; rfl, HB1.out⟩
    · have HE := Lib.hid (show R = false from by rw [HR.out, decide_eq_false (show ¬ 0 ≤ num from k2), Bool.false_and])
      clear hnm hemp
      go_enter Tryz.func140, Tryz.ntmps140
      go_wp2
      rw [← HW1.out]
      go_ret
      exact ⟨by rw [HE.out]; rfl, HB1.out⟩
  · have k1' : (op == 1) = false := by simpa using k1
    have HR := Lib.hid (HR.out.trans (if_neg k1))
    by_cases k2 : op = 2
    · subst k2
      have HR := Lib.hid (HR.out.trans (if_pos rfl))
      by_cases k3 : num = 0
      · subst k3
        obtain ⟨z, hz⟩ : ∃ z, z = Lx.is nm := ⟨_, rfl⟩
        rw [← hz] at HIS
        have HE := Lib.hid (show R = decide (z = 2) from by rw [HR.out, hz]; simp)
        have HZ := Lib.hid (show (z == 2) = decide (z = 2) from by by_cases h : z = 2 <;> simp [h])
        clear hnm hemp hz k1
        go_enter Tryz.func140, Tryz.ntmps140
        go_wp2_with fail
        rw [← HW1.out]
        refine HIS.out.mono ?_
        rintro e w2 ⟨rfl, hb2⟩
        have HB2 := Lib.hid (HB1.out.trans (hb2.mono HB1.out.size))
        clear hb2
        go_wp2
        go_ret
        exact ⟨by rw [HE.out, ← HZ.out]; rfl, HB2.out⟩
      · have k3' : (num == 0) = false := by simpa using k3
        have HE := Lib.hid (show R = false from by rw [HR.out, decide_eq_false k3, Bool.false_and])
        clear hnm hemp k1
        go_enter Tryz.func140, Tryz.ntmps140
        go_wp2
        rw [← HW1.out]
        go_ret
        exact ⟨by rw [HE.out]; rfl, HB1.out⟩
    · have k2' : (op == 2) = false := by simpa using k2
      have HR := Lib.hid (HR.out.trans (if_neg k2))
      clear k1 k2 hnm
      by_cases k3 : op ≥ 3
      · by_cases k4 : op ≤ 22
        · by_cases k5 : num = 0
          · subst k5
            have HE := Lib.hid (show R = decide (nm = []) from by rw [HR.out, decide_eq_true (show 3 ≤ op from k3), decide_eq_true k4]; simp)
            cases hd : decide (nm = []) with
            | true =>
              rw [hd] at hemp HE
              clear hd
              go_enter Tryz.func140, Tryz.ntmps140
              go_wp2
              rw [← HW1.out]
              go_ret
              exact ⟨by rw [HE.out]; rfl, HB1.out⟩
            | false =>
              rw [hd] at hemp HE
              clear hd
              go_enter Tryz.func140, Tryz.ntmps140
              go_wp2
              rw [← HW1.out]
              go_ret
              exact ⟨by rw [HE.out]; rfl, HB1.out⟩
          · have k5' : (num == 0) = false := by simpa using k5
            have HE := Lib.hid (show R = false from by rw [HR.out, decide_eq_false k5]; simp)
            clear hemp k5
            go_enter Tryz.func140, Tryz.ntmps140
            go_wp2
            rw [← HW1.out]
            go_ret
            exact ⟨by rw [HE.out]; rfl, HB1.out⟩
        · have HE := Lib.hid (show R = false from by rw [HR.out, decide_eq_false k4]; simp)
          clear hemp
          go_enter Tryz.func140, Tryz.ntmps140
          go_wp2
          rw [← HW1.out]
          go_ret
          exact ⟨by rw [HE.out]; rfl, HB1.out⟩
      · have HE := Lib.hid (show R = false from by rw [HR.out, decide_eq_false (show ¬ 3 ≤ op from k3)]; simp)
        clear hemp
        go_enter Tryz.func140, Tryz.ntmps140
        go_wp2
        rw [← HW1.out]
        go_ret
        exact ⟨by rw [HE.out]; rfl, HB1.out⟩
end Go.Proofs.YtmmdigeciphglaaGreatDoor
namespace Go.Proofs.YtmmdigeciphglaaGreatDoor
open Go.RowKit Ex
def NdR (w : World) (Bx : Nat) (A : Option Addr) (l : List Nd) : Prop := ∀ j (hj : j < l.length), ∃ g o, A = some ⟨g, o, none⟩ ∧ g < Bx ∧ w.cell? ⟨g, o + j * 6, none⟩ = some (.int .u8 l[j].op) ∧ w.cell? ⟨g, o + j * 6 + 1, none⟩ = some (.int .i64 l[j].num) ∧ w.cell? ⟨g, o + j * 6 + 2, none⟩ = some (.string ⟨l[j].nm.toArray⟩) ∧ w.cell? ⟨g, o + j * 6 + 3, none⟩ = some (.int .i64 l[j].a) ∧ w.cell? ⟨g, o + j * 6 + 4, none⟩ = some (.int .i64 l[j].b) ∧ w.cell? ⟨g, o + j * 6 + 5, none⟩ = some (.int .i64 l[j].c)
theorem NdR.below {w w' : World} {B : Nat} {A : Option Addr} {l : List Nd} (h : NdR w B A l) (hb : Below B w w') : NdR w' B A l := fun j hj => by
  obtain ⟨g, o, e, hg, c0, c1, c2, c3, c4, c5⟩ := h j hj
  have q := fun (k : Nat) (v : Value) (hc : w.cell? ⟨g, k, none⟩ = some v) => (hb.cell (p := ⟨g, k, none⟩) hg).trans hc
  exact ⟨g, o, e, hg, q _ _ c0, q _ _ c1, q _ _ c2, q _ _ c3, q _ _ c4, q _ _ c5⟩
theorem NdR.more {w : World} {B B' : Nat} {A : Option Addr} {l : List Nd} (h : NdR w B A l) (hB : B ≤ B') : NdR w B' A l := fun j hj => by
  obtain ⟨g, o, e, hg, q⟩ := h j hj
  exact ⟨g, o, e, Nat.lt_of_lt_of_le hg hB, q⟩
theorem own_ndr {w : World} {B n c : Nat} {A : Option Addr} {l : List Nd} (h : w.ownsRow B 105 6 (.slice A n c) n (l.flatMap ndV)) (hn : n = l.length) : NdR w w.heap.size A l ∧ n ≤ c ∧ c ≤ maxLen := by
  obtain ⟨A', c', e, h1, h2, h3⟩ := own_sliced h
  injection e with e1 _ e3
  subst e1 e3
  refine ⟨fun j hj => ?_, h1, h2⟩
  obtain ⟨g, rfl, _, hg⟩ := h3 (by omega)
  have q := fun (k : Nat) (u : Value) (hk : k < 6) (hu : (ndV l[j])[k]? = some u) => own_cell h ((fl_at (f := ndV) (k := 6) (fun _ => rfl) l j k hj hk).trans hu)
  refine ⟨g, 0, rfl, hg, ?_, ?_, ?_, ?_, ?_, ?_⟩
  · simpa using q 0 _ (by omega) rfl
  · simpa using q 1 _ (by omega) rfl
  · simpa using q 2 _ (by omega) rfl
  · simpa using q 3 _ (by omega) rfl
  · simpa using q 4 _ (by omega) rfl
  · simpa using q 5 _ (by omega) rfl
structure DeI (B b : Nat) (w : World) (l : List Nd) (D : Nat) (wr : World) (i : Nat) (nv lv : Value) (ls : List (Nat × Nat)) : Prop where
  row : RowS B b 238 #[nv, lv] wr nv lv (l.take i) ls
  below : Below B w wr
  eq : D = dgo (l.drop i) (l.take i) ls
  len : ls.length ≤ i
  deep : ∀ p ∈ ls, p.2 ≤ i
theorem prop_op {n : Nd} (h : prop_ n = true) : 1 ≤ n.op ∧ n.op ≤ 22 := by
  unfold prop_ at h
  split at h
  · omega
  · split at h
    · omega
    · simp only [Bool.and_eq_true, decide_eq_true_eq] at h; omega
theorem dgo_bad {n : Nd} {r ns : List Nd} {ls : List (Nat × Nat)} (h : prop_ n = false ∨ ls.length < fP n.op.toNat) : dgo (n :: r) ns ls = 0 := by
  unfold dgo; rw [if_pos h]
theorem dgo_ne {n : Nd} {r ns : List Nd} {ls : List (Nat × Nat)} (h : put1 n (ls.drop (ls.length - fP n.op.toNat)) ≠ n) : dgo (n :: r) ns ls = 0 := by
  by_cases q : prop_ n = false ∨ ls.length < fP n.op.toNat
  · exact dgo_bad q
  · unfold dgo
    rw [if_neg q, if_pos h]
theorem dgo_good {n : Nd} {r ns : List Nd} {ls : List (Nat × Nat)} (h1 : prop_ n = true) (h2 : ¬ ls.length < fP n.op.toNat) (h3 : put1 n (ls.drop (ls.length - fP n.op.toNat)) = n) : dgo (n :: r) ns ls = dgo r (ns ++ [n]) (ls.take (ls.length - fP n.op.toNat) ++ [(ns.length, dmx (ls.drop (ls.length - fP n.op.toNat)) (fP n.op.toNat) + 1)]) := by
  conv => lhs; unfold dgo
  rw [if_neg (by rintro (h | h)
                 · rw [h1] at h; cases h
                 · exact h2 h), if_neg (fun h => h h3)]
theorem fP_le (o : Nat) : fP o ≤ 3 := by
  unfold fP
  split
  · omega
  · split
    · omega
    · split <;> omega
theorem DeI.next {B b : Nat} {w : World} {l : List Nd} {D : Nat} {wr w4 : World} {i : Nat} {nv lv : Value} {ls : List (Nat × Nat)} (h : DeI B b w l D wr i nv lv ls) (hi : i < l.length) (h1 : prop_ l[i] = true) (h2 : ¬ ls.length < fP l[i].op.toNat) (h3 : put1 l[i] (ls.drop (ls.length - fP l[i].op.toNat)) = l[i])
    {nv' lv' : Value} (hr : RowS B b 238 #[nv', lv'] w4 nv' lv' (l.take i ++ [put1 l[i] (ls.drop (ls.length - fP l[i].op.toNat))]) (ls.take (ls.length - fP l[i].op.toNat) ++ [((l.take i).length, dmx (ls.drop (ls.length - fP l[i].op.toNat)) (fP l[i].op.toNat) + 1)])) (hb : Below B w w4) :
    ∃ ls', DeI B b w l D w4 (i + 1) nv' lv' ls' := by
  have ht : l.take (i + 1) = l.take i ++ [l[i]] := List.take_succ_eq_append_getElem hi
  have heq := h.eq
  rw [List.drop_eq_getElem_cons hi, dgo_good h1 h2 h3] at heq
  rw [h3] at hr
  refine ⟨_, by rw [ht]; exact hr, hb, by rw [ht]; exact heq, ?_, ?_⟩
  · rw [List.length_append, List.length_take]; have := h.len; simp; omega
  · intro p hp
    rcases List.mem_append.1 hp with hp | hp
    · have := h.deep p (List.mem_of_mem_take hp); omega
    · rw [List.mem_singleton.1 hp]
      have := dmx_le (D := i) (ps := ls.drop (ls.length - fP l[i].op.toNat)) (fun q hq => h.deep q (List.mem_of_mem_drop hq)) (fP l[i].op.toNat)
      show _ + 1 ≤ i + 1
      omega
end Go.Proofs.YtmmdigeciphglaaGreatDoor
namespace Go.Proofs.YtmmdigeciphglaaGreatDoor
open Go.RowKit Ex
set_option maxHeartbeats 8000000 in
set_option maxRecDepth 100000 in
theorem depth_any_ (w : World) (T : Tx w) (A : Option Addr) (c : Nat) (l : List Nd) (hl : NdR w w.heap.size A l) (hc : l.length ≤ c) (hn : l.length ≤ 800000) (hx : ∀ n ∈ l, n.nm.length ≤ 1000000 ∧ 0 ≤ n.op) :
    Calls Tryz.prog 115 #[.agg #[.slice A l.length c]] w fun e w' => e = .returned (.int .i64 (dep l : Nat)) ∧ Below w.heap.size w w' := by
  obtain ⟨W0, hW0⟩ : ∃ W0, W0 = (w.alloc (.cells #[.slice A l.length c] 78)).alloc (.cells #[.slice none 0 0, .slice none 0 0] 238) := ⟨_, rfl⟩
  have hz : (w.alloc (.cells #[.slice A l.length c] 78)).heap.size = w.heap.size + 1 := by simp
  have hb0 : Below w.heap.size w W0 := by rw [hW0]; exact ((Below.refl _ _).alloc (Nat.le_refl _) _).alloc (by simp) _
  have hk0 : IsBlk W0 (w.heap.size + 1) 238 #[.slice none 0 0, .slice none 0 0] := by rw [hW0, ← hz]; exact IsBlk.new _ _ _
  obtain ⟨D, hD⟩ : ∃ D, D = dep l := ⟨_, rfl⟩
  rw [← hD]
  have H0 := Lib.hid (show DeI (w.heap.size + 1) (w.heap.size + 1) W0 l D W0 0 (.slice none 0 0) (.slice none 0 0) [] from ⟨⟨Nat.le_refl _, hk0, rfl, rfl, World.ownsRow_nil _ _ _ _, World.ownsRow_nil _ _ _ _⟩, Below.refl _ _, hD, Nat.le_refl _, by simp⟩)
  have HT := Lib.hid (show ∀ w', Below (w.heap.size + 1) W0 w' → Tx w' ∧ NdR w' w.heap.size A l ∧ Below w.heap.size w w' from fun w' hb => by
    have q := hb0.trans (hb.mono (Nat.le_succ _))
    exact ⟨T.below q, hl.below q, q⟩)
  have HX := Lib.hid hx
  have HW0 := Lib.hid hW0
  obtain ⟨n, hnl⟩ : ∃ n, n = l.length := ⟨_, rfl⟩
  rw [← hnl] at hc hn ⊢
  rw [← hnl] at HW0
  have HN := Lib.hid hnl
  have hc' : (n : Int) ≤ (c : Int) := by omega
  clear hW0 hz hb0 hk0 hD T hl hx hnl
  go_enter Tryz.func115, Tryz.ntmps115
  go_wp2
  rw [← HW0.out]
  go_loopw [9] (fun iv wr => ∃ (i : Nat) (nv lv : Value) (ls : List (Nat × Nat)), iv = .int .i64 i ∧ i ≤ n ∧ Hid (DeI (w.heap.size + 1) (w.heap.size + 1) W0 l D wr i nv lv ls)) (fun iv _ => n - (intOf iv).toNat)
  case atStart => exact ⟨0, _, _, [], rfl, Nat.zero_le _, H0⟩
  case round =>
    clear H0
    obtain ⟨i, nv, lv, ls, rfl, hi, HI⟩ := hrel
    by_cases hik : i < n
    · have hik' : (i : Int) < (n : Int) := by omega
      have hil : i < l.length := by rw [← HN.out]; exact hik
      obtain ⟨g, o, hA, hg, q0, q1, q2, q3, q4, q5⟩ := (HT.out wr HI.out.below).2.1 i hil
      subst hA
      have hxs := HX.out _ (List.getElem_mem hil)
      have hgw : g < wr.heap.size := Nat.lt_of_lt_of_le hg (HT.out wr HI.out.below).2.2.size
      have hdb : (prop_ l[i] = false ∨ ls.length < fP l[i].op.toNat) → D = 0 := fun h => HI.out.eq.trans ((congrArg (fun q => dgo q (l.take i) ls) (List.drop_eq_getElem_cons hil)).trans (dgo_bad h))
      have hdn : put1 l[i] (ls.drop (ls.length - fP l[i].op.toNat)) ≠ l[i] → D = 0 := fun h => HI.out.eq.trans ((congrArg (fun q => dgo q (l.take i) ls) (List.drop_eq_getElem_cons hil)).trans (dgo_ne h))
      have HDB := Lib.hid hdb
      have HDN := Lib.hid hdn
      clear hdb hdn
      have HNX := Lib.hid (fun h1 h2 h3 {w4 : World} {nv' lv' : Value} hr hb => HI.out.next (w4 := w4) (nv' := nv') (lv' := lv') hil h1 h2 h3 hr hb)
      have HPR := Lib.hid (fun w0 (T0 : Tx w0) => proper_any l[i] w0 T0.sg hxs.1 hxs.2)
      have hle := HI.out.len
      have HDP := Lib.hid HI.out.deep
      have hop0 := hxs.2
      generalize hXe : l[i] = X at *
      have HXE := Lib.hid hXe
      obtain ⟨op, num, nm, na, nb, nc⟩ := X
      simp only [ndA] at q0 q1 q2 q3 q4 q5 HPR hop0
      obtain ⟨N, hN⟩ : ∃ N : ByteArray, N = ⟨nm.toArray⟩ := ⟨_, rfl⟩
      rw [← hN] at q2 HPR
      have HNN := Lib.hid hN
      obtain ⟨W1, hW1⟩ : ∃ W1, W1 = wr.alloc (.cells #[.int .u8 op, .int .i64 num, .string N, .int .i64 na, .int .i64 nb, .int .i64 nc] 105) := ⟨_, rfl⟩
      have hb1 : Below wr.heap.size wr W1 := by rw [hW1]; exact (Below.refl _ _).alloc (Nat.le_refl _) _
      have hk1 : IsBlk W1 wr.heap.size 105 #[.int .u8 op, .int .i64 num, .string N, .int .i64 na, .int .i64 nb, .int .i64 nc] := by rw [hW1]; exact IsBlk.new _ _ _
      have y0 : W1.cell? ⟨wr.heap.size, 0, none⟩ = some (.int .u8 op) := hk1.at_ 0
      have y1 : W1.cell? ⟨wr.heap.size, 1, none⟩ = some (.int .i64 num) := hk1.at_ 1
      have y2 : W1.cell? ⟨wr.heap.size, 2, none⟩ = some (.string N) := hk1.at_ 2
      have y3 : W1.cell? ⟨wr.heap.size, 3, none⟩ = some (.int .i64 na) := hk1.at_ 3
      have y4 : W1.cell? ⟨wr.heap.size, 4, none⟩ = some (.int .i64 nb) := hk1.at_ 4
      have y5 : W1.cell? ⟨wr.heap.size, 5, none⟩ = some (.int .i64 nc) := hk1.at_ 5
      have hBw : w.heap.size + 1 ≤ wr.heap.size := Nat.le_of_lt HI.out.row.blk.lt
      have HB1 := Lib.hid (HI.out.below.trans (hb1.mono hBw))
      have HR1 := Lib.hid (HI.out.row.below hb1)
      have HK1 := Lib.hid hk1
      have HW1 := Lib.hid hW1
      obtain ⟨P, hP⟩ : ∃ P, P = prop_ ⟨op, num, nm, na, nb, nc⟩ := ⟨_, rfl⟩
      rw [← hP] at HPR HDB HNX
      have HPC := Lib.hid (fun w0 (hb : Below W1.heap.size W1 w0) => HPR.out w0 (HT.out w0 (HB1.out.trans (hb.mono (Nat.le_trans hBw hb1.size)))).1)
      have HS6 := Lib.hid (fun w3 (hb : Below W1.heap.size W1 w3) => (show IsBlk w3 wr.heap.size 105 #[.int .u8 op, .int .i64 num, .string N, .int .i64 na, .int .i64 nb, .int .i64 nc] from hk1.below hb hk1.lt))
      clear hW1 hb1 hk1 hN hxs HPR
      cases P with
      | false =>
        have HD0 := Lib.hid (HDB.out (Or.inl rfl))
        clear HDB HDN HNX hP
        go_wp2_with fail
        rw [← HW1.out]
        refine wp_region_held_drew (S := fun w' => w'.cell? ⟨wr.heap.size, 0, none⟩ = some (.int .u8 op) ∧ w'.cell? ⟨wr.heap.size, 1, none⟩ = some (.int .i64 num) ∧ w'.cell? ⟨wr.heap.size, 2, none⟩ = some (.string N) ∧ w'.cell? ⟨wr.heap.size, 3, none⟩ = some (.int .i64 na) ∧ w'.cell? ⟨wr.heap.size, 4, none⟩ = some (.int .i64 nb) ∧ w'.cell? ⟨wr.heap.size, 5, none⟩ = some (.int .i64 nc)) (by kernel_rfl) ⟨y0, y1, y2, y3, y4, y5⟩ (fun hHeld => ?_)
        refine wpAnyH_take (i := 0) (v := .agg #[.int .u8 op, .int .i64 num, .string N, .int .i64 na, .int .i64 nb, .int .i64 nc]) rfl (by kernel_rfl) (by kernel_rfl) (by kernel_rfl) (fun _ _ _ h => h) (Or.inl ⟨by rfl, by (intro w hS; try (obtain ⟨s0, s1, s2, s3, s4, s5⟩ := hS); go_simp)⟩) hHeld ?_
        try simp only [Act.put, List.getElem_toArray, List.getElem_cons_zero, List.setIfInBounds_toArray, List.set_cons_zero, List.set_cons_succ]
        refine wpAnyH_ready (rs := [1]) (by kernel_rfl) (by simp) ?_
        refine AllReadyH.cons rfl (fun K hK => ?_) AllReadyH.nil
        go_simp
        refine (HPC.out _ (below_drewN (Below.refl _ _) 1)).mono ?_
        rintro e w3 ⟨rfl, hb3⟩
        have k3 := HS6.out w3 ((below_drewN (Below.refl _ _) 1).trans hb3)
        have HB3 := Lib.hid ((HT.out W1 HB1.out).2.2.trans (((below_drewN (Below.refl _ _) 1).trans hb3).mono (HT.out W1 HB1.out).2.2.size))
        refine hK _ _ ⟨k3.at_ 0, k3.at_ 1, k3.at_ 2, k3.at_ 3, k3.at_ 4, k3.at_ 5⟩ (fun hHeld => ?_)
        clear hK K hb3 k3
        try simp only [Act.put, List.getElem_toArray, List.getElem_cons_succ, List.getElem_cons_zero, List.setIfInBounds_toArray, List.set_cons_zero, List.set_cons_succ]
        refine wpAnyH_take (i := 2) (v := .bool true) rfl (by kernel_rfl) (by kernel_rfl) (by kernel_rfl) (fun _ _ _ h => h) (Or.inl ⟨by rfl, by (intro w hS; try (obtain ⟨s0, s1, s2, s3, s4, s5⟩ := hS); go_simp)⟩) hHeld ?_
        try simp only [Act.put, List.getElem_toArray, List.getElem_cons_succ, List.getElem_cons_zero, List.setIfInBounds_toArray, List.set_cons_zero, List.set_cons_succ]
        refine wpAnyH_take (i := 3) (v := .bool true) rfl (by kernel_rfl) (by kernel_rfl) (by kernel_rfl) (fun _ _ _ h => h) (Or.inl ⟨by rfl, by (intro w hS; try (obtain ⟨s0, s1, s2, s3, s4, s5⟩ := hS); go_simp)⟩) hHeld ?_
        try simp only [Act.put, List.getElem_toArray, List.getElem_cons_succ, List.getElem_cons_zero, List.setIfInBounds_toArray, List.set_cons_zero, List.set_cons_succ]
        refine wpAnyH_take (i := 4) (v := undef) rfl (by kernel_rfl) (by kernel_rfl) (by kernel_rfl) (fun _ _ _ h => h) (Or.inr ⟨by simp [Region.wanted, yielded], rfl⟩) hHeld ?_
        simp only [Act.put, List.getElem_toArray, List.getElem_cons_succ, List.getElem_cons_zero, List.setIfInBounds_toArray, List.set_cons_zero, List.set_cons_succ]
        refine wpAnyH_take (i := 5) (v := undef) rfl (by kernel_rfl) (by kernel_rfl) (by kernel_rfl) (fun _ _ _ h => h) (Or.inr ⟨by simp [Region.wanted, yielded], rfl⟩) hHeld ?_
        simp only [Act.put, List.getElem_toArray, List.getElem_cons_succ, List.getElem_cons_zero, List.setIfInBounds_toArray, List.set_cons_zero, List.set_cons_succ]
        refine wpAnyH_take (i := 6) (v := undef) rfl (by kernel_rfl) (by kernel_rfl) (by kernel_rfl) (fun _ _ _ h => h) (Or.inr ⟨by simp [Region.wanted, yielded], rfl⟩) hHeld ?_
        simp only [Act.put, List.getElem_toArray, List.getElem_cons_succ, List.getElem_cons_zero, List.setIfInBounds_toArray, List.set_cons_zero, List.set_cons_succ]
        refine wpAnyH_take (i := 7) (v := undef) rfl (by kernel_rfl) (by kernel_rfl) (by kernel_rfl) (fun _ _ _ h => h) (Or.inr ⟨by simp [Region.wanted, yielded], rfl⟩) hHeld ?_
        simp only [Act.put, List.getElem_toArray, List.getElem_cons_succ, List.getElem_cons_zero, List.setIfInBounds_toArray, List.set_cons_zero, List.set_cons_succ]
        refine wpAnyH_take (i := 8) (v := undef) rfl (by kernel_rfl) (by kernel_rfl) (by kernel_rfl) (fun _ _ _ h => h) (Or.inr ⟨by simp [Region.wanted, yielded], rfl⟩) hHeld ?_
        simp only [Act.put, List.getElem_toArray, List.getElem_cons_succ, List.getElem_cons_zero, List.setIfInBounds_toArray, List.set_cons_zero, List.set_cons_succ]
        refine wpAnyH_take (i := 9) (v := undef) rfl (by kernel_rfl) (by kernel_rfl) (by kernel_rfl) (fun _ _ _ h => h) (Or.inr ⟨by simp [Region.wanted, yielded], rfl⟩) hHeld ?_
        simp only [Act.put, List.getElem_toArray, List.getElem_cons_succ, List.getElem_cons_zero, List.setIfInBounds_toArray, List.set_cons_zero, List.set_cons_succ]
        refine wpAnyH_take (i := 10) (v := undef) rfl (by kernel_rfl) (by kernel_rfl) (by kernel_rfl) (fun _ _ _ h => h) (Or.inr ⟨by simp [Region.wanted, yielded], rfl⟩) hHeld ?_
        simp only [Act.put, List.getElem_toArray, List.getElem_cons_succ, List.getElem_cons_zero, List.setIfInBounds_toArray, List.set_cons_zero, List.set_cons_succ]
        refine wpAnyH_take (i := 11) (v := undef) rfl (by kernel_rfl) (by kernel_rfl) (by kernel_rfl) (fun _ _ _ h => h) (Or.inr ⟨by simp [Region.wanted, yielded], rfl⟩) hHeld ?_
        simp only [Act.put, List.getElem_toArray, List.getElem_cons_succ, List.getElem_cons_zero, List.setIfInBounds_toArray, List.set_cons_zero, List.set_cons_succ]
        refine wpAnyH_take (i := 12) (v := undef) rfl (by kernel_rfl) (by kernel_rfl) (by kernel_rfl) (fun _ _ _ h => h) (Or.inr ⟨by simp [Region.wanted, yielded], rfl⟩) hHeld ?_
        simp only [Act.put, List.getElem_toArray, List.getElem_cons_succ, List.getElem_cons_zero, List.setIfInBounds_toArray, List.set_cons_zero, List.set_cons_succ]
        refine wpAnyH_take (i := 13) (v := .bool true) rfl (by kernel_rfl) (by kernel_rfl) (by kernel_rfl) (fun _ _ _ h => h) (Or.inl ⟨by rfl, by (intro w hS; try (obtain ⟨s0, s1, s2, s3, s4, s5⟩ := hS); go_simp)⟩) hHeld ?_
        try simp only [Act.put, List.getElem_toArray, List.getElem_cons_succ, List.getElem_cons_zero, List.setIfInBounds_toArray, List.set_cons_zero, List.set_cons_succ]
        refine wpAnyH_done (by kernel_rfl) ?_ _
        go_wp2
        go_ret
        exact ⟨by rw [HD0.out]; rfl, HB3.out⟩
      | true =>
        have hop : 1 ≤ op ∧ op ≤ 22 := prop_op hP.symm
        obtain ⟨o_, rfl⟩ : ∃ o_ : Nat, op = o_ := ⟨op.toNat, by omega⟩
        have HT1 := Lib.hid (HT.out W1 HB1.out)
        have t2 := ((HT.out W1 HB1.out).1.fm o_ (by omega)).2.2
        have hg0 : 1 < W1.heap.size := block_lt t2
        have ho23 : (o_ : Int) < 23 := by omega
        have l1 : W1.cell? ⟨w.heap.size + 1, 1, none⟩ = some lv := (HR1.out.blk.at_ 1).trans rfl
        obtain ⟨Al, cl, hlv, _, _, _⟩ := own_sliced HR1.out.lown
        subst hlv
        have hbx : w.heap.size + 1 < wr.heap.size := HI.out.row.blk.lt
        obtain ⟨k, hk⟩ : ∃ k, k = fP o_ := ⟨_, rfl⟩
        rw [← hk] at t2
        have hk3 : k ≤ 3 := by rw [hk]; exact fP_le o_
        have hS0 : ∀ w3, Below W1.heap.size W1 w3 → w3.cell? ⟨wr.heap.size, 0, none⟩ = some (.int .u8 (o_ : Int)) ∧ w3.cell? ⟨wr.heap.size, 1, none⟩ = some (.int .i64 num) ∧ w3.cell? ⟨wr.heap.size, 2, none⟩ = some (.string N) ∧ w3.cell? ⟨wr.heap.size, 3, none⟩ = some (.int .i64 na) ∧ w3.cell? ⟨wr.heap.size, 4, none⟩ = some (.int .i64 nb) ∧ w3.cell? ⟨wr.heap.size, 5, none⟩ = some (.int .i64 nc) := fun w3 hb =>
          have q := HS6.out w3 hb
          ⟨q.at_ 0, q.at_ 1, q.at_ 2, q.at_ 3, q.at_ 4, q.at_ 5⟩
        have HS := Lib.hid (fun w3 (hb : Below W1.heap.size W1 w3) => And.intro hb (And.intro (hS0 w3 hb) (And.intro (show w3.cell? ⟨w.heap.size + 1, 1, none⟩ = some (.slice Al ls.length cl) from (hb.cell (p := ⟨_, _, none⟩) (block_lt l1)).trans l1) (show w3.cell? ⟨1, o_ * 3 + 2, none⟩ = some (.int .i64 (k : Int)) from (hb.cell (p := ⟨_, _, none⟩) hg0).trans t2))))
        have HKK := Lib.hid hk
        simp only [Int.toNat_natCast, ← hk] at HDB HDN HNX
        clear hS0 hP hk
        by_cases hlt : ls.length < k
        · have hlt' : (ls.length : Int) < (k : Int) := by omega
          have hlt2 : decide ((ls.length : Int) < (k : Int)) = true := decide_eq_true hlt'
          have HD0 := Lib.hid (HDB.out (Or.inr hlt))
          clear hlt HDB HDN HNX
          go_wp2_with fail
          rw [← HW1.out]
          go_region_held3 (fun w' => (w'.cell? ⟨wr.heap.size, 0, none⟩ = some (.int .u8 (o_ : Int)) ∧ w'.cell? ⟨wr.heap.size, 1, none⟩ = some (.int .i64 num) ∧ w'.cell? ⟨wr.heap.size, 2, none⟩ = some (.string N) ∧ w'.cell? ⟨wr.heap.size, 3, none⟩ = some (.int .i64 na) ∧ w'.cell? ⟨wr.heap.size, 4, none⟩ = some (.int .i64 nb) ∧ w'.cell? ⟨wr.heap.size, 5, none⟩ = some (.int .i64 nc)) ∧ w'.cell? ⟨w.heap.size + 1, 1, none⟩ = some (.slice Al ls.length cl) ∧ w'.cell? ⟨1, o_ * 3 + 2, none⟩ = some (.int .i64 (k : Int))) (first | exact ⟨⟨y0, y1, y2, y3, y4, y5⟩, l1, t2⟩ | exact HQ.out.2) (first | (go_at_call 140; refine (HPC.out _ (by first | exact below_drewN (Below.refl _ _) _ | exact Below.refl _ _)).mono ?_; rintro e w3 ⟨rfl, hb3⟩; have HQ := Lib.hid (HS.out w3 (by first | exact (below_drewN (Below.refl _ _) _).trans hb3 | exact hb3)); clear hb3))
          have HB3 := Lib.hid (HT1.out.2.2.trans (HQ.out.1.mono HT1.out.2.2.size))
          clear HQ l1 t2 y0 y1 y2 y3 y4 y5
          go_wp2
          go_ret
          exact ⟨by rw [HD0.out]; rfl, HB3.out⟩
        · have hlt' : ¬ (ls.length : Int) < (k : Int) := by omega
          have hlt2 : decide ((ls.length : Int) < (k : Int)) = false := decide_eq_false hlt'
          have hkl : k ≤ ls.length := by omega
          have HDR := Lib.hid (show ls.drop (ls.length - k) = ls.drop (ls.length - fP o_) ∧ (ls.drop (ls.length - k)).length = k from ⟨by rw [HKK.out], by rw [List.length_drop]; omega⟩)
          have hBW1 : w.heap.size + 1 ≤ W1.heap.size := Nat.le_of_lt HR1.out.blk.lt
          have HLA := Lib.hid (fun w0 (hb : Below W1.heap.size W1 w0) => (show Calls Tryz.prog 142 #[.pointer (some ⟨w.heap.size + 1, 0, none⟩), .int .u8 (o_ : Int)] w0 fun e w' => ∃ A' c', e = .returned (.slice A' k c') ∧ (k ≤ c' ∧ Parts w' w'.heap.size A' c' (ls.drop (ls.length - k))) ∧ Below w0.heap.size w0 w' from by
            have q := last_any _ _ _ _ w0 nv _ _ ls (HR1.out.below hb) (HT.out w0 (HB1.out.trans (hb.mono hBW1))).1.fm o_ (by omega) (by rw [← HKK.out]; exact hkl) (by omega)
            rw [← HKK.out] at q; exact q))
          have HPU := Lib.hid (fun w3 A3 c3 (hp : k ≤ c3 ∧ Parts w3 w3.heap.size A3 c3 (ls.drop (ls.length - k))) (hb : Below W1.heap.size W1 w3) => (show Calls Tryz.prog 141 #[.pointer (some ⟨w.heap.size + 1, 0, none⟩), .agg #[.int .u8 (o_ : Int), .int .i64 num, .string N, .int .i64 na, .int .i64 nb, .int .i64 nc], .slice A3 k c3] w3 fun e w' => e = .returned (.tuple #[]) ∧ (∃ nv' lv', RowS (w.heap.size + 1) (w.heap.size + 1) 238 #[nv', lv'] w' nv' lv' (l.take i ++ [put1 ⟨(o_ : Int), num, nm, na, nb, nc⟩ (ls.drop (ls.length - k))]) (ls.take (ls.length - k) ++ [((l.take i).length, dmx (ls.drop (ls.length - k)) k + 1)]) ∧ Below (w.heap.size + 1) W1 w') ∧ w'.cell? ⟨wr.heap.size, 0, none⟩ = some (.int .u8 (o_ : Int)) ∧ w'.cell? ⟨wr.heap.size, 1, none⟩ = some (.int .i64 num) ∧ w'.cell? ⟨wr.heap.size, 2, none⟩ = some (.string N) ∧ w'.cell? ⟨wr.heap.size, 3, none⟩ = some (.int .i64 na) ∧ w'.cell? ⟨wr.heap.size, 4, none⟩ = some (.int .i64 nb) ∧ w'.cell? ⟨wr.heap.size, 5, none⟩ = some (.int .i64 nc) from by
            have q := put_fr_ _ _ _ _ w3 nv _ _ ls (HR1.out.below hb) (Or.inr rfl) ⟨(o_ : Int), num, nm, na, nb, nc⟩ A3 c3 (ls.drop (ls.length - k)) hp.2 (by rw [HDR.out.2]; exact hk3) (by rw [HDR.out.2]; exact hkl) (by rw [List.length_take]; omega) (by omega) (fun p hp => by have := HDP.out p (List.mem_of_mem_drop hp); omega)
            simp only [HDR.out.2, ← HNN.out] at q
            refine q.mono ?_
            rintro e w4 ⟨rfl, nv4, lv4, h4, _, hb4, hfr⟩
            have hb6 := HS6.out w3 hb
            have hne : ∀ {e : TypeId} {size n : Nat} {v : Value} {xs : List Value}, wr.ownsRow (w.heap.size + 1) e size v n xs → v.ownBlock ≠ some wr.heap.size := fun ho e => absurd (ho.lt _ e).2 (Nat.lt_irrefl _)
            have hx4 : IsBlk w4 wr.heap.size 105 _ := (hfr wr.heap.size hb6.lt (by omega) (hne HI.out.row.lown) (hne HI.out.row.nown)).trans hb6
            exact ⟨rfl, ⟨nv4, lv4, h4, (hb.mono hBW1).trans hb4⟩, hx4.at_ 0, hx4.at_ 1, hx4.at_ 2, hx4.at_ 3, hx4.at_ 4, hx4.at_ 5⟩))
          go_wp2_with fail
          rw [← HW1.out]
          go_region_held3 (fun w' => (w'.cell? ⟨wr.heap.size, 0, none⟩ = some (.int .u8 (o_ : Int)) ∧ w'.cell? ⟨wr.heap.size, 1, none⟩ = some (.int .i64 num) ∧ w'.cell? ⟨wr.heap.size, 2, none⟩ = some (.string N) ∧ w'.cell? ⟨wr.heap.size, 3, none⟩ = some (.int .i64 na) ∧ w'.cell? ⟨wr.heap.size, 4, none⟩ = some (.int .i64 nb) ∧ w'.cell? ⟨wr.heap.size, 5, none⟩ = some (.int .i64 nc)) ∧ w'.cell? ⟨w.heap.size + 1, 1, none⟩ = some (.slice Al ls.length cl) ∧ w'.cell? ⟨1, o_ * 3 + 2, none⟩ = some (.int .i64 (k : Int))) (first | exact ⟨⟨y0, y1, y2, y3, y4, y5⟩, l1, t2⟩ | exact HQ.out.2) (first | (go_at_call 140; refine (HPC.out _ (by first | exact below_drewN (Below.refl _ _) _ | exact Below.refl _ _)).mono ?_; rintro e w3 ⟨rfl, hb3⟩; have HQ := Lib.hid (HS.out w3 (by first | exact (below_drewN (Below.refl _ _) _).trans hb3 | exact hb3)); clear hb3))
          go_wp2_with fail
          clear hlt
          have HQ3f := Lib.hid (fun w5 A3 c3 hp3 (hb5 : Below w3.heap.size w3 w5) => And.intro (HPU.out w5 A3 c3 hp3 (HQ.out.1.trans (hb5.mono HQ.out.1.size))) (And.intro (HQ.out.1.trans (hb5.mono HQ.out.1.size)) (HS.out w5 (HQ.out.1.trans (hb5.mono HQ.out.1.size))).2.1))
          have z6 := (HS.out w3 HQ.out.1).2.1
          obtain ⟨z0, z1, z2, z3, z4, z5⟩ := z6
          have HB3 := Lib.hid HQ.out.1
          clear HQ l1 t2 y0 y1 y2 y3 y4 y5
          go_region_held3 (fun w' => w'.cell? ⟨wr.heap.size, 0, none⟩ = some (.int .u8 (o_ : Int)) ∧ w'.cell? ⟨wr.heap.size, 1, none⟩ = some (.int .i64 num) ∧ w'.cell? ⟨wr.heap.size, 2, none⟩ = some (.string N) ∧ w'.cell? ⟨wr.heap.size, 3, none⟩ = some (.int .i64 na) ∧ w'.cell? ⟨wr.heap.size, 4, none⟩ = some (.int .i64 nb) ∧ w'.cell? ⟨wr.heap.size, 5, none⟩ = some (.int .i64 nc)) (first | exact ⟨z0, z1, z2, z3, z4, z5⟩ | exact (HQ3.out.2.2) | exact HQ4.out.2) (first | (go_at_call 142; refine (HLA.out _ (by first | exact HB3.out.trans ((below_drewN (Below.refl _ _) _).mono HB3.out.size) | exact HB3.out)).mono ?_; rintro e w5 ⟨A3, c3, rfl, hp3, hb5⟩; have HQ3 := Lib.hid (HQ3f.out w5 A3 c3 hp3 (by first | exact (below_drewN (Below.refl _ _) _).trans hb5 | exact hb5)); clear hp3 hb5) | (go_at_call 141; refine (HQ3.out.1).mono ?_; rintro e w4 ⟨rfl, hr4, hx4⟩; have HQ4 := Lib.hid (And.intro hr4 hx4); clear hr4 hx4))
          obtain ⟨nv4, lv4, hr4, hb4⟩ := HQ4.out.1
          obtain ⟨v0, v1, v2, v3, v4, v5⟩ := HQ4.out.2
          have HPE := Lib.hid (show put1 ⟨(o_ : Int), num, nm, na, nb, nc⟩ (ls.drop (ls.length - k)) = ⟨(o_ : Int), num, nm, plc (ls.drop (ls.length - k)) (ls.drop (ls.length - k)).length 0, plc (ls.drop (ls.length - k)) (ls.drop (ls.length - k)).length 1, plc (ls.drop (ls.length - k)) (ls.drop (ls.length - k)).length 2⟩ from rfl)
          generalize plc (ls.drop (ls.length - k)) (ls.drop (ls.length - k)).length 0 = a1 at *
          generalize plc (ls.drop (ls.length - k)) (ls.drop (ls.length - k)).length 1 = a2 at *
          generalize plc (ls.drop (ls.length - k)) (ls.drop (ls.length - k)).length 2 = a3 at *
          have hti : (l.take i).length = i := by rw [List.length_take]; omega
          have hown := hr4.nown
          have hlen4 : (l.take i ++ [put1 ⟨(o_ : Int), num, nm, na, nb, nc⟩ (ls.drop (ls.length - k))]).length = i + 1 := by rw [List.length_append, hti]; rfl
          rw [hlen4] at hown
          obtain ⟨An, cn, hnv, hc1, _, hc3⟩ := own_sliced hown
          subst hnv
          obtain ⟨gn, hgn, _, _⟩ := hc3 (by omega)
          subst hgn
          have m0 : w4.cell? ⟨w.heap.size + 1, 0, none⟩ = some (.slice (some ⟨gn, 0, none⟩) (i + 1) cn) := hr4.blk.at_ 0
          have hcell : ∀ j (hj : j < 6) (u : Value), (ndV ⟨(o_ : Int), num, nm, a1, a2, a3⟩)[j]? = some u → w4.cell? ⟨gn, i * 6 + j, none⟩ = some u := fun j hj u hu => own_cell hown (by
            rw [fl_at (f := ndV) (k := 6) (fun _ => rfl) _ i j (by rw [hlen4]; exact Nat.lt_succ_self _) hj, List.getElem_append_right (by rw [hti]; exact Nat.le_refl _)]
            simp only [hti, Nat.sub_self, List.getElem_cons_zero, HPE.out]
            exact hu)
          have c0 : w4.cell? ⟨gn, i * 6, none⟩ = some (.int .u8 (o_ : Int)) := hcell 0 (by omega) _ rfl
          have c1 : w4.cell? ⟨gn, i * 6 + 1, none⟩ = some (.int .i64 num) := hcell 1 (by omega) _ rfl
          have c2 : w4.cell? ⟨gn, i * 6 + 2, none⟩ = some (.string N) := by rw [HNN.out]; exact hcell 2 (by omega) _ rfl
          have c3 : w4.cell? ⟨gn, i * 6 + 3, none⟩ = some (.int .i64 a1) := hcell 3 (by omega) _ rfl
          have c4 : w4.cell? ⟨gn, i * 6 + 4, none⟩ = some (.int .i64 a2) := hcell 4 (by omega) _ rfl
          have c5 : w4.cell? ⟨gn, i * 6 + 5, none⟩ = some (.int .i64 a3) := hcell 5 (by omega) _ rfl
          have i1 : (i : Int) < ((i + 1 : Nat) : Int) := by omega
          have i2 : ((i + 1 : Nat) : Int) ≤ (cn : Int) := by omega
          have HR4 := Lib.hid (And.intro hr4 hb4)
          clear hcell hown hc1 hc3 hr4 hb4 hlen4 hti HQ4 HQ3
          by_cases ha : a1 = na
          · by_cases hb : a2 = nb
            · by_cases hcc : a3 = nc
              · subst ha hb hcc
                obtain ⟨ls', hj⟩ := HNX.out trivial (by omega) HPE.out HR4.out.1 (HB1.out.trans HR4.out.2)
                have HJ := Lib.hid hj
                have HIK := Lib.hid hik
                clear hj hik HNX HDN HDB
                go_wp2_with fail
                go_quiet (fail)
                go_wp2
                go_roundw
                case rel => exact ⟨i + 1, _, _, ls', by go_num, HIK.out, Lib.hid ⟨HJ.out.row.below (below_drewN (Below.refl _ _) _), below_drewN HJ.out.below _, HJ.out.eq, HJ.out.len, HJ.out.deep⟩⟩
                case measure => have := HIK.out; simp [intOf]; omega
              · have hcc' : (a3 == nc) = false := by simpa using hcc
                subst ha hb
                have HD0 := Lib.hid (HDN.out (fun e => hcc (by rw [HPE.out] at e; injection e)))
                have HB4 := Lib.hid ((HT.out w4 (HB1.out.trans HR4.out.2)).2.2)
                clear HNX HDN HDB
                go_wp2_with fail
                go_quiet (fail)
                go_wp2
                go_ret
                exact ⟨by rw [HD0.out]; rfl, below_drewN HB4.out _⟩
            · have hb' : (a2 == nb) = false := by simpa using hb
              subst ha
              have HD0 := Lib.hid (HDN.out (fun e => hb (by rw [HPE.out] at e; injection e)))
              have HB4 := Lib.hid ((HT.out w4 (HB1.out.trans HR4.out.2)).2.2)
              clear HNX HDN HDB
              go_wp2_with fail
              go_quiet (fail)
              go_wp2
              go_ret
              exact ⟨by rw [HD0.out]; rfl, below_drewN HB4.out _⟩
          · have ha' : (a1 == na) = false := by simpa using ha
            have HD0 := Lib.hid (HDN.out (fun e => ha (by rw [HPE.out] at e; injection e)))
            have HB4 := Lib.hid ((HT.out w4 (HB1.out.trans HR4.out.2)).2.2)
            clear HNX HDN HDB
            go_wp2_with fail
            go_quiet (fail)
            go_wp2
            go_ret
            exact ⟨by rw [HD0.out]; rfl, below_drewN HB4.out _⟩
    · obtain rfl : i = n := by omega
      have hik' : ¬ (i : Int) < (i : Int) := by omega
      have HE := Lib.hid (show D = dpo ls from by
        have := HI.out.eq
        rw [List.drop_eq_nil_of_le (by rw [← HN.out]; exact Nat.le_refl _)] at this
        exact this)
      have HRD := Lib.hid (rdepth_any _ _ _ _ wr nv lv _ ls HI.out.row (by have := HI.out.len; omega))
      have HBW := Lib.hid (HT.out wr HI.out.below).2.2
      clear hik
      go_wp2_with fail
      refine HRD.out.mono ?_
      rintro e w3 ⟨rfl, hb3⟩
      have HB3 := Lib.hid (HBW.out.trans (hb3.mono HBW.out.size))
      clear hb3
      go_wp2
      go_ret
      exact ⟨by rw [HE.out]; rfl, HB3.out⟩
end Go.Proofs.YtmmdigeciphglaaGreatDoor
namespace Go.Proofs.YtmmdigeciphglaaGreatDoor
open Go.RowKit Ex
def chk (l : List Nd) : Int := if dep l = 0 then 2 else if 64 < dep l then 3 else 0
def Fit (l : List Nd) : Prop := l.length ≤ 800000 ∧ ∀ n ∈ l, n.nm.length ≤ 1000000 ∧ 0 ≤ n.op
set_option maxHeartbeats 2000000 in
set_option maxRecDepth 100000 in
theorem check_any (w : World) (T : Tx w) (A : Option Addr) (c : Nat) (l : List Nd) (hl : NdR w w.heap.size A l) (hc : l.length ≤ c) (hf : Fit l) :
    Calls Tryz.prog 84 #[.agg #[.slice A l.length c]] w fun e w' => e = .returned (.int .i64 (chk l)) ∧ Below w.heap.size w w' := by
  obtain ⟨W1, hW1⟩ : ∃ W1, W1 = w.alloc (.cells #[.slice A l.length c] 78) := ⟨_, rfl⟩
  have hb1 : Below w.heap.size w W1 := by rw [hW1]; exact (Below.refl _ _).alloc (Nat.le_refl _) _
  have HD := Lib.hid (depth_any_ W1 (T.below hb1) A c l ((hl.below hb1).more hb1.size) hc hf.1 hf.2)
  have HB1 := Lib.hid hb1
  have HW1 := Lib.hid hW1
  obtain ⟨d, hd⟩ : ∃ d, d = dep l := ⟨_, rfl⟩
  have HC := Lib.hid (show chk l = if d = 0 then 2 else if 64 < d then 3 else 0 from by rw [hd]; rfl)
  rw [← hd] at HD
  clear hW1 hb1 hd T hl hc hf
  by_cases h0 : d = 0
  · subst h0
    have HC := Lib.hid (HC.out.trans (if_pos rfl))
    go_enter Tryz.func84, Tryz.ntmps84
    go_wp2_with fail
    rw [← HW1.out]
    refine HD.out.mono ?_
    rintro e w2 ⟨rfl, hb2⟩
    have HB2 := Lib.hid (HB1.out.trans (hb2.mono HB1.out.size))
    clear hb2
    go_wp2
    go_ret
    exact ⟨by rw [HC.out]; rfl, HB2.out⟩
  · have h0' : ((d : Int) == 0) = false := beq_eq_false_iff_ne.2 (by omega)
    have HC := Lib.hid (HC.out.trans (if_neg h0))
    by_cases h1 : 64 < d
    · have h1' : (d : Int) > 64 := by omega
      have HC := Lib.hid (HC.out.trans (if_pos h1))
      go_enter Tryz.func84, Tryz.ntmps84
      go_wp2_with fail
      rw [← HW1.out]
      refine HD.out.mono ?_
      rintro e w2 ⟨rfl, hb2⟩
      have HB2 := Lib.hid (HB1.out.trans (hb2.mono HB1.out.size))
      clear hb2
      go_wp2
      go_ret
      exact ⟨by rw [HC.out]; rfl, HB2.out⟩
    · have h1' : ¬ (d : Int) > 64 := by omega
      have HC := Lib.hid (HC.out.trans (if_neg h1))
      go_enter Tryz.func84, Tryz.ntmps84
      go_wp2_with fail
      rw [← HW1.out]
      refine HD.out.mono ?_
      rintro e w2 ⟨rfl, hb2⟩
      have HB2 := Lib.hid (HB1.out.trans (hb2.mono HB1.out.size))
      clear hb2
      go_wp2
      go_ret
      exact ⟨by rw [HC.out]; rfl, HB2.out⟩
set_option maxHeartbeats 4000000 in
set_option maxRecDepth 100000 in
theorem equal_any (w : World) (A1 A2 : Option Addr) (c1 c2 : Nat) (l1 l2 : List Nd) (h1 : NdR w w.heap.size A1 l1) (h2 : NdR w w.heap.size A2 l2) (hc1 : l1.length ≤ c1) (hc2 : l2.length ≤ c2) (hn2 : l2.length ≤ 1000000) :
    Calls Tryz.prog 118 #[.slice A1 l1.length c1, .slice A2 l2.length c2] w fun e w' => e = .returned (.bool (decide (l1 = l2))) ∧ Below w.heap.size w w' := by
  by_cases hll : l1.length = l2.length
  · have hne : ((l1.length : Int) == (l2.length : Int)) = true := by simp [hll]
    have hne' : ((l1.length : Int) != (l2.length : Int)) = false := by simp [hll]
    obtain ⟨R, hR⟩ : ∃ R, R = decide (l1 = l2) := ⟨_, rfl⟩
    rw [← hR]
    have HR := Lib.hid hR
    have H := Lib.hid (And.intro h1 (And.intro h2 hll))
    have hc1' : (l1.length : Int) ≤ (c1 : Int) := by omega
    have hc2' : (l2.length : Int) ≤ (c2 : Int) := by omega
    clear hR h1 h2
    go_enter Tryz.func118, Tryz.ntmps118
    go_wp2
    go_loopw [13] (fun iv wr => ∃ i : Nat, iv = .int .i64 i ∧ i ≤ l1.length ∧ Hid (Below w.heap.size w wr ∧ l1.take i = l2.take i)) (fun iv _ => l1.length - (intOf iv).toNat)
    case atStart => exact ⟨0, rfl, Nat.zero_le _, Lib.hid ⟨Below.refl _ _, rfl⟩⟩
    case round =>
      obtain ⟨i, rfl, hi, HI⟩ := hrel
      by_cases hik : i < l1.length
      · have hik' : (i : Int) < (l1.length : Int) := by omega
        have hik2 : i < l2.length := by omega
        have hik2' : (i : Int) < (l2.length : Int) := by omega
        obtain ⟨g, o, hA, hg, p0, p1, p2, p3, p4, p5⟩ := (H.out.1.below HI.out.1) i hik
        obtain ⟨g2, o2, hA2, hg2, q0, q1, q2, q3, q4, q5⟩ := (H.out.2.1.below HI.out.1) i hik2
        subst hA hA2
        have HNE := Lib.hid (show l1[i] ≠ l2[i] → R = false from fun h => by
          rw [HR.out]; exact decide_eq_false (fun e => h (by subst e; rfl)))
        have HEQ := Lib.hid (show l1[i] = l2[i] → l1.take (i + 1) = l2.take (i + 1) from fun h => by
          rw [List.take_succ_eq_append_getElem hik, List.take_succ_eq_append_getElem hik2, HI.out.2, h])
        have HIK := Lib.hid hik
        have HBI := Lib.hid HI.out.1
        generalize l1[i] = X at *
        generalize l2[i] = Y at *
        clear hik hik2
        obtain ⟨op, num, nm, na, nb, nc⟩ := X
        obtain ⟨op2, num2, nm2, na2, nb2, nc2⟩ := Y
        simp only at p0 p1 p2 p3 p4 p5 q0 q1 q2 q3 q4 q5
        obtain ⟨N, hN⟩ : ∃ N : ByteArray, N = ⟨nm.toArray⟩ := ⟨_, rfl⟩
        obtain ⟨M, hM⟩ : ∃ N : ByteArray, N = ⟨nm2.toArray⟩ := ⟨_, rfl⟩
        rw [← hN] at p2
        rw [← hM] at q2
        by_cases e0 : op = op2
        · subst e0
          by_cases e1 : num = num2
          · subst e1
            by_cases e2 : nm = nm2
            · obtain rfl : N = M := by rw [hN, hM, e2]
              by_cases e3 : na = na2
              · subst e3
                by_cases e4 : nb = nb2
                · subst e4
                  by_cases e5 : nc = nc2
                  · subst e5
                    have HE := Lib.hid (HEQ.out (by rw [e2]))
                    clear HNE HEQ hN hM e2
                    go_wp2_with fail
                    go_quiet (fail)
                    go_wp2
                    go_roundw
                    case rel => exact ⟨i + 1, by go_num, HIK.out, Lib.hid ⟨below_drewN HBI.out _, HE.out⟩⟩
                    case measure => have := HIK.out; simp [intOf]; omega
                  · have e5' : (nc == nc2) = false := by simpa using e5
                    have HD0 := Lib.hid (HNE.out (fun e => e5 (by injection e)))
                    clear HNE HEQ hN hM
                    go_wp2_with fail
                    go_quiet (fail)
                    go_wp2
                    go_ret
                    exact ⟨by rw [HD0.out]; rfl, below_drewN HBI.out _⟩
                · have e4' : (nb == nb2) = false := by simpa using e4
                  have HD0 := Lib.hid (HNE.out (fun e => e4 (by injection e)))
                  clear HNE HEQ hN hM
                  go_wp2_with fail
                  go_quiet (fail)
                  go_wp2
                  go_ret
                  exact ⟨by rw [HD0.out]; rfl, below_drewN HBI.out _⟩
              · have e3' : (na == na2) = false := by simpa using e3
                have HD0 := Lib.hid (HNE.out (fun e => e3 (by injection e)))
                clear HNE HEQ hN hM
                go_wp2_with fail
                go_quiet (fail)
                go_wp2
                go_ret
                exact ⟨by rw [HD0.out]; rfl, below_drewN HBI.out _⟩
            · have e2n : ¬ N.toList = M.toList := fun e => e2 (by have := congrArg id e; rw [Lib.toList_data, Lib.toList_data, hN, hM] at e; exact e)
              have e2' : (N.toList == M.toList) = false := beq_eq_false_iff_ne.2 e2n
              clear e2n
              have HD0 := Lib.hid (HNE.out (fun e => e2 (by injection e)))
              clear HNE HEQ hN hM
              go_wp2_with fail
              go_quiet (fail)
              go_wp2
              go_ret
              exact ⟨by rw [HD0.out]; rfl, below_drewN HBI.out _⟩
          · have e1' : (num == num2) = false := by simpa using e1
            have HD0 := Lib.hid (HNE.out (fun e => e1 (by injection e)))
            clear HNE HEQ hN hM
            go_wp2_with fail
            go_quiet (fail)
            go_wp2
            go_ret
            exact ⟨by rw [HD0.out]; rfl, below_drewN HBI.out _⟩
        · have e0' : (op == op2) = false := by simpa using e0
          have HD0 := Lib.hid (HNE.out (fun e => e0 (by injection e)))
          clear HNE HEQ hN hM
          go_wp2_with fail
          go_quiet (fail)
          go_wp2
          go_ret
          exact ⟨by rw [HD0.out]; rfl, below_drewN HBI.out _⟩
      · obtain rfl : i = l1.length := by omega
        have hik' : ¬ ((l1.length : Nat) : Int) < (l1.length : Int) := by omega
        have HE := Lib.hid (show R = true from by
          have h3 := HI.out.2
          rw [List.take_length, List.take_of_length_le (by rw [hll]; exact Nat.le_refl _)] at h3
          rw [HR.out]; exact decide_eq_true h3)
        clear hik
        go_wp2
        go_ret
        exact ⟨by rw [HE.out]; rfl, HI.out.1⟩
  · have hne : ((l1.length : Int) == (l2.length : Int)) = false := beq_eq_false_iff_ne.2 (by omega)
    have hne' : ((l1.length : Int) != (l2.length : Int)) = true := by simp [bne, hne]
    rw [decide_eq_false (fun e => hll (by rw [e]))]
    go_enter Tryz.func118, Tryz.ntmps118
    go_wp2
    go_ret
    exact ⟨rfl, Below.refl _ _⟩
set_option maxHeartbeats 2000000 in
set_option maxRecDepth 100000 in
theorem same_any (w : World) (A1 A2 : Option Addr) (c1 c2 : Nat) (l1 l2 : List Nd) (h1 : NdR w w.heap.size A1 l1) (h2 : NdR w w.heap.size A2 l2) (hc1 : l1.length ≤ c1) (hc2 : l2.length ≤ c2) (hn2 : l2.length ≤ 1000000) :
    Calls Tryz.prog 87 #[.agg #[.slice A1 l1.length c1], .agg #[.slice A2 l2.length c2]] w fun e w' => e = .returned (.bool (decide (l1 = l2))) ∧ Below w.heap.size w w' := by
  obtain ⟨W1, hW1⟩ : ∃ W1, W1 = (w.alloc (.cells #[.slice A1 l1.length c1] 78)).alloc (.cells #[.slice A2 l2.length c2] 78) := ⟨_, rfl⟩
  have hb1 : Below w.heap.size w W1 := by rw [hW1]; exact ((Below.refl _ _).alloc (Nat.le_refl _) _).alloc (by simp) _
  have HE := Lib.hid (equal_any W1 A1 A2 c1 c2 l1 l2 ((h1.below hb1).more hb1.size) ((h2.below hb1).more hb1.size) hc1 hc2 hn2)
  have HB1 := Lib.hid hb1
  have HW1 := Lib.hid hW1
  generalize decide (l1 = l2) = R at *
  clear hW1 hb1 h1 h2
  go_enter Tryz.func87, Tryz.ntmps87
  go_wp2_with fail
  rw [← HW1.out]
  refine HE.out.mono ?_
  rintro e w2 ⟨rfl, hb2⟩
  have HB2 := Lib.hid (HB1.out.trans (hb2.mono HB1.out.size))
  clear hb2
  go_wp2
  go_ret
  exact ⟨rfl, HB2.out⟩
end Go.Proofs.YtmmdigeciphglaaGreatDoor
