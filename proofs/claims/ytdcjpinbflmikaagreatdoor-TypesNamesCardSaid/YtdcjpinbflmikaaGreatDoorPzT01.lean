/- Facts and walks for the statement. -/
import Derived.Test.YtdcjpinbflmikaaGreatDoorPzT00
import Derived.Lib.ItoaNum
namespace Go.Proofs.YtdcjpinbflmikaaGreatDoor
namespace Ex
theorem at_lt {l : List Nd} {i : Nat} {n : Nd} (h : l[i]? = some n) : i < l.length := (List.getElem?_eq_some_iff.1 h).1
theorem mk_un {l : List Nd} {s op : Nat} {a : E} (h : At l s a) (hn : l[s + sz a]? = some ⟨op, 0, [], (s + sz a : Nat) - 1, -1, -1⟩) : At l s (.un op a) := by
  have h2 := at_lt hn
  refine ⟨?_, by simp only [sz]; omega⟩
  simp only [sz, flat]
  exact (At.split (B := [_]) (flat_len a s)).2 ⟨h.1, at_one.2 hn⟩
theorem mk_bin {l : List Nd} {s op : Nat} {a b : E} (ha : At l s a) (hb : At l (s + sz a) b) (hn : l[s + sz a + sz b]? = some ⟨op, 0, [], (s + sz a : Nat) - 1, (s + sz a + sz b : Nat) - 1, -1⟩) : At l s (.bin op a b) := by
  have h2 := at_lt hn
  refine ⟨?_, by simp only [sz]; omega⟩
  simp only [sz, flat]
  have q := (At.split (l := l) (B := flat b (s + sz a)) (flat_len a s)).2 ⟨ha.1, by rw [flat_len]; exact hb.1⟩
  rw [flat_len] at q
  refine (At.split (B := [_]) (n := sz a + sz b) (by rw [List.length_append, flat_len, flat_len])).2 ⟨q, at_one.2 ?_⟩
  rw [show s + (sz a + sz b) = s + sz a + sz b by omega]
  exact hn
theorem mk_ite {l : List Nd} {s : Nat} {a b c : E} (ha : At l s a) (hb : At l (s + sz a) b) (hc : At l (s + sz a + sz b) c) (hn : l[s + sz a + sz b + sz c]? = some ⟨22, 0, [], (s + sz a : Nat) - 1, (s + sz a + sz b : Nat) - 1, (s + sz a + sz b + sz c : Nat) - 1⟩) : At l s (.ite a b c) := by
  have h2 := at_lt hn
  refine ⟨?_, by simp only [sz]; omega⟩
  simp only [sz, flat]
  have q := (At.split (l := l) (B := flat b (s + sz a)) (flat_len a s)).2 ⟨ha.1, by rw [flat_len]; exact hb.1⟩
  rw [flat_len] at q
  have q2 := (At.split (l := l) (s := s) (n := sz a + sz b) (A := flat a s ++ flat b (s + sz a)) (B := flat c (s + sz a + sz b)) (by rw [List.length_append, flat_len, flat_len])).2 ⟨q, by rw [flat_len, show s + (sz a + sz b) = s + sz a + sz b by omega]; exact hc.1⟩
  rw [flat_len] at q2
  refine (At.split (B := [_]) (n := sz a + sz b + sz c) (by rw [List.length_append, List.length_append, flat_len, flat_len, flat_len])).2 ⟨q2, at_one.2 ?_⟩
  rw [show s + (sz a + sz b + sz c) = s + sz a + sz b + sz c by omega]
  exact hn
theorem mk_leaf {l : List Nd} {s : Nat} {x : E} (hs : sz x = 1) {n : Nd} (hf : flat x s = [n]) (hn : l[s]? = some n) : At l s x := by
  have h2 := at_lt hn
  exact ⟨by rw [hs, hf]; exact at_one.2 hn, by omega⟩
def Told (l : List Nd) (last v : Int) : Prop := ∃ (x : E) (s : Nat), v = s ∧ last = (s + sz x : Nat) - 1 ∧ At l s x ∧ wr x
theorem bg_tells {l : List Nd} : ∀ (f : Nat) (at_ : Int), 0 ≤ bg f l at_ → Told l at_ (bg f l at_)
  | 0, _, h => absurd h (by unfold bg; omega)
  | f + 1, at_, h => by
    have ih := bg_tells (l := l) f
    by_cases hneg : at_ < 0
    · exfalso; unfold bg at h; rw [if_pos hneg] at h; omega
    · obtain ⟨i, rfl⟩ : ∃ i : Nat, at_ = i := ⟨at_.toNat, by omega⟩
      cases hn : l[i]? with
      | none => exfalso; unfold bg at h; rw [if_neg hneg] at h; simp only [Int.toNat_natCast, hn] at h; omega
      | some n =>
        cases hr : right n with
        | false => exfalso; unfold bg at h; rw [if_neg hneg] at h; simp only [Int.toNat_natCast, hn] at h; rw [if_pos hr] at h; omega
        | true =>
          cases p2 : part (bg f l) (parts n.op) 2 n.c ((i : Int) - 1) with
          | none => exfalso; unfold bg at h; rw [if_neg hneg] at h; simp only [Int.toNat_natCast, hn] at h; rw [if_neg (by rw [hr]; decide)] at h; simp only [p2] at h; omega
          | some l2 =>
            cases p1 : part (bg f l) (parts n.op) 1 n.b l2 with
            | none => exfalso; unfold bg at h; rw [if_neg hneg] at h; simp only [Int.toNat_natCast, hn] at h; rw [if_neg (by rw [hr]; decide)] at h; simp only [p2, p1] at h; omega
            | some l1 =>
              cases p0 : part (bg f l) (parts n.op) 0 n.a l1 with
              | none => exfalso; unfold bg at h; rw [if_neg hneg] at h; simp only [Int.toNat_natCast, hn] at h; rw [if_neg (by rw [hr]; decide)] at h; simp only [p2, p1, p0] at h; omega
              | some l0 =>
                rw [bg_step hn hr p2 p1 p0]
                clear h hneg
                obtain ⟨op, num, nm, a, b, c⟩ := n
                unfold right at hr
                simp only [Bool.and_eq_true, decide_eq_true_iff, Bool.or_eq_true] at hr p2 p1 p0
                obtain ⟨⟨⟨⟨r1, r2⟩, r3⟩, r4⟩, r5⟩ := hr
                by_cases c4 : op ≤ 4
                · have hp : parts op = 0 := by unfold parts; rw [if_pos c4]
                  rw [hp] at p2 p1 p0
                  rcases part_ok p2 with ⟨_, rfl, rfl⟩ | ⟨q, _⟩
                  · rcases part_ok p1 with ⟨_, rfl, rfl⟩ | ⟨q, _⟩
                    · rcases part_ok p0 with ⟨_, rfl, rfl⟩ | ⟨q, _⟩
                      · by_cases o1 : op = 1
                        · subst o1
                          rw [if_neg (by decide)] at r5
                          have r5 := of_decide_eq_true r5
                          subst r5
                          obtain ⟨k, rfl⟩ : ∃ k : Nat, num = k := ⟨num.toNat, by omega⟩
                          exact ⟨.num k, i, by omega, by simp only [sz]; omega, mk_leaf rfl rfl hn, True.intro⟩
                        · have r3 : num = 0 := by rcases r3 with e | e; · exact absurd e o1
                                                  · exact e
                          subst r3
                          by_cases o2 : op = 2
                          · subst o2
                            rw [if_pos rfl] at r5
                            exact ⟨.name nm, i, by omega, by simp only [sz]; omega, mk_leaf rfl rfl hn, (show Lx.is nm = 2 from of_decide_eq_true r5)⟩
                          · rw [if_neg o2] at r5
                            have r5 := of_decide_eq_true r5
                            subst r5
                            by_cases o3 : op = 3
                            · subst o3
                              exact ⟨.tt, i, by omega, by simp only [sz]; omega, mk_leaf rfl rfl hn, True.intro⟩
                            · obtain rfl : op = 4 := by omega
                              exact ⟨.ff, i, by omega, by simp only [sz]; omega, mk_leaf rfl rfl hn, True.intro⟩
                      · omega
                    · omega
                  · omega
                · have r3 : num = 0 := by rcases r3 with e | e; · omega
                                          · exact e
                  subst r3
                  rw [if_neg (by omega)] at r5
                  have r5 := of_decide_eq_true r5
                  subst r5
                  by_cases c6 : op ≤ 6
                  · have hp : parts op = 1 := by unfold parts; rw [if_neg c4, if_pos c6]
                    rw [hp] at p2 p1 p0
                    rcases part_ok p2 with ⟨_, rfl, rfl⟩ | ⟨q, _⟩
                    · rcases part_ok p1 with ⟨_, rfl, rfl⟩ | ⟨q, _⟩
                      · rcases part_ok p0 with ⟨q, _⟩ | ⟨_, rfl, ga, rfl⟩
                        · omega
                        · obtain ⟨xa, sa, ea, fa, ta, wa⟩ := ih _ ga
                          obtain ⟨o, rfl⟩ : ∃ o : Nat, op = o := ⟨op.toNat, by omega⟩
                          have hi : i = sa + sz xa := by omega
                          subst hi
                          exact ⟨.un o xa, sa, by omega, by simp only [sz]; omega, mk_un ta hn, by omega, wa⟩
                      · omega
                    · omega
                  · by_cases c21 : op ≤ 21
                    · have hp : parts op = 2 := by unfold parts; rw [if_neg c4, if_neg c6, if_pos c21]
                      rw [hp] at p2 p1 p0
                      rcases part_ok p2 with ⟨_, rfl, rfl⟩ | ⟨q, _⟩
                      · rcases part_ok p1 with ⟨q, _⟩ | ⟨_, rfl, gb, rfl⟩
                        · omega
                        · rcases part_ok p0 with ⟨q, _⟩ | ⟨_, rfl, ga, rfl⟩
                          · omega
                          · obtain ⟨xb, sb, eb, fb, tb, wb⟩ := ih _ gb
                            rw [eb] at ga hn ⊢
                            obtain ⟨xa, sa, ea, fa, ta, wa⟩ := ih _ ga
                            obtain ⟨o, rfl⟩ : ∃ o : Nat, op = o := ⟨op.toNat, by omega⟩
                            have hs : sb = sa + sz xa := by omega
                            subst hs
                            have hi : i = sa + sz xa + sz xb := by omega
                            subst hi
                            exact ⟨.bin o xa xb, sa, by omega, by simp only [sz]; omega, mk_bin ta tb hn, by omega, by omega, wa, wb⟩
                      · omega
                    · obtain rfl : op = 22 := by omega
                      rcases part_ok p2 with ⟨q, _⟩ | ⟨_, rfl, gc, rfl⟩
                      · exact absurd q (by decide)
                      · rcases part_ok p1 with ⟨q, _⟩ | ⟨_, rfl, gb, rfl⟩
                        · exact absurd q (by decide)
                        · rcases part_ok p0 with ⟨q, _⟩ | ⟨_, rfl, ga, rfl⟩
                          · exact absurd q (by decide)
                          · obtain ⟨xc, sc, ec, fc, tc, wc⟩ := ih _ gc
                            rw [ec] at gb ga hn ⊢
                            obtain ⟨xb, sb, eb, fb, tb, wb⟩ := ih _ gb
                            rw [eb] at ga hn ⊢
                            obtain ⟨xa, sa, ea, fa, ta, wa⟩ := ih _ ga
                            have hs : sb = sa + sz xa := by omega
                            subst hs
                            have hs2 : sc = sa + sz xa + sz xb := by omega
                            subst hs2
                            have hi : i = sa + sz xa + sz xb + sz xc := by omega
                            subst hi
                            exact ⟨.ite xa xb xc, sa, by omega, by simp only [sz]; omega, mk_ite ta tb tc hn, wa, wb, wc⟩
end Ex
end Go.Proofs.YtdcjpinbflmikaaGreatDoor
namespace Go.Proofs.YtdcjpinbflmikaaGreatDoor
namespace Ex
theorem nx_nil {ts : List Tk} (h : nx ts ≠ []) : ts ≠ [] := fun e => h (by rw [e]; rfl)
theorem tail_lt {ts : List Tk} (h : ts ≠ []) : ts.tail.length + 1 = ts.length := by
  cases ts with
  | nil => exact absurd rfl h
  | cons _ _ => rfl
theorem of2_nx {n : Nat} {s : List UInt8} (h : of2 n s ≠ 0) : s ≠ [] := fun e => h (by
  subst e
  unfold of2
  generalize ((List.range 15).map (· + 7)) = l
  induction l with
  | nil => rfl
  | cons a r ih => rw [List.foldr_cons, if_neg (by simp)]; exact ih)
def one : Md → Nat
  | .loop _ _ => 0
  | _ => 1
theorem then2_ok {x : Rs} {f : List Tk → E → Rs} {r : List Tk} {a : E} (h : then2 x f = .ok r a) : ∃ r1 a1, x = .ok r1 a1 ∧ f r1 a1 = .ok r a := by
  cases x with
  | bad l e => cases h
  | ok r1 a1 => exact ⟨r1, a1, rfl, h⟩
theorem eat_ok {s : List UInt8} (hs : s ≠ []) {r : List Tk} {f : List Tk → Rs} {r2 : List Tk} {a : E} (h : eat s r f = .ok r2 a) : nx r = s ∧ r.tail.length + 1 = r.length ∧ f r.tail = .ok r2 a := by
  unfold eat at h
  split at h
  · rename_i hn
    exact ⟨hn, tail_lt (nx_nil (by rw [hn]; exact hs)), h⟩
  · cases h
theorem rd_less : ∀ (f : Nat) (m : Md) (ts r : List Tk) (x : E), rd f m ts = .ok r x → r.length + one m ≤ ts.length
  | 0, _, _, _, _, h => by cases h
  | f + 1, .lev n, ts, r, x, h => by
    unfold rd at h
    split at h
    · have := rd_less f _ _ _ _ h
      simpa [one] using this
    · split at h
      · have := rd_less f _ _ _ _ h
        simpa [one] using this
      · obtain ⟨r1, a1, h1, h2⟩ := then2_ok h
        have e1 := rd_less f _ _ _ _ h1
        have e2 := rd_less f _ _ _ _ h2
        simp only [one] at e1 e2 ⊢
        omega
  | f + 1, .loop n a, ts, r, x, h => by
    unfold rd at h
    split at h
    · cases h; simp [one]
    · rename_i ho
      have hl := tail_lt (nx_nil (of2_nx ho))
      obtain ⟨r1, a1, h1, h2⟩ := then2_ok h
      have e1 := rd_less f _ _ _ _ h1
      have e2 := rd_less f _ _ _ _ h2
      simp only [one] at e1 e2 ⊢
      omega
  | f + 1, .una, ts, r, x, h => by
    unfold rd at h
    split at h
    · rename_i ho
      have hl := tail_lt (nx_nil (ts := ts) (by rw [ho]; simp))
      obtain ⟨r1, a1, h1, h2⟩ := then2_ok h
      have e1 := rd_less f _ _ _ _ h1
      cases h2
      simp only [one] at e1 ⊢
      omega
    · split at h
      · rename_i ho
        have hl := tail_lt (nx_nil (ts := ts) (by rw [ho]; simp))
        obtain ⟨r1, a1, h1, h2⟩ := then2_ok h
        have e1 := rd_less f _ _ _ _ h1
        cases h2
        simp only [one] at e1 ⊢
        omega
      · have := rd_less f _ _ _ _ h
        simpa [one] using this
  | f + 1, .pri, ts, r, x, h => by
    have hl : nx ts ≠ [] → ts.tail.length + 1 = ts.length := fun h => tail_lt (nx_nil h)
    unfold rd at h
    simp only [one]
    split at h
    · rename_i ho
      obtain ⟨r1, a1, h1, h2⟩ := then2_ok h
      obtain ⟨_, e3, e4⟩ := eat_ok (by simp) h2
      have e1 := rd_less f _ _ _ _ h1
      cases e4
      simp only [one] at e1
      have := hl (by rw [ho]; simp)
      omega
    · split at h
      · have := rd_less f _ _ _ _ h
        simpa [one] using this
      · split at h
        · rename_i ho; cases h; have := hl (by rw [ho]; simp); omega
        · split at h
          · rename_i ho; cases h; have := hl (by rw [ho]; simp); omega
          · split at h
            · rename_i ho
              split at h
              · cases h; have := hl ho.1; omega
              · cases h
            · split at h
              · rename_i ho; cases h; have := hl ho.1; omega
              · cases h
  | f + 1, .bra, ts, r, x, h => by
    unfold rd at h
    simp only [one]
    obtain ⟨r1, a1, h1, h2⟩ := then2_ok h
    obtain ⟨_, e3, h3⟩ := eat_ok (by simp) h2
    obtain ⟨r4, a4, h4, h5⟩ := then2_ok h3
    obtain ⟨_, e6, h6⟩ := eat_ok (by simp) h5
    obtain ⟨r7, a7, h7, h8⟩ := then2_ok h6
    obtain ⟨_, e9, h9⟩ := eat_ok (by simp) h8
    have q1 := rd_less f _ _ _ _ h1
    have q4 := rd_less f _ _ _ _ h4
    have q7 := rd_less f _ _ _ _ h7
    cases h9
    simp only [one, List.length_tail] at q1 q4 q7 e3 e6 e9 ⊢
    omega
theorem then2_cong {x y : Rs} {f g : List Tk → E → Rs} (h : x = y) (hf : ∀ r a, y = .ok r a → f r a = g r a) : then2 x f = then2 y g := by
  subst h
  cases x with
  | bad l e => rfl
  | ok r a => exact hf r a rfl
theorem eat_cong {s : List UInt8} (hs : s ≠ []) {r : List Tk} {f g : List Tk → Rs} (hf : r.tail.length + 1 = r.length → f r.tail = g r.tail) : eat s r f = eat s r g := by
  unfold eat
  split
  · rename_i hn
    exact hf (tail_lt (nx_nil (by rw [hn]; exact hs)))
  · rfl
def okm : Md → List Tk → Prop
  | .lev n, _ => n ≤ 10
  | .loop n _, _ => n ≤ 8
  | .bra, ts => ts ≠ []
  | _, _ => True
theorem rd_fuel : ∀ (f g : Nat) (m : Md) (ts : List Tk), okm m ts → need m ts < f → need m ts < g → rd f m ts = rd g m ts
  | 0, _, _, _, _, h, _ => absurd h (Nat.not_lt_zero _)
  | _, 0, _, _, _, _, h => absurd h (Nat.not_lt_zero _)
  | f + 1, g + 1, m, ts, ho, hf, hg => by
    have ih := rd_fuel f g
    have hb : ∀ (m' : Md) (ts' : List Tk), okm m' ts' → need m' ts' < need m ts → rd f m' ts' = rd g m' ts' := fun m' ts' h0 h => ih m' ts' h0 (by omega) (by omega)
    cases m with
    | lev n =>
      simp only [okm] at ho
      unfold rd
      split
      · rename_i h; subst h; exact hb _ _ True.intro (by simp [need, rank])
      · split
        · rename_i h; subst h; exact hb _ _ True.intro (by simp [need, rank])
        · refine then2_cong (hb _ _ (by simp only [okm]; omega) (by simp only [need, rank]; omega)) fun r a hr => hb _ _ (by simp only [okm]; omega) ?_
          have := rd_less _ _ _ _ _ hr
          simp only [one] at this
          simp only [need, rank]
          omega
    | loop n a =>
      simp only [okm] at ho
      unfold rd
      split
      · rfl
      · rename_i hop
        have hl := tail_lt (nx_nil (of2_nx hop))
        refine then2_cong (hb _ _ (by simp only [okm]; omega) (by simp only [need, rank]; omega)) fun r b hr => hb _ _ (by simp only [okm]; omega) ?_
        have := rd_less _ _ _ _ _ hr
        simp only [one] at this
        simp only [need, rank]
        omega
    | una =>
      unfold rd
      have hl : nx ts ≠ [] → ts.tail.length + 1 = ts.length := fun h => tail_lt (nx_nil h)
      split
      · rename_i hop
        have := hl (by rw [hop]; simp)
        exact then2_cong (hb _ _ True.intro (by simp only [need, rank]; omega)) fun r b hr => rfl
      · split
        · rename_i hop
          have := hl (by rw [hop]; simp)
          exact then2_cong (hb _ _ True.intro (by simp only [need, rank]; omega)) fun r b hr => rfl
        · exact hb _ _ True.intro (by simp only [need, rank]; omega)
    | pri =>
      unfold rd
      have hl : nx ts ≠ [] → ts.tail.length + 1 = ts.length := fun h => tail_lt (nx_nil h)
      split
      · rename_i hop
        have := hl (by rw [hop]; simp)
        exact then2_cong (hb _ _ (by simp [okm]) (by simp only [need, rank]; omega)) fun r b hr => rfl
      · split
        · rename_i hop
          exact hb _ _ (nx_nil (by rw [hop]; simp)) (by simp only [need, rank]; omega)
        · rfl
    | bra =>
      unfold rd
      have hl := tail_lt (show ts ≠ [] from ho)
      refine then2_cong (hb _ _ (by simp [okm]) (by simp only [need, rank]; omega)) fun r a hr => eat_cong (by simp) fun h1 => ?_
      have q1 := rd_less _ _ _ _ _ hr
      simp only [one] at q1
      refine then2_cong (hb _ _ (by simp [okm]) (by simp only [need, rank]; omega)) fun r2 b hr2 => eat_cong (by simp) fun h2 => ?_
      have q2 := rd_less _ _ _ _ _ hr2
      simp only [one] at q2
      exact then2_cong (hb _ _ (by simp [okm]) (by simp only [need, rank]; omega)) fun r3 c hr3 => rfl
end Ex
end Go.Proofs.YtdcjpinbflmikaaGreatDoor
namespace Go.Proofs.YtdcjpinbflmikaaGreatDoor
namespace Ex
def R (m : Md) (ts : List Tk) : Rs := rd (need m ts + 1) m ts
theorem R_of {f : Nat} {m : Md} {ts : List Tk} (ho : okm m ts) (h : need m ts < f) : rd f m ts = R m ts := rd_fuel _ _ m ts ho h (Nat.lt_succ_self _)
theorem R_lev {n : Nat} (h : n ≤ 8) (ts : List Tk) : R (.lev n) ts = then2 (R (.lev (n + 1)) ts) (fun r a => R (.loop n a) r) := by
  conv => lhs; unfold R rd
  rw [if_neg (by omega), if_neg (by omega)]
  refine then2_cong (R_of (by simp only [okm]; omega) (by simp only [need, rank]; omega)) fun r a hr => R_of (by simp only [okm]; omega) ?_
  have := rd_less _ _ _ _ _ hr
  simp only [one] at this
  simp only [need, rank]
  omega
theorem R_9 (ts : List Tk) : R (.lev 9) ts = R .una ts := by
  conv => lhs; unfold R rd
  rw [if_neg (by decide), if_pos rfl]
  exact R_of True.intro (by simp only [need, rank]; omega)
theorem R_10 (ts : List Tk) : R (.lev 10) ts = R .pri ts := by
  conv => lhs; unfold R rd
  rw [if_pos rfl]
  exact R_of True.intro (by simp only [need, rank]; omega)
theorem R_loop0 {n : Nat} {a : E} {ts : List Tk} (h : of2 n (nx ts) = 0) : R (.loop n a) ts = .ok ts a := by
  unfold R rd
  rw [if_pos h]
theorem R_loop {n : Nat} {a : E} {ts : List Tk} (hn : n ≤ 8) (h : of2 n (nx ts) ≠ 0) : R (.loop n a) ts = then2 (R (.lev (n + 1)) ts.tail) (fun r b => R (.loop n (.bin (of2 n (nx ts)) a b)) r) := by
  have hl := tail_lt (nx_nil (of2_nx h))
  conv => lhs; unfold R rd
  rw [if_neg h]
  refine then2_cong (R_of (by simp only [okm]; omega) (by simp only [need, rank]; omega)) fun r b hr => R_of (by simp only [okm]; omega) ?_
  have := rd_less _ _ _ _ _ hr
  simp only [one] at this
  simp only [need, rank]
  omega
theorem R_una5 {ts : List Tk} (h : nx ts = [45]) : R .una ts = then2 (R .una ts.tail) (fun r a => .ok r (.un 5 a)) := by
  have hl := tail_lt (nx_nil (ts := ts) (by rw [h]; simp))
  conv => lhs; unfold R rd
  rw [if_pos h]
  exact then2_cong (R_of True.intro (by simp only [need, rank]; omega)) fun _ _ _ => rfl
theorem R_una6 {ts : List Tk} (h : nx ts = [110, 111, 116]) : R .una ts = then2 (R .una ts.tail) (fun r a => .ok r (.un 6 a)) := by
  have hl := tail_lt (nx_nil (ts := ts) (by rw [h]; simp))
  conv => lhs; unfold R rd
  rw [if_neg (by rw [h]; decide), if_pos h]
  exact then2_cong (R_of True.intro (by simp only [need, rank]; omega)) fun _ _ _ => rfl
theorem R_unap {ts : List Tk} (h5 : nx ts ≠ [45]) (h6 : nx ts ≠ [110, 111, 116]) : R .una ts = R .pri ts := by
  conv => lhs; unfold R rd
  rw [if_neg h5, if_neg h6]
  exact R_of True.intro (by simp only [need, rank]; omega)
theorem R_par {ts : List Tk} (h : nx ts = [40]) : R .pri ts = then2 (R (.lev 1) ts.tail) (fun r a => eat [41] r (fun r => .ok r a)) := by
  have hl := tail_lt (nx_nil (ts := ts) (by rw [h]; simp))
  conv => lhs; unfold R rd
  rw [if_pos h]
  exact then2_cong (R_of (by simp [okm]) (by simp only [need, rank]; omega)) fun _ _ _ => rfl
theorem R_if {ts : List Tk} (h : nx ts = [105, 102]) : R .pri ts = R .bra ts := by
  conv => lhs; unfold R rd
  rw [if_neg (by rw [h]; decide), if_pos h]
  exact R_of (nx_nil (by rw [h]; simp)) (by simp only [need, rank]; omega)
theorem R_bra {ts : List Tk} (h : ts ≠ []) : R .bra ts = then2 (R (.lev 1) ts.tail) (fun r a => eat [116, 104, 101, 110] r (fun r =>
      then2 (R (.lev 1) r) (fun r b => eat [101, 108, 115, 101] r (fun r =>
        then2 (R (.lev 1) r) (fun r c => eat [101, 110, 100, 105, 102] r (fun r => .ok r (.ite a b c))))))) := by
  have hl := tail_lt h
  conv => lhs; unfold R rd
  refine then2_cong (R_of (by simp [okm]) (by simp only [need, rank]; omega)) fun r a hr => eat_cong (by simp) fun h1 => ?_
  have q1 := rd_less _ _ _ _ _ hr
  simp only [one] at q1
  refine then2_cong (R_of (by simp [okm]) (by simp only [need, rank]; omega)) fun r2 b hr2 => eat_cong (by simp) fun h2 => ?_
  have q2 := rd_less _ _ _ _ _ hr2
  simp only [one] at q2
  exact then2_cong (R_of (by simp [okm]) (by simp only [need, rank]; omega)) fun r3 c hr3 => rfl
/-! ### how one is written -/
def tok (op : Nat) : Tk := (Lx.is (opS op), opS op)
def wT (s : List UInt8) : Tk := (3, s)
def dg (n : Nat) : List UInt8 := Lib.decDigits n
def pr : E → Nat → List Tk
  | .num n, _ => [(1, dg n)]
  | .name s, _ => [(2, s)]
  | .tt, _ => [wT [116, 114, 117, 101]]
  | .ff, _ => [wT [102, 97, 108, 115, 101]]
  | .un op a, L => if lvl op < L then (4, [40]) :: (tok op :: pr a 9) ++ [(4, [41])] else tok op :: pr a 9
  | .bin op a b, L => if lvl op < L then (4, [40]) :: (pr a (lvl op) ++ tok op :: pr b (lvl op + 1)) ++ [(4, [41])] else pr a (lvl op) ++ tok op :: pr b (lvl op + 1)
  | .ite a b c, _ => wT [105, 102] :: pr a 0 ++ wT [116, 104, 101, 110] :: pr b 0 ++ wT [101, 108, 115, 101] :: pr c 0 ++ [wT [101, 110, 100, 105, 102]]
def wf : E → Prop
  | .num n => numv (dg n) = some n ∧ Lx.is (dg n) = 1
  | .name s => Lx.is s = 2
  | .tt => True
  | .ff => True
  | .un op a => (op = 5 ∨ op = 6) ∧ wf a
  | .bin op a b => 7 ≤ op ∧ op ≤ 21 ∧ wf a ∧ wf b
  | .ite a b c => wf a ∧ wf b ∧ wf c
theorem ops_all : ∀ op : Fin 22, 7 ≤ op.1 → of2 (lvl op.1) (opS op.1) = op.1 ∧ 1 ≤ lvl op.1 ∧ lvl op.1 ≤ 8 ∧ ∀ m : Fin 9, m.1 ≠ lvl op.1 → of2 m.1 (opS op.1) = 0 := by decide
end Ex
end Go.Proofs.YtdcjpinbflmikaaGreatDoor
namespace Go.Proofs.YtdcjpinbflmikaaGreatDoor
namespace Ex
theorem of2_tells {n : Nat} {s : List UInt8} (h : of2 n s ≠ 0) : 7 ≤ of2 n s ∧ of2 n s ≤ 21 ∧ lvl (of2 n s) = n ∧ opS (of2 n s) = s := by
  unfold of2 at h ⊢
  have hm : ∀ op ∈ (List.range 15).map (· + 7), 7 ≤ op ∧ op ≤ 21 := by decide
  generalize (List.range 15).map (· + 7) = l at *
  induction l with
  | nil => exact absurd rfl h
  | cons a r ih =>
    rw [List.foldr_cons] at h ⊢
    by_cases hc : s ≠ [] ∧ opS a = s ∧ lvl a = n
    · rw [if_pos hc]
      have := hm a List.mem_cons_self
      exact ⟨this.1, this.2, hc.2.2, hc.2.1⟩
    · rw [if_neg hc] at h ⊢
      exact ih h (fun op ho => hm op (List.mem_cons_of_mem _ ho))
theorem pr_mono (x : E) {L L' : Nat} (h : L ≤ L') : (pr x L).length ≤ (pr x L').length := by
  cases x with
  | un op a =>
    unfold pr
    split <;> split <;> simp <;> omega
  | bin op a b =>
    unfold pr
    split <;> split <;> simp <;> omega
  | _ => exact Nat.le_refl _
theorem pr_most (x : E) (L : Nat) : (pr x L).length ≤ (pr x 0).length + 2 := by
  cases x with
  | un op a =>
    unfold pr
    split <;> split <;> simp <;> omega
  | bin op a b =>
    unfold pr
    split <;> split <;> simp <;> omega
  | _ => exact Nat.le_add_right _ _
theorem pr_bin {op n : Nat} (h : lvl op = n) (a b : E) : (pr (.bin op a b) n).length = (pr a n).length + 1 + (pr b (n + 1)).length := by
  subst h
  conv => lhs; unfold pr
  rw [if_neg (Nat.lt_irrefl _), List.length_append, List.length_cons]; omega
theorem pr_un {op : Nat} (h : lvl op = 9) (a : E) : (pr (.un op a) 9).length = 1 + (pr a 9).length := by
  conv => lhs; unfold pr
  rw [if_neg (by omega), List.length_cons]; omega
def Long (m : Md) (ts r : List Tk) (x : E) : Prop := match m with
  | .lev n => (pr x n).length + r.length ≤ ts.length
  | .loop n a => (pr x n).length + r.length ≤ ts.length + (pr a n).length
  | .una => (pr x 9).length + r.length ≤ ts.length
  | .pri => (pr x 10).length + r.length ≤ ts.length
  | .bra => (pr x 10).length + r.length ≤ ts.length
theorem rd_long : ∀ (f : Nat) (m : Md) (ts r : List Tk) (x : E), okm m ts → rd f m ts = .ok r x → Long m ts r x
  | 0, _, _, _, _, _, h => by cases h
  | f + 1, .lev n, ts, r, x, ho, h => by
    simp only [okm] at ho
    unfold rd at h
    split at h
    · rename_i e; subst e
      exact rd_long f .pri _ _ _ True.intro h
    · split at h
      · rename_i e; subst e
        exact rd_long f .una _ _ _ True.intro h
      · obtain ⟨r1, a1, h1, h2⟩ := then2_ok h
        have e1 := rd_long f (.lev (n + 1)) _ _ _ (by simp only [okm]; omega) h1
        have e2 := rd_long f (.loop n a1) _ _ _ (by simp only [okm]; omega) h2
        have e3 := pr_mono a1 (Nat.le_succ n)
        simp only [Long] at e1 e2 ⊢
        simp only [Nat.succ_eq_add_one] at e3
        omega
  | f + 1, .loop n a, ts, r, x, ho, h => by
    simp only [okm] at ho
    unfold rd at h
    split at h
    · cases h; simp only [Long]; omega
    · rename_i hop
      have hl := tail_lt (nx_nil (of2_nx hop))
      obtain ⟨_, _, t3, _⟩ := of2_tells hop
      obtain ⟨r1, b1, h1, h2⟩ := then2_ok h
      have e1 := rd_long f (.lev (n + 1)) _ _ _ (by simp only [okm]; omega) h1
      have e2 := rd_long f (.loop n (.bin (of2 n (nx ts)) a b1)) _ _ _ (by simp only [okm]; omega) h2
      have e3 := pr_bin t3 a b1
      simp only [Long] at e1 e2 ⊢
      omega
  | f + 1, .una, ts, r, x, _, h => by
    have hl : nx ts ≠ [] → ts.tail.length + 1 = ts.length := fun h => tail_lt (nx_nil h)
    unfold rd at h
    split at h
    · rename_i hop
      have := hl (by rw [hop]; simp)
      obtain ⟨r1, a1, h1, h2⟩ := then2_ok h
      have e1 := rd_long f .una _ _ _ True.intro h1
      cases h2
      have e3 := pr_un (op := 5) rfl a1
      simp only [Long] at e1 ⊢
      omega
    · split at h
      · rename_i hop
        have := hl (by rw [hop]; simp)
        obtain ⟨r1, a1, h1, h2⟩ := then2_ok h
        have e1 := rd_long f .una _ _ _ True.intro h1
        cases h2
        have e3 := pr_un (op := 6) rfl a1
        simp only [Long] at e1 ⊢
        omega
      · have e1 := rd_long f .pri _ _ _ True.intro h
        have e3 := pr_mono x (show 9 ≤ 10 by decide)
        simp only [Long] at e1 ⊢
        omega
  | f + 1, .pri, ts, r, x, _, h => by
    have hl : nx ts ≠ [] → ts.tail.length + 1 = ts.length := fun h => tail_lt (nx_nil h)
    unfold rd at h
    simp only [Long]
    split at h
    · rename_i hop
      obtain ⟨r1, a1, h1, h2⟩ := then2_ok h
      obtain ⟨_, e3, e4⟩ := eat_ok (by simp) h2
      have e1 := rd_long f (.lev 1) _ _ _ (by simp [okm]) h1
      cases e4
      have := hl (by rw [hop]; simp)
      have q1 := pr_most x 10
      have q2 := pr_mono x (show 0 ≤ 1 by decide)
      simp only [Long] at e1
      omega
    · split at h
      · rename_i hop
        exact rd_long f .bra _ _ _ (nx_nil (by rw [hop]; simp)) h
      · split at h
        · rename_i hop; cases h; have := hl (by rw [hop]; simp); simp [pr]; omega
        · split at h
          · rename_i hop; cases h; have := hl (by rw [hop]; simp); simp [pr]; omega
          · split at h
            · rename_i hop
              split at h
              · cases h; have := hl hop.1; simp [pr]; omega
              · cases h
            · split at h
              · rename_i hop; cases h; have := hl hop.1; simp [pr]; omega
              · cases h
  | f + 1, .bra, ts, r, x, ho, h => by
    have hl := tail_lt (show ts ≠ [] from ho)
    unfold rd at h
    simp only [Long]
    obtain ⟨r1, a1, h1, h2⟩ := then2_ok h
    obtain ⟨_, e3, h3⟩ := eat_ok (by simp) h2
    obtain ⟨r4, a4, h4, h5⟩ := then2_ok h3
    obtain ⟨_, e6, h6⟩ := eat_ok (by simp) h5
    obtain ⟨r7, a7, h7, h8⟩ := then2_ok h6
    obtain ⟨_, e9, h9⟩ := eat_ok (by simp) h8
    have q1 := rd_long f (.lev 1) _ _ _ (by simp [okm]) h1
    have q4 := rd_long f (.lev 1) _ _ _ (by simp [okm]) h4
    have q7 := rd_long f (.lev 1) _ _ _ (by simp [okm]) h7
    have m1 := pr_mono a1 (show 0 ≤ 1 by decide)
    have m4 := pr_mono a4 (show 0 ≤ 1 by decide)
    have m7 := pr_mono a7 (show 0 ≤ 1 by decide)
    cases h9
    simp only [Long] at q1 q4 q7
    simp only [pr, List.length_append, List.length_cons, List.length_nil]
    omega
theorem least {ts : List Tk} {x : E} (h : R (.lev 1) ts = .ok [] x) : (pr x 0).length ≤ ts.length := by
  have h1 := rd_long _ (.lev 1) _ _ _ (by simp [okm]) h
  have h2 := pr_mono x (show 0 ≤ 1 by decide)
  simp only [Long, List.length_nil] at h1
  omega
end Ex
end Go.Proofs.YtdcjpinbflmikaaGreatDoor
