/- Plain facts on expressions: a row that is told to be an expression's is one's. No program is named here; no condition. -/
import Derived.Test.YtdcjpinbflmikaaGreatDoorExRow
namespace Go.Proofs.YtdcjpinbflmikaaGreatDoor
namespace Ex

theorem at_lt {l : List Nd} {i : Nat} {n : Nd} (h : l[i]? = some n) : i < l.length := (List.getElem?_eq_some_iff.1 h).1
theorem mk_un {l : List Nd} {s op : Nat} {a : E} (h : At l s a) (hn : l[s + sz a]? = some ⟨op, 0, [], (s + sz a : Nat) - 1, -1, -1⟩) : At l s (.un op a) := by
  have h2 := at_lt hn
  refine ⟨?_, by simp only [sz]; omega⟩
  simp only [sz, flat]
  exact (At.split (B := [_]) (flat_len a s)).2 ⟨h.1, at_one.2 hn⟩
theorem mk_bin {l : List Nd} {s op : Nat} {a b : E} (ha : At l s a) (hb : At l (s + sz a) b) (hn : l[s + sz a + sz b]? = some ⟨op, 0, [], (s + sz a : Nat) - 1, (s + sz a + sz b : Nat) - 1, -1⟩) : At l s (.bin op a b) := by
  have h2 := at_lt hn
  refine ⟨?_, by simp only [sz]; omega⟩
  simp only [sz, flat]
  have q := (At.split (l := l) (B := flat b (s + sz a)) (flat_len a s)).2 ⟨ha.1, by rw [flat_len]; exact hb.1⟩
  rw [flat_len] at q
  refine (At.split (B := [_]) (n := sz a + sz b) (by rw [List.length_append, flat_len, flat_len])).2 ⟨q, at_one.2 ?_⟩
  rw [show s + (sz a + sz b) = s + sz a + sz b by omega]
  exact hn
theorem mk_ite {l : List Nd} {s : Nat} {a b c : E} (ha : At l s a) (hb : At l (s + sz a) b) (hc : At l (s + sz a + sz b) c) (hn : l[s + sz a + sz b + sz c]? = some ⟨22, 0, [], (s + sz a : Nat) - 1, (s + sz a + sz b : Nat) - 1, (s + sz a + sz b + sz c : Nat) - 1⟩) : At l s (.ite a b c) := by
  have h2 := at_lt hn
  refine ⟨?_, by simp only [sz]; omega⟩
  simp only [sz, flat]
  have q := (At.split (l := l) (B := flat b (s + sz a)) (flat_len a s)).2 ⟨ha.1, by rw [flat_len]; exact hb.1⟩
  rw [flat_len] at q
  have q2 := (At.split (l := l) (s := s) (n := sz a + sz b) (A := flat a s ++ flat b (s + sz a)) (B := flat c (s + sz a + sz b)) (by rw [List.length_append, flat_len, flat_len])).2 ⟨q, by rw [flat_len, show s + (sz a + sz b) = s + sz a + sz b by omega]; exact hc.1⟩
  rw [flat_len] at q2
  refine (At.split (B := [_]) (n := sz a + sz b + sz c) (by rw [List.length_append, List.length_append, flat_len, flat_len, flat_len])).2 ⟨q2, at_one.2 ?_⟩
  rw [show s + (sz a + sz b + sz c) = s + sz a + sz b + sz c by omega]
  exact hn
theorem mk_leaf {l : List Nd} {s : Nat} {x : E} (hs : sz x = 1) {n : Nd} (hf : flat x s = [n]) (hn : l[s]? = some n) : At l s x := by
  have h2 := at_lt hn
  exact ⟨by rw [hs, hf]; exact at_one.2 hn, by omega⟩
/-- What a part tells. -/
def Told (l : List Nd) (last v : Int) : Prop := ∃ (x : E) (s : Nat), v = s ∧ last = (s + sz x : Nat) - 1 ∧ At l s x ∧ wr x
theorem bg_tells {l : List Nd} : ∀ (f : Nat) (at_ : Int), 0 ≤ bg f l at_ → Told l at_ (bg f l at_)
  | 0, _, h => absurd h (by unfold bg; omega)
  | f + 1, at_, h => by
    have ih := bg_tells (l := l) f
    by_cases hneg : at_ < 0
    · exfalso; unfold bg at h; rw [if_pos hneg] at h; omega
    · obtain ⟨i, rfl⟩ : ∃ i : Nat, at_ = i := ⟨at_.toNat, by omega⟩
      cases hn : l[i]? with
      | none => exfalso; unfold bg at h; rw [if_neg hneg] at h; simp only [Int.toNat_natCast, hn] at h; omega
      | some n =>
        cases hr : right n with
        | false => exfalso; unfold bg at h; rw [if_neg hneg] at h; simp only [Int.toNat_natCast, hn] at h; rw [if_pos hr] at h; omega
        | true =>
          cases p2 : part (bg f l) (parts n.op) 2 n.c ((i : Int) - 1) with
          | none => exfalso; unfold bg at h; rw [if_neg hneg] at h; simp only [Int.toNat_natCast, hn] at h; rw [if_neg (by rw [hr]; decide)] at h; simp only [p2] at h; omega
          | some l2 =>
            cases p1 : part (bg f l) (parts n.op) 1 n.b l2 with
            | none => exfalso; unfold bg at h; rw [if_neg hneg] at h; simp only [Int.toNat_natCast, hn] at h; rw [if_neg (by rw [hr]; decide)] at h; simp only [p2, p1] at h; omega
            | some l1 =>
              cases p0 : part (bg f l) (parts n.op) 0 n.a l1 with
              | none => exfalso; unfold bg at h; rw [if_neg hneg] at h; simp only [Int.toNat_natCast, hn] at h; rw [if_neg (by rw [hr]; decide)] at h; simp only [p2, p1, p0] at h; omega
              | some l0 =>
                rw [bg_step hn hr p2 p1 p0]
                clear h hneg
                obtain ⟨op, num, nm, a, b, c⟩ := n
                unfold right at hr
                simp only [Bool.and_eq_true, decide_eq_true_iff, Bool.or_eq_true] at hr p2 p1 p0
                obtain ⟨⟨⟨⟨r1, r2⟩, r3⟩, r4⟩, r5⟩ := hr
                by_cases c4 : op ≤ 4
                · have hp : parts op = 0 := by unfold parts; rw [if_pos c4]
                  rw [hp] at p2 p1 p0
                  rcases part_ok p2 with ⟨_, rfl, rfl⟩ | ⟨q, _⟩
                  · rcases part_ok p1 with ⟨_, rfl, rfl⟩ | ⟨q, _⟩
                    · rcases part_ok p0 with ⟨_, rfl, rfl⟩ | ⟨q, _⟩
                      · by_cases o1 : op = 1
                        · subst o1
                          rw [if_neg (by decide)] at r5
                          have r5 := of_decide_eq_true r5
                          subst r5
                          obtain ⟨k, rfl⟩ : ∃ k : Nat, num = k := ⟨num.toNat, by omega⟩
                          exact ⟨.num k, i, by omega, by simp only [sz]; omega, mk_leaf rfl rfl hn, True.intro⟩
                        · have r3 : num = 0 := by rcases r3 with e | e; · exact absurd e o1
                                                  · exact e
                          subst r3
                          by_cases o2 : op = 2
                          · subst o2
                            rw [if_pos rfl] at r5
                            exact ⟨.name nm, i, by omega, by simp only [sz]; omega, mk_leaf rfl rfl hn, (show Lx.is nm = 2 from of_decide_eq_true r5)⟩
                          · rw [if_neg o2] at r5
                            have r5 := of_decide_eq_true r5
                            subst r5
                            by_cases o3 : op = 3
                            · subst o3
                              exact ⟨.tt, i, by omega, by simp only [sz]; omega, mk_leaf rfl rfl hn, True.intro⟩
                            · obtain rfl : op = 4 := by omega
                              exact ⟨.ff, i, by omega, by simp only [sz]; omega, mk_leaf rfl rfl hn, True.intro⟩
                      · omega
                    · omega
                  · omega
                · have r3 : num = 0 := by rcases r3 with e | e; · omega
                                          · exact e
                  subst r3
                  rw [if_neg (by omega)] at r5
                  have r5 := of_decide_eq_true r5
                  subst r5
                  by_cases c6 : op ≤ 6
                  · have hp : parts op = 1 := by unfold parts; rw [if_neg c4, if_pos c6]
                    rw [hp] at p2 p1 p0
                    rcases part_ok p2 with ⟨_, rfl, rfl⟩ | ⟨q, _⟩
                    · rcases part_ok p1 with ⟨_, rfl, rfl⟩ | ⟨q, _⟩
                      · rcases part_ok p0 with ⟨q, _⟩ | ⟨_, rfl, ga, rfl⟩
                        · omega
                        · obtain ⟨xa, sa, ea, fa, ta, wa⟩ := ih _ ga
                          obtain ⟨o, rfl⟩ : ∃ o : Nat, op = o := ⟨op.toNat, by omega⟩
                          have hi : i = sa + sz xa := by omega
                          subst hi
                          exact ⟨.un o xa, sa, by omega, by simp only [sz]; omega, mk_un ta hn, by omega, wa⟩
                      · omega
                    · omega
                  · by_cases c21 : op ≤ 21
                    · have hp : parts op = 2 := by unfold parts; rw [if_neg c4, if_neg c6, if_pos c21]
                      rw [hp] at p2 p1 p0
                      rcases part_ok p2 with ⟨_, rfl, rfl⟩ | ⟨q, _⟩
                      · rcases part_ok p1 with ⟨q, _⟩ | ⟨_, rfl, gb, rfl⟩
                        · omega
                        · rcases part_ok p0 with ⟨q, _⟩ | ⟨_, rfl, ga, rfl⟩
                          · omega
                          · obtain ⟨xb, sb, eb, fb, tb, wb⟩ := ih _ gb
                            rw [eb] at ga hn ⊢
                            obtain ⟨xa, sa, ea, fa, ta, wa⟩ := ih _ ga
                            obtain ⟨o, rfl⟩ : ∃ o : Nat, op = o := ⟨op.toNat, by omega⟩
                            have hs : sb = sa + sz xa := by omega
                            subst hs
                            have hi : i = sa + sz xa + sz xb := by omega
                            subst hi
                            exact ⟨.bin o xa xb, sa, by omega, by simp only [sz]; omega, mk_bin ta tb hn, by omega, by omega, wa, wb⟩
                      · omega
                    · obtain rfl : op = 22 := by omega
                      rcases part_ok p2 with ⟨q, _⟩ | ⟨_, rfl, gc, rfl⟩
                      · exact absurd q (by decide)
                      · rcases part_ok p1 with ⟨q, _⟩ | ⟨_, rfl, gb, rfl⟩
                        · exact absurd q (by decide)
                        · rcases part_ok p0 with ⟨q, _⟩ | ⟨_, rfl, ga, rfl⟩
                          · exact absurd q (by decide)
                          · obtain ⟨xc, sc, ec, fc, tc, wc⟩ := ih _ gc
                            rw [ec] at gb ga hn ⊢
                            obtain ⟨xb, sb, eb, fb, tb, wb⟩ := ih _ gb
                            rw [eb] at ga hn ⊢
                            obtain ⟨xa, sa, ea, fa, ta, wa⟩ := ih _ ga
                            have hs : sb = sa + sz xa := by omega
                            subst hs
                            have hs2 : sc = sa + sz xa + sz xb := by omega
                            subst hs2
                            have hi : i = sa + sz xa + sz xb + sz xc := by omega
                            subst hi
                            exact ⟨.ite xa xb xc, sa, by omega, by simp only [sz]; omega, mk_ite ta tb tc hn, wa, wb, wc⟩
end Ex
end Go.Proofs.YtdcjpinbflmikaaGreatDoor
