/- Facts and walks for the statement. -/
import Derived.Test.YtmmdigeciphglaaGreatDoorPzB26
import Derived.Lib.Bytealg
import Derived.Laws.Closers25
import Derived.Test.YtmmdigeciphglaaGreatDoorChecked
import Derived.WalkKit
import Derived.WalkLawsBesides
import Derived.Outline
import Derived.Handy
import Derived.Lib.OthersKept
import Derived.Lib.Hide
import Derived.WalkSmall
import Derived.Deep.DeepFit
import Derived.Deep.QuietTactic
import Derived.BigQuiet
import Derived.WalkSpells
import Derived.IntWalk
namespace Go.Proofs.YtmmdigeciphglaaGreatDoor
namespace Ex
def parts (op : Int) : Nat := if op ≤ 4 then 0 else if op ≤ 6 then 1 else if op ≤ 21 then 2 else 3
def right (n : Nd) : Bool := decide (1 ≤ n.op) && decide (n.op ≤ 22) && (decide (n.op = 1) || decide (n.num = 0)) && decide (0 ≤ n.num) && (if n.op = 2 then decide (Lx.is n.nm = 2) else decide (n.nm = []))
def part (bg : Int → Int) (pn k : Nat) (place last : Int) : Option Int :=
  if pn ≤ k then (if place = -1 then some last else none) else if place = last then (if bg last < 0 then none else some (bg last - 1)) else none
def bg : Nat → List Nd → Int → Int
  | 0, _, _ => -1
  | f + 1, l, at_ =>
    if at_ < 0 then -1 else
    match l[at_.toNat]? with
    | none => -1
    | some n => if right n = false then -1 else
      match part (bg f l) (parts n.op) 2 n.c (at_ - 1) with
      | none => -1
      | some l2 => match part (bg f l) (parts n.op) 1 n.b l2 with
        | none => -1
        | some l1 => match part (bg f l) (parts n.op) 0 n.a l1 with
          | none => -1
          | some l0 => l0 + 1
theorem part_none {bg : Int → Int} {pn k : Nat} (h : pn ≤ k) (last : Int) : part bg pn k (-1) last = some last := by
  unfold part
  rw [if_pos h, if_pos rfl]
theorem part_some {bg : Int → Int} {pn k : Nat} (h : k < pn) {last : Int} (hb : 0 ≤ bg last) : part bg pn k last last = some (bg last - 1) := by
  unfold part
  rw [if_neg (by omega), if_pos rfl, if_neg (by omega)]
theorem part_ok {bg : Int → Int} {pn k : Nat} {place last r : Int} (h : part bg pn k place last = some r) : (pn ≤ k ∧ place = -1 ∧ r = last) ∨ (k < pn ∧ place = last ∧ 0 ≤ bg last ∧ r = bg last - 1) := by
  unfold part at h
  split at h
  · rename_i h1
    split at h
    · rename_i h2; cases h; exact Or.inl ⟨h1, h2, rfl⟩
    · cases h
  · rename_i h1
    split at h
    · rename_i h2
      split at h
      · cases h
      · rename_i h3; cases h; exact Or.inr ⟨by omega, h2, by omega, rfl⟩
    · cases h
theorem bg_step {f : Nat} {l : List Nd} {i : Nat} {n : Nd} (hn : l[i]? = some n) (hr : right n = true) {l2 l1 l0 : Int} (h2 : part (bg f l) (parts n.op) 2 n.c ((i : Int) - 1) = some l2) (h1 : part (bg f l) (parts n.op) 1 n.b l2 = some l1) (h0 : part (bg f l) (parts n.op) 0 n.a l1 = some l0) : bg (f + 1) l i = l0 + 1 := by
  unfold bg
  rw [if_neg (by omega)]
  simp only [Int.toNat_natCast, hn]
  rw [if_neg (by rw [hr]; decide)]
  simp only [h2, h1, h0]
theorem right_op {op a b c : Int} (h1 : 3 ≤ op) (h2 : op ≤ 22) : right ⟨op, 0, [], a, b, c⟩ = true := by
  unfold right
  simp only
  rw [if_neg (by omega)]
  simp; omega
theorem bg_at {l : List Nd} : ∀ (x : E) (s f : Nat), At l s x → wr x → sz x ≤ f → bg f l ((s + sz x : Nat) - 1) = s
  | x, s, 0, _, _, h => absurd h (by have := sz_pos x; omega)
  | .num n, s, f + 1, h, _, _ => by
    have hn := at_one.1 h.1
    rw [show ((s + sz (.num n) : Nat) : Int) - 1 = (s : Int) by simp only [sz]; omega]
    rw [bg_step hn (by unfold right; simp) (part_none (show parts 1 ≤ 2 by decide) _) (part_none (show parts 1 ≤ 1 by decide) _) (part_none (show parts 1 ≤ 0 by decide) _)]
    omega
  | .name t, s, f + 1, h, w, _ => by
    have hn := at_one.1 h.1
    have w : Lx.is t = 2 := w
    rw [show ((s + sz (.name t) : Nat) : Int) - 1 = (s : Int) by simp only [sz]; omega]
    rw [bg_step hn (by unfold right; simp [w]) (part_none (show parts 2 ≤ 2 by decide) _) (part_none (show parts 2 ≤ 1 by decide) _) (part_none (show parts 2 ≤ 0 by decide) _)]
    omega
  | .tt, s, f + 1, h, _, _ => by
    have hn := at_one.1 h.1
    rw [show ((s + sz .tt : Nat) : Int) - 1 = (s : Int) by simp only [sz]; omega]
    rw [bg_step hn (by decide) (part_none (by decide) _) (part_none (by decide) _) (part_none (by decide) _)]
    omega
  | .ff, s, f + 1, h, _, _ => by
    have hn := at_one.1 h.1
    rw [show ((s + sz .ff : Nat) : Int) - 1 = (s : Int) by simp only [sz]; omega]
    rw [bg_step hn (by decide) (part_none (by decide) _) (part_none (by decide) _) (part_none (by decide) _)]
    omega
  | .un op a, s, f + 1, h, w, hf => by
    simp only [sz] at hf
    obtain ⟨ha, hn⟩ := at_un h
    have e := bg_at a s f ha w.2 (by omega)
    have hp : parts (op : Int) = 1 := by rcases w.1 with q | q <;> subst q <;> rfl
    rw [show ((s + sz (.un op a) : Nat) : Int) - 1 = ((s + sz a : Nat) : Int) by simp only [sz]; omega]
    have hop : 5 ≤ op ∧ op ≤ 6 := by rcases w.1 with q | q <;> omega
    rw [bg_step hn (right_op (by omega) (by omega)) (by rw [hp]; exact part_none (by decide) _) (by rw [hp]; exact part_none (by decide) _) (by rw [hp]; exact part_some (by decide) (by rw [e]; omega)), e]
    omega
  | .bin op a b, s, f + 1, h, w, hf => by
    simp only [sz] at hf
    obtain ⟨w1, w2, wa, wb⟩ := w
    obtain ⟨ha, hb, hn⟩ := at_bin h
    have ea := bg_at a s f ha wa (by omega)
    have eb := bg_at b (s + sz a) f hb wb (by omega)
    have hp : parts (op : Int) = 2 := by unfold parts; rw [if_neg (by omega), if_neg (by omega), if_pos (by omega)]
    rw [show ((s + sz (.bin op a b) : Nat) : Int) - 1 = ((s + sz a + sz b : Nat) : Int) by simp only [sz]; omega]
    rw [bg_step hn (right_op (by omega) (by omega)) (by rw [hp]; exact part_none (by decide) _) (by rw [hp]; exact part_some (by decide) (by rw [eb]; omega)) (by rw [hp, eb]; exact part_some (by decide) (by rw [ea]; omega)), ea]
    omega
  | .ite a b c, s, f + 1, h, w, hf => by
    simp only [sz] at hf
    obtain ⟨wa, wb, wc⟩ := w
    obtain ⟨ha, hb, hc, hn⟩ := at_ite h
    have ea := bg_at a s f ha wa (by omega)
    have eb := bg_at b (s + sz a) f hb wb (by omega)
    have ec := bg_at c (s + sz a + sz b) f hc wc (by omega)
    rw [show ((s + sz (.ite a b c) : Nat) : Int) - 1 = ((s + sz a + sz b + sz c : Nat) : Int) by simp only [sz]; omega]
    rw [bg_step hn (right_op (by decide) (by decide)) (part_some (show 2 < parts 22 by decide) (by rw [ec]; omega)) (by rw [ec]; exact part_some (show 1 < parts 22 by decide) (by rw [eb]; omega)) (by rw [eb]; exact part_some (show 0 < parts 22 by decide) (by rw [ea]; omega)), ea]
    omega
end Ex
end Go.Proofs.YtmmdigeciphglaaGreatDoor
namespace Go.Proofs.YtmmdigeciphglaaGreatDoor
namespace Ex
theorem at_lt {l : List Nd} {i : Nat} {n : Nd} (h : l[i]? = some n) : i < l.length := (List.getElem?_eq_some_iff.1 h).1
theorem mk_un {l : List Nd} {s op : Nat} {a : E} (h : At l s a) (hn : l[s + sz a]? = some ⟨op, 0, [], (s + sz a : Nat) - 1, -1, -1⟩) : At l s (.un op a) := by
  have h2 := at_lt hn
  refine ⟨?_, by simp only [sz]; omega⟩
  simp only [sz, flat]
  exact (At.split (B := [_]) (flat_len a s)).2 ⟨h.1, at_one.2 hn⟩
theorem mk_bin {l : List Nd} {s op : Nat} {a b : E} (ha : At l s a) (hb : At l (s + sz a) b) (hn : l[s + sz a + sz b]? = some ⟨op, 0, [], (s + sz a : Nat) - 1, (s + sz a + sz b : Nat) - 1, -1⟩) : At l s (.bin op a b) := by
  have h2 := at_lt hn
  refine ⟨?_, by simp only [sz]; omega⟩
  simp only [sz, flat]
  have q := (At.split (l := l) (B := flat b (s + sz a)) (flat_len a s)).2 ⟨ha.1, by rw [flat_len]; exact hb.1⟩
  rw [flat_len] at q
  refine (At.split (B := [_]) (n := sz a + sz b) (by rw [List.length_append, flat_len, flat_len])).2 ⟨q, at_one.2 ?_⟩
  rw [show s + (sz a + sz b) = s + sz a + sz b by omega]
  exact hn
theorem mk_ite {l : List Nd} {s : Nat} {a b c : E} (ha : At l s a) (hb : At l (s + sz a) b) (hc : At l (s + sz a + sz b) c) (hn : l[s + sz a + sz b + sz c]? = some ⟨22, 0, [], (s + sz a : Nat) - 1, (s + sz a + sz b : Nat) - 1, (s + sz a + sz b + sz c : Nat) - 1⟩) : At l s (.ite a b c) := by
  have h2 := at_lt hn
  refine ⟨?_, by simp only [sz]; omega⟩
  simp only [sz, flat]
  have q := (At.split (l := l) (B := flat b (s + sz a)) (flat_len a s)).2 ⟨ha.1, by rw [flat_len]; exact hb.1⟩
  rw [flat_len] at q
  have q2 := (At.split (l := l) (s := s) (n := sz a + sz b) (A := flat a s ++ flat b (s + sz a)) (B := flat c (s + sz a + sz b)) (by rw [List.length_append, flat_len, flat_len])).2 ⟨q, by rw [flat_len, show s + (sz a + sz b) = s + sz a + sz b by omega]; exact hc.1⟩
  rw [flat_len] at q2
  refine (At.split (B := [_]) (n := sz a + sz b + sz c) (by rw [List.length_append, List.length_append, flat_len, flat_len, flat_len])).2 ⟨q2, at_one.2 ?_⟩
  rw [show s + (sz a + sz b + sz c) = s + sz a + sz b + sz c by omega]
  exact hn
theorem mk_leaf {l : List Nd} {s : Nat} {x : E} (hs : sz x = 1) {n : Nd} (hf : flat x s = [n]) (hn : l[s]? = some n) : At l s x := by
  have h2 := at_lt hn
  exact ⟨by rw [hs, hf]; exact at_one.2 hn, by omega⟩
def Told (l : List Nd) (last v : Int) : Prop := ∃ (x : E) (s : Nat), v = s ∧ last = (s + sz x : Nat) - 1 ∧ At l s x ∧ wr x
theorem bg_tells {l : List Nd} : ∀ (f : Nat) (at_ : Int), 0 ≤ bg f l at_ → Told l at_ (bg f l at_)
  | 0, _, h => absurd h (by unfold bg; omega)
  | f + 1, at_, h => by
    have ih := bg_tells (l := l) f
    by_cases hneg : at_ < 0
    · exfalso; unfold bg at h; rw [if_pos hneg] at h; omega
    · obtain ⟨i, rfl⟩ : ∃ i : Nat, at_ = i := ⟨at_.toNat, by omega⟩
      cases hn : l[i]? with
      | none => exfalso; unfold bg at h; rw [if_neg hneg] at h; simp only [Int.toNat_natCast, hn] at h; omega
      | some n =>
        cases hr : right n with
        | false => exfalso; unfold bg at h; rw [if_neg hneg] at h; simp only [Int.toNat_natCast, hn] at h; rw [if_pos hr] at h; omega
        | true =>
          cases p2 : part (bg f l) (parts n.op) 2 n.c ((i : Int) - 1) with
          | none => exfalso; unfold bg at h; rw [if_neg hneg] at h; simp only [Int.toNat_natCast, hn] at h; rw [if_neg (by rw [hr]; decide)] at h; simp only [p2] at h; omega
          | some l2 =>
            cases p1 : part (bg f l) (parts n.op) 1 n.b l2 with
            | none => exfalso; unfold bg at h; rw [if_neg hneg] at h; simp only [Int.toNat_natCast, hn] at h; rw [if_neg (by rw [hr]; decide)] at h; simp only [p2, p1] at h; omega
            | some l1 =>
              cases p0 : part (bg f l) (parts n.op) 0 n.a l1 with
              | none => exfalso; unfold bg at h; rw [if_neg hneg] at h; simp only [Int.toNat_natCast, hn] at h; rw [if_neg (by rw [hr]; decide)] at h; simp only [p2, p1, p0] at h; omega
              | some l0 =>
                rw [bg_step hn hr p2 p1 p0]
                clear h hneg
                obtain ⟨op, num, nm, a, b, c⟩ := n
                unfold right at hr
                simp only [Bool.and_eq_true, decide_eq_true_iff, Bool.or_eq_true] at hr p2 p1 p0
                obtain ⟨⟨⟨⟨r1, r2⟩, r3⟩, r4⟩, r5⟩ := hr
                by_cases c4 : op ≤ 4
                · have hp : parts op = 0 := by unfold parts; rw [if_pos c4]
                  rw [hp] at p2 p1 p0
                  rcases part_ok p2 with ⟨_, rfl, rfl⟩ | ⟨q, _⟩
                  · rcases part_ok p1 with ⟨_, rfl, rfl⟩ | ⟨q, _⟩
                    · rcases part_ok p0 with ⟨_, rfl, rfl⟩ | ⟨q, _⟩
                      · by_cases o1 : op = 1
                        · subst o1
                          rw [if_neg (by decide)] at r5
                          have r5 := of_decide_eq_true r5
                          subst r5
                          obtain ⟨k, rfl⟩ : ∃ k : Nat, num = k := ⟨num.toNat, by omega⟩
                          exact ⟨.num k, i, by omega, by simp only [sz]; omega, mk_leaf rfl rfl hn, True.intro⟩
                        · have r3 : num = 0 := by rcases r3 with e | e; · exact absurd e o1
                                                  · exact e
                          subst r3
                          by_cases o2 : op = 2
                          · subst o2
                            rw [if_pos rfl] at r5
                            exact ⟨.name nm, i, by omega, by simp only [sz]; omega, mk_leaf rfl rfl hn, (show Lx.is nm = 2 from of_decide_eq_true r5)⟩
                          · rw [if_neg o2] at r5
                            have r5 := of_decide_eq_true r5
                            subst r5
                            by_cases o3 : op = 3
                            · subst o3
                              exact ⟨.tt, i, by omega, by simp only [sz]; omega, mk_leaf rfl rfl hn, True.intro⟩
                            · obtain rfl : op = 4 := by omega
                              exact ⟨.ff, i, by omega, by simp only [sz]; omega, mk_leaf rfl rfl hn, True.intro⟩
                      · omega
                    · omega
                  · omega
                · have r3 : num = 0 := by rcases r3 with e | e; · omega
                                          · exact e
                  subst r3
                  rw [if_neg (by omega)] at r5
                  have r5 := of_decide_eq_true r5
                  subst r5
                  by_cases c6 : op ≤ 6
                  · have hp : parts op = 1 := by unfold parts; rw [if_neg c4, if_pos c6]
                    rw [hp] at p2 p1 p0
                    rcases part_ok p2 with ⟨_, rfl, rfl⟩ | ⟨q, _⟩
                    · rcases part_ok p1 with ⟨_, rfl, rfl⟩ | ⟨q, _⟩
                      · rcases part_ok p0 with ⟨q, _⟩ | ⟨_, rfl, ga, rfl⟩
                        · omega
                        · obtain ⟨xa, sa, ea, fa, ta, wa⟩ := ih _ ga
                          obtain ⟨o, rfl⟩ : ∃ o : Nat, op = o := ⟨op.toNat, by omega⟩
                          have hi : i = sa + sz xa := by omega
                          subst hi
                          exact ⟨.un o xa, sa, by omega, by simp only [sz]; omega, mk_un ta hn, by omega, wa⟩
                      · omega
                    · omega
                  · by_cases c21 : op ≤ 21
                    · have hp : parts op = 2 := by unfold parts; rw [if_neg c4, if_neg c6, if_pos c21]
                      rw [hp] at p2 p1 p0
                      rcases part_ok p2 with ⟨_, rfl, rfl⟩ | ⟨q, _⟩
                      · rcases part_ok p1 with ⟨q, _⟩ | ⟨_, rfl, gb, rfl⟩
                        · omega
                        · rcases part_ok p0 with ⟨q, _⟩ | ⟨_, rfl, ga, rfl⟩
                          · omega
                          · obtain ⟨xb, sb, eb, fb, tb, wb⟩ := ih _ gb
                            rw [eb] at ga hn ⊢
                            obtain ⟨xa, sa, ea, fa, ta, wa⟩ := ih _ ga
                            obtain ⟨o, rfl⟩ : ∃ o : Nat, op = o := ⟨op.toNat, by omega⟩
                            have hs : sb = sa + sz xa := by omega
                            subst hs
                            have hi : i = sa + sz xa + sz xb := by omega
                            subst hi
                            exact ⟨.bin o xa xb, sa, by omega, by simp only [sz]; omega, mk_bin ta tb hn, by omega, by omega, wa, wb⟩
                      · omega
                    · obtain rfl : op = 22 := by omega
                      rcases part_ok p2 with ⟨q, _⟩ | ⟨_, rfl, gc, rfl⟩
                      · exact absurd q (by decide)
                      · rcases part_ok p1 with ⟨q, _⟩ | ⟨_, rfl, gb, rfl⟩
                        · exact absurd q (by decide)
                        · rcases part_ok p0 with ⟨q, _⟩ | ⟨_, rfl, ga, rfl⟩
                          · exact absurd q (by decide)
                          · obtain ⟨xc, sc, ec, fc, tc, wc⟩ := ih _ gc
                            rw [ec] at gb ga hn ⊢
                            obtain ⟨xb, sb, eb, fb, tb, wb⟩ := ih _ gb
                            rw [eb] at ga hn ⊢
                            obtain ⟨xa, sa, ea, fa, ta, wa⟩ := ih _ ga
                            have hs : sb = sa + sz xa := by omega
                            subst hs
                            have hs2 : sc = sa + sz xa + sz xb := by omega
                            subst hs2
                            have hi : i = sa + sz xa + sz xb + sz xc := by omega
                            subst hi
                            exact ⟨.ite xa xb xc, sa, by omega, by simp only [sz]; omega, mk_ite ta tb tc hn, wa, wb, wc⟩
end Ex
end Go.Proofs.YtmmdigeciphglaaGreatDoor
namespace Go.Proofs.YtmmdigeciphglaaGreatDoor
namespace Nu
theorem dig_at (n i : Nat) : (dig n).getD i 0 = n / 10 ^ i % 10 := by
  induction i generalizing n with
  | zero =>
    by_cases hn : n = 0
    · subst hn; rw [dig_zero]; rfl
    · rw [dig_pos hn]; simp
  | succ i ih =>
    by_cases hn : n = 0
    · subst hn; rw [dig_zero]; simp
    · rw [dig_pos hn, List.getD_cons_succ, ih, Nat.pow_succ, Nat.mul_comm, Nat.div_div_eq_div_mul]
theorem dig_get {n i : Nat} (h : i < (dig n).length) : (dig n)[i] = n / 10 ^ i % 10 := by
  rw [← dig_at, List.getD_eq_getElem?_getD, List.getElem?_eq_getElem h]; rfl
end Nu
end Go.Proofs.YtmmdigeciphglaaGreatDoor
namespace Go.Proofs.YtmmdigeciphglaaGreatDoor
open Go.RowKit
theorem isL_iff (c : UInt8) : Lx.isL c = true ↔ (65 ≤ (c.toNat : Int) ∧ (c.toNat : Int) ≤ 90) ∨ (97 ≤ (c.toNat : Int) ∧ (c.toNat : Int) ≤ 122) ∨ (c.toNat : Int) = 95 := by unfold Lx.isL; rw [decide_eq_true_iff]; omega
set_option maxHeartbeats 1000000 in
theorem rdigit_any (c : UInt8) (w : World) :
    Calls Tryz.prog 92 #[.int .u8 (c.toNat : Int)] w fun e w' => e = .returned (.bool (Lx.isD c)) ∧ w = w' := by
  have hb := u8_bd c
  have HI := Lib.hid (isD_iff c)
  generalize Lx.isD c = R at *
  generalize (c.toNat : Int) = z at *
  go_enter Tryz.func92, Tryz.ntmps92
  go_wp2
  all_goals go_ret
  all_goals exact ⟨ret_bool (by rw [Bool.eq_iff_iff, HI.out]; simp; try omega), rfl⟩
set_option maxHeartbeats 1000000 in
theorem rletter_any (c : UInt8) (w : World) :
    Calls Tryz.prog 91 #[.int .u8 (c.toNat : Int)] w fun e w' => e = .returned (.bool (Lx.isL c)) ∧ w = w' := by
  have hb := u8_bd c
  have HI := Lib.hid (isL_iff c)
  generalize Lx.isL c = R at *
  generalize (c.toNat : Int) = z at *
  go_enter Tryz.func91, Tryz.ntmps91
  go_wp2
  all_goals go_ret
  all_goals exact ⟨ret_bool (by rw [Bool.eq_iff_iff, HI.out]; simp; try omega), rfl⟩
theorem sr_new (w : World) (t : TypeId) (l : List ByteArray) : SrR (w.alloc (.cells (l.map Value.string).toArray t)) w.heap.size l := fun j hj => by
  rw [World.cell?_alloc_mark w _ t (0, 0) j, List.getElem?_toArray, List.getElem?_map, List.getElem?_eq_getElem hj]; rfl
set_option maxHeartbeats 2000000 in
theorem among_any (s : ByteArray) (w : World) (g c : Nat) (l : List ByteArray) (h : SrR w g l) (hlc : l.length ≤ c) (hl : l.length ≤ 1000) :
    Calls Tryz.prog 90 #[.string s, .slice (some ⟨g, 0, none⟩) l.length c] w fun e w' => e = .returned (.bool ((l.map (·.toList)).contains s.toList)) ∧ w = w' := by
  have H := Lib.hid h
  obtain ⟨R, hR⟩ : ∃ R, R = (l.map (·.toList)).contains s.toList := ⟨_, rfl⟩
  rw [← hR]
  have HR := Lib.hid hR
  clear h hR
  obtain ⟨n, hn⟩ : ∃ n, n = l.length := ⟨_, rfl⟩
  rw [← hn] at hlc hl ⊢
  have HN := Lib.hid hn
  clear hn
  go_enter Tryz.func90, Tryz.ntmps90
  go_wp2
  go_loop [5] (fun i => ∃ k : Nat, i = .int .i64 k ∧ k ≤ n ∧ Hid (R = ((l.drop k).map (·.toList)).contains s.toList)) (fun i => n - (intOf i).toNat)
  case atStart => exact ⟨0, rfl, Nat.zero_le _, HR⟩
  case round =>
    obtain ⟨k, rfl, hk, HI⟩ := hrel
    by_cases hlt : k < n
    · have hlt' : (k : Int) < (n : Int) := by omega
      have hkl : k < l.length := by rw [← HN.out]; exact hlt
      have hc := H.out k hkl
      have HS := Lib.hid (show ((l.drop k).map (·.toList)).contains s.toList = ((s.toList == l[k].toList) || ((l.drop (k + 1)).map (·.toList)).contains s.toList) by rw [List.drop_eq_getElem_cons hkl]; simp only [List.map_cons, List.contains_cons])
      generalize l[k] = x at *
      by_cases he : x.toList = s.toList
      · have he' : (x.toList == s.toList) = true := beq_iff_eq.2 he
        have HE := Lib.hid (show R = true by rw [HI.out, HS.out, he]; simp)
        clear he
        go_wp2
        go_ret
        exact ⟨by rw [HE.out]; rfl, rfl⟩
      · have he' : (x.toList == s.toList) = false := beq_eq_false_iff_ne.2 he
        have HE := Lib.hid (show R = ((l.drop (k + 1)).map (·.toList)).contains s.toList by rw [HI.out, HS.out, show (s.toList == x.toList) = false from beq_eq_false_iff_ne.2 (fun h => he h.symm)]; rfl)
        clear he
        go_wp2
        go_round
        case rel => exact ⟨k + 1, by go_num, hlt, HE⟩
        case measure => simp [intOf]; omega
    · obtain rfl : k = n := by omega
      have HE := Lib.hid (show R = false by rw [HI.out, List.drop_of_length_le (by rw [← HN.out]; exact Nat.le_refl _)]; rfl)
      have hlt' : ¬ (k : Int) < (k : Int) := by omega
      clear hlt
      go_wp2
      go_ret
      exact ⟨by rw [HE.out]; rfl, rfl⟩
def wdB : List ByteArray := [⟨#[97, 110, 100]⟩, ⟨#[100, 105, 118]⟩, ⟨#[101, 108, 115, 101]⟩, ⟨#[101, 109, 105, 116]⟩, ⟨#[101, 110, 100, 105, 102]⟩, ⟨#[102, 97, 108, 115, 101]⟩, ⟨#[105, 102]⟩, ⟨#[105, 109, 112, 108, 105, 101, 115]⟩, ⟨#[109, 111, 100]⟩, ⟨#[110, 111, 116]⟩, ⟨#[111, 114]⟩, ⟨#[116, 104, 101, 110]⟩, ⟨#[116, 114, 117, 101]⟩, ⟨#[120, 111, 114]⟩]
theorem sgB_eq : sgB.map (·.toList) = Lx.signs := by simp only [sgB, List.map_cons, List.map_nil, Lib.toList_data]; rfl
theorem wdB_eq : wdB.map (·.toList) = Lx.words := by simp only [wdB, List.map_cons, List.map_nil, Lib.toList_data]; rfl
theorem signs_in (s : ByteArray) (w : World) : Calls Tryz.prog 90 #[.string s, .slice (some ⟨w.heap.size, 0, none⟩) 14 14] (w.alloc (.cells (sgB.map Value.string).toArray 9)) fun e w' => e = .returned (.bool (Lx.signs.contains s.data.toList)) ∧ w.alloc (.cells (sgB.map Value.string).toArray 9) = w' := by
  have := among_any s (w.alloc (.cells (sgB.map Value.string).toArray 9)) w.heap.size 14 sgB (sr_new w _ _) (by decide) (by decide)
  rw [sgB_eq, Lib.toList_data] at this
  exact this
theorem words_in (s : ByteArray) (w : World) : Calls Tryz.prog 90 #[.string s, .slice (some ⟨w.heap.size, 0, none⟩) 14 14] (w.alloc (.cells (wdB.map Value.string).toArray 9)) fun e w' => e = .returned (.bool (Lx.words.contains s.data.toList)) ∧ w.alloc (.cells (wdB.map Value.string).toArray 9) = w' := by
  have := among_any s (w.alloc (.cells (wdB.map Value.string).toArray 9)) w.heap.size 14 wdB (sr_new w _ _) (by decide) (by decide)
  rw [wdB_eq, Lib.toList_data] at this
  exact this
theorem take_all_succ {l : List UInt8} {p : UInt8 → Bool} {k : Nat} (h : k < l.length) : (l.take (k + 1)).all p = ((l.take k).all p && p l[k]) := by
  rw [List.take_succ_eq_append_getElem h, List.all_append]; simp
set_option maxHeartbeats 4000000 in
set_option maxRecDepth 100000 in
theorem whole_any (s : ByteArray) (w : World) (hs : s.size ≤ 1000000000) :
    Calls Tryz.prog 63 #[.string s] w fun e w' => e = .returned (.int .u8 (Lx.whole s.data.toList)) ∧ Below w.heap.size w w' := by
  have HL := Lib.hid (Lib.size_eq s)
  have HS := Lib.hid (fun w0 => signs_in s w0)
  have HW := Lib.hid (fun w0 => words_in s w0)
  cases h1 : Lx.signs.contains s.data.toList with
  | true =>
    rw [h1] at HS
    have HE := Lib.hid (show Lx.whole s.data.toList = 4 by unfold Lx.whole; rw [if_pos h1])
    clear h1
    go_enter Tryz.func63, Tryz.ntmps63
    go_wp2_with fail
    refine (HS.out w).mono ?_
    rintro e w1 ⟨rfl, rfl⟩
    go_wp2
    go_ret
    exact ⟨by rw [HE.out]; rfl, (Below.refl _ _).alloc (Nat.le_refl _) _⟩
  | false =>
    rw [h1] at HS
    have H1 := Lib.hid h1
    cases h2 : Lx.words.contains s.data.toList with
    | true =>
      rw [h2] at HW
      have HE := Lib.hid (show Lx.whole s.data.toList = 3 by unfold Lx.whole; rw [if_neg (by rw [H1.out]; decide), if_pos h2])
      clear h1 h2
      go_enter Tryz.func63, Tryz.ntmps63
      go_wp2_with fail
      refine (HS.out w).mono ?_
      rintro e W1 ⟨rfl, hw1⟩
      have HB1 := Lib.hid (show Below w.heap.size w W1 from hw1 ▸ (Below.refl _ _).alloc (Nat.le_refl _) _)
      clear hw1
      go_wp2_with fail
      refine (HW.out W1).mono ?_
      rintro e W2 ⟨rfl, hw2⟩
      have HB2 := Lib.hid (show Below w.heap.size w W2 from hw2 ▸ HB1.out.alloc HB1.out.size _)
      clear hw2
      go_wp2
      go_ret
      exact ⟨by rw [HE.out]; rfl, HB2.out⟩
    | false =>
      rw [h2] at HW
      have H2 := Lib.hid h2
      clear h1 h2
      by_cases h0 : s.size = 0
      · have hn : s.toList = [] := by rw [Lib.toList_data]; exact List.length_eq_zero_iff.1 (by rw [← HL.out]; exact h0)
        have HE := Lib.hid (show Lx.whole s.data.toList = 0 by unfold Lx.whole; rw [if_neg (by rw [H1.out]; decide), if_neg (by rw [H2.out]; decide), if_pos (by rw [← Lib.toList_data]; exact hn)])
        clear h0
        go_enter Tryz.func63, Tryz.ntmps63
        go_wp2_with fail
        refine (HS.out w).mono ?_
        rintro e W1 ⟨rfl, hw1⟩
        have HB1 := Lib.hid (show Below w.heap.size w W1 from hw1 ▸ (Below.refl _ _).alloc (Nat.le_refl _) _)
        clear hw1
        go_wp2_with fail
        refine (HW.out W1).mono ?_
        rintro e W2 ⟨rfl, hw2⟩
        have HB2 := Lib.hid (show Below w.heap.size w W2 from hw2 ▸ HB1.out.alloc HB1.out.size _)
        clear hw2
        go_wp2
        go_ret
        exact ⟨by rw [HE.out]; rfl, HB2.out⟩
      · have hpos : 0 < s.size := by omega
        have hlpos : 0 < s.data.toList.length := by rw [← HL.out]; exact hpos
        have hnn : s.data.toList ≠ [] := fun e => by rw [e] at hlpos; cases hlpos
        have hn : s.toList.isEmpty = false := by rw [Lib.toList_data]; cases hh : s.data.toList with
          | nil => exact absurd hh hnn
          | cons _ _ => rfl
        have HLD := Lib.hid (show Lx.lead s.data.toList = Lx.isL s[0] by
          have h3 := List.drop_eq_getElem_cons hlpos
          rw [List.drop_zero] at h3
          exact (congrArg Lx.lead h3).trans rfl)
        have HE := Lib.hid (show Lx.whole s.data.toList = if s.data.toList.all Lx.isD then (1 : Int) else if Lx.isL s[0] && s.data.toList.all Lx.isN then 2 else 0 by
          unfold Lx.whole; rw [if_neg (by rw [H1.out]; decide), if_neg (by rw [H2.out]; decide), if_neg hnn, HLD.out])
        have HL0 := Lib.hid (fun w0 => rletter_any s[0] w0)
        obtain ⟨R, hR⟩ : ∃ R, R = Lx.whole s.data.toList := ⟨_, rfl⟩
        rw [← hR] at HE ⊢
        obtain ⟨q, hq⟩ : ∃ q, q = Lx.isL s[0] := ⟨_, rfl⟩
        rw [← hq] at HE HL0
        clear h0 hR hnn hq HLD
        go_enter Tryz.func63, Tryz.ntmps63
        go_wp2_with fail
        refine (HS.out w).mono ?_
        rintro e W1 ⟨rfl, hw1⟩
        have HB1 := Lib.hid (show Below w.heap.size w W1 from hw1 ▸ (Below.refl _ _).alloc (Nat.le_refl _) _)
        clear hw1
        go_wp2_with fail
        refine (HW.out W1).mono ?_
        rintro e W2 ⟨rfl, hw2⟩
        have HB2 := Lib.hid (show Below w.heap.size w W2 from hw2 ▸ HB1.out.alloc HB1.out.size _)
        clear hw2
        go_wp2_with fail
        refine (HL0.out _).mono ?_
        rintro e w3 ⟨rfl, rfl⟩
        go_wp2
        go_loop [3, 4, 5] (fun a b i => ∃ (k : Nat) (x y : Bool), i = .int .i64 k ∧ k ≤ s.size ∧ a = .bool x ∧ b = .bool y ∧ Hid (x = (s.data.toList.take k).all Lx.isD ∧ y = (q && (s.data.toList.take k).all Lx.isN))) (fun _ _ i => s.size - (intOf i).toNat)
        case atStart => exact ⟨0, true, q, rfl, Nat.zero_le _, rfl, rfl, Lib.hid ⟨by simp, by simp⟩⟩
        case round =>
          obtain ⟨k, x, y, rfl, hk, rfl, rfl, HI⟩ := hrel
          by_cases hlt : k < s.size
          · have hkl : k < s.data.toList.length := by rw [← HL.out]; exact hlt
            have HN := Lib.hid (show (x && Lx.isD s[k]) = (s.data.toList.take (k + 1)).all Lx.isD ∧ (y && (Lx.isL s[k] || Lx.isD s[k])) = (q && (s.data.toList.take (k + 1)).all Lx.isN) by
              rw [take_all_succ hkl, take_all_succ hkl, HI.out.1, HI.out.2, Bool.and_assoc]
              exact ⟨rfl, rfl⟩)
            have HD := Lib.hid (fun w0 => rdigit_any s[k] w0)
            have HLT := Lib.hid (fun w0 => rletter_any s[k] w0)
            generalize Lx.isD s[k] = D at *
            generalize Lx.isL s[k] = L at *
            have hlt' : (k : Int) < (s.size : Int) := by omega
            clear HI
            cases x <;> cases y <;> cases D <;> cases L
            all_goals
              go_wp2_with (first | (go_at_call 92; refine (HD.out _).mono ?_; rintro e w5 ⟨rfl, rfl⟩) | (go_at_call 91; refine (HLT.out _).mono ?_; rintro e w5 ⟨rfl, rfl⟩))
              go_round
              case rel => exact ⟨k + 1, _, _, by go_num, hlt, rfl, rfl, HN⟩
              case measure => simp [intOf]; omega
          · obtain rfl : k = s.size := by omega
            have hlt' : ¬ ((s.size : Nat) : Int) < (s.size : Int) := by omega
            have HF := Lib.hid (show x = s.data.toList.all Lx.isD ∧ y = (q && s.data.toList.all Lx.isN) by
              have h3 := HI.out
              rw [List.take_of_length_le (by rw [← HL.out]; exact Nat.le_refl _)] at h3
              exact h3)
            clear hlt
            cases x with
            | true =>
              have HR := Lib.hid (show R = 1 by rw [HE.out, ← HF.out.1]; rfl)
              go_wp2
              go_ret
              exact ⟨by rw [HR.out]; rfl, HB2.out⟩
            | false =>
              cases y with
              | true =>
                have HR := Lib.hid (show R = 2 by rw [HE.out, ← HF.out.1, ← HF.out.2]; rfl)
                go_wp2
                go_ret
                exact ⟨by rw [HR.out]; rfl, HB2.out⟩
              | false =>
                have HR := Lib.hid (show R = 0 by rw [HE.out, ← HF.out.1, ← HF.out.2]; rfl)
                go_wp2
                go_ret
                exact ⟨by rw [HR.out]; rfl, HB2.out⟩
theorem ris_any (s : ByteArray) (w : World) (hs : s.size ≤ 1000000000) :
    Calls Tryz.prog 51 #[.string s] w fun e w' => e = .returned (.int .u8 (Lx.is s.data.toList)) ∧ Below w.heap.size w w' := by
  have HW := Lib.hid (whole_any s w hs)
  unfold Lx.is
  rw [← Lib.size_eq]
  by_cases h : 64 < s.size
  · rw [if_pos h]
    have h' : (s.size : Int) > 64 := by omega
    clear h
    go_enter Tryz.func51, Tryz.ntmps51
    go_wp2
    go_ret
    exact ⟨rfl, Below.refl _ _⟩
  · rw [if_neg h]
    have h' : ¬ (s.size : Int) > 64 := by omega
    generalize Lx.whole s.data.toList = R at *
    clear h
    go_enter Tryz.func51, Tryz.ntmps51
    go_wp2_with fail
    refine HW.out.mono ?_
    rintro e w1 ⟨rfl, h1⟩
    have HB := Lib.hid h1
    clear h1
    go_wp2
    go_ret
    exact ⟨rfl, HB.out⟩
end Go.Proofs.YtmmdigeciphglaaGreatDoor
