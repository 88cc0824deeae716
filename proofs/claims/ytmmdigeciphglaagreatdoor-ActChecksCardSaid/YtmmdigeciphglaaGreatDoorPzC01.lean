/- Facts and walks for the statement. -/
import Derived.Test.YtmmdigeciphglaaGreatDoorPzB26
import Derived.Test.YtmmdigeciphglaaGreatDoorPzC00
import Derived.Lib.Bytealg
import Derived.Lib.ItoaNum
import Derived.Lib.ParseIntBCases
import Derived.Test.YtmmdigeciphglaaGreatDoorChecked
import Derived.WalkKit
import Derived.BigQuiet
import Derived.WalkSmall
import Derived.Lib.IndexLaws
import Derived.Deep.AppendLies
import Derived.OwnWalk
import Derived.Lib.OthersKept
import Derived.Lib.Hide
import Derived.Handy
import Derived.Outline
import Derived.Deep.QuietTactic
import Derived.Deep.RegionLaw
import Derived.Deep.RegionHeld3
import Derived.Shelf.Strings.Builder1
import Derived.Shelf.Strings.Builder2
import Derived.Shelf.Strings.OnBuilder
import Derived.Shelf.Strings.Trim
import Derived.Shelf.Small.Utf8
import Derived.Shelf.Small.Strs
import Derived.Shelf.Small.Wraps
import Derived.Shelf.Strings.BuilderF
import Derived.Shelf.Strings.BuilderK
import Derived.Shelf.Strconv.Itoa0
import Derived.Shelf.Strconv.Itoa1
import Derived.Shelf.LaysM
import Derived.Shelf.Strconv.Itoa2
import Derived.Shelf.Strconv.Itoa3
import Derived.Shelf.Strconv.Itoa4
import Derived.Shelf.Strconv.ParseIntEmpty
import Derived.Shelf.Strconv.Clone
import Derived.Shelf.Strconv.SyntaxError
import Derived.Shelf.LaysC
import Derived.Shelf.Strconv.ToError
import Derived.Shelf.Strconv.Lower
import Derived.Shelf.Strconv.ParseUint10
import Derived.Shelf.Strconv.ParseUint10Empty
import Derived.Shelf.Strconv.ParseUint10Any
import Derived.Shelf.Strconv.ParseInt10
import Derived.Shelf.Strconv.RangeError
import Derived.Shelf.Strconv.ToErrorRange
import Derived.Shelf.Strconv.ParseUintEmpty
import Derived.Shelf.Strconv.ParseUint10b64
import Derived.Shelf.Strconv.ParseUint10b32
import Derived.Shelf.Strconv.ParseUint10b16
import Derived.Shelf.Strconv.ParseUint10b8
import Derived.Shelf.Strconv.ParseUint10At
import Derived.Shelf.Strconv.ParseInt10At64
import Derived.Shelf.Strconv.ParseInt10At32
import Derived.Shelf.Strconv.ParseInt10At16
import Derived.Shelf.Strconv.ParseInt10At8
import Derived.Shelf.Strconv.ParseInt10All
import Derived.Shelf.Strconv.ParseIntPublic10
import Derived.Shelf.Strconv.ErrVarParseInt
import Derived.Shelf.Strings.Search1
import Derived.Shelf.Strings.Prefix
import Derived.Shelf.Strings.Runes
import Derived.Shelf.Strings.AsciiSet
import Derived.Shelf.Unicode.DecodeSlow
import Derived.Shelf.Unicode.DecodeAny
import Derived.Test.YtmmdigeciphglaaGreatDoorProg
import Derived.Laws.EntriesVeiled
import Derived.Lib.CutLaws
import Derived.WalkLawsBesides
import Derived.Deep.DeepFit
import Derived.WalkSpells
import Derived.IntWalk
import Derived.LaidEql
import Derived.Stop.Asserts
import Derived.RowKitTokens
import Derived.Lib.SmallJoins
import Derived.Lib.LaidTab
import Derived.Deep.CutRange
import Derived.StillTailTactics
import Derived.Deep.RegionWith
import Derived.Maps.OwnSet
import Derived.Laws.Externs
import Derived.Lib.FrozenHead2
import Derived.Lib.UnsafeStr
import Derived.Laws.AppendOwnNone
import Derived.Test.YtmmdigeciphglaaGreatDoorCards
import Derived.Test.YtmmdigeciphglaaGreatDoorTie
import Derived.Handed
import Derived.Shelf.Vars
import Derived.ProofKit
import Derived.OpenShut
import Derived.Lay
import Derived.Lib.LaidU8
import Derived.SevenTiedAt
import Derived.Stop.LaidErr
import Derived.Deep.Slices
import Derived.ChangeSame
import Derived.ReadAgain
import Derived.LaidSub
import Derived.Deep.Strs
import Derived.Deep.DeepMust
namespace Go.Proofs.YtmmdigeciphglaaGreatDoor
namespace Ty
open Ex
theorem kd_known {n : Nd} {l : List Nat} {ns : List Nm} (h : kd n l ns ≠ 0) (h2 : n.op = 2) : n.nm ∈ ns := by
  refine Decidable.byContradiction fun q => h ?_
  exact if_pos ⟨h2, q⟩
theorem kgo_names {ns : List Nm} : ∀ (r : List Nd) (l : List Nat), (kgo ns r l).2.2 = 0 → ∀ n ∈ r, n.op = 2 → n.nm ∈ ns
  | [], _, _, _, hn => nomatch hn
  | n :: r, l, h, q, hq => by
    by_cases h0 : kd n l ns = 0
    · rw [kgo_bad h0] at h; cases h
    · rw [kgo_on h0] at h
      rcases List.mem_cons.1 hq with rfl | hq
      · exact kd_known h0
      · exact kgo_names r _ h q hq
/-! ### parts -/
end Ty
end Go.Proofs.YtmmdigeciphglaaGreatDoor
namespace Go.Proofs.YtmmdigeciphglaaGreatDoor
namespace Ev
open Ex
/-! ### names that an expression does not have -/
/-! ### kinds by the tree -/
def kx (ns : List Ty.Nm) : E → Nat
  | .num _ => 1
  | .name s => if s ∈ ns then 1 else 0
  | .tt => 2
  | .ff => 2
  | .un op a => if op = 5 then (if kx ns a = 1 then 1 else 0) else if kx ns a = 2 then 2 else 0
  | .bin op a b => if op ≤ 11 then (if kx ns a = 1 ∧ kx ns b = 1 then 1 else 0) else if op ≤ 15 then (if kx ns a = 1 ∧ kx ns b = 1 then 2 else 0)
    else if op ≤ 17 then (if kx ns a = kx ns b ∧ kx ns a ≠ 0 then 2 else 0) else if kx ns a = 2 ∧ kx ns b = 2 then 2 else 0
  | .ite a b c => if kx ns a = 2 ∧ kx ns b = kx ns c then kx ns b else 0
end Ev
end Go.Proofs.YtmmdigeciphglaaGreatDoor
namespace Go.Proofs.YtmmdigeciphglaaGreatDoor
namespace Ev
open Ex Ty
def kxs (ns : List Nm) : E → List Nat
  | .un op a => kxs ns a ++ [kx ns (.un op a)]
  | .bin op a b => kxs ns a ++ kxs ns b ++ [kx ns (.bin op a b)]
  | .ite a b c => kxs ns a ++ kxs ns b ++ kxs ns c ++ [kx ns (.ite a b c)]
  | x => [kx ns x]
theorem kxs_len (ns : List Nm) : ∀ x : E, (kxs ns x).length = sz x
  | .num _ => rfl
  | .name _ => rfl
  | .tt => rfl
  | .ff => rfl
  | .un _ a => by simp [kxs, sz, kxs_len ns a]
  | .bin _ a b => by simp [kxs, sz, kxs_len ns a, kxs_len ns b]; omega
  | .ite a b c => by simp [kxs, sz, kxs_len ns a, kxs_len ns b, kxs_len ns c]; omega
theorem kxs_last (ns : List Nm) : ∀ x : E, ∃ l, kxs ns x = l ++ [kx ns x] ∧ l.length = sz x - 1
  | .num _ => ⟨[], rfl, rfl⟩
  | .name _ => ⟨[], rfl, rfl⟩
  | .tt => ⟨[], rfl, rfl⟩
  | .ff => ⟨[], rfl, rfl⟩
  | .un op a => ⟨kxs ns a, rfl, by simp [sz, kxs_len]⟩
  | .bin op a b => ⟨kxs ns a ++ kxs ns b, rfl, by simp [sz, kxs_len]⟩
  | .ite a b c => ⟨kxs ns a ++ kxs ns b ++ kxs ns c, rfl, by simp [sz, kxs_len]; omega⟩
theorem kx_le (ns : List Nm) : ∀ x : E, kx ns x = 0 ∨ kx ns x = 1 ∨ kx ns x = 2
  | .num _ => Or.inr (Or.inl rfl)
  | .name s => by
    unfold kx
    split
    · exact Or.inr (Or.inl rfl)
    · exact Or.inl rfl
  | .tt => Or.inr (Or.inr rfl)
  | .ff => Or.inr (Or.inr rfl)
  | .un op a => by unfold kx; split <;> split <;> simp
  | .bin op a b => by
    unfold kx
    split
    · split <;> simp
    split
    · split <;> simp
    split
    · split <;> simp
    split <;> simp
  | .ite a b c => by
    unfold kx
    split
    · exact kx_le ns b
    · exact Or.inl rfl
def Nz (l : List Nat) : Prop := ∀ k ∈ l, k ≠ 0
def fz : List Nat → Nat
  | [] => 0
  | k :: r => if k = 0 then 0 else fz r + 1
theorem nz_app {a b : List Nat} : Nz (a ++ b) ↔ Nz a ∧ Nz b := by
  unfold Nz
  constructor
  · exact fun h => ⟨fun k hk => h k (List.mem_append_left _ hk), fun k hk => h k (List.mem_append_right _ hk)⟩
  · rintro ⟨h1, h2⟩ k hk
    rcases List.mem_append.1 hk with hk | hk
    · exact h1 k hk
    · exact h2 k hk
theorem fz_left : ∀ {a b : List Nat}, ¬ Nz a → fz (a ++ b) = fz a
  | [], _, h => absurd (fun _ hk => nomatch hk) h
  | k :: r, b, h => by
    show (if k = 0 then 0 else fz (r ++ b) + 1) = if k = 0 then 0 else fz r + 1
    by_cases hk : k = 0
    · rw [if_pos hk, if_pos hk]
    · rw [if_neg hk, if_neg hk, fz_left (a := r) (fun h2 => h (fun q hq => by
        rcases List.mem_cons.1 hq with rfl | hq
        · exact hk
        · exact h2 q hq))]
theorem fz_right : ∀ {a b : List Nat}, Nz a → fz (a ++ b) = a.length + fz b
  | [], _, _ => by simp
  | k :: r, b, h => by
    show (if k = 0 then 0 else fz (r ++ b) + 1) = _
    rw [if_neg (h k List.mem_cons_self), fz_right (a := r) (fun q hq => h q (List.mem_cons_of_mem _ hq)), List.length_cons]; omega
theorem fz_one {k : Nat} (h : ¬ Nz [k]) : fz [k] = 0 := by
  have : k = 0 := Decidable.byContradiction fun q => h (fun x hx => by rw [List.mem_singleton.1 hx]; exact q)
  subst this; rfl
def kdk (op a b c : Nat) : Nat := if a = pt b (rl op).1 ∧ b = pt b (rl op).2.1 ∧ c = pt b (rl op).2.2.1 then pt b (rl op).2.2.2 else 0
theorem kdk_one : ∀ o : Fin 2, ∀ a : Fin 2, kdk (o.1 + 5) (a.1 + 1) 0 0 = if o.1 + 5 = 5 then (if a.1 + 1 = 1 then 1 else 0) else if a.1 + 1 = 2 then 2 else 0 := by decide
theorem kdk_two : ∀ o : Fin 15, ∀ a b : Fin 2, kdk (o.1 + 7) (a.1 + 1) (b.1 + 1) 0 = if o.1 + 7 ≤ 11 then (if a.1 + 1 = 1 ∧ b.1 + 1 = 1 then 1 else 0) else if o.1 + 7 ≤ 15 then (if a.1 + 1 = 1 ∧ b.1 + 1 = 1 then 2 else 0) else if o.1 + 7 ≤ 17 then (if a.1 + 1 = b.1 + 1 ∧ a.1 + 1 ≠ 0 then 2 else 0) else if a.1 + 1 = 2 ∧ b.1 + 1 = 2 then 2 else 0 := by decide
theorem kdk_tri : ∀ a b c : Fin 2, kdk 22 (a.1 + 1) (b.1 + 1) (c.1 + 1) = if a.1 + 1 = 2 ∧ b.1 + 1 = c.1 + 1 then b.1 + 1 else 0 := by decide
theorem fin2 {k : Nat} (h : k = 0 ∨ k = 1 ∨ k = 2) (h0 : k ≠ 0) : ∃ a : Fin 2, k = a.1 + 1 := by
  rcases h with h | h | h
  · exact absurd h h0
  · exact ⟨0, h⟩
  · exact ⟨1, h⟩
theorem kd_kdk {n : Nd} {K : List Nat} {ns : List Nm} (h2 : n.op ≠ 2) : Ty.kd n K ns = kdk n.op.toNat (kat K n.a) (kat K n.b) (kat K n.c) := by
  unfold Ty.kd
  rw [if_neg (fun h => h2 h.1)]; rfl
theorem kat_last (ns : List Nm) (K r : List Nat) (x : E) {p : Nat} (hK : K.length = p) : kat (K ++ kxs ns x ++ r) (((p + sz x : Nat) : Int) - 1) = kx ns x := by
  obtain ⟨l, h1, h2⟩ := kxs_last ns x
  have hs := sz_pos x
  have hn : (((p + sz x : Nat) : Int) - 1).toNat = (K ++ l).length := by rw [List.length_append, hK, h2]; omega
  unfold kat
  rw [if_neg (by omega), hn, h1, List.getD_eq_getElem?_getD]
  rw [show K ++ (l ++ [kx ns x]) ++ r = (K ++ l) ++ (kx ns x :: r) by simp, List.getElem?_append_right (Nat.le_refl _), Nat.sub_self]
  rfl
theorem kgo_one {ns : List Nm} {n : Nd} {K : List Nat} {r : List Nd} {k p : Nat} (h : Ty.kd n K ns = k) (hK : K.length = p) : (Nz [k] → kgo ns (n :: r) K = kgo ns r (K ++ [k])) ∧ (¬ Nz [k] → kgo ns (n :: r) K = ([], p + fz [k], 90)) := by
  subst h
  constructor
  · intro h; exact kgo_on (h _ (List.mem_singleton.2 rfl))
  · intro h
    rw [fz_one h]
    have : Ty.kd n K ns = 0 := Decidable.byContradiction fun q => h (fun x hx => by rw [List.mem_singleton.1 hx]; exact q)
    rw [kgo_bad this, hK]; rfl
theorem kgo_two {ka kb : List Nat} {p q : Nat} {X Y Z : List Nat × Nat × Int} (hq : p + ka.length = q)
    (h1 : (Nz ka → X = Y) ∧ (¬ Nz ka → X = ([], p + fz ka, 90))) (h2 : Nz ka → (Nz kb → Y = Z) ∧ (¬ Nz kb → Y = ([], q + fz kb, 90))) :
    (Nz (ka ++ kb) → X = Z) ∧ (¬ Nz (ka ++ kb) → X = ([], p + fz (ka ++ kb), 90)) := by
  constructor
  · intro h
    obtain ⟨a, b⟩ := nz_app.1 h
    exact (h1.1 a).trans ((h2 a).1 b)
  · intro h
    by_cases a : Nz ka
    · have b : ¬ Nz kb := fun b => h (nz_app.2 ⟨a, b⟩)
      rw [h1.1 a, (h2 a).2 b, fz_right a, ← hq, Nat.add_assoc]
    · rw [h1.2 a, fz_left a]
instance (l : List Nat) : Decidable (Nz l) := inferInstanceAs (Decidable (∀ k ∈ l, k ≠ 0))
theorem kat_none (K : List Nat) : kat K (-1) = 0 := rfl
theorem kgo_flat {ns : List Nm} : ∀ (x : E) (p : Nat) (K : List Nat) (r : List Nd), wr x → K.length = p → (Nz (kxs ns x) → kgo ns (flat x p ++ r) K = kgo ns r (K ++ kxs ns x)) ∧ (¬ Nz (kxs ns x) → kgo ns (flat x p ++ r) K = ([], p + fz (kxs ns x), 90))
  | .num v, p, K, r, _, hK => kgo_one (n := ⟨1, v, [], -1, -1, -1⟩) (by rfl) hK
  | .name s, p, K, r, _, hK => kgo_one (n := ⟨2, 0, s, -1, -1, -1⟩) (by
      show Ty.kd ⟨2, 0, s, -1, -1, -1⟩ K ns = if s ∈ ns then 1 else 0
      unfold Ty.kd
      by_cases h : s ∈ ns
      · rw [if_pos h, if_neg (fun q => q.2 h)]; rfl
      · rw [if_neg h, if_pos ⟨rfl, h⟩]) hK
  | .tt, p, K, r, _, hK => kgo_one (n := ⟨3, 0, [], -1, -1, -1⟩) (by rfl) hK
  | .ff, p, K, r, _, hK => kgo_one (n := ⟨4, 0, [], -1, -1, -1⟩) (by rfl) hK
  | .un op a, p, K, r, hw, hK => by
    have hw1 := hw.1
    have hop : ((op : Int)).toNat = op := Int.toNat_natCast op
    show (Nz (kxs ns a ++ [_]) → kgo ns ((flat a p ++ [_]) ++ r) K = _) ∧ (¬ Nz (kxs ns a ++ [_]) → kgo ns ((flat a p ++ [_]) ++ r) K = _)
    rw [List.append_assoc]
    have h1 := kgo_flat (ns := ns) a p K ([⟨(op : Int), 0, [], ((p + sz a : Nat) : Int) - 1, -1, -1⟩] ++ r) hw.2 hK
    refine kgo_two (q := p + sz a) (by rw [kxs_len]) h1 (fun hz => ?_)
    have hk := fin2 (kx_le ns a) (by obtain ⟨l, e, _⟩ := kxs_last ns a; rw [e] at hz; exact hz _ (List.mem_append_right _ (List.mem_singleton.2 rfl)))
    have h2 := kgo_one (ns := ns) (n := ⟨(op : Int), 0, [], ((p + sz a : Nat) : Int) - 1, -1, -1⟩) (K := K ++ kxs ns a) (r := r) (k := kx ns (.un op a)) (p := p + sz a) (by
      rw [kd_kdk (by simp only; omega)]
      simp only [hop, kat_none]
      have := kat_last ns K [] a hK
      rw [List.append_nil] at this
      rw [this]
      obtain ⟨i, hi⟩ := hk
      show _ = if op = 5 then (if kx ns a = 1 then 1 else 0) else if kx ns a = 2 then 2 else 0
      rw [hi]
      have := kdk_one ⟨op - 5, by omega⟩ i
      simp only [show op - 5 + 5 = op by omega] at this
      exact this) (by rw [List.length_append, hK, kxs_len])
    rw [List.append_assoc] at h2
    exact h2
  | .bin op a b, p, K, r, hw, hK => by
    obtain ⟨h7, h21, hwa, hwb⟩ := hw
    have hop : ((op : Int)).toNat = op := Int.toNat_natCast op
    have e : kxs ns (.bin op a b) = kxs ns a ++ (kxs ns b ++ [kx ns (.bin op a b)]) := List.append_assoc _ _ _
    have ef : flat (.bin op a b) p ++ r = flat a p ++ (flat b (p + sz a) ++ ([⟨(op : Int), 0, [], ((p + sz a : Nat) : Int) - 1, ((p + sz a + sz b : Nat) : Int) - 1, -1⟩] ++ r)) := by
      show (flat a p ++ flat b (p + sz a) ++ [_]) ++ r = _
      rw [List.append_assoc, List.append_assoc]
    rw [e, ef]
    refine kgo_two (q := p + sz a) (by rw [kxs_len]) (kgo_flat (ns := ns) a p K _ hwa hK) (fun hz => ?_)
    refine kgo_two (q := p + sz a + sz b) (by rw [kxs_len]) (kgo_flat (ns := ns) b (p + sz a) (K ++ kxs ns a) _ hwb (by rw [List.length_append, hK, kxs_len])) (fun hz2 => ?_)
    have hk := fin2 (kx_le ns a) (by obtain ⟨l, e, _⟩ := kxs_last ns a; rw [e] at hz; exact hz _ (List.mem_append_right _ (List.mem_singleton.2 rfl)))
    have hk2 := fin2 (kx_le ns b) (by obtain ⟨l, e, _⟩ := kxs_last ns b; rw [e] at hz2; exact hz2 _ (List.mem_append_right _ (List.mem_singleton.2 rfl)))
    have h2 := kgo_one (ns := ns) (n := ⟨(op : Int), 0, [], ((p + sz a : Nat) : Int) - 1, ((p + sz a + sz b : Nat) : Int) - 1, -1⟩) (K := K ++ kxs ns a ++ kxs ns b) (r := r) (k := kx ns (.bin op a b)) (p := p + sz a + sz b) (by
      rw [kd_kdk (by simp only; omega)]
      simp only [hop, kat_none]
      rw [kat_last ns K (kxs ns b) a hK]
      have := kat_last ns (K ++ kxs ns a) [] b (p := p + sz a) (by rw [List.length_append, hK, kxs_len])
      rw [List.append_nil] at this
      rw [this]
      obtain ⟨i, hi⟩ := hk
      obtain ⟨j, hj⟩ := hk2
      show _ = if op ≤ 11 then (if kx ns a = 1 ∧ kx ns b = 1 then 1 else 0) else if op ≤ 15 then (if kx ns a = 1 ∧ kx ns b = 1 then 2 else 0) else if op ≤ 17 then (if kx ns a = kx ns b ∧ kx ns a ≠ 0 then 2 else 0) else if kx ns a = 2 ∧ kx ns b = 2 then 2 else 0
      rw [hi, hj]
      have := kdk_two ⟨op - 7, by omega⟩ i j
      simp only [show op - 7 + 7 = op by omega] at this
      exact this) (by rw [List.length_append, List.length_append, hK, kxs_len, kxs_len])
    rw [show K ++ kxs ns a ++ kxs ns b ++ [kx ns (.bin op a b)] = K ++ (kxs ns a ++ (kxs ns b ++ [kx ns (.bin op a b)])) by simp only [List.append_assoc]] at h2
    exact h2
  | .ite a b c, p, K, r, hw, hK => by
    obtain ⟨hwa, hwb, hwc⟩ := hw
    have e : kxs ns (.ite a b c) = kxs ns a ++ (kxs ns b ++ (kxs ns c ++ [kx ns (.ite a b c)])) := by
      show kxs ns a ++ kxs ns b ++ kxs ns c ++ [_] = _
      rw [List.append_assoc, List.append_assoc]
    have ef : flat (.ite a b c) p ++ r = flat a p ++ (flat b (p + sz a) ++ (flat c (p + sz a + sz b) ++ ([⟨22, 0, [], ((p + sz a : Nat) : Int) - 1, ((p + sz a + sz b : Nat) : Int) - 1, ((p + sz a + sz b + sz c : Nat) : Int) - 1⟩] ++ r))) := by
      show (flat a p ++ flat b (p + sz a) ++ flat c (p + sz a + sz b) ++ [_]) ++ r = _
      rw [List.append_assoc, List.append_assoc, List.append_assoc]
    rw [e, ef]
    refine kgo_two (q := p + sz a) (by rw [kxs_len]) (kgo_flat (ns := ns) a p K _ hwa hK) (fun hz => ?_)
    refine kgo_two (q := p + sz a + sz b) (by rw [kxs_len]) (kgo_flat (ns := ns) b (p + sz a) (K ++ kxs ns a) _ hwb (by rw [List.length_append, hK, kxs_len])) (fun hz2 => ?_)
    refine kgo_two (q := p + sz a + sz b + sz c) (by rw [kxs_len]) (kgo_flat (ns := ns) c (p + sz a + sz b) (K ++ kxs ns a ++ kxs ns b) _ hwc (by rw [List.length_append, List.length_append, hK, kxs_len, kxs_len])) (fun hz3 => ?_)
    have hk := fin2 (kx_le ns a) (by obtain ⟨l, e, _⟩ := kxs_last ns a; rw [e] at hz; exact hz _ (List.mem_append_right _ (List.mem_singleton.2 rfl)))
    have hk2 := fin2 (kx_le ns b) (by obtain ⟨l, e, _⟩ := kxs_last ns b; rw [e] at hz2; exact hz2 _ (List.mem_append_right _ (List.mem_singleton.2 rfl)))
    have hk3 := fin2 (kx_le ns c) (by obtain ⟨l, e, _⟩ := kxs_last ns c; rw [e] at hz3; exact hz3 _ (List.mem_append_right _ (List.mem_singleton.2 rfl)))
    have h2 := kgo_one (ns := ns) (n := ⟨22, 0, [], ((p + sz a : Nat) : Int) - 1, ((p + sz a + sz b : Nat) : Int) - 1, ((p + sz a + sz b + sz c : Nat) : Int) - 1⟩) (K := K ++ kxs ns a ++ kxs ns b ++ kxs ns c) (r := r) (k := kx ns (.ite a b c)) (p := p + sz a + sz b + sz c) (by
      rw [kd_kdk (by simp only; omega)]
      simp only [show ((22 : Int)).toNat = 22 from rfl]
      have e1 := kat_last ns K (kxs ns b ++ kxs ns c) a hK
      rw [← List.append_assoc] at e1
      rw [e1, kat_last ns (K ++ kxs ns a) (kxs ns c) b (p := p + sz a) (by rw [List.length_append, hK, kxs_len])]
      have := kat_last ns (K ++ kxs ns a ++ kxs ns b) [] c (p := p + sz a + sz b) (by rw [List.length_append, List.length_append, hK, kxs_len, kxs_len])
      rw [List.append_nil] at this
      rw [this]
      obtain ⟨i, hi⟩ := hk
      obtain ⟨j, hj⟩ := hk2
      obtain ⟨m, hm⟩ := hk3
      show _ = if kx ns a = 2 ∧ kx ns b = kx ns c then kx ns b else 0
      rw [hi, hj, hm]
      exact kdk_tri i j m) (by rw [List.length_append, List.length_append, List.length_append, hK, kxs_len, kxs_len, kxs_len])
    rw [show K ++ kxs ns a ++ kxs ns b ++ kxs ns c ++ [kx ns (.ite a b c)] = K ++ (kxs ns a ++ (kxs ns b ++ (kxs ns c ++ [kx ns (.ite a b c)]))) by simp only [List.append_assoc]] at h2
    exact h2
theorem kgo_all {ns : List Nm} {x : E} (hw : wr x) : kgo ns (flat x 0) [] = if Nz (kxs ns x) then (kxs ns x, 0, 0) else ([], fz (kxs ns x), 90) := by
  have h := kgo_flat (ns := ns) x 0 [] [] hw rfl
  rw [List.append_nil, List.nil_append] at h
  by_cases hz : Nz (kxs ns x)
  · rw [if_pos hz, h.1 hz]; rfl
  · rw [if_neg hz, h.2 hz, Nat.zero_add]
end Ev
end Go.Proofs.YtmmdigeciphglaaGreatDoor
namespace Go.Proofs.YtmmdigeciphglaaGreatDoor
open Go.RowKit Ex Go.Maps
end Go.Proofs.YtmmdigeciphglaaGreatDoor
namespace Go.Proofs.YtmmdigeciphglaaGreatDoor
open Go.RowKit Ex
end Go.Proofs.YtmmdigeciphglaaGreatDoor
namespace Go.Proofs.YtmmdigeciphglaaGreatDoor
open Go.RowKit Ex
end Go.Proofs.YtmmdigeciphglaaGreatDoor
namespace Go.Proofs.YtmmdigeciphglaaGreatDoor
open Go.RowKit Ex
end Go.Proofs.YtmmdigeciphglaaGreatDoor
namespace Go.Proofs.YtmmdigeciphglaaGreatDoor
open Go.RowKit Ex
end Go.Proofs.YtmmdigeciphglaaGreatDoor
namespace Go.Proofs.YtmmdigeciphglaaGreatDoor
open Go.RowKit Ex
theorem NdR.to {w v : World} {A : Option Addr} {l : List Nd} (h : NdR w w.heap.size A l) (hb : Below w.heap.size w v) : NdR v v.heap.size A l := (h.below hb).more hb.size
end Go.Proofs.YtmmdigeciphglaaGreatDoor
namespace Go.Proofs.YtmmdigeciphglaaGreatDoor
open Go.RowKit Go.Shelf Go.Lib
open Go.ChangeShapes Go.WideShapes Go.ChangeAt
set_option maxRecDepth 100000
section
variable {H : Type} {enc : TypeId × Value → H} {W : World}
end
end Go.Proofs.YtmmdigeciphglaaGreatDoor
namespace Go.Proofs.YtmmdigeciphglaaGreatDoor
open Go.RowKit Ex
set_option maxHeartbeats 4000000 in
set_option maxRecDepth 100000 in
theorem ramong11_any (w : World) (A : Option Addr) (c : Nat) (ns : List Ty.Nm) (hn : NsR w w.heap.size A ns) (hc : ns.length ≤ c) (hf : FitN ns) (nm : Ty.Nm) :
    Calls Tryz.prog 47 #[.string ⟨nm.toArray⟩, .slice A ns.length c] w fun e w' => e = .returned (.bool (decide (nm ∈ ns))) ∧ Below w.heap.size w w' := by
  obtain ⟨R, hR⟩ : ∃ R, R = decide (nm ∈ ns) := ⟨_, rfl⟩
  rw [← hR]
  have HR := Lib.hid hR
  have HNS := Lib.hid hn
  have hcI : (ns.length : Int) ≤ (c : Int) := by omega
  have hnI : (ns.length : Int) ≤ 1000000 := by have := hf.1; omega
  obtain ⟨n, hnl⟩ : ∃ n, n = ns.length := ⟨_, rfl⟩
  have HN := Lib.hid hnl
  rw [← hnl] at hcI hnI ⊢
  obtain ⟨M, hM⟩ : ∃ N : ByteArray, N = ⟨nm.toArray⟩ := ⟨_, rfl⟩
  rw [← hM]
  have HMT := Lib.hid (show M.toList = nm from by rw [Lib.toList_data, hM])
  clear hR hn hc hf hnl hM
  go_enter Tryz.func47, Tryz.ntmps47
  go_wp2
  go_loopw [5] (fun iv wr => ∃ j : Nat, iv = .int .i64 j ∧ j ≤ n ∧ Hid (Below w.heap.size w wr ∧ ∀ q ∈ ns.take j, q ≠ nm)) (fun iv _ => n - (intOf iv).toNat)
  case atStart => exact ⟨0, rfl, Nat.zero_le _, Lib.hid ⟨Below.refl _ _, fun q hq => by cases hq⟩⟩
  case round =>
    obtain ⟨j, rfl, hj, HI⟩ := hrel
    by_cases hlt : j < n
    · have hlt' : (j : Int) < (n : Int) := by omega
      have hjl : j < ns.length := by have := HN.out; omega
      obtain ⟨g, o, hA, hg, c0⟩ := (HNS.out.below HI.out.1) j hjl
      subst hA
      have HTK := Lib.hid (show ns[j] ≠ nm → ∀ q ∈ ns.take (j + 1), q ≠ nm from fun h q hq => by
        rw [List.take_succ_eq_append_getElem hjl] at hq
        rcases List.mem_append.1 hq with hq | hq
        · exact HI.out.2 q hq
        · rw [List.mem_singleton.1 hq]; exact h)
      have HYE := Lib.hid (show ns[j] = nm → R = true from fun h => by rw [HR.out]; exact decide_eq_true (by rw [← h]; exact List.getElem_mem hjl))
      generalize ns[j] = x at *
      obtain ⟨N, hN⟩ : ∃ N : ByteArray, N = ⟨x.toArray⟩ := ⟨_, rfl⟩
      rw [← hN] at c0
      have HNT := Lib.hid (show N.toList = x from by rw [Lib.toList_data, hN])
      clear hN hlt
      by_cases he : x = nm
      · have e1 : (N.toList == M.toList) = true := by rw [HNT.out, HMT.out, he]; exact beq_iff_eq.2 rfl
        have HF := Lib.hid (HYE.out he)
        clear he
        go_wp2
        go_ret
        exact ⟨by rw [HF.out]; rfl, HI.out.1⟩
      · have e1 : (N.toList == M.toList) = false := by rw [HNT.out, HMT.out]; exact beq_eq_false_iff_ne.2 he
        have HF := Lib.hid (HTK.out he)
        clear he
        go_wp2
        go_roundw
        case rel => exact ⟨j + 1, by go_num, by omega, Lib.hid ⟨HI.out.1, HF.out⟩⟩
        case measure => simp [intOf]; omega
    · obtain rfl : j = n := by omega
      have hlt' : ¬ ((j : Nat) : Int) < (j : Int) := by omega
      have HF := Lib.hid (show R = false from by
        rw [HR.out]
        refine decide_eq_false (fun h => ?_)
        have q := HI.out.2
        rw [List.take_of_length_le (by rw [← HN.out]; exact Nat.le_refl _)] at q
        exact q _ h rfl)
      go_wp2
      go_ret
      exact ⟨by rw [HF.out]; rfl, HI.out.1⟩
end Go.Proofs.YtmmdigeciphglaaGreatDoor
