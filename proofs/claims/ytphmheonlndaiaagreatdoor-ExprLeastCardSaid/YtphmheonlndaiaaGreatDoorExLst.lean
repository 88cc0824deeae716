/- Plain facts for ExprLeast: a text of whole tokens with blanks between has just these; without a ( and a ) it has two fewer. No program is named here; no condition. -/
import Derived.Test.YtphmheonlndaiaaGreatDoorExPrint
namespace Go.Proofs.YtphmheonlndaiaaGreatDoor
namespace Ex

def Tg (t : Tk) : Prop := Lx.whole t.2 = t.1 ∧ t.1 ≠ 0 ∧ t.2.length ≤ 64
/-- A text of whole tokens, blanks between. -/
inductive W : List Tk → List UInt8 → Prop
  | nil : W [] []
  | sp {L u} : W L u → W L (32 :: u)
  | tk {t L u} : W L u → (u = [] ∨ ∃ v, u = 32 :: v) → W (t :: L) (t.2 ++ u)
theorem blk_32 (u : List UInt8) : Lx.blk false (32 :: u) = Lx.blk false u + 1 := by
  rw [Lx.blk, if_pos (by decide), Nat.add_comm]
theorem W.toks {L : List Tk} {u : List UInt8} (h : W L u) (hg : ∀ t ∈ L, Tg t) : ∀ p, (Lx.C (u.drop (Lx.blk false u)) p).2.2 = 0 ∧ (Lx.C (u.drop (Lx.blk false u)) p).1.map Lx.kx = L := by
  induction h with
  | nil => intro p; rw [show ([] : List UInt8).drop (Lx.blk false []) = [] from rfl, Lx.C_nil]; exact ⟨rfl, rfl⟩
  | @sp L u _ ih => intro p; rw [blk_32, List.drop_succ_cons]; exact ih hg p
  | @tk t L u _ hu ih =>
    intro p
    obtain ⟨g1, g2, g3⟩ := hg t List.mem_cons_self
    have hw : Lx.whole t.2 ≠ 0 := by rw [g1]; exact g2
    have hne : t.2 ≠ [] := fun e => hw (by rw [e]; decide)
    have hb : Lx.blk false (t.2 ++ u) = 0 := by
      rcases hu with rfl | ⟨v, rfl⟩
      · rw [List.append_nil]; exact (Lx.blk_tok hw []).2
      · exact (Lx.blk_tok hw v).1
    have hl : Lx.lng (t.2 ++ u) = t.2.length := by
      rcases hu with rfl | ⟨v, rfl⟩
      · rw [List.append_nil]; exact Lx.lng_tok hw
      · rw [Lx.lng_sep (Or.inr rfl) hne]; exact Lx.lng_tok hw
    have hpos : 0 < t.2.length := List.length_pos_iff.2 hne
    rw [hb, List.drop_zero, Lx.C_good p (by simp [hne]) (by rw [hl]; omega)]
    have hn : Lx.nx (t.2 ++ u) = t.2.length + Lx.blk false u := by unfold Lx.nx; rw [hl, List.drop_left]
    have hd : (t.2 ++ u).drop (t.2.length + Lx.blk false u) = u.drop (Lx.blk false u) := by rw [← List.drop_drop, List.drop_left]
    rw [hn, hd]
    obtain ⟨i1, i2⟩ := ih (fun q hq => hg q (List.mem_cons_of_mem _ hq)) (p + (t.2.length + Lx.blk false u))
    unfold Lx.pt
    rw [if_pos i1]
    refine ⟨rfl, ?_⟩
    rw [List.map_cons, i2]
    congr 1
    unfold Lx.kx Lx.tk
    rw [hl, List.take_left]
    exact Prod.ext g1 rfl
theorem W.parsed {L : List Tk} {u : List UInt8} (h : W L u) (hg : ∀ t ∈ L, Tg t) (hl : u.length ≤ 65536) : (Lx.toks u).2.2 = 0 ∧ (Lx.toks u).1.map Lx.kx = L := by
  rw [Lx.toks_C hl]; exact h.toks hg _
def suf (R : List Tk) : List UInt8 := R.flatMap fun t => 32 :: t.2
def pre (A : List Tk) : List UInt8 := A.flatMap fun t => t.2 ++ [32]
theorem W.suf {L : List Tk} {v : List UInt8} (h : W L v) (hv : v = [] ∨ ∃ r, v = 32 :: r) : ∀ B : List Tk, W (B ++ L) (Ex.suf B ++ v) ∧ (Ex.suf B ++ v = [] ∨ ∃ r, Ex.suf B ++ v = 32 :: r)
  | [] => ⟨h, hv⟩
  | t :: B => by
    obtain ⟨i1, i2⟩ := W.suf h hv B
    have e : Ex.suf (t :: B) ++ v = 32 :: (t.2 ++ (Ex.suf B ++ v)) := by unfold Ex.suf; rw [List.flatMap_cons]; simp
    rw [e]
    exact ⟨.sp (.tk i1 i2), Or.inr ⟨_, rfl⟩⟩
theorem W.pre {L : List Tk} {v : List UInt8} (h : W L v) : ∀ A : List Tk, W (A ++ L) (Ex.pre A ++ v)
  | [] => h
  | t :: A => by
    have i := W.pre h A
    have e : Ex.pre (t :: A) ++ v = t.2 ++ 32 :: (Ex.pre A ++ v) := by unfold Ex.pre; rw [List.flatMap_cons]; simp
    rw [e]
    exact .tk (.sp i) (Or.inr ⟨_, rfl⟩)
theorem W.cut (A B C : List Tk) : W (A ++ (B ++ C)) (Ex.pre A ++ (Ex.suf B ++ 32 :: Ex.suf C)) := by
  have h0 := (W.suf .nil (Or.inl rfl) C).1
  rw [List.append_nil, List.append_nil] at h0
  exact W.pre (W.suf (.sp h0) (Or.inr ⟨_, rfl⟩) B).1 A
theorem jn_suf : ∀ (t : Tk) (R : List Tk), jn (t :: R) = t.2 ++ suf R
  | t, [] => by simp [jn, suf]
  | t, q :: R => by
    rw [jn, if_neg (by simp), jn_suf q R]
    unfold suf; rw [List.flatMap_cons]; simp
/-- A byte that stands only alone, found behind words. -/
theorem suf_at {c : UInt8} (hc : c ≠ 32) : ∀ (R : List Tk), (∀ t ∈ R, c ∈ t.2 → t.2 = [c]) → ∀ k, (suf R)[k]? = some c → ∃ B t C, R = B ++ t :: C ∧ t.2 = [c] ∧ k = (suf B).length + 1
  | [], _, k, h => by cases h
  | t :: R, hR, k, h => by
    have e : suf (t :: R) = 32 :: (t.2 ++ suf R) := by unfold suf; rw [List.flatMap_cons]; simp
    rw [e] at h
    cases k with
    | zero => simp at h; exact absurd h.symm hc
    | succ k =>
      rw [List.getElem?_cons_succ] at h
      by_cases hk : k < t.2.length
      · rw [List.getElem?_append_left hk] at h
        have h1 := hR t List.mem_cons_self (List.mem_of_getElem? h)
        rw [h1] at hk
        have hk0 : k = 0 := by simp at hk; omega
        exact ⟨[], t, R, rfl, h1, by rw [hk0]; rfl⟩
      · rw [List.getElem?_append_right (by omega)] at h
        obtain ⟨B, q, C, e1, e2, e3⟩ := suf_at hc R (fun q hq => hR q (List.mem_cons_of_mem _ hq)) _ h
        refine ⟨t :: B, q, C, by rw [e1]; rfl, e2, ?_⟩
        have e4 : (suf (t :: B)).length = t.2.length + (suf B).length + 1 := by unfold suf; rw [List.flatMap_cons]; simp <;> omega
        omega
/-- The same, found anywhere. -/
theorem jn_at {c : UInt8} (hc : c ≠ 32) (L : List Tk) (hL : ∀ t ∈ L, c ∈ t.2 → t.2 = [c]) (i : Nat) (h : (jn L)[i]? = some c) : ∃ A t R, L = A ++ t :: R ∧ t.2 = [c] ∧ i = (pre A).length ∧ jn L = pre A ++ c :: suf R := by
  have key : ∀ (B : List Tk) (t q : Tk) (C : List Tk), q.2 = [c] → t.2 ++ suf (B ++ q :: C) = pre (t :: B) ++ c :: suf C := by
    intro B
    induction B with
    | nil => intro t q C hq; unfold suf pre; simp [hq]
    | cons b B ih =>
      intro t q C hq
      have e1 : suf (b :: B ++ q :: C) = 32 :: (b.2 ++ suf (B ++ q :: C)) := by unfold suf; rw [List.cons_append, List.flatMap_cons]; simp
      have e2 : pre (t :: b :: B) = t.2 ++ 32 :: pre (b :: B) := by unfold pre; rw [List.flatMap_cons]; simp
      rw [e1, ih b q C hq, e2]; simp
  cases L with
  | nil => cases h
  | cons t R =>
    rw [jn_suf] at h
    by_cases hi : i < t.2.length
    · rw [List.getElem?_append_left hi] at h
      have h1 := hL t List.mem_cons_self (List.mem_of_getElem? h)
      rw [h1] at hi
      have hi0 : i = 0 := by simp at hi; omega
      exact ⟨[], t, R, rfl, h1, by rw [hi0]; rfl, by rw [jn_suf, h1] <;> rfl⟩
    · rw [List.getElem?_append_right (by omega)] at h
      obtain ⟨B, q, C, e1, e2, e3⟩ := suf_at hc R (fun q hq => hL q (List.mem_cons_of_mem _ hq)) _ h
      have hs : ∀ (B : List Tk) (t : Tk), (pre (t :: B)).length = t.2.length + (suf B).length + 1 := by
        intro B
        induction B with
        | nil => intro t; unfold pre suf; simp
        | cons b B ih =>
          intro t
          have e1 : suf (b :: B) = 32 :: (b.2 ++ suf B) := by unfold suf; rw [List.flatMap_cons]; simp
          have e2 : pre (t :: b :: B) = t.2 ++ 32 :: pre (b :: B) := by unfold pre; rw [List.flatMap_cons]; simp
          rw [e1, e2]
          simp only [List.length_append, List.length_cons]
          rw [ih b]; omega
      refine ⟨t :: B, q, C, by rw [e1]; rfl, e2, by rw [hs]; omega, ?_⟩
      rw [jn_suf, e1, key B t q C e2]
theorem alone {c : UInt8} (hc : c = 40 ∨ c = 41) {x : List UInt8} (hw : Lx.whole x ≠ 0) (h : c ∈ x) : x = [c] := by
  have hd : Lx.isD c = false := by rcases hc with rfl | rfl <;> decide
  have hn : Lx.isN c = false := by rcases hc with rfl | rfl <;> decide
  unfold Lx.whole at hw
  split at hw
  · rename_i hs
    have hs : x ∈ Lx.signs := by simpa using hs
    revert h
    rcases hc with rfl | rfl <;> (simp only [Lx.signs, List.mem_cons, List.mem_nil_iff, or_false] at hs; rcases hs with rfl | rfl | rfl | rfl | rfl | rfl | rfl | rfl | rfl | rfl | rfl | rfl | rfl | rfl <;> decide)
  · split at hw
    · rename_i hs
      have hs : x ∈ Lx.words := by simpa using hs
      revert h
      rcases hc with rfl | rfl <;> (simp only [Lx.words, List.mem_cons, List.mem_nil_iff, or_false] at hs; rcases hs with rfl | rfl | rfl | rfl | rfl | rfl | rfl | rfl | rfl | rfl | rfl | rfl | rfl | rfl <;> decide)
    · split at hw
      · exact absurd rfl hw
      · split at hw
        · rename_i ha
          rw [List.all_eq_true] at ha
          rw [ha c h] at hd; cases hd
        · split at hw
          · rename_i ha
            rw [Bool.and_eq_true, List.all_eq_true] at ha
            rw [ha.2 c h] at hn; cases hn
          · exact absurd rfl hw
/-- Without a ( and a ) behind it, a text of whole tokens has two fewer. -/
theorem jn_cut {L : List Tk} (hg : ∀ t ∈ L, Tg t) (hl : (jn L).length ≤ 65536) {i k : Nat} (hik : i < k) (hi : (jn L)[i]? = some 40) (hk : (jn L)[k]? = some 41) :
    ∃ M, M.length + 2 = L.length ∧ (Lx.toks ((jn L).take i ++ ((jn L).take k).drop (i + 1) ++ (jn L).drop (k + 1))).2.2 = 0 ∧ (Lx.toks ((jn L).take i ++ ((jn L).take k).drop (i + 1) ++ (jn L).drop (k + 1))).1.map Lx.kx = M := by
  have hw : ∀ t ∈ L, Lx.whole t.2 ≠ 0 := fun t ht => by rw [(hg t ht).1]; exact (hg t ht).2.1
  obtain ⟨A, t, R, e1, e2, e3, e4⟩ := jn_at (by decide) L (fun t ht h => alone (Or.inl rfl) (hw t ht) h) i hi
  rw [e4] at hk hl ⊢
  rw [List.getElem?_append_right (by omega)] at hk
  obtain ⟨m, hm⟩ : ∃ m, k = (pre A).length + m + 1 := ⟨k - (pre A).length - 1, by omega⟩
  rw [show k - (pre A).length = m + 1 by omega, List.getElem?_cons_succ] at hk
  obtain ⟨B, q, C, f1, f2, f3⟩ := suf_at (by decide) R (fun q hq h => alone (Or.inr rfl) (hw q (by rw [e1]; simp [hq])) h) m hk
  have hs : suf R = suf B ++ 32 :: 41 :: suf C := by rw [f1]; unfold suf; rw [List.flatMap_append, List.flatMap_cons, f2]; rfl
  have hu : (pre A ++ 40 :: suf R).take i ++ ((pre A ++ 40 :: suf R).take k).drop (i + 1) ++ (pre A ++ 40 :: suf R).drop (k + 1) = pre A ++ (suf B ++ 32 :: suf C) := by
    have a1 : (pre A ++ 40 :: suf R).take i = pre A := by rw [e3, List.take_left]
    have a2 : pre A ++ 40 :: suf R = (pre A ++ 40 :: (suf B ++ [32])) ++ 41 :: suf C := by rw [hs]; simp
    have a3 : (pre A ++ 40 :: (suf B ++ [32])).length = k := by simp; omega
    have a4 : (pre A ++ 40 :: suf R).take k = pre A ++ 40 :: (suf B ++ [32]) := by rw [a2, ← a3, List.take_left]
    have a5 : (pre A ++ 40 :: suf R).drop (k + 1) = suf C := by
      rw [a2, show pre A ++ 40 :: (suf B ++ [32]) ++ 41 :: suf C = (pre A ++ 40 :: (suf B ++ [32]) ++ [41]) ++ suf C by simp]
      rw [show k + 1 = (pre A ++ 40 :: (suf B ++ [32]) ++ [41]).length by rw [List.length_append, a3]; rfl, List.drop_left]
    have a6 : (pre A ++ 40 :: (suf B ++ [32])).drop (i + 1) = suf B ++ [32] := by
      rw [show pre A ++ 40 :: (suf B ++ [32]) = (pre A ++ [40]) ++ (suf B ++ [32]) by simp, show i + 1 = (pre A ++ [40]).length by simp [e3], List.drop_left]
    rw [a1, a4, a5, a6]; simp
  have hlen : (pre A ++ (suf B ++ 32 :: suf C)).length ≤ 65536 := by
    rw [hs] at hl
    simp only [List.length_append, List.length_cons] at hl ⊢
    omega
  refine ⟨A ++ (B ++ C), ?_, ?_⟩
  · rw [e1, f1]; simp only [List.length_append, List.length_cons]; omega
  · rw [hu]
    refine (W.cut A B C).parsed (fun z hz => hg z ?_) hlen
    rw [e1, f1]
    simp only [List.mem_append, List.mem_cons] at hz ⊢
    rcases hz with h | h | h
    · exact Or.inl h
    · exact Or.inr (Or.inr (Or.inl h))
    · exact Or.inr (Or.inr (Or.inr (Or.inr h)))
/-- So what is printed has no ( and ) to spare. -/
theorem spare {x y : E} {u : List UInt8} (hx : wf x) (hl : (prs x 0).length ≤ 65536) {i k : Nat} (hik : i < k) (hi : (prs x 0)[i]? = some 40) (hk : (prs x 0)[k]? = some 41)
    (hu : u = (prs x 0).take i ++ ((prs x 0).take k).drop (i + 1) ++ (prs x 0).drop (k + 1)) (hr : R (.lev 1) ((Lx.toks u).1.map Lx.kx) = .ok [] y) : y ≠ x := by
  intro e
  subst e
  have hg : ∀ t ∈ pr y 0, Tg t := fun t ht => by
    obtain ⟨h1, h2⟩ := pr_mem hx 0 t ht
    have h3 : t.2.length ≤ 64 := by
      refine Decidable.byContradiction fun h => h2 ?_
      rw [← h1]; unfold Lx.is; rw [if_pos (by omega)]
    exact ⟨by rw [← h1]; unfold Lx.is; rw [if_neg (by omega)], h2, h3⟩
  have hp : prs y 0 = jn (pr y 0) := prs_jn y 0
  rw [hp] at hl hi hk hu
  obtain ⟨M, m1, _, m2⟩ := jn_cut hg hl hik hi hk
  rw [hu, m2] at hr
  have := least hr
  omega
end Ex
end Go.Proofs.YtphmheonlndaiaaGreatDoor
