/- Plain facts: what is written of a right tree is cut into its tags and texts, and these grow the same tree. No program is named here; no condition. -/
import Derived.Test.YtgidpcfaeekjhaaGreatDoorTrBk4
namespace Go.Proofs.YtgidpcfaeekjhaaGreatDoor.Tr
open Go

/-- The same elements, but for where they stood. -/
def F.eqv : F → F → Prop
  | .nil, .nil => True
  | .node x k r, .node x' k' r' => (x.nm = x'.nm ∧ x.al = x'.al ∧ x.tx = x'.tx) ∧ F.eqv k k' ∧ F.eqv r r'
  | .nil, .node _ _ _ => False
  | .node _ _ _, .nil => False
theorem F.eqv_e : ∀ {f f' : F}, f.eqv f' → f.e = f'.e
  | .nil, .nil, _ => rfl
  | .node _ _ _, .node _ _ _, _ => rfl
  | .nil, .node _ _ _, h => by cases h
  | .node _ _ _, .nil, h => by cases h
theorem F.eqv_size : ∀ {f f' : F}, f.eqv f' → f.size = f'.size
  | .nil, .nil, _ => rfl
  | .node _ k r, .node _ k' r', h => by
    have h1 := F.eqv_size h.2.1
    have h2 := F.eqv_size h.2.2
    show 1 + k.size + r.size = 1 + k'.size + r'.size
    omega
  | .nil, .node _ _ _, h => by cases h
  | .node _ _ _, .nil, h => by cases h
theorem same_app : ∀ {a b c d : List N}, same a b = true → same c d = true → same (a ++ c) (b ++ d) = true
  | [], [], _, _, _, h => h
  | [], _ :: _, _, _, h, _ => by cases h
  | _ :: _, [], _, _, h, _ => by cases h
  | x :: a, y :: b, c, d, h, h2 => by
    have h' : (same1 x y && same a b) = true := h
    rw [Bool.and_eq_true] at h'
    show (same1 x y && same (a ++ c) (b ++ d)) = true
    rw [Bool.and_eq_true]
    exact ⟨h'.1, same_app h'.2 h2⟩
theorem F.flat_eqv : ∀ {f f' : F} (b : Nat) (pa : Int), f.eqv f' → same (f.flat b pa) (f'.flat b pa) = true
  | .nil, .nil, _, _, _ => rfl
  | .node x k r, .node x' k' r', b, pa, h => by
    rw [F.flat_node, F.flat_node, ← F.eqv_e h.2.1, ← F.eqv_e h.2.2, ← F.eqv_size h.2.1]
    have h1 : same1 { x with pa := pa, fi := if k.e then -1 else ((b + 1 : Nat) : Int), nx := if r.e then -1 else ((b + 1 + k.size : Nat) : Int) } { x' with pa := pa, fi := if k.e then -1 else ((b + 1 : Nat) : Int), nx := if r.e then -1 else ((b + 1 + k.size : Nat) : Int) } = true :=
      same1_iff.2 ⟨h.1.1, h.1.2.1, h.1.2.2, rfl, rfl, rfl⟩
    show (same1 _ _ && same _ _) = true
    rw [h1, Bool.true_and]
    exact same_app (F.flat_eqv _ _ h.2.1) (F.flat_eqv _ _ h.2.2)
  | .nil, .node _ _ _, _, _, h => by cases h
  | .node _ _ _, .nil, _, _, h => by cases h
def textOf (v : List UInt8) (p : Nat) : List Tk.T := if v = [] then [] else [⟨4, [], [], v, p⟩]
/-- The tokens of elements one behind the other. -/
def F.tk : F → List Tk.T → Prop
  | .nil, us => us = []
  | .node x k r, us => ∃ a b p, F.tk k a ∧ F.tk r b ∧ x.at_ = ((p : Nat) : Int) ∧
      ((x.tx = [] ∧ k.e = true ∧ us = ⟨3, x.nm, x.al, [], p⟩ :: b) ∨ (∃ p1 p2, us = ⟨1, x.nm, x.al, [], p⟩ :: (textOf x.tx p1 ++ (a ++ ⟨2, x.nm, [], [], p2⟩ :: b))))
def Good (s : List UInt8) (ts : List Tk.T) (tx : Bool) : Prop := Tk.Cuts s ts tx ∧ En.validL s
theorem good_chunk {s : List UInt8} {ts : List Tk.T} {tx : Bool} (h : Good s ts tx) {p : Tk.P} {t : List UInt8} {x : Tk.T} (hc : Tk.chunk p = some (t, x)) (h4 : tx = true → x.k ≠ 4) {fl : Bool} (hf : (x.k == 4) = fl) : Good (s ++ t) (ts ++ [⟨x.k, x.nm, x.as, x.tx, s.length⟩]) fl := by
  subst hf
  obtain ⟨c1, c2, _, c4, c5⟩ := Tk.chunk_step hc
  exact ⟨Tk.cuts_more h.1 c1 (fun e => c2 (h4 e)) c5, Tk.validL_append h.2 c4⟩
theorem encB_ne {v : List UInt8} (h : v ≠ []) : En.encB false v ≠ [] := by
  cases v with
  | nil => exact absurd rfl h
  | cons b l =>
    rw [En.encB_cons]
    intro e
    have := (List.append_eq_nil_iff.1 e).1
    unfold En.wrB at this
    revert this
    repeat' split
    all_goals simp
theorem all_ok {al : List At} (h : ∀ a ∈ al, Nm.isn a.1 = true ∧ chs a.2 = true) : al.all Tk.okAB = true := List.all_eq_true.2 fun a ha => Tk.okAB_iff.2 ⟨(h a ha).1, chs_valid (h a ha).2⟩
theorem ch_tag {nm : List UInt8} {al : List At} {k : Nat} (hk : k = 1 ∨ k = 3) (hn : Nm.isn nm = true) (ha : al.all Tk.okAB = true) (h32 : al.length ≤ 32) :
    Tk.chunk ⟨k, nm, al, [], false⟩ = some (60 :: (nm ++ (Tk.asw al ++ if k = 3 then [47, 62] else [62])), ⟨if k = 3 then 3 else 1, nm, al, [], 0⟩) := by
  unfold Tk.chunk
  simp only
  rw [if_neg (by omega), if_neg (by rw [hn]; simp), if_neg (by omega), if_neg (fun h => h.elim (fun h => by rw [ha] at h; cases h) (fun h => by omega))]
theorem ch_close {nm : List UInt8} (hn : Nm.isn nm = true) : Tk.chunk ⟨2, nm, [], [], false⟩ = some (60 :: 47 :: (nm ++ [62]), ⟨2, nm, [], [], 0⟩) := by
  unfold Tk.chunk
  simp only
  rw [if_neg (by decide), if_neg (by rw [hn]; simp), if_pos trivial]
theorem ch_text {v : List UInt8} (hv : En.validL v) (hne : v ≠ []) : Tk.chunk ⟨0, [], [], v, false⟩ = some (En.encB false v, ⟨4, [], [], v, 0⟩) := by
  unfold Tk.chunk
  simp only
  rw [if_pos trivial, En.rep_eF_of hv, if_pos ⟨rfl, encB_ne hne⟩]
theorem F.e_nil : ∀ {f : F}, f.e = true → f = .nil
  | .nil, _ => rfl
  | .node _ _ _, h => by cases h
/-- What is written of elements is cut into their tags and texts. -/
theorem cut_F : ∀ (f : F) (s : List UInt8) (ts : List Tk.T) (tx : Bool), (∀ x ∈ f.pre, proper x = true) → Good s ts tx → ∃ f' us, F.eqv f f' ∧ F.tk f' us ∧ Good (s ++ f.wr) (ts ++ us) (if f.e then tx else false)
  | .nil, s, ts, tx, _, h => ⟨.nil, [], trivial, rfl, by
    show Good (s ++ []) (ts ++ []) tx
    rw [List.append_nil, List.append_nil]; exact h⟩
  | .node x k r, s, ts, tx, hp, h => by
    obtain ⟨p1, p2, p3, p4, _, p6⟩ := proper_iff.1 (hp x (by rw [F.pre_node]; simp))
    have hpk : ∀ y ∈ k.pre, proper y = true := fun y hy => hp y (by rw [F.pre_node]; simp [hy])
    have hpr : ∀ y ∈ r.pre, proper y = true := fun y hy => hp y (by rw [F.pre_node]; simp [hy])
    have hall := all_ok p6
    have hflag : ∀ b : Bool, (if b = true then false else false) = false := fun b => by cases b <;> rfl
    by_cases hc : x.tx = [] ∧ k.e = true
    · have hk := F.e_nil hc.2
      subst hk
      have g1 := good_chunk h (ch_tag (k := 3) (Or.inr rfl) p1 hall p4) (fun _ => by simp) (fl := false) (by rfl)
      obtain ⟨r', ur, q1, q2, q3⟩ := cut_F r _ _ _ hpr g1
      refine ⟨.node { x with at_ := (s.length : Int) } .nil r', ⟨3, x.nm, x.al, [], s.length⟩ :: ur, ⟨⟨rfl, rfl, rfl⟩, trivial, q1⟩, ⟨[], ur, s.length, rfl, q2, rfl, Or.inl ⟨hc.1, rfl, rfl⟩⟩, ?_⟩
      have e1 : s ++ (F.node x .nil r).wr = (s ++ 60 :: (x.nm ++ (Tk.asw x.al ++ [47, 62]))) ++ r.wr := by
        rw [F.wr_node, if_pos hc]; simp
      rw [e1]
      have e2 : ts ++ (⟨3, x.nm, x.al, [], s.length⟩ :: ur) = (ts ++ [⟨3, x.nm, x.al, [], s.length⟩]) ++ ur := by simp
      rw [e2]
      have q3' := q3
      rw [hflag] at q3'
      exact q3'
    · have g1 := good_chunk h (ch_tag (k := 1) (Or.inl rfl) p1 hall p4) (fun _ => by simp) (fl := false) (by rfl)
      have g2 : ∃ p tx2, Good ((s ++ 60 :: (x.nm ++ (Tk.asw x.al ++ [62]))) ++ En.encB false x.tx) ((ts ++ [⟨1, x.nm, x.al, [], s.length⟩]) ++ textOf x.tx p) tx2 := by
        by_cases ht : x.tx = []
        · refine ⟨0, false, ?_⟩
          unfold textOf
          rw [if_pos ht, ht, List.append_nil, show En.encB false [] = [] from rfl, List.append_nil]
          exact g1
        · refine ⟨(s ++ 60 :: (x.nm ++ (Tk.asw x.al ++ [62]))).length, true, ?_⟩
          unfold textOf
          rw [if_neg ht]
          exact good_chunk g1 (ch_text (chs_valid p3) ht) (fun e => absurd e (by decide)) (fl := true) (by rfl)
      obtain ⟨pt, tx2, g2⟩ := g2
      obtain ⟨k', uk, q1, q2, q3⟩ := cut_F k _ _ _ hpk g2
      have g4 := good_chunk q3 (ch_close p1) (fun _ => by simp) (fl := false) (by rfl)
      obtain ⟨r', ur, s1, s2, s3⟩ := cut_F r _ _ _ hpr g4
      obtain ⟨pc, hpc⟩ : ∃ p, p = ((s ++ 60 :: (x.nm ++ (Tk.asw x.al ++ [62]))) ++ En.encB false x.tx ++ k.wr).length := ⟨_, rfl⟩
      refine ⟨.node { x with at_ := (s.length : Int) } k' r', ⟨1, x.nm, x.al, [], s.length⟩ :: (textOf x.tx pt ++ (uk ++ ⟨2, x.nm, [], [], pc⟩ :: ur)), ⟨⟨rfl, rfl, rfl⟩, q1, s1⟩, ⟨uk, ur, s.length, q2, s2, rfl, Or.inr ⟨pt, pc, rfl⟩⟩, ?_⟩
      have e1 : s ++ (F.node x k r).wr = ((((s ++ 60 :: (x.nm ++ (Tk.asw x.al ++ [62]))) ++ En.encB false x.tx) ++ k.wr) ++ (60 :: 47 :: (x.nm ++ [62]))) ++ r.wr := by
        rw [F.wr_node, if_neg hc]; simp
      rw [e1]
      have s3' := s3
      rw [hflag] at s3'
      have e2 : ∀ (q : Nat) (z : Tk.T), ((((ts ++ [(⟨1, x.nm, x.al, [], s.length⟩ : Tk.T)]) ++ textOf x.tx pt) ++ uk) ++ [z]) ++ ur = ts ++ ((⟨1, x.nm, x.al, [], s.length⟩ : Tk.T) :: (textOf x.tx pt ++ (uk ++ z :: ur))) := fun _ z => by simp
      rw [e2 0] at s3'
      rw [hpc]
      exact s3'

/-! ### the tokens grow the tree -/
theorem lay_kids {P : List N} {b : Nat} (hb : P.length = b) (x : N) (k : F) (pa : Int) :
    (if k.e then P ++ [{ x with pa := pa, fi := -1, nx := -1 }] else link (P ++ [{ x with pa := pa, fi := -1, nx := -1 }]) b (-1)) ++ k.flat (b + 1) b = P ++ { x with pa := pa, fi := if k.e then -1 else ((b + 1 : Nat) : Int), nx := -1 } :: k.flat (b + 1) b := by
  cases k.e with
  | true => simp
  | false =>
    simp only [Bool.false_eq_true, if_false]
    rw [link_first hb]; simp
theorem srt_rising {al : List At} (h : rising al = true) : srt al = al := by
  have hs := (rising_iff al).1 h
  have hu : Up al := hs.imp fun h => lt_asymm h
  exact ((sort_tells (List.Perm.refl al) hu).2 h).symm
theorem tag_ok {ns : List N} {op : List E} {t : Tk.T} (hk : t.k = 1 ∨ t.k = 3) (hb : behind ⟨ns, op⟩ = false) (hr : rising t.as = true) (h1 : ns.length < 4096) (h2 : op.length < 64) : wrong ⟨ns, op⟩ t = 0 := by
  rw [wrong_tag hk hb, srt_rising hr, if_neg (by rw [hr]; simp), if_neg (by simp only; omega)]
/-- What grows inside of an element, up to its end. -/
theorem inside {x : N} {k : F} {a : List Tk.T} {p p1 p2 : Nat} (hx : proper x = true) (hat : x.at_ = (p : Int)) (len : Nat) (P : List N) (os : List E) (b : Nat) (pa : Int) (rest : List Tk.T) (hP : P.length = b)
    (ih : ∀ (ns : List N) (os : List E) (e : E) (rest : List Tk.T), ns.length + k.size ≤ 4096 → os.length + 1 + k.dp ≤ 64 → ∃ e2, e2.pl = e.pl ∧ e2.tx = e.tx ∧ loop len (a ++ rest) ⟨ns, os ++ [e]⟩ = loop len rest ⟨(if k.e then ns else link ns e.pl e.yg) ++ k.flat ns.length e.pl, os ++ [e2]⟩)
    (hs : b + 1 + k.size ≤ 4096) (hd : os.length + 1 + k.dp ≤ 64) :
    loop len (textOf x.tx p1 ++ (a ++ ⟨2, x.nm, [], [], p2⟩ :: rest)) ⟨P ++ [⟨x.nm, x.al, [], pa, -1, -1, p⟩], os ++ [⟨b, -1, []⟩]⟩ = loop len rest ⟨P ++ { x with pa := pa, fi := if k.e then -1 else ((b + 1 : Nat) : Int), nx := -1 } :: k.flat (b + 1) b, os⟩ := by
  obtain ⟨_, p2', _, _, _, _⟩ := proper_iff.1 hx
  obtain ⟨txs, htx⟩ : ∃ txs : List (List UInt8), txs = if x.tx = [] then [] else [x.tx] := ⟨_, rfl⟩
  have hfl : txs.flatten = x.tx := by
    rw [htx]
    split
    · rename_i h; rw [h]; rfl
    · simp
  have e1 : loop len (textOf x.tx p1 ++ (a ++ ⟨2, x.nm, [], [], p2⟩ :: rest)) ⟨P ++ [⟨x.nm, x.al, [], pa, -1, -1, p⟩], os ++ [⟨b, -1, []⟩]⟩ = loop len (a ++ ⟨2, x.nm, [], [], p2⟩ :: rest) ⟨P ++ [⟨x.nm, x.al, [], pa, -1, -1, p⟩], os ++ [⟨b, -1, txs⟩]⟩ := by
    rw [htx]
    unfold textOf
    by_cases ht : x.tx = []
    · rw [if_pos ht, if_pos ht]; rfl
    · rw [if_neg ht, if_neg ht]
      show loop len (_ :: (a ++ _)) _ = _
      rw [loop_go (by rw [wrong_text rfl, if_neg (by simp)])]
      unfold take
      rw [if_pos rfl, more_snoc]
      rfl
  rw [e1]
  obtain ⟨e2, q1, q2, q3⟩ := ih (P ++ [⟨x.nm, x.al, [], pa, -1, -1, p⟩]) os ⟨b, -1, txs⟩ (⟨2, x.nm, [], [], p2⟩ :: rest) (by rw [List.length_append, hP]; simp only [List.length_cons, List.length_nil]; omega) hd
  rw [q3]
  have hl1 : (P ++ [(⟨x.nm, x.al, [], pa, -1, -1, p⟩ : N)]).length = b + 1 := by rw [List.length_append, hP]; rfl
  rw [hl1]
  have hk0 := lay_kids hP (⟨x.nm, x.al, [], pa, -1, -1, p⟩ : N) k pa
  simp only at hk0 ⊢
  rw [hk0]
  simp only at q1 q2
  have hat2 : ((P ++ (⟨x.nm, x.al, [], pa, if k.e = true then -1 else ((b + 1 : Nat) : Int), -1, (p : Int)⟩ : N) :: k.flat (b + 1) b)[b]?) = some ⟨x.nm, x.al, [], pa, if k.e = true then -1 else ((b + 1 : Nat) : Int), -1, (p : Int)⟩ := by
    rw [List.getElem?_append_right (by omega), hP, Nat.sub_self]; rfl
  rw [loop_go (by
    rw [wrong_close rfl, if_neg]
    rw [inn_snoc, q1, Int.toNat_natCast, hat2]
    simp)]
  unfold take
  rw [if_neg (by simp), if_neg (by simp), if_neg (by simp), if_pos rfl]
  have hset : cls (settle ⟨P ++ (⟨x.nm, x.al, [], pa, if k.e = true then -1 else ((b + 1 : Nat) : Int), -1, (p : Int)⟩ : N) :: k.flat (b + 1) b, os ++ [e2]⟩) = ⟨P ++ { x with pa := pa, fi := if k.e then -1 else ((b + 1 : Nat) : Int), nx := -1 } :: k.flat (b + 1) b, os⟩ := by
    unfold settle
    rw [inn_snoc, q2, hfl, q1, Int.toNat_natCast]
    have hx0 : ({ x with pa := pa, fi := if k.e = true then -1 else ((b + 1 : Nat) : Int), nx := -1 } : N) = ⟨x.nm, x.al, x.tx, pa, if k.e = true then -1 else ((b + 1 : Nat) : Int), -1, (p : Int)⟩ := by rw [hat]
    by_cases hb : Tk.allB x.tx = true
    · rw [if_pos hb]
      have ht : x.tx = [] := by
        rcases p2' with h | h
        · exact h
        · rw [hb] at h; cases h
      unfold cls
      simp only [List.dropLast_concat]
      rw [hx0, ht]
    · rw [if_neg hb]
      unfold cls
      simp only [List.dropLast_concat]
      rw [← hP, mod_mid, hP, hx0]
  rw [hset]
theorem loop_F (len : Nat) : ∀ (f : F) (us : List Tk.T), F.tk f us → (∀ x ∈ f.pre, proper x = true) → ∀ (ns : List N) (os : List E) (e : E) (rest : List Tk.T), ns.length + f.size ≤ 4096 → os.length + 1 + f.dp ≤ 64 →
    ∃ e2, e2.pl = e.pl ∧ e2.tx = e.tx ∧ loop len (us ++ rest) ⟨ns, os ++ [e]⟩ = loop len rest ⟨(if f.e then ns else link ns e.pl e.yg) ++ f.flat ns.length e.pl, os ++ [e2]⟩
  | .nil, us, h, _, ns, os, e, rest, _, _ => by
    have : us = [] := h
    subst this
    refine ⟨e, rfl, rfl, ?_⟩
    show loop len rest _ = loop len rest ⟨ns ++ [], os ++ [e]⟩
    rw [List.append_nil]
  | .node x k r, us, ⟨a, b, p, hk, hr, hat, hus⟩, hp, ns, os, e, rest, hsz, hdp => by
    have hx := hp x (by rw [F.pre_node]; simp)
    have hpk : ∀ y ∈ k.pre, proper y = true := fun y hy => hp y (by rw [F.pre_node]; simp [hy])
    have hpr : ∀ y ∈ r.pre, proper y = true := fun y hy => hp y (by rw [F.pre_node]; simp [hy])
    obtain ⟨_, _, _, _, p5, _⟩ := proper_iff.1 hx
    have hsz' : ns.length + (1 + k.size + r.size) ≤ 4096 := hsz
    rw [F.dp_node] at hdp
    have hll : (link ns e.pl e.yg).length = ns.length := link_len _ _ _
    have hbh : behind ⟨ns, os ++ [e]⟩ = false := by unfold behind; simp
    have hopn : ∀ kk : Int, opn ⟨ns, os ++ [e]⟩ (nodeOf ⟨kk, x.nm, x.al, [], p⟩) = ⟨link ns e.pl e.yg ++ [⟨x.nm, x.al, [], e.pl, -1, -1, p⟩], (os ++ [{ e with yg := (ns.length : Int) }]) ++ [⟨ns.length, -1, []⟩]⟩ := by
      intro kk
      unfold opn add nodeOf
      simp only
      rw [inn_snoc, young_snoc, srt_rising p5]
    rcases hus with ⟨ht, hke, rfl⟩ | ⟨p1, p2, rfl⟩
    · have hkn := F.e_nil hke
      subst hkn
      have hw : wrong ⟨ns, os ++ [e]⟩ ⟨3, x.nm, x.al, [], p⟩ = 0 := tag_ok (Or.inr rfl) hbh p5 (by omega) (by rw [List.length_append]; simp only [List.length_cons, List.length_nil]; omega)
      obtain ⟨e2, q1, q2, q3⟩ := loop_F len r b hr hpr (link ns e.pl e.yg ++ [⟨x.nm, x.al, [], e.pl, -1, -1, p⟩]) os { e with yg := (ns.length : Int) } rest (by rw [List.length_append, hll]; simp only [List.length_cons, List.length_nil]; omega) (by omega)
      refine ⟨e2, q1, q2, ?_⟩
      show loop len (_ :: (b ++ rest)) _ = _
      rw [loop_go hw]
      unfold take
      rw [if_neg (by simp), if_neg (by simp), if_pos rfl, hopn]
      unfold cls
      rw [List.dropLast_concat, q3]
      have hlay := lay_node hll x .nil r e.pl
      have hx0 : ({ x with pa := e.pl, fi := -1, nx := -1 } : N) = ⟨x.nm, x.al, [], e.pl, -1, -1, p⟩ := by rw [hat, ht]
      rw [hx0] at hlay
      simp only [show F.nil.e = true from rfl, if_true, show ∀ b pa, F.nil.flat b pa = [] from fun _ _ => rfl, List.append_nil, show F.nil.size = 0 from rfl, Nat.add_zero] at hlay
      have hl2 : (link ns e.pl e.yg ++ [(⟨x.nm, x.al, [], e.pl, -1, -1, p⟩ : N)]).length = ns.length + 1 := by rw [List.length_append, hll]; rfl
      rw [hl2]
      simp only at q1
      show loop len rest ⟨_, _⟩ = _
      rw [show (F.node x .nil r).e = false from rfl]
      simp only [Bool.false_eq_true, if_false]
      rw [← hlay]
    · have hw : wrong ⟨ns, os ++ [e]⟩ ⟨1, x.nm, x.al, [], p⟩ = 0 := tag_ok (Or.inl rfl) hbh p5 (by omega) (by rw [List.length_append]; simp only [List.length_cons, List.length_nil]; omega)
      have hin := inside (p1 := p1) (p2 := p2) hx hat len (link ns e.pl e.yg) (os ++ [{ e with yg := (ns.length : Int) }]) ns.length e.pl (b ++ rest) hll (fun ns' os' e' rest' h1 h2 => loop_F len k a hk hpk ns' os' e' rest' h1 h2) (by omega) (by rw [List.length_append]; simp only [List.length_cons, List.length_nil]; omega)
      obtain ⟨e2, q1, q2, q3⟩ := loop_F len r b hr hpr (link ns e.pl e.yg ++ { x with pa := e.pl, fi := if k.e then -1 else ((ns.length + 1 : Nat) : Int), nx := -1 } :: k.flat (ns.length + 1) ns.length) os { e with yg := (ns.length : Int) } rest (by rw [List.length_append, List.length_cons, hll, F.flat_len]; omega) (by omega)
      refine ⟨e2, q1, q2, ?_⟩
      have e0 : (⟨1, x.nm, x.al, [], p⟩ :: (textOf x.tx p1 ++ (a ++ ⟨2, x.nm, [], [], p2⟩ :: b)) : List Tk.T) ++ rest = ⟨1, x.nm, x.al, [], p⟩ :: (textOf x.tx p1 ++ (a ++ ⟨2, x.nm, [], [], p2⟩ :: (b ++ rest))) := by simp
      rw [e0, loop_go hw]
      unfold take
      rw [if_neg (by simp), if_pos rfl, hopn, hin, q3]
      have hlay := lay_node hll x k r e.pl
      rw [lay_kids hll] at hlay
      have hl2 : (link ns e.pl e.yg ++ ({ x with pa := e.pl, fi := if k.e then -1 else ((ns.length + 1 : Nat) : Int), nx := -1 } : N) :: k.flat (ns.length + 1) ns.length).length = ns.length + 1 + k.size := by rw [List.length_append, List.length_cons, hll, F.flat_len]; omega
      rw [hl2]
      rw [show (F.node x k r).e = false from rfl]
      simp only [Bool.false_eq_true, if_false]
      rw [← hlay]
/-- The tokens of one element, from nothing on. -/
theorem loop_root (len : Nat) {x : N} {k : F} {us : List Tk.T} (h : F.tk (.node x k .nil) us) (hp : ∀ y ∈ (F.node x k .nil).pre, proper y = true) (hsz : (F.node x k .nil).size ≤ 4096) (hdp : (F.node x k .nil).dp ≤ 64) :
    loop len us G0 = ((F.node x k .nil).flat 0 (-1), 0, 0) := by
  obtain ⟨a, b, p, hk, hr, hat, hus⟩ := h
  have hb : b = [] := hr
  subst hb
  have hx := hp x (by rw [F.pre_node]; simp)
  have hpk : ∀ y ∈ k.pre, proper y = true := fun y hy => hp y (by rw [F.pre_node]; simp [hy])
  obtain ⟨_, _, _, _, p5, _⟩ := proper_iff.1 hx
  have hsz' : 1 + k.size + 0 ≤ 4096 := hsz
  rw [F.dp_node] at hdp
  have hopn : ∀ kk : Int, opn G0 (nodeOf ⟨kk, x.nm, x.al, [], p⟩) = ⟨[] ++ [⟨x.nm, x.al, [], -1, -1, -1, p⟩], [] ++ [⟨((0 : Nat) : Int), -1, []⟩]⟩ := by
    intro kk
    unfold opn add nodeOf
    simp only
    rw [srt_rising p5]; rfl
  have hfin : ∀ M : List N, M ≠ [] → loop len [] ⟨M, []⟩ = (M, 0, 0) := by
    intro M hM
    unfold loop behind
    cases M with
    | nil => exact absurd rfl hM
    | cons _ _ => rfl
  rcases hus with ⟨ht, hke, rfl⟩ | ⟨p1, p2, rfl⟩
  · have hkn := F.e_nil hke
    subst hkn
    have hw : wrong G0 ⟨3, x.nm, x.al, [], p⟩ = 0 := tag_ok (ns := []) (op := []) (Or.inr rfl) rfl p5 (by decide) (by decide)
    rw [loop_go hw]
    unfold take
    rw [if_neg (by simp), if_neg (by simp), if_pos rfl, hopn]
    unfold cls
    rw [List.dropLast_concat, hfin _ (by simp), F.flat_node]
    have hx0 : ({ x with pa := -1, fi := -1, nx := -1 } : N) = ⟨x.nm, x.al, [], -1, -1, -1, p⟩ := by rw [hat, ht]
    show _ = ([({ x with pa := -1, fi := -1, nx := -1 } : N)], _, _)
    rw [hx0]; rfl
  · have hw : wrong G0 ⟨1, x.nm, x.al, [], p⟩ = 0 := tag_ok (ns := []) (op := []) (Or.inl rfl) rfl p5 (by decide) (by decide)
    have hin := inside (p1 := p1) (p2 := p2) hx hat len [] [] 0 (-1) [] rfl (fun ns' os' e' rest' h1 h2 => loop_F len k a hk hpk ns' os' e' rest' h1 h2) (by omega) (by simp only [List.length_nil]; omega)
    rw [loop_go hw]
    unfold take
    rw [if_neg (by simp), if_pos rfl, hopn, hin, hfin _ (by simp), F.flat_node]
    show _ = (_ :: (k.flat 1 ((0 : Nat) : Int) ++ []), _, _)
    rw [List.append_nil]; rfl
theorem F.eqv_pre : ∀ {f f' : F}, f.eqv f' → (∀ x ∈ f.pre, proper x = true) → ∀ x ∈ f'.pre, proper x = true
  | .nil, .nil, _, _ => fun _ h => (by cases h)
  | .node x k r, .node x' k' r', h, hp => by
    intro y hy
    rw [F.pre_node] at hy
    rcases List.mem_cons.1 hy with rfl | hy
    · have := hp x (by rw [F.pre_node]; simp)
      rw [proper_iff] at this ⊢
      rw [← h.1.1, ← h.1.2.1, ← h.1.2.2]; exact this
    · rcases List.mem_append.1 hy with hy | hy
      · exact F.eqv_pre h.2.1 (fun z hz => hp z (by rw [F.pre_node]; simp [hz])) y hy
      · exact F.eqv_pre h.2.2 (fun z hz => hp z (by rw [F.pre_node]; simp [hz])) y hy
  | .nil, .node _ _ _, h, _ => by cases h
  | .node _ _ _, .nil, h, _ => by cases h
theorem F.eqv_dp : ∀ {f f' : F}, f.eqv f' → f.dp = f'.dp
  | .nil, .nil, _ => rfl
  | .node _ k r, .node _ k' r', h => by rw [F.dp_node, F.dp_node, F.eqv_dp h.2.1, F.eqv_dp h.2.2]
  | .nil, .node _ _ _, h => by cases h
  | .node _ _ _, .nil, h => by cases h
/-- What is written of a right tree is parsed as the same, and written so again. -/
theorem back2 {xs : List N} (h : check xs = true) (hl : (write xs).length ≤ 65536) : ∃ ys, parse (write xs) = (ys, 0, 0) ∧ check ys = true ∧ write ys = write xs ∧ same xs ys = true := by
  obtain ⟨n, k, e, hs, hd⟩ := check_F h
  have hpr : ∀ y ∈ (F.node n k .nil).pre, proper y = true := fun y hy => (check_ok h).2.1 y (by rw [e]; exact hy)
  have hw := write_F h hs
  obtain ⟨f', us, q1, q2, q3⟩ := cut_F (.node n k .nil) [] [] false hpr ⟨Tk.cuts_nil, En.validL_nil⟩
  rw [List.nil_append, List.nil_append, ← hw] at q3
  obtain ⟨n', k', rfl⟩ : ∃ n' k', f' = F.node n' k' .nil := by
    cases f' with
    | nil => cases q1
    | node n' k' r' =>
      have : r' = .nil := F.e_nil (F.eqv_e q1.2.2).symm
      exact ⟨n', k', by rw [this]⟩
  have htk : Tk.toks (write xs) = (us, 0, 0) := by
    rw [Tk.toks_of hl q3.2]
    unfold Tk.cutT
    have := q3.1 [] (fun _ => Or.inl rfl) (write xs).length (by simp)
    rw [List.append_nil] at this
    rw [this, Tk.goT_nil]
  have hsize : (F.node n' k' .nil).size ≤ 4096 := by
    rw [← F.eqv_size q1, ← F.pre_len, ← e]
    exact (check_ok h).2.2.2
  have hpar : parse (write xs) = ((F.node n' k' .nil).flat 0 (-1), 0, 0) := by
    unfold parse
    rw [htk, if_neg (by simp)]
    exact loop_root _ q2 (F.eqv_pre q1 hpr) hsize (by rw [← F.eqv_dp q1]; exact hd)
  have hsame : same xs ((F.node n' k' .nil).flat 0 (-1)) = true := same_trans hs (F.flat_eqv _ _ q1)
  have hck : check ((F.node n' k' .nil).flat 0 (-1)) = true := by
    have := back1 (L := write xs) (by rw [hpar])
    rwa [hpar] at this
  refine ⟨_, hpar, hck, ?_, hsame⟩
  unfold write
  rw [if_pos h, if_pos hck, wrOf_same hsame]
end Go.Proofs.YtgidpcfaeekjhaaGreatDoor.Tr
