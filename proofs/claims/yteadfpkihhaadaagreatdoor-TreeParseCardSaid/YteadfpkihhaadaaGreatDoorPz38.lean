/- Facts and walks for the statement. -/
import Derived.Test.YteadfpkihhaadaaGreatDoorPz36
import Derived.Test.YteadfpkihhaadaaGreatDoorPz37
namespace Go.Proofs.YteadfpkihhaadaaGreatDoor
open Go.RowKit Go.Shelf
structure KdL (B r : Nat) (A : Option Addr) (c : Nat) (ps : List RTok) (a0 e0 : Int) (sz : Nat) (w : World) (P : List Tr.N) (bx : Nat) (bc : Array Value) (nm : List UInt8) (deep f : Nat) (R : Tr.Rs) (wr : World) (i g cn : Nat) (qs : List (Tr.N × Value)) (txt : List UInt8) (last : Int) : Prop where
 rd : RD B r wr A c ps i (.slice (some ⟨g, 0, none⟩) qs.length cn) qs a0 e0 sz
 kr : Kr w wr
 below : Below B w wr
 box : IsBlk wr bx 64 bc
 hi : i ≤ ps.length
 q : qs.length ≤ 4096
 tx : txt.length + Tk.txs ((ps.map (·.t)).drop i) ≤ 400000
 eq : ∃ f' M, f' ≤ f ∧ 2 * (ps.length - i) + 1 < f' ∧ qs.map (·.1) = P ++ M ∧ M ≠ [] ∧ R = Tr.kdP f' sz nm P.length deep ((ps.map (·.t)).drop i) M txt last ∧ (last = -1 ∨ ((P.length : Int) ≤ last ∧ last < (qs.length : Int)))
section
variable {B r : Nat} {A : Option Addr} {c : Nat} {ps : List RTok} {a0 e0 : Int} {sz : Nat} {w : World} {P : List Tr.N} {bx : Nat} {bc : Array Value} {nm : List UInt8} {deep f : Nat} {R : Tr.Rs} {wr : World} {i g cn : Nat} {qs : List (Tr.N × Value)} {txt : List UInt8} {last : Int}
theorem txs_drop {i : Nat} (hi : i < ps.length) : Tk.txs ((ps.map (·.t)).drop i) = ps[i].t.tx.length + Tk.txs ((ps.map (·.t)).drop (i + 1)) := by
 rw [drop_tok hi]; simp [Tk.txs]
theorem KdL.len (h : KdL B r A c ps a0 e0 sz w P bx bc nm deep f R wr i g cn qs txt last) : P.length < qs.length := by
 obtain ⟨_, M, _, _, h3, h4, _⟩ := h.eq
 have h1 := congrArg List.length h3
 rw [List.length_map, List.length_append] at h1
 have h2 : 0 < M.length := List.length_pos_iff.2 h4
 omega
theorem KdL.drewN (h : KdL B r A c ps a0 e0 sz w P bx bc nm deep f R wr i g cn qs txt last) (n : Nat) : KdL B r A c ps a0 e0 sz w P bx bc nm deep f R (wr.drewN n) i g cn qs txt last := by
 obtain ⟨q1, q2, q3⟩ := rd_drewN h.rd h.kr h.below n
 exact ⟨q1, q2, q3, (rd_drewN h.rd (Kr.refl wr) (Below.refl _ _) n).2.1.blk h.box (by decide) (by decide), h.hi, h.q, h.tx, h.eq⟩
theorem KdL.more (h : KdL B r A c ps a0 e0 sz w P bx bc nm deep f R wr i g cn qs txt last) (hk : i < ps.length) (h4 : ps[i].t.k = 4) (n : Nat) :
  KdL B r A c ps a0 e0 sz w P bx bc nm deep f R ((wr.drewN n).setCell ⟨r, 1, none⟩ (.int .i64 ((i + 1 : Nat) : Int))) (i + 1) g cn qs (txt ++ ps[i].t.tx) last := by
 obtain ⟨q1, q2, q3⟩ := rd_next h.rd h.kr h.below n (i + 1)
 have q4 := (rd_next h.rd (Kr.refl wr) (Below.refl _ _) n (i + 1)).2.1
 obtain ⟨f', M, e1, e2, e3, e4, e5, e6⟩ := h.eq
 obtain ⟨f'', rfl⟩ : ∃ k, f' = k + 1 := ⟨f' - 1, by omega⟩
 refine ⟨q1, q2, q3, q4.blk h.box (by decide) (by decide), hk, h.q, ?_, f'', M, by omega, by omega, e3, e4, ?_, e6⟩
 ·have h1 := h.tx
  rw [txs_drop hk] at h1
  rw [List.length_append]
  omega
 ·rw [e5, drop_tok hk, Tr.kd_text h4]
theorem KdL.nomore (h : KdL B r A c ps a0 e0 sz w P bx bc nm deep f R wr i g cn qs txt last) (hk : ps.length ≤ i) : R = .bad sz 50 := by
 obtain ⟨f', M, e1, e2, e3, e4, e5, e6⟩ := h.eq
 obtain ⟨f'', rfl⟩ : ∃ k, f' = k + 1 := ⟨f' - 1, by omega⟩
 rw [e5, List.drop_of_length_le (by rw [List.length_map]; exact hk), Tr.kd_nil]
theorem KdL.close (h : KdL B r A c ps a0 e0 sz w P bx bc nm deep f R wr i g cn qs txt last) (hk : i < ps.length) (h2 : ps[i].t.k = 2) :
  ∃ M, qs.map (·.1) = P ++ M ∧ M ≠ [] ∧ R = if ps[i].t.nm ≠ nm then .bad ps[i].t.p 50 else .ok ((ps.map (·.t)).drop (i + 1)) (if Tk.allB txt = true then M else M.modify 0 (fun x => { x with tx := txt })) := by
 obtain ⟨f', M, e1, e2, e3, e4, e5, e6⟩ := h.eq
 obtain ⟨f'', rfl⟩ : ∃ k, f' = k + 1 := ⟨f' - 1, by omega⟩
 exact ⟨M, e3, e4, by rw [e5, drop_tok hk, Tr.kd_close h2]⟩
def KidE (ps : List RTok) (sz : Nat) (P : List Tr.N) (nm : List UInt8) (deep f : Nat) (R : Tr.Rs) (i : Nat) (qs : List (Tr.N × Value)) (txt : List UInt8) (last : Int) (f'' : Nat) (M : List Tr.N) : Prop :=
 f'' + 1 ≤ f ∧ 2 * (ps.length - i) < f'' ∧ qs.map (·.1) = P ++ M ∧ M ≠ [] ∧ (last = -1 ∨ ((P.length : Int) ≤ last ∧ last < (qs.length : Int))) ∧
  R = match Tr.elP f'' sz ((ps.map (·.t)).drop i) qs.length P.length (deep + 1) with
   | .bad a e => .bad a e
   | .ok r' K => Tr.kdP f'' sz nm P.length deep r' (Tr.lnk M P.length last qs.length ++ K) txt qs.length
theorem KdL.kid (h : KdL B r A c ps a0 e0 sz w P bx bc nm deep f R wr i g cn qs txt last) (hk : i < ps.length) (h2 : ps[i].t.k ≠ 2) (h4 : ps[i].t.k ≠ 4) : ∃ f'' M, KidE ps sz P nm deep f R i qs txt last f'' M := by
 obtain ⟨f', M, e1, e2, e3, e4, e5, e6⟩ := h.eq
 obtain ⟨f'', rfl⟩ : ∃ k, f' = k + 1 := ⟨f' - 1, by omega⟩
 have hq : P.length + M.length = qs.length := by
  have h1 := congrArg List.length e3
  rw [List.length_map, List.length_append] at h1
  omega
 refine ⟨f'', M, by omega, by omega, e3, e4, e6, ?_⟩
 rw [e5, drop_tok hk, Tr.kd_kid h2 h4, hq, show (P.length : Int) + (M.length : Int) = (qs.length : Int) by omega]
 cases Tr.elP f'' sz (ps[i].t :: (ps.map (·.t)).drop (i + 1)) qs.length (P.length : Int) (deep + 1) <;> rfl
def G4 (k : Int) (x : Tr.N × Value) : Tr.N × Value := ({ x.1 with fi := k }, x.2)
def G5 (k : Int) (x : Tr.N × Value) : Tr.N × Value := ({ x.1 with nx := k }, x.2)
def G2 (t : List UInt8) (x : Tr.N × Value) : Tr.N × Value := ({ x.1 with tx := t }, x.2)
theorem KdL.link (h : KdL B r A c ps a0 e0 sz w P bx bc nm deep f R wr i g cn qs txt last) {f'' : Nat} {M K : List Tr.N} (hE : KidE ps sz P nm deep f R i qs txt last f'' M) {w4 : World} {i2 g2 cn2 : Nat} {qs2 : List (Tr.N × Value)}
  (hel : Tr.elP f'' sz ((ps.map (·.t)).drop i) qs.length P.length (deep + 1) = .ok ((ps.map (·.t)).drop i2) K) (hr : RD B r w4 A c ps i2 (.slice (some ⟨g2, 0, none⟩) qs2.length cn2) qs2 a0 e0 sz) (hkr : Kr wr w4) (hbl : Below B wr w4) (hmap : qs2.map (·.1) = qs.map (·.1) ++ K) (hi2 : i2 ≤ ps.length) (hi : i < ps.length) (n : Nat) :
  i < i2 ∧ qs.length < qs2.length ∧
  (last = -1 → KdL B r A c ps a0 e0 sz w P bx bc nm deep f R ((w4.drewN n).setCell ⟨g2, P.length * 7 + 4, none⟩ (.int .i64 (qs.length : Int))) i2 g2 cn2 (qs2.modify P.length (G4 (qs.length : Int))) txt (qs.length : Int)) ∧
  (last ≠ -1 → KdL B r A c ps a0 e0 sz w P bx bc nm deep f R ((w4.drewN n).setCell ⟨g2, last.toNat * 7 + 5, none⟩ (.int .i64 (qs.length : Int))) i2 g2 cn2 (qs2.modify last.toNat (G5 (qs.length : Int))) txt (qs.length : Int)) := by
 obtain ⟨e1, e2, e3, e4, e6, e5⟩ := hE
 have hen := (Tr.ends_el f'').1 sz ((ps.map (·.t)).drop i) qs.length P.length (deep + 1) _ K h.q hel
 obtain ⟨_, hlen, hK, hq⟩ := hen
 rw [List.length_drop, List.length_drop, List.length_map] at hlen
 have hii : i < i2 := by omega
 have hqs : qs2.length = qs.length + K.length := by
  have := congrArg List.length hmap
  rw [List.length_append, List.length_map, List.length_map] at this
  exact this
 have hKl : 0 < K.length := List.length_pos_iff.2 hK
 have hqm : P.length + M.length = qs.length := by
  have h1 := congrArg List.length e3
  rw [List.length_map, List.length_append] at h1
  omega
 rw [hel] at e5
 simp only at e5
 obtain ⟨d1, d2, d3⟩ := rd_drewN hr (h.kr.trans hkr) (h.below.trans hbl) n
 have hdk := (rd_drewN hr hkr hbl n).2.1
 have htx : txt.length + Tk.txs ((ps.map (·.t)).drop i2) ≤ 400000 := by
  have h1 := h.tx
  have h2 : Tk.txs ((ps.map (·.t)).drop i2) ≤ Tk.txs ((ps.map (·.t)).drop i) := by
   rw [show i2 = i + (i2 - i) by omega, ← List.drop_drop]
   generalize (ps.map (·.t)).drop i = l
   conv => rhs; rw [← List.take_append_drop (i2 - i) l]
   unfold Tk.txs
   rw [List.map_append, List.sum_append]
   omega
  omega
 refine ⟨hii, by omega, fun hl => ?_, fun hl => ?_⟩
 ·obtain ⟨m1, m2, m3⟩ := RD.mod (G := G4 (qs.length : Int)) (u := .int .i64 (qs.length : Int)) d1 (k := P.length) (j := 4) (by omega) (by decide) (fun _ => rfl) (fun _ => rfl) (fun _ => rfl)
  refine ⟨m1, d2.trans m2, d3.trans m3, (hdk.trans m2).blk h.box (by decide) (by decide), hi2, by rw [List.length_modify]; omega, htx, f'', Tr.lnk M P.length last qs.length ++ K, by omega, by omega, ?_, ?_, e5, Or.inr ⟨by omega, by rw [List.length_modify]; omega⟩⟩
  ·rw [Tr.mod_map (·.1) (G4 (qs.length : Int)) (fun x => { x with fi := (qs.length : Int) }) (fun _ => rfl), hmap, e3, List.append_assoc]
   have h1 := Tr.mod_right (fun x : Tr.N => { x with fi := (qs.length : Int) }) P (M ++ K) 0
   rw [Nat.add_zero] at h1
   rw [h1, Tr.mod_left _ M K 0 (List.length_pos_iff.2 e4)]
   unfold Tr.lnk
   rw [if_pos (by omega)]
  ·intro e
   exact hK (List.append_eq_nil_iff.1 e).2
 ·have hlo : (P.length : Int) ≤ last ∧ last < (qs.length : Int) := by
   rcases e6 with e6 | e6
   ·exact absurd e6 hl
   ·exact e6
  obtain ⟨m1, m2, m3⟩ := RD.mod (G := G5 (qs.length : Int)) (u := .int .i64 (qs.length : Int)) d1 (k := last.toNat) (j := 5) (by omega) (by decide) (fun _ => rfl) (fun _ => rfl) (fun _ => rfl)
  refine ⟨m1, d2.trans m2, d3.trans m3, (hdk.trans m2).blk h.box (by decide) (by decide), hi2, by rw [List.length_modify]; omega, htx, f'', Tr.lnk M P.length last qs.length ++ K, by omega, by omega, ?_, ?_, e5, Or.inr ⟨by omega, by rw [List.length_modify]; omega⟩⟩
  ·rw [Tr.mod_map (·.1) (G5 (qs.length : Int)) (fun x => { x with nx := (qs.length : Int) }) (fun _ => rfl), hmap, e3, List.append_assoc]
   have h1 := Tr.mod_right (fun x : Tr.N => { x with nx := (qs.length : Int) }) P (M ++ K) (last.toNat - P.length)
   rw [show P.length + (last.toNat - P.length) = last.toNat by omega] at h1
   rw [h1, Tr.mod_left _ M K (last.toNat - P.length) (by omega)]
   unfold Tr.lnk
   rw [if_neg (by omega)]
  ·intro e
   exact hK (List.append_eq_nil_iff.1 e).2
theorem KdL.fin (h : KdL B r A c ps a0 e0 sz w P bx bc nm deep f R wr i g cn qs txt last) {M : List Tr.N} (e3 : qs.map (·.1) = P ++ M) (n k : Nat) :
  (RD B r (((wr.drewN n).setCell ⟨r, 1, none⟩ (.int .i64 (k : Int))).setCell ⟨g, P.length * 7 + 2, none⟩ (.string ⟨txt.toArray⟩)) A c ps k (.slice (some ⟨g, 0, none⟩) (qs.modify P.length (G2 txt)).length cn) (qs.modify P.length (G2 txt)) a0 e0 sz ∧ Kr w (((wr.drewN n).setCell ⟨r, 1, none⟩ (.int .i64 (k : Int))).setCell ⟨g, P.length * 7 + 2, none⟩ (.string ⟨txt.toArray⟩)) ∧ Below B w (((wr.drewN n).setCell ⟨r, 1, none⟩ (.int .i64 (k : Int))).setCell ⟨g, P.length * 7 + 2, none⟩ (.string ⟨txt.toArray⟩))) ∧
  (qs.modify P.length (G2 txt)).map (·.1) = P ++ M.modify 0 (fun x => { x with tx := txt }) := by
 obtain ⟨q1, q2, q3⟩ := rd_next h.rd h.kr h.below n k
 obtain ⟨m1, m2, m3⟩ := RD.mod (G := G2 txt) (u := .string ⟨txt.toArray⟩) q1 (k := P.length) (j := 2) h.len (by decide) (fun _ => rfl) (fun _ => rfl) (fun _ => rfl)
 refine ⟨⟨m1, q2.trans m2, q3.trans m3⟩, ?_⟩
 rw [Tr.mod_map (·.1) (G2 txt) (fun x => { x with tx := txt }) (fun _ => rfl), e3]
 have h1 := Tr.mod_right (fun x : Tr.N => { x with tx := txt }) P M 0
 rw [Nat.add_zero] at h1
 exact h1
end
end Go.Proofs.YteadfpkihhaadaaGreatDoor
