/- Layer 6's reference: add and take, walked. Conditions: the rows of digits lie in memory, and are short; what is taken is not more. -/
import Derived.Test.YtbeoobgnpcbnnaaDoorNuDig
namespace Go.Proofs.YtbeoobgnpcbnnaaDoor
open Go.RowKit

def intsV (l : List Nat) : List Value := l.map fun (d : Nat) => Value.int .i64 (d : Int)
theorem intsV_snoc (l : List Nat) (d : Nat) : intsV l ++ [.int .i64 (d : Int)] = intsV (l ++ [d]) := by unfold intsV; rw [List.map_append]; rfl
theorem own_cell {w : World} {B : Nat} {e : TypeId} {size g n cap : Nat} {xs : List Value} (h : w.ownsRow B e size (.slice (some ⟨g, 0, none⟩) n cap) n xs) {j : Nat} {u : Value} (hu : xs[j]? = some u) : w.cell? ⟨g, j, none⟩ = some u := by
  have := h.cells (g := g) rfl j u hu
  have hadd : (⟨g, 0, none⟩ : Addr).add j = ⟨g, j, none⟩ := by unfold Addr.add; split <;> simp_all
  rwa [hadd] at this
theorem own_slice {w : World} {B : Nat} {e : TypeId} {size n : Nat} {v : Value} {xs : List Value} (h : w.ownsRow B e size v n xs) :
    ∃ A cap, v = .slice A n cap ∧ (0 < n → ∃ g, A = some ⟨g, 0, none⟩ ∧ g < w.heap.size ∧ B ≤ g ∧ ∀ j u, xs[j]? = some u → w.cell? ⟨g, j, none⟩ = some u) ∧ (A = none → cap = 0 ∧ n = 0) ∧ n ≤ cap ∧ cap ≤ maxLen := by
  rcases h.2 with ⟨h1, h2⟩ | ⟨g, cap, cur, h1, h2, h3, h4, h5, _⟩
  · exact ⟨none, 0, by rw [h1, h2], fun h => by omega, fun _ => ⟨rfl, h2⟩, by omega, Nat.zero_le _⟩
  · subst h1
    exact ⟨some ⟨g, 0, none⟩, cap, rfl, fun _ => ⟨g, rfl, (Array.getElem?_eq_some_iff.1 h3).1, h2, fun j u hu => own_cell h hu⟩, fun h => (by cases h), h4, h5⟩
theorem own_below {w w' : World} {B : Nat} {e : TypeId} {size n : Nat} {v : Value} {xs : List Value} (h : w.ownsRow B e size v n xs) (hb : Below w.heap.size w w') : w'.ownsRow B e size v n xs := h.kept (row := none) ⟨hb.os, hb.tape, hb.output, hb.size, fun k hk _ => hb.block k hk⟩ (by cases hv : v.ownBlock <;> simp)
/-- The cells of an element that was just laid. -/
theorem news_at (w : World) (cs : Array Value) (t : TypeId) (n : Nat) (hn : w.heap.size = n) : ∀ j u, cs.toList[j]? = some u → (w.alloc (.cells cs t)).cell? ((⟨n, 0, none⟩ : Addr).add j) = some u := by
  subst hn
  exact World.news_of_block (heap_alloc_new w _)
theorem infoInt : (Tryd.prog.info? 3).map (fun i => (i.zero, i.size, i.bytes)) = some (some (.int .i64 0), 1, 8) := by kernel_rfl
/-- A row of digits of one's own. -/
def OwnD (B : Nat) (w : World) (v : Value) (l : List Nat) : Prop := w.ownsRow B 3 1 v l.length (intsV l)
theorem OwnD.dr {B : Nat} {w : World} {A : Option Addr} {n c : Nat} {l : List Nat} (h : OwnD B w (.slice A n c) l) : n = l.length ∧ Dr w A c l := by
  obtain ⟨A', c', e, h1, h2, h3, h4⟩ := own_slice h
  injection e with e1 e2 e3
  subst e1 e2 e3
  refine ⟨rfl, ⟨h3, fun hA => (h2 hA).1⟩, fun j hj => ?_⟩
  obtain ⟨g, hA, hg, _, hc⟩ := h1 (by omega)
  exact ⟨g, hA, hg, hc j _ (by unfold intsV; rw [List.getElem?_map, List.getElem?_eq_getElem hj]; rfl)⟩

/-- What a function that makes digits answers. -/
def DigP (w : World) (x : Nat) (e : Ending) (w' : World) : Prop := ∃ A c, e = .returned (.slice A (Nu.dig x).length c) ∧ Dr w' A c (Nu.dig x) ∧ Below w.heap.size w w'
theorem DigP.from {x : Nat} {w w1 w' : World} {e : Ending} (hb : Below w.heap.size w w1) (h : DigP w1 x e w') : DigP w x e w' := by
  obtain ⟨A, c, h1, h2, h3⟩ := h
  exact ⟨A, c, h1, h2, hb.trans (h3.mono hb.size)⟩
/-- .. in a row of its own. -/
def DigN (w : World) (x : Nat) (e : Ending) (w' : World) : Prop := ∃ A c, e = .returned (.slice A (Nu.dig x).length c) ∧ Dr w' A c (Nu.dig x) ∧ Below w.heap.size w w' ∧ ∀ g, A = some ⟨g, 0, none⟩ → 0 < (Nu.dig x).length → w.heap.size ≤ g
theorem own_new {B : Nat} {w : World} {e : TypeId} {size n c : Nat} {A : Option Addr} {xs : List Value} (h : w.ownsRow B e size (.slice A n c) n xs) : ∀ g, A = some ⟨g, 0, none⟩ → 0 < n → B ≤ g := fun g hg hn => by
  obtain ⟨A', c', e1, h1, _⟩ := own_slice h
  injection e1 with e1 _ _
  subst e1
  obtain ⟨g', h2, _, h3, _⟩ := h1 hn
  rw [hg] at h2
  injection h2 with h2
  injection h2 with h2
  omega
theorem own_fz {w : World} {B : Nat} {e : TypeId} {size g n cap : Nat} {xs : List Value} (h : w.ownsRow B e size (.slice (some ⟨g, 0, none⟩) n cap) n xs) (j : Nat) : w.frozen? ⟨g, j, none⟩ = false := by
  rcases h.2 with ⟨h1, _⟩ | ⟨g', cap', cur, h1, _, h3, _⟩
  · cases h1
  · injection h1 with h1
    injection h1 with h1
    injection h1 with h1
    subst h1
    exact Lib.frozen_of_heap h3 j
structure AddI (w : World) (x y i : Nat) (v : Value) (c : Nat) (l : List Nat) (wr : World) : Prop where
  below : Below w.heap.size w wr
  own : OwnD w.heap.size wr v l
  len : l.length = i
  dig : ∀ d ∈ l, d < 10
  eq : Nu.val l + 10 ^ i * c = x % 10 ^ i + y % 10 ^ i
theorem AddI.drewN {w : World} {x y i c : Nat} {v : Value} {l : List Nat} {wr : World} (h : AddI w x y i v c l wr) (n : Nat) : AddI w x y i v c l (wr.drewN n) :=
  ⟨below_drewN h.below n, own_below h.own (below_drewN (Below.refl wr.heap.size wr) n), h.len, h.dig, h.eq⟩
theorem AddI.next {w : World} {x y i c : Nat} {v v' : Value} {l : List Nat} {wr w' : World} (h : AddI w x y i v c l wr) (hb : Below w.heap.size w w')
    (ho : OwnD w.heap.size w' v' (l ++ [(x / 10 ^ i % 10 + y / 10 ^ i % 10 + c) % 10])) : AddI w x y (i + 1) v' ((x / 10 ^ i % 10 + y / 10 ^ i % 10 + c) / 10) (l ++ [(x / 10 ^ i % 10 + y / 10 ^ i % 10 + c) % 10]) w' := by
  refine ⟨hb, ho, by rw [List.length_append, h.len]; rfl, fun d hd => ?_, ?_⟩
  · rcases List.mem_append.1 hd with hd | hd
    · exact h.dig d hd
    · simp at hd; omega
  · rw [Nu.val_snoc, h.len]
    exact Nu.add_step h.eq
theorem AddI.carry {w : World} {x y q c : Nat} {v : Value} {l : List Nat} {wr : World} (h : AddI w x y (q + 1) v c l wr) (hx : x < 10 ^ q) (hy : y < 10 ^ q) : c = 0 := by
  have h1 := h.eq
  have h2 : 10 ^ (q + 1) = 10 * 10 ^ q := by rw [Nat.pow_succ, Nat.mul_comm]
  rw [Nat.mod_eq_of_lt (by omega), Nat.mod_eq_of_lt (by omega)] at h1
  rcases Nat.eq_zero_or_pos c with h0 | h0
  · exact h0
  · have : 10 ^ (q + 1) * 1 ≤ 10 ^ (q + 1) * c := Nat.mul_le_mul_left _ h0
    omega
theorem AddI.sum {w : World} {x y i : Nat} {v : Value} {l : List Nat} {wr : World} (h : AddI w x y i v 0 l wr) (hx : x < 10 ^ i) (hy : y < 10 ^ i) : Nu.val l = x + y := by
  have h1 := h.eq
  rw [Nat.mod_eq_of_lt hx, Nat.mod_eq_of_lt hy] at h1
  omega
set_option maxHeartbeats 4000000 in
set_option maxRecDepth 100000 in
theorem add_gen (w : World) (A A2 : Option Addr) (c c2 x y : Nat) (l1 l2 : List Nat) (h : Dr w A c l1) (h2 : Dr w A2 c2 l2) (g1 : ∀ i, l1.getD i 0 = x / 10 ^ i % 10) (g2 : ∀ i, l2.getD i 0 = y / 10 ^ i % 10) (hxl : x < 10 ^ l1.length) (hyl : y < 10 ^ l2.length) (hx : l1.length ≤ 500) (hy : l2.length ≤ 500) :
    Calls Tryd.prog 39 #[.slice A l1.length c, .slice A2 l2.length c2] w (DigP w (x + y)) := by
  have H0 := Lib.hid (show AddI w x y 0 (.slice none 0 0) 0 [] w from ⟨Below.refl _ _, by unfold OwnD; exact World.ownsRow_nil _ _ _ _, rfl, fun d hd => (by cases hd), by simp [Nu.val, Nat.mod_one]⟩)
  obtain ⟨n, hn⟩ : ∃ n, n = l1.length := ⟨_, rfl⟩
  obtain ⟨m, hm⟩ : ∃ m, m = l2.length := ⟨_, rfl⟩
  have HDX := Lib.hid (fun w1 (hb : Below w.heap.size w w1) (i : Nat) => digit_any w1 A c l1 i (h.below hb (Nat.le_refl _)))
  have HDY := Lib.hid (fun w1 (hb : Below w.heap.size w w1) (i : Nat) => digit_any w1 A2 c2 l2 i (h2.below hb (Nat.le_refl _)))
  simp only [g1] at HDX
  simp only [g2] at HDY
  rw [← hn] at hx HDX hxl ⊢
  rw [← hm] at hy HDY hyl ⊢
  obtain ⟨q, hq⟩ : ∃ q, q = max n m := ⟨_, rfl⟩
  have HX := Lib.hid (show x < 10 ^ q from Nat.lt_of_lt_of_le hxl (Nat.pow_le_pow_right (by decide) (by omega)))
  have HY := Lib.hid (show y < 10 ^ q from Nat.lt_of_lt_of_le hyl (Nat.pow_le_pow_right (by decide) (by omega)))
  clear h h2 hn hm g1 g2 hxl hyl
  have hq1 : (max (n : Int) (m : Int)) = (q : Int) := by omega
  have hqb : q ≤ 500 := by omega
  have HQ1 := Lib.hid hq1
  clear hq hq1
  go_enter Tryd.func39, Tryd.ntmps39
  go_wp2
  go_loopw [5, 6, 7] (fun v cv iv wr => ∃ (i k : Nat) (l : List Nat), iv = .int .i64 i ∧ cv = .int .i64 k ∧ i ≤ q + 1 ∧ k ≤ 1 ∧ Hid (AddI w x y i v k l wr)) (fun _ _ iv _ => q + 1 - (intOf iv).toNat)
  case atStart => exact ⟨0, 0, [], rfl, rfl, by omega, by omega, H0⟩
  case round =>
    obtain ⟨i, k, l, rfl, rfl, hi, hk, HI⟩ := hrel
    have hq1 := HQ1.out
    obtain ⟨Av, cv, hv, _, _, _, _⟩ := own_slice HI.out.own
    subst hv
    rw [HI.out.len] at *
    by_cases hgo : i < q ∨ k ≠ 0
    · have HB := Lib.hid HI.out.below
      have HA1 := Lib.hid (HDX.out wr HB.out i)
      have HA2 := Lib.hid (HDY.out wr HB.out i)
      have HNX := Lib.hid (fun v' w' hb ho => HI.out.next (v' := v') (w' := w') hb ho)
      have ha9 : x / 10 ^ i % 10 < 10 := Nat.mod_lt _ (by decide)
      have hb9 : y / 10 ^ i % 10 < 10 := Nat.mod_lt _ (by decide)
      generalize x / 10 ^ i % 10 = a at *
      generalize y / 10 ^ i % 10 = b at *
      have HO := Lib.hid (show wr.ownsRow w.heap.size 3 1 (.slice Av i cv) i (intsV l) from by have h3 := HI.out.own; unfold OwnD at h3; rw [HI.out.len] at h3; exact h3)
      have HLEN := Lib.hid HI.out.len
      have hws : w.heap.size ≤ wr.heap.size := HB.out.size
      obtain ⟨i0, hi0, hz0, hz1, hz2⟩ := info_parts infoInt
      have hiq : i ≤ q := by
        rcases Nat.lt_or_ge q i with h3 | h3
        · obtain rfl : i = q + 1 := by omega
          have h4 := HI.out.carry HX.out HY.out
          omega
        · exact h3
      have hbig : i + 1 ≤ maxLen := by unfold maxLen; omega
      have HBW := Lib.hid HI.out.below
      by_cases hlt : i < q
      · have hlt' : (i : Int) < (q : Int) := by omega
        go_wp2_with fail
        refine HA1.out.mono ?_
        rintro e w1 ⟨rfl, rfl⟩
        go_wp2_with fail
        refine HA2.out.mono ?_
        rintro e w1 ⟨rfl, rfl⟩
        go_wp2_with (at_builtin; (refine wpList_append_own _ rfl _ _ _ rfl w.heap.size 3 i0 _ 1 8 Tryd.underlying38 hi0 hz0 hz1 hz2 rfl (by omega) (.slice Av i cv) i (intsV l) (by rfl) (by exact HO.out.alloc _) _ 1 _ [.int .i64 (((a : Int) + (b : Int) + (k : Int)) % 10)] (by rfl) rfl (by intro j u hu; exact news_at _ _ _ _ (by simp) j u hu) (by intro u hu; simp at hu; subst hu; rfl) hbig (by omega) (by simp; omega) ?_); intro v3 w3 hown3 hgr3 _; obtain ⟨A3, c3, hv3, _, _, _, _⟩ := own_slice hown3; subst hv3; have B3 := Lib.hid (HBW.out.trans (Below.grown ((Below.refl w.heap.size wr).alloc hws _) hgr3 (by simp; omega) (fun k hk => (HO.out.lt k hk).1))); have H3 := Lib.hid hown3; clear hown3 hgr3)
        go_roundw
        case rel => exact ⟨i + 1, (a + b + k) / 10, l ++ [(a + b + k) % 10], by go_num, by go_num, by omega, by omega, Lib.hid (HNX.out _ _ B3.out (by unfold OwnD; rw [List.length_append, HLEN.out, ← intsV_snoc]; have h4 := H3.out; exact h4))⟩
        case measure => simp [intOf]; omega
      · have hlt' : ¬ (i : Int) < (q : Int) := by omega
        have hk0 : (k : Int) > 0 := by omega
        go_wp2_with fail
        refine HA1.out.mono ?_
        rintro e w1 ⟨rfl, rfl⟩
        go_wp2_with fail
        refine HA2.out.mono ?_
        rintro e w1 ⟨rfl, rfl⟩
        go_wp2_with (at_builtin; (refine wpList_append_own _ rfl _ _ _ rfl w.heap.size 3 i0 _ 1 8 Tryd.underlying38 hi0 hz0 hz1 hz2 rfl (by omega) (.slice Av i cv) i (intsV l) (by rfl) (by exact HO.out.alloc _) _ 1 _ [.int .i64 (((a : Int) + (b : Int) + (k : Int)) % 10)] (by rfl) rfl (by intro j u hu; exact news_at _ _ _ _ (by simp) j u hu) (by intro u hu; simp at hu; subst hu; rfl) hbig (by omega) (by simp; omega) ?_); intro v3 w3 hown3 hgr3 _; obtain ⟨A3, c3, hv3, _, _, _, _⟩ := own_slice hown3; subst hv3; have B3 := Lib.hid (HBW.out.trans (Below.grown ((Below.refl w.heap.size wr).alloc hws _) hgr3 (by simp; omega) (fun k hk => (HO.out.lt k hk).1))); have H3 := Lib.hid hown3; clear hown3 hgr3)
        go_roundw
        case rel => exact ⟨i + 1, (a + b + k) / 10, l ++ [(a + b + k) % 10], by go_num, by go_num, by omega, by omega, Lib.hid (HNX.out _ _ B3.out (by unfold OwnD; rw [List.length_append, HLEN.out, ← intsV_snoc]; have h4 := H3.out; exact h4))⟩
        case measure => simp [intOf]; omega
    · obtain rfl : k = 0 := by omega
      have hlt' : ¬ (i : Int) < (q : Int) := by omega
      have HS := Lib.hid (HI.out.sum (Nat.lt_of_lt_of_le HX.out (Nat.pow_le_pow_right (by decide) (by omega))) (Nat.lt_of_lt_of_le HY.out (Nat.pow_le_pow_right (by decide) (by omega))))
      have HT := Lib.hid (trim_any wr Av cv l (HI.out.own.dr).2 HI.out.dig (by rw [HI.out.len]; omega))
      rw [HS.out, HI.out.len] at HT
      have HB := Lib.hid HI.out.below
      go_wp2_with fail
      refine HT.out.mono ?_
      rintro e w1 ⟨A1, c1, rfl, hd1, rfl⟩
      have HD := Lib.hid hd1
      clear hd1
      go_wp2
      go_ret
      exact ⟨A1, c1, rfl, HD.out, HB.out⟩
theorem add_dig (w : World) (A A2 : Option Addr) (c c2 x y : Nat) (h : Dr w A c (Nu.dig x)) (h2 : Dr w A2 c2 (Nu.dig y)) (hx : (Nu.dig x).length ≤ 500) (hy : (Nu.dig y).length ≤ 500) :
    Calls Tryd.prog 39 #[.slice A (Nu.dig x).length c, .slice A2 (Nu.dig y).length c2] w (DigP w (x + y)) :=
  add_gen w A A2 c c2 x y _ _ h h2 (Nu.dig_at x) (Nu.dig_at y) (Nu.lt_pow_len x) (Nu.lt_pow_len y) hx hy
structure TakI (w : World) (x y i : Nat) (v : Value) (c : Nat) (l : List Nat) (wr : World) : Prop where
  below : Below w.heap.size w wr
  own : OwnD w.heap.size wr v l
  len : l.length = i
  dig : ∀ d ∈ l, d < 10
  eq : x % 10 ^ i + 10 ^ i * c = y % 10 ^ i + Nu.val l
theorem TakI.next {w : World} {x y i c c' d : Nat} {v v' : Value} {l : List Nat} {wr w' : World} (h : TakI w x y i v c l wr) (hb : Below w.heap.size w w') (hd : d < 10) (hc : x / 10 ^ i % 10 + 10 * c' = y / 10 ^ i % 10 + c + d)
    (ho : OwnD w.heap.size w' v' (l ++ [d])) : TakI w x y (i + 1) v' c' (l ++ [d]) w' := by
  refine ⟨hb, ho, by rw [List.length_append, h.len]; rfl, fun e he => ?_, ?_⟩
  · rcases List.mem_append.1 he with he | he
    · exact h.dig e he
    · simp at he; omega
  · rw [Nu.val_snoc, h.len]
    exact Nu.take_step h.eq hc
theorem TakI.rest {w : World} {x y i c : Nat} {v : Value} {l : List Nat} {wr : World} (h : TakI w x y i v c l wr) (hx : x < 10 ^ i) (hyx : y ≤ x) : Nu.val l = x - y :=
  Nu.take_end h.eq hx hyx (by have := Nu.val_lt h.dig; rwa [h.len] at this)
set_option maxHeartbeats 4000000 in
set_option maxRecDepth 100000 in
theorem take_new (w : World) (A A2 : Option Addr) (c c2 x y : Nat) (h : Dr w A c (Nu.dig x)) (h2 : Dr w A2 c2 (Nu.dig y)) (hx : (Nu.dig x).length ≤ 500) (hyx : y ≤ x) :
    Calls Tryd.prog 41 #[.slice A (Nu.dig x).length c, .slice A2 (Nu.dig y).length c2] w (DigN w (x - y)) := by
  have H0 := Lib.hid (show TakI w x y 0 (.slice none 0 0) 0 [] w from ⟨Below.refl _ _, by unfold OwnD; exact World.ownsRow_nil _ _ _ _, rfl, fun d hd => (by cases hd), by simp [Nu.val, Nat.mod_one]⟩)
  obtain ⟨q, hn⟩ : ∃ n, n = (Nu.dig x).length := ⟨_, rfl⟩
  obtain ⟨m, hm⟩ : ∃ m, m = (Nu.dig y).length := ⟨_, rfl⟩
  have HDX := Lib.hid (fun w1 (hb : Below w.heap.size w w1) (i : Nat) (hi : i < (Nu.dig x).length) => (h.below hb (Nat.le_refl _)).get hi)
  have HDY := Lib.hid (fun w1 (hb : Below w.heap.size w w1) (i : Nat) => digit_any w1 A2 c2 (Nu.dig y) i (h2.below hb (Nat.le_refl _)))
  simp only [Nu.dig_at] at HDY
  have hqc : (Nu.dig x).length ≤ c := h.len
  rw [← hn] at hx HDX hqc ⊢
  rw [← hm] at HDY ⊢
  have HX := Lib.hid (show x < 10 ^ q from Nu.dig_len_iff.1 (by omega))
  have HYX := Lib.hid hyx
  clear h h2 hn hm hyx
  go_enter Tryd.func41, Tryd.ntmps41
  go_wp2
  go_loopw [5, 6, 7] (fun v cv iv wr => ∃ (i k : Nat) (l : List Nat), iv = .int .i64 i ∧ cv = .int .i64 k ∧ i ≤ q ∧ k ≤ 1 ∧ Hid (TakI w x y i v k l wr)) (fun _ _ iv _ => q - (intOf iv).toNat)
  case atStart => exact ⟨0, 0, [], rfl, rfl, by omega, by omega, H0⟩
  case round =>
    obtain ⟨i, k, l, rfl, rfl, hi, hk, HI⟩ := hrel
    obtain ⟨Av, cv, hv, _, _, _, _⟩ := own_slice HI.out.own
    subst hv
    rw [HI.out.len] at *
    by_cases hlt : i < q
    · have hlt' : (i : Int) < (q : Int) := by omega
      have hii0 : (0 : Int) ≤ (i : Int) := by omega
      have HB := Lib.hid HI.out.below
      obtain ⟨g, hA, hg, hc⟩ := HDX.out wr HB.out i hlt
      subst hA
      have HA2 := Lib.hid (fun n => HDY.out (wr.drewN n) (below_drewN HB.out n) i)
      have ha9 : x / 10 ^ i % 10 < 10 := Nat.mod_lt _ (by decide)
      have hb9 : y / 10 ^ i % 10 < 10 := Nat.mod_lt _ (by decide)
      have HN0 := Lib.hid (fun v' w' c' d hb hd hc ho => HI.out.next (v' := v') (w' := w') (c' := c') (d := d) hb hd hc ho)
      generalize x / 10 ^ i % 10 = a at *
      generalize y / 10 ^ i % 10 = b at *
      have HO0 := Lib.hid (show wr.ownsRow w.heap.size 3 1 (.slice Av i cv) i (intsV l) from by have h3 := HI.out.own; unfold OwnD at h3; rw [HI.out.len] at h3; exact h3)
      have HLEN := Lib.hid HI.out.len
      obtain ⟨i0, hi0, hz0, hz1, hz2⟩ := info_parts infoInt
      have hbig : i + 1 ≤ maxLen := by unfold maxLen; omega
      have s1 : IntKind.i64.wrap ((a : Int) - (b : Int)) = (a : Int) - (b : Int) := IntWalk.i64_in _ (by omega)
      have s2 : IntKind.i64.wrap ((a : Int) - (b : Int) - (k : Int)) = (a : Int) - (b : Int) - (k : Int) := IntWalk.i64_in _ (by omega)
      have hki : i < q := hlt
      go_wp2_with fail
      go_quiet ((go_at_call 49; exact Calls.quiet_of_same ((HA2.out _).mono fun _ _ h => ⟨h.1, h.2.symm⟩)))
      have HO := Lib.hid (own_below HO0.out (below_drewN (Below.refl wr.heap.size wr) nq))
      have HBW := Lib.hid (below_drewN HB.out nq)
      clear s1 s2 hc HA2 HO0 HB HI hki
      generalize wr.drewN nq = wq at *
      have hws : w.heap.size ≤ wq.heap.size := HBW.out.size
      by_cases hab : a < b + k
      · have hab' : (a : Int) - (b : Int) - (k : Int) < 0 := by omega
        obtain ⟨d, hd⟩ : ∃ d : Nat, d = a + 10 - b - k := ⟨_, rfl⟩
        have HD := Lib.hid (show (a : Int) - (b : Int) - (k : Int) + 10 = (d : Int) by omega)
        have HNX := Lib.hid (fun v' w' hb ho => HN0.out v' w' 1 d hb (by omega) (by omega) ho)
        clear hd HN0
        go_wp2_with (at_builtin; (refine wpList_append_own _ rfl _ _ _ rfl w.heap.size 3 i0 _ 1 8 Tryd.underlying38 hi0 hz0 hz1 hz2 rfl (by omega) (.slice Av i cv) i (intsV l) (by rfl) (by exact HO.out.alloc _) _ 1 _ [.int .i64 ((a : Int) - (b : Int) - (k : Int) + 10)] (by rfl) rfl (by intro j u hu; exact news_at _ _ _ _ (by simp) j u hu) (by intro u hu; simp at hu; subst hu; rfl) hbig (by omega) (by simp; omega) ?_); intro v3 w3 hown3 hgr3 _; obtain ⟨A3, c3, hv3, _, _, _, _⟩ := own_slice hown3; subst hv3; have B3 := Lib.hid (HBW.out.trans (Below.grown ((Below.refl w.heap.size wq).alloc hws _) hgr3 (by simp; omega) (fun k hk => (HO.out.lt k hk).1))); have H3 := Lib.hid hown3; clear hown3 hgr3)
        go_roundw
        case rel => exact ⟨i + 1, 1, l ++ [d], by go_num, rfl, by omega, by omega, Lib.hid (HNX.out _ _ B3.out (by unfold OwnD; rw [List.length_append, HLEN.out, ← intsV_snoc]; have h4 := H3.out; rw [HD.out] at h4; exact h4))⟩
        case measure => simp [intOf]; omega
      · have hab' : ¬ (a : Int) - (b : Int) - (k : Int) < 0 := by omega
        obtain ⟨d, hd⟩ : ∃ d : Nat, d = a - b - k := ⟨_, rfl⟩
        have HD := Lib.hid (show (a : Int) - (b : Int) - (k : Int) = (d : Int) by omega)
        have HNX := Lib.hid (fun v' w' hb ho => HN0.out v' w' 0 d hb (by omega) (by omega) ho)
        clear hd HN0
        go_wp2_with (at_builtin; (refine wpList_append_own _ rfl _ _ _ rfl w.heap.size 3 i0 _ 1 8 Tryd.underlying38 hi0 hz0 hz1 hz2 rfl (by omega) (.slice Av i cv) i (intsV l) (by rfl) (by exact HO.out.alloc _) _ 1 _ [.int .i64 ((a : Int) - (b : Int) - (k : Int))] (by rfl) rfl (by intro j u hu; exact news_at _ _ _ _ (by simp) j u hu) (by intro u hu; simp at hu; subst hu; rfl) hbig (by omega) (by simp; omega) ?_); intro v3 w3 hown3 hgr3 _; obtain ⟨A3, c3, hv3, _, _, _, _⟩ := own_slice hown3; subst hv3; have B3 := Lib.hid (HBW.out.trans (Below.grown ((Below.refl w.heap.size wq).alloc hws _) hgr3 (by simp; omega) (fun k hk => (HO.out.lt k hk).1))); have H3 := Lib.hid hown3; clear hown3 hgr3)
        go_roundw
        case rel => exact ⟨i + 1, 0, l ++ [d], by go_num, rfl, by omega, by omega, Lib.hid (HNX.out _ _ B3.out (by unfold OwnD; rw [List.length_append, HLEN.out, ← intsV_snoc]; have h4 := H3.out; rw [HD.out] at h4; exact h4))⟩
        case measure => simp [intOf]; omega
    · obtain rfl : i = q := by omega
      have hlt' : ¬ (i : Int) < (i : Int) := by omega
      have HS := Lib.hid (HI.out.rest HX.out HYX.out)
      have HLEN2 := Lib.hid (show (Nu.dig (x - y)).length ≤ i from by
        rw [← HS.out]
        refine Nu.dig_len_le ?_
        have := Nu.val_lt HI.out.dig
        rwa [HI.out.len] at this)
      have HNEW := Lib.hid (own_new (show wr.ownsRow w.heap.size 3 1 (.slice Av i cv) i (intsV l) from by have h3 := HI.out.own; unfold OwnD at h3; rw [HI.out.len] at h3; exact h3))
      have HT := Lib.hid (trim_at wr Av cv l (HI.out.own.dr).2 HI.out.dig (by rw [HI.out.len]; omega))
      rw [HS.out, HI.out.len] at HT
      have HB := Lib.hid HI.out.below
      go_wp2_with fail
      refine HT.out.mono ?_
      rintro e w1 ⟨rfl, hd1, rfl⟩
      have HD := Lib.hid hd1
      clear hd1
      go_wp2
      go_ret
      exact ⟨Av, cv, rfl, HD.out, HB.out, fun g hg hl => HNEW.out g hg (by
        have h1 := HLEN2.out
        omega)⟩
theorem take_dig (w : World) (A A2 : Option Addr) (c c2 x y : Nat) (h : Dr w A c (Nu.dig x)) (h2 : Dr w A2 c2 (Nu.dig y)) (hx : (Nu.dig x).length ≤ 500) (hyx : y ≤ x) :
    Calls Tryd.prog 41 #[.slice A (Nu.dig x).length c, .slice A2 (Nu.dig y).length c2] w (DigP w (x - y)) :=
  (take_new w A A2 c c2 x y h h2 hx hyx).mono fun _ _ ⟨A3, c3, h1, h2, h3, _⟩ => ⟨A3, c3, h1, h2, h3⟩
end Go.Proofs.YtbeoobgnpcbnnaaDoor
