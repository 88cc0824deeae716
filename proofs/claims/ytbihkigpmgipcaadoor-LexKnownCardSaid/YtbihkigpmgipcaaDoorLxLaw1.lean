/- Layer 7's statements: same and ref, walked. Conditions: the rows of tokens lie in memory and are short. -/
import Derived.Test.YtbihkigpmgipcaaDoorLxRef5
namespace Go.Proofs.YtbihkigpmgipcaaDoor
open Go.RowKit

/-- A row of tokens lies so, from a place in a block on. -/
def RdT (w : World) (B : Nat) (A : Option Addr) (l : List Lx.T) : Prop := 0 < l.length → ∃ g o, A = some ⟨g, o, none⟩ ∧ g < B ∧ ∀ j (hj : j < l.length), w.cell? ⟨g, o + j * 3, none⟩ = some (.int .u8 l[j].k) ∧ w.cell? ⟨g, o + j * 3 + 1, none⟩ = some (.string ⟨l[j].tx.toArray⟩) ∧ w.cell? ⟨g, o + j * 3 + 2, none⟩ = some (.int .i64 (l[j].p : Int))
theorem RdT.below {w w' : World} {B : Nat} {A : Option Addr} {l : List Lx.T} (h : RdT w B A l) (hb : Below B w w') : RdT w' B A l := fun h0 => by
  obtain ⟨g, o, e, hg, hc⟩ := h h0
  exact ⟨g, o, e, hg, fun j hj => ⟨(hb.cell (p := ⟨g, _, none⟩) hg).trans (hc j hj).1, (hb.cell (p := ⟨g, _, none⟩) hg).trans (hc j hj).2.1, (hb.cell (p := ⟨g, _, none⟩) hg).trans (hc j hj).2.2⟩⟩
set_option maxHeartbeats 4000000 in
set_option maxRecDepth 100000 in
theorem same_yes (w : World) (A1 A2 : Option Addr) (c1 c2 : Nat) (l : List Lx.T) (h1 : RdT w w.heap.size A1 l) (h2 : RdT w w.heap.size A2 l) (hc1 : l.length ≤ c1) (hc2 : l.length ≤ c2) (hn : l.length ≤ 1000000) :
    Calls Tryd.prog 12 #[.slice A1 l.length c1, .slice A2 l.length c2] w fun e w' => e = .returned (.bool true) ∧ Below w.heap.size w w' := by
  have H := Lib.hid (And.intro h1 h2)
  obtain ⟨n, hln⟩ : ∃ n, n = l.length := ⟨_, rfl⟩
  rw [← hln] at hn hc1 hc2 ⊢
  have HLN := Lib.hid hln
  have hc1' : (n : Int) ≤ (c1 : Int) := by omega
  have hc2' : (n : Int) ≤ (c2 : Int) := by omega
  clear h1 h2 hln
  go_enter Tryd.func12, Tryd.ntmps12
  go_wp2
  go_loopw [5] (fun i wr => ∃ k : Nat, i = .int .i64 k ∧ k ≤ n ∧ Hid (Below w.heap.size w wr)) (fun i _ => n - (intOf i).toNat)
  case atStart => exact ⟨0, rfl, Nat.zero_le _, Lib.hid (Below.refl _ _)⟩
  case round =>
    obtain ⟨k, rfl, hk, HB⟩ := hrel
    by_cases hlt : k < n
    · have hlt' : (k : Int) < (n : Int) := by omega
      have hkl : k < l.length := by rw [← HLN.out]; exact hlt
      obtain ⟨g1, o1, hA1, hg1, hd1⟩ := H.out.1.below HB.out (by omega)
      obtain ⟨g2, o2, hA2, hg2, hd2⟩ := H.out.2.below HB.out (by omega)
      obtain ⟨a0, a1, a2⟩ := hd1 k hkl
      obtain ⟨b0, b1, b2⟩ := hd2 k hkl
      subst hA1 hA2
      clear hd1 hd2
      generalize l[k] = t at *
      obtain ⟨K, X, P⟩ := t
      simp only at a0 a1 a2 b0 b1 b2
      generalize ByteArray.mk X.toArray = Y at *
      have e0 : (K != K) = false := by simp
      have e1 : (Y.toList != Y.toList) = false := by simp
      have e2 : ((P : Int) != (P : Int)) = false := by simp
      go_wp2_with fail
      go_quiet (fail)
      go_wp2
      go_roundw
      case rel => exact ⟨k + 1, by go_num, hlt, Lib.hid (lx_drewN HB.out _)⟩
      case measure => simp [intOf]; omega
    · obtain rfl : k = n := by omega
      have hlt' : ¬ (k : Int) < (k : Int) := by omega
      clear hlt
      go_wp2
      go_ret
      exact ⟨rfl, HB.out⟩

theorem own_dr {w : World} {B : Nat} {e : TypeId} {size n : Nat} {v : Value} {xs : List Value} (h : w.ownsRow B e size v n xs) : w.drew.ownsRow B e size v n xs := own_below h (Below.refl _ _).drew
theorem news_dr (w : World) (cs : Array Value) (t : TypeId) (n : Nat) (hn : w.heap.size = n) : ∀ j u, cs.toList[j]? = some u → (w.alloc (.cells cs t)).drew.cell? ((⟨n, 0, none⟩ : Addr).add j) = some u := fun j u hu => news_at w cs t n hn j u hu
structure RfI (w : World) (wr : World) (v : Value) (k : Nat) (l : List Lx.T) : Prop where
  below : Below w.heap.size w wr
  own : wr.ownsRow w.heap.size 44 3 v k ((l.take k).flatMap tkV)
set_option maxHeartbeats 8000000 in
set_option maxRecDepth 100000 in
theorem ref_any (w : World) (A : Option Addr) (c : Nat) (l : List Lx.T) (h : RdT w w.heap.size A l) (hc : l.length ≤ c) (hn : l.length ≤ 1000000) :
    Calls Tryd.prog 15 #[.slice A l.length c] w fun e w' => ∃ v, e = .returned v ∧ w'.ownsRow w.heap.size 44 3 v l.length (l.flatMap tkV) ∧ Below w.heap.size w w' := by
  have H := Lib.hid h
  obtain ⟨n, hln⟩ : ∃ n, n = l.length := ⟨_, rfl⟩
  rw [← hln] at hn hc ⊢
  have HLN := Lib.hid hln
  have hc' : (n : Int) ≤ (c : Int) := by omega
  have H0 := Lib.hid (show RfI w w (.slice none 0 0) 0 l from ⟨Below.refl _ _, World.ownsRow_nil _ _ _ _⟩)
  clear h hln
  go_enter Tryd.func15, Tryd.ntmps15
  go_wp2
  go_loopw [3, 4] (fun v0 i wr => ∃ (v : Value) (k : Nat), v = v0 ∧ i = .int .i64 k ∧ k ≤ n ∧ Hid (RfI w wr v k l)) (fun _ i _ => n - (intOf i).toNat)
  case atStart => exact ⟨_, 0, rfl, rfl, Nat.zero_le _, H0⟩
  case round =>
    obtain ⟨v, k, hv0, rfl, hk, HI⟩ := hrel
    subst hv0
    by_cases hlt : k < n
    · have hlt' : (k : Int) < (n : Int) := by omega
      have hkl : k < l.length := by rw [← HLN.out]; exact hlt
      obtain ⟨g, o, hA, hg, hd⟩ := H.out.below HI.out.below (by omega)
      obtain ⟨a0, a1, a2⟩ := hd k hkl
      subst hA
      have HTK := Lib.hid (show (l.take (k + 1)).flatMap tkV = (l.take k).flatMap tkV ++ tkV l[k] by
        rw [List.take_succ_eq_append_getElem hkl, List.flatMap_append]; simp)
      clear hd
      generalize l[k] = t at *
      obtain ⟨K, X, P⟩ := t
      simp only at a0 a1 a2
      generalize hY : ByteArray.mk X.toArray = Y at *
      have HY := Lib.hid hY
      clear hY
      obtain ⟨i0, hi, hz0, hz1, hz2⟩ := info_parts infoLT
      have hrl := HI.out.below.size
      have hbw := Lib.hid (show ∀ q, v.ownBlock = some q → w.heap.size ≤ q from fun q hq => (HI.out.own.lt q hq).1)
      have hmax : k + 1 ≤ maxLen := by unfold maxLen; omega
      have hgw := Nat.lt_of_lt_of_le hg hrl
      have c_dr := fun (ob : Obj) (off : Nat) => ((Below.refl wr.heap.size wr).alloc (Nat.le_refl _) ob).drew.cell (p := ⟨g, off, none⟩) hgw
      go_wp2_with fail
      go_region_held3 (fun w' => w'.cell? ⟨g, o + k * 3, none⟩ = some (.int .u8 K) ∧ w'.cell? ⟨g, o + k * 3 + 1, none⟩ = some (.string Y) ∧ w'.cell? ⟨g, o + k * 3 + 2, none⟩ = some (.int .i64 (P : Int))) (first | exact ⟨a0, a1, a2⟩ | exact ⟨(c_dr _ _).trans a0, (c_dr _ _).trans a1, (c_dr _ _).trans a2⟩ | exact ⟨(HR9.out.2.2.cell (p := ⟨g, _, none⟩) hg).trans a0, (HR9.out.2.2.cell (p := ⟨g, _, none⟩) hg).trans a1, (HR9.out.2.2.cell (p := ⟨g, _, none⟩) hg).trans a2⟩) (first | (refine step_append_lies _ (by rfl) _ _ _ (by rfl) w.heap.size 44 i0 _ 3 32 Tryd.underlying23 hi hz0 hz1 hz2 rfl (by omega) v k ((l.take k).flatMap tkV) (by rfl) (by exact own_dr (World.ownsRow.alloc HI.out.own _)) _ 1 _ [.int .u8 K, .string Y, .int .i64 (P : Int)] (by rfl) rfl (by intro j u hu; exact news_dr _ _ _ _ (by simp) j u hu) (by intro u hu; simp at hu; rcases hu with rfl | rfl | rfl <;> rfl) (by omega) hmax (by omega) (by simp; omega) _ rfl ?_; intro g9 cap9 w9 hown9 hgr9 hat9 hlt9; have HR9 := Lib.hid (And.intro hown9 (show Below w.heap.size w w9 ∧ Below w.heap.size wr w9 from ⟨Below.grown (HI.out.below.alloc hrl _).drew hgr9 (by simp; omega) hbw.out, Below.grown ((Below.refl _ _).alloc hrl _).drew hgr9 (by simp; omega) hbw.out⟩)); clear hown9 hgr9 hat9))
      have HJ := Lib.hid (show RfI w w9 (.slice (some ⟨g9, 0, none⟩) (k + 1) cap9) (k + 1) l from ⟨HR9.out.2.1, by
        rw [HTK.out]
        have h4 := HR9.out.1
        rw [← HY.out] at h4
        exact h4⟩)
      clear HR9 a0 a1 a2 hi hz0 hz1 hz2 hmax
      go_wp2
      go_roundw
      case rel => exact ⟨_, k + 1, rfl, by go_num, hlt, HJ⟩
      case measure => simp [intOf]; omega
    · obtain rfl : k = n := by omega
      have hlt' : ¬ (k : Int) < (k : Int) := by omega
      have HE := Lib.hid (show wr.ownsRow w.heap.size 44 3 v k (l.flatMap tkV) by
        have h4 := HI.out.own
        rw [List.take_of_length_le (by rw [← HLN.out]; exact Nat.le_refl _)] at h4
        exact h4)
      clear hlt
      go_wp2
      go_ret
      exact ⟨v, rfl, HE.out, HI.out.below⟩
end Go.Proofs.YtbihkigpmgipcaaDoor
