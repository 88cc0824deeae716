/- Layer 7's program: Show, walked. Conditions: the table of signs holds what its text lays; the row of tokens lies in memory; it is short, and so are its texts. -/
import Derived.Test.YtbihkigpmgipcaaDoorLxWalk5
import Derived.Test.YtbihkigpmgipcaaDoorLxRef5
import Derived.Test.YtbihkigpmgipcaaDoorSbByte
namespace Go.Proofs.YtbihkigpmgipcaaDoor
open Go.RowKit

/-- A row of tokens (their kinds, their texts) lies so, from a place in a block on. -/
def RdS (w : World) (B : Nat) (A : Option Addr) (l : List (Int × ByteArray)) : Prop := 0 < l.length → ∃ g o, A = some ⟨g, o, none⟩ ∧ g < B ∧ ∀ j (hj : j < l.length), w.cell? ⟨g, o + j * 3, none⟩ = some (.int .u8 l[j].1) ∧ w.cell? ⟨g, o + j * 3 + 1, none⟩ = some (.string l[j].2) ∧ ∃ p, w.cell? ⟨g, o + j * 3 + 2, none⟩ = some (.int .i64 p)
theorem RdS.below {w w' : World} {B : Nat} {A : Option Addr} {l : List (Int × ByteArray)} (h : RdS w B A l) (hb : Below B w w') : RdS w' B A l := fun h0 => by
  obtain ⟨g, o, e, hg, hc⟩ := h h0
  refine ⟨g, o, e, hg, fun j hj => ?_⟩
  obtain ⟨c0, c1, p, c2⟩ := hc j hj
  exact ⟨(hb.cell (p := ⟨g, _, none⟩) hg).trans c0, (hb.cell (p := ⟨g, _, none⟩) hg).trans c1, p, (hb.cell (p := ⟨g, _, none⟩) hg).trans c2⟩
theorem sb_lt {B b : Nat} {l : List UInt8} {w : World} (h : IsSb B b l w) : b < w.heap.size := h.elim (fun x => x.lt) (fun x => x.lt)
structure SwI (w : World) (l : List (Int × ByteArray)) (R : Option (List UInt8)) (wr : World) (k : Nat) (o : List UInt8) : Prop where
  below : Below w.heap.size w wr
  sb : IsSb w.heap.size w.heap.size o wr
  len : o.length ≤ k * 10001
  eq : R = shG o k (prs (l.drop k))
set_option maxHeartbeats 8000000 in
set_option maxRecDepth 100000 in
theorem lshow_any (w : World) (A : Option Addr) (c : Nat) (l : List (Int × ByteArray)) (hsg : Sg w) (h : RdS w w.heap.size A l) (hn : l.length ≤ 50000) (hlc : l.length ≤ c) (hx : ∀ x ∈ l, x.2.size ≤ 10000) :
    Calls Tryd.prog 13 #[.slice A l.length c] w fun e w' => e = .returned (shV (Lx.shw (prs l))) ∧ Below w.heap.size w w' := by
  have H := Lib.hid h
  have HSG := Lib.hid hsg
  have HXS := Lib.hid hx
  have HWB := Lib.hid (fun o c w0 => writeByte_any w.heap.size w.heap.size o c w0)
  have HWS := Lib.hid (fun o s w0 => write_any w.heap.size w.heap.size o s w0)
  have HST := Lib.hid (fun o w0 => string_any w.heap.size w.heap.size o w0)
  obtain ⟨R, hR⟩ : ∃ R, R = Lx.shw (prs l) := ⟨_, rfl⟩
  rw [← hR]
  have H0 := Lib.hid (show SwI w l R (w.alloc (.cells #[.pointer none, .slice none 0 0] 51)) 0 [] from ⟨(Below.refl _ _).alloc (Nat.le_refl _) _, IsSb.fresh w, Nat.zero_le _, by rw [hR, ← shG_all]; rfl⟩)
  obtain ⟨n, hln⟩ : ∃ n, n = l.length := ⟨_, rfl⟩
  rw [← hln] at hn hlc ⊢
  have HLN := Lib.hid hln
  have hlc' : (n : Int) ≤ (c : Int) := by omega
  clear h hx hR hln hsg
  go_enter Tryd.func13, Tryd.ntmps13
  go_wp2
  go_loopw [10] (fun i wr => ∃ (k : Nat) (o : List UInt8), i = .int .i64 k ∧ k ≤ n ∧ Hid (SwI w l R wr k o)) (fun i _ => n - (intOf i).toNat)
  case atStart => exact ⟨0, [], rfl, Nat.zero_le _, H0⟩
  case round =>
    clear H0
    obtain ⟨k, o, rfl, hk, HI⟩ := hrel
    by_cases hlt : k < n
    · have hlt' : (k : Int) < (n : Int) := by omega
      have hkl : k < l.length := by rw [← HLN.out]; exact hlt
      obtain ⟨g, oo, hA, hg, hcs⟩ := (H.out.below HI.out.below) (by omega)
      obtain ⟨c0, c1, p, c2⟩ := hcs k hkl
      have hxs := HXS.out _ (List.getElem_mem hkl)
      have hstep := HI.out.eq
      rw [shG_at hkl] at hstep
      have HS := Lib.hid hstep
      generalize l[k] = a at *
      obtain ⟨K, X⟩ := a
      simp only at c0 c1 hxs HS
      have HIS := Lib.hid (fun w0 h0 => is_any X w0 (by unfold maxLen; omega) h0)
      subst hA
      obtain ⟨W2, hW2⟩ : ∃ W2, W2 = wr.alloc (.cells #[.int .u8 K, .string X, .int .i64 p] 32) := ⟨_, rfl⟩
      have HW2 := Lib.hid (show Below wr.heap.size wr W2 ∧ W2.cell? ⟨wr.heap.size, 0, none⟩ = some (.int .u8 K) ∧ W2.cell? ⟨wr.heap.size, 1, none⟩ = some (.string X) ∧ W2.heap[wr.heap.size]? = some (.cells #[.int .u8 K, .string X, .int .i64 p] 32 (0, 0)) by
        subst hW2
        exact ⟨(Below.refl _ _).alloc (Nat.le_refl _) _, cells_new _ [_, _, _] _ 0 _ rfl, cells_new _ [_, _, _] _ 1 _ rfl, heap_alloc_new _ _⟩)
      have d1 := HW2.out.2.2.1
      have HSB := Lib.hid (HI.out.sb.below HW2.out.1)
      have HB2 := Lib.hid (HI.out.below.trans (HW2.out.1.mono HI.out.below.size))
      have HSG2 := Lib.hid (HSG.out.below HB2.out (Nat.le_refl _))
      clear hstep hcs
      go_wp2_with fail
      rw [← hW2]
      refine (HIS.out W2 HSG2.out).mono ?_
      rintro e w3 ⟨rfl, h3⟩
      have d0 := cell_below h3 (Nat.le_refl _) HW2.out.2.1
      have d1 := cell_below h3 (Nat.le_refl _) HW2.out.2.2.1
      have HHP := Lib.hid ((h3.block _ (Array.getElem?_eq_some_iff.1 HW2.out.2.2.2).1).trans HW2.out.2.2.2)
      have HB3 := Lib.hid (HB2.out.trans (h3.mono HB2.out.size))
      have HS3 := Lib.hid (HSB.out.below h3)
      clear h3 hW2 HSB HB2 HSG2 HW2 c0 c1 c2
      generalize Lx.is X.data.toList = z at *
      by_cases hz0 : z = 0
      · subst hz0
        have HE := Lib.hid (show R = none by
          rw [HS.out, if_pos]
          by_cases hK : K = 0
          · exact Or.inl hK
          · exact Or.inr (fun e => hK e.symm))
        go_wp2
        go_ret2
        exact ⟨by rw [HE.out]; rfl, HB3.out⟩
      · have hz0' : (z == 0) = false := beq_eq_false_iff_ne.2 hz0
        by_cases hz : z = K
        · subst hz
          have hz' : (z != z) = false := by simp
          have HN := Lib.hid (show R = shG ((if 0 < k then o ++ [32] else o) ++ X.data.toList) (k + 1) (prs (l.drop (k + 1))) by
            rw [HS.out, if_neg]
            rintro (h | h)
            · exact hz0 h
            · exact h rfl)
          have hol := HI.out.len
          have hXl : X.data.toList.length = X.size := (Lib.size_eq X).symm
          by_cases hk0 : 0 < k
          · have hk0' : (k : Int) > 0 := by omega
            have HM := Lib.hid (show R = shG ((o ++ [32]) ++ X.data.toList) (k + 1) (prs (l.drop (k + 1))) by rw [HN.out, if_pos hk0])
            have hl1 : (o ++ [32]).length = o.length + 1 := by simp
            have HLE := Lib.hid (show ((o ++ [32]) ++ X.data.toList).length ≤ (k + 1) * 10001 by rw [List.length_append, hl1, hXl]; omega)
            have HC1 := Lib.hid (HWB.out o 32 w3 HS3.out (by omega) HB3.out.size)
            have HC2 := Lib.hid (fun w0 h0 hb0 => HWS.out (o ++ [32]) X w0 h0 (by rw [hl1]; omega) hb0)
            clear hz0 HS hl1 hXl hol hk0
            go_wp2_with fail
            refine HC1.out.mono ?_
            rintro e w4 ⟨rfl, s4, b4, k4⟩
            have hnb : some wr.heap.size ≠ some w.heap.size := fun e => by have := HI.out.sb; have h5 := sb_lt this; injection e with e; omega
            have d1' := Lib.cell_of_heap (k4 _ _ HHP.out hnb (by intro c fz e; simp at e)) 1
            replace d1' : w4.cell? ⟨wr.heap.size, 1, none⟩ = some (.string X) := d1'
            have H4 := Lib.hid (And.intro s4 (HB3.out.trans b4))
            clear s4 b4 k4 hnb HHP d1 d0
            go_wp2_with fail
            refine (HC2.out w4 H4.out.1 H4.out.2.size).mono ?_
            rintro e w5 ⟨rfl, s5, b5⟩
            have HJ := Lib.hid (show SwI w l R w5 (k + 1) ((o ++ [32]) ++ X.data.toList) from ⟨H4.out.2.trans b5, s5, HLE.out, HM.out⟩)
            clear s5 b5
            go_wp2
            go_roundw
            case rel => exact ⟨k + 1, _, by go_num, hlt, HJ⟩
            case measure => simp [intOf]; omega
          · have hk0' : ¬ (k : Int) > 0 := by omega
            have HM := Lib.hid (show R = shG (o ++ X.data.toList) (k + 1) (prs (l.drop (k + 1))) by rw [HN.out, if_neg hk0])
            have HLE := Lib.hid (show (o ++ X.data.toList).length ≤ (k + 1) * 10001 by rw [List.length_append, hXl]; omega)
            have HC2 := Lib.hid (HWS.out o X w3 HS3.out (by omega) HB3.out.size)
            clear hz0 HS hXl hol hk0
            go_wp2_with fail
            refine HC2.out.mono ?_
            rintro e w5 ⟨rfl, s5, b5⟩
            have HJ := Lib.hid (show SwI w l R w5 (k + 1) (o ++ X.data.toList) from ⟨HB3.out.trans b5, s5, HLE.out, HM.out⟩)
            clear s5 b5
            go_wp2
            go_roundw
            case rel => exact ⟨k + 1, _, by go_num, hlt, HJ⟩
            case measure => simp [intOf]; omega
        · have hz' : (z != K) = true := by simpa using hz
          have HE := Lib.hid (show R = none by rw [HS.out, if_pos (Or.inr hz)])
          clear hz hz0 HS
          go_wp2
          go_ret2
          exact ⟨by rw [HE.out]; rfl, HB3.out⟩
    · obtain rfl : k = n := by omega
      have hlt' : ¬ (k : Int) < (k : Int) := by omega
      have HE := Lib.hid (show R = some o by rw [HI.out.eq, List.drop_of_length_le (by rw [← HLN.out]; exact Nat.le_refl _)]; rfl)
      have HC := Lib.hid (HST.out o wr HI.out.sb HI.out.below.size)
      clear hlt
      go_wp2_with fail
      refine HC.out.mono ?_
      rintro e w5 ⟨rfl, b5⟩
      have HB := Lib.hid (HI.out.below.trans b5)
      clear b5
      go_wp2
      go_ret2
      exact ⟨by rw [HE.out]; rfl, HB.out⟩
end Go.Proofs.YtbihkigpmgipcaaDoor
