/- Layer 7's reference: Show, walked. Conditions: the row of tokens lies in memory; it is short, and so are its texts. -/
import Derived.Test.YtbihkigpmgipcaaDoorLxRef4
namespace Go.Proofs.YtbihkigpmgipcaaDoor
open Go.RowKit

/-- What is shown, from the left. -/
def shG : List UInt8 → Nat → List (Int × List UInt8) → Option (List UInt8)
  | o, _, [] => some o
  | o, k, (K, x) :: r => if K = 0 ∨ Lx.is x ≠ K then none else shG ((if 0 < k then o ++ [32] else o) ++ x) (k + 1) r
theorem shG_eq : ∀ (l : List (Int × List UInt8)) (o : List UInt8) (k : Nat), shG o (k + 1) l = (Lx.shw l).map fun y => if l = [] then o else o ++ 32 :: y
  | [], o, k => rfl
  | (K, x) :: r, o, k => by
    unfold shG Lx.shw
    split
    · rfl
    · rw [if_pos (Nat.succ_pos k), shG_eq r]
      cases Lx.shw r with
      | none => rfl
      | some y =>
        simp only [Option.map_some, Option.some.injEq]
        by_cases hr : r = []
        · subst hr; simp
        · simp [hr]
theorem shG_all (l : List (Int × List UInt8)) : shG [] 0 l = Lx.shw l := by
  cases l with
  | nil => rfl
  | cons a r =>
    obtain ⟨K, x⟩ := a
    unfold shG Lx.shw
    split
    · rfl
    · rw [if_neg (Nat.lt_irrefl 0), shG_eq r]
      cases Lx.shw r with
      | none => rfl
      | some y => by_cases hr : r = [] <;> simp [hr]
/-- A row of tokens (their kinds, their texts) lies so. -/
def ShR (w : World) (B : Nat) (A : Option Addr) (l : List (Int × ByteArray)) : Prop := ∀ j (hj : j < l.length), ∃ g, A = some ⟨g, 0, none⟩ ∧ g < B ∧ w.cell? ⟨g, j * 3, none⟩ = some (.int .u8 l[j].1) ∧ w.cell? ⟨g, j * 3 + 1, none⟩ = some (.string l[j].2)
def prs (l : List (Int × ByteArray)) : List (Int × List UInt8) := l.map fun x => (x.1, x.2.data.toList)
def shV : Option (List UInt8) → Value
  | none => .tuple #[.string ⟨#[]⟩, .int .i64 2]
  | some y => .tuple #[.string ⟨y.toArray⟩, .int .i64 0]
theorem shG_at {l : List (Int × ByteArray)} {k : Nat} (h : k < l.length) (o : List UInt8) : shG o k (prs (l.drop k)) = if l[k].1 = 0 ∨ Lx.is l[k].2.data.toList ≠ l[k].1 then none else shG ((if 0 < k then o ++ [32] else o) ++ l[k].2.data.toList) (k + 1) (prs (l.drop (k + 1))) := by
  rw [List.drop_eq_getElem_cons h]; rfl
theorem lx_drewN {B : Nat} {a w : World} (h : Below B a w) (n : Nat) : Below B a (w.drewN n) := h.trans ⟨rfl, rfl, rfl, Nat.le_refl _, fun _ _ => rfl⟩
set_option maxHeartbeats 8000000 in
set_option maxRecDepth 100000 in
theorem rshow_any (w : World) (A : Option Addr) (c : Nat) (l : List (Int × ByteArray)) (h : ShR w w.heap.size A l) (hn : l.length ≤ 50000) (hlc : l.length ≤ c) (hx : ∀ x ∈ l, x.2.size ≤ 10000) :
    Calls Tryd.prog 14 #[.slice A l.length c] w fun e w' => e = .returned (shV (Lx.shw (prs l))) ∧ Below w.heap.size w w' := by
  have H := Lib.hid h
  have HXS := Lib.hid hx
  obtain ⟨R, hR⟩ : ∃ R, R = Lx.shw (prs l) := ⟨_, rfl⟩
  rw [← hR]
  have HR := Lib.hid (show R = shG [] 0 (prs (l.drop 0)) by rw [hR, ← shG_all]; rfl)
  obtain ⟨n, hln⟩ : ∃ n, n = l.length := ⟨_, rfl⟩
  rw [← hln] at hn hlc ⊢
  have HLN := Lib.hid hln
  clear h hx hR hln
  go_enter Tryd.func14, Tryd.ntmps14
  go_wp2
  go_loopw [4, 5] (fun vo i wr => ∃ (k : Nat) (o : ByteArray), i = .int .i64 k ∧ vo = .string o ∧ k ≤ n ∧ o.size ≤ k * 10001 ∧ Hid (Below w.heap.size w wr ∧ R = shG o.data.toList k (prs (l.drop k)))) (fun _ i _ => n - (intOf i).toNat)
  case atStart => exact ⟨0, ⟨#[]⟩, rfl, rfl, Nat.zero_le _, Nat.zero_le _, Lib.hid ⟨Below.refl _ _, HR.out⟩⟩
  case round =>
    obtain ⟨k, o, rfl, rfl, hk, hos, HI⟩ := hrel
    by_cases hlt : k < n
    · have hlt' : (k : Int) < (n : Int) := by omega
      have hkl : k < l.length := by rw [← HLN.out]; exact hlt
      obtain ⟨g, hA, hg, hc0, hc1⟩ := H.out k hkl
      have hxs := HXS.out _ (List.getElem_mem hkl)
      have hstep := HI.out.2
      rw [shG_at hkl] at hstep
      have HS := Lib.hid hstep
      replace hc0 := (HI.out.1.cell (p := ⟨g, k * 3, none⟩) hg).trans hc0
      replace hc1 := (HI.out.1.cell (p := ⟨g, k * 3 + 1, none⟩) hg).trans hc1
      generalize l[k] = a at *
      obtain ⟨K, X⟩ := a
      simp only at hc0 hc1 hxs HS
      have HIS := Lib.hid (fun w0 => ris_any X w0 (by omega))
      have hlc' : (n : Int) ≤ (c : Int) := by omega
      subst hA
      clear hstep
      by_cases hK : K = 0
      · subst hK
        have HE := Lib.hid (show R = none by rw [HS.out, if_pos (Or.inl rfl)])
        go_wp2_with fail
        go_quiet (fail)
        go_wp2
        go_ret2
        exact ⟨by rw [HE.out]; rfl, lx_drewN HI.out.1 _⟩
      · have hK' : (K == 0) = false := beq_eq_false_iff_ne.2 hK
        generalize Lx.is X.data.toList = z at *
        by_cases hz : z = K
        · subst hz
          have hz' : (z != z) = false := by simp
          have HN := Lib.hid (show R = shG ((if 0 < k then o.data.toList ++ [32] else o.data.toList) ++ X.data.toList) (k + 1) (prs (l.drop (k + 1))) by
            rw [HS.out, if_neg]
            rintro (h | h)
            · exact hK h
            · exact h rfl)
          have hgz := Nat.lt_of_lt_of_le hg HI.out.1.size
          clear hK HS
          go_wp2_with fail
          go_region_held3 (fun w' => w'.cell? ⟨g, k * 3, none⟩ = some (.int .u8 z) ∧ w'.cell? ⟨g, k * 3 + 1, none⟩ = some (.string X)) (first | exact ⟨hc0, hc1⟩ | exact ⟨(h1.cell (p := ⟨g, k * 3, none⟩) hgw).trans hc0, (h1.cell (p := ⟨g, k * 3 + 1, none⟩) hgw).trans hc1⟩) (first | (go_at_call 17; refine (HIS.out _).mono ?_; rintro e w1 ⟨rfl, h1⟩; have hgw := Nat.lt_of_lt_of_le hg HI.out.1.size))
          have HB1 := Lib.hid (HI.out.1.trans (((Below.refl wr.heap.size wr).drew.trans h1).mono HI.out.1.size))
          have d1 := (((Below.refl wr.heap.size wr).drew.trans h1).cell (p := ⟨g, k * 3 + 1, none⟩) hgz).trans hc1
          clear hc0 hc1 h1 hK' hz'
          by_cases hk0 : 0 < k
          · have hk0' : (k : Int) > 0 := by omega
            have HM := Lib.hid (show R = shG ((o ++ ⟨#[32]⟩) ++ X).data.toList (k + 1) (prs (l.drop (k + 1))) by
              rw [HN.out, if_pos hk0]; simp)
            have hsz : ((o ++ ⟨#[32]⟩) ++ X).size ≤ (k + 1) * 10001 := by
              rw [ByteArray.size_append, ByteArray.size_append]
              have h32 : (ByteArray.mk #[32]).size = 1 := rfl
              omega
            clear hk0
            go_wp2
            go_roundw
            case rel => exact ⟨k + 1, _, by go_num, rfl, hlt, hsz, Lib.hid ⟨HB1.out, HM.out⟩⟩
            case measure => simp [intOf]; omega
          · have hk0' : ¬ (k : Int) > 0 := by omega
            have HM := Lib.hid (show R = shG (o ++ X).data.toList (k + 1) (prs (l.drop (k + 1))) by
              rw [HN.out, if_neg hk0]; simp)
            have hsz : (o ++ X).size ≤ (k + 1) * 10001 := by
              rw [ByteArray.size_append]
              omega
            clear hk0
            go_wp2
            go_roundw
            case rel => exact ⟨k + 1, _, by go_num, rfl, hlt, hsz, Lib.hid ⟨HB1.out, HM.out⟩⟩
            case measure => simp [intOf]; omega
        · have hz' : (z != K) = true := by simpa using hz
          have HE := Lib.hid (show R = none by rw [HS.out, if_pos (Or.inr hz)])
          clear hz hK HS
          go_wp2_with fail
          go_region_held3 (fun w' => w'.cell? ⟨g, k * 3, none⟩ = some (.int .u8 K) ∧ w'.cell? ⟨g, k * 3 + 1, none⟩ = some (.string X)) (first | exact ⟨hc0, hc1⟩ | exact ⟨(h1.cell (p := ⟨g, k * 3, none⟩) hgw).trans hc0, (h1.cell (p := ⟨g, k * 3 + 1, none⟩) hgw).trans hc1⟩) (first | (go_at_call 17; refine (HIS.out _).mono ?_; rintro e w1 ⟨rfl, h1⟩; have hgw := Nat.lt_of_lt_of_le hg HI.out.1.size))
          have HB1 := Lib.hid (HI.out.1.trans (((Below.refl wr.heap.size wr).drew.trans h1).mono HI.out.1.size))
          clear hc0 hc1 h1 hK' hz'
          go_wp2
          go_ret2
          exact ⟨by rw [HE.out]; rfl, HB1.out⟩
    · obtain rfl : k = n := by omega
      have hlt' : ¬ (k : Int) < (k : Int) := by omega
      have HE := Lib.hid (show R = some o.data.toList by rw [HI.out.2, List.drop_of_length_le (by rw [← HLN.out]; exact Nat.le_refl _)]; rfl)
      clear hlt
      go_wp2
      go_ret2
      exact ⟨by rw [HE.out]; rfl, HI.out.1⟩
end Go.Proofs.YtbihkigpmgipcaaDoor
