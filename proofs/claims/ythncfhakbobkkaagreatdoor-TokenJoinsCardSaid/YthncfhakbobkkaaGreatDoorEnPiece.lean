/- The closures of entity.Decode and entity.Encode, entity.replaced, Decode, Encode and Reference, walked: texts, piece by piece. Conditions: the tables hold what their texts lay; strconv.ErrSyntax holds an error; a text's length fits. -/
import Derived.Test.YthncfhakbobkkaaGreatDoorEnRefn
import Derived.Test.YthncfhakbobkkaaGreatDoorEnPlain2
import Derived.Test.YthncfhakbobkkaaGreatDoorSbWalk
namespace Go.Proofs.YthncfhakbobkkaaGreatDoor
open Go.RowKit

theorem nx_bd (l : List UInt8) : 0 ≤ (U8.nx l).1 ∧ (U8.nx l).1 ≤ 1114111 := by
  by_cases hne : l = []
  · subst hne; decide
  · rcases U8.nx_cases l hne with ⟨c, hch, _, _, hn⟩ | ⟨hn, _, _⟩
    · have := U8.isCh_lo hch; rw [hn]; simp only; omega
    · rw [hn]; decide


/-! ### the closures -/
def tup3 (d : List UInt8 × Nat × Int) : Value := .tuple #[.string ⟨d.1.toArray⟩, .int .i64 d.2.1, .int .i64 d.2.2]

/-- What the first closure wants of a world. -/
def InvD (cb r : Nat) (w : World) : Prop := Tb w ∧ IsNames r w ∧ w.cell? ⟨cb, 0, none⟩ = some (.map (some r))
theorem InvD.below {cb r B : Nat} {w w' : World} (h : InvD cb r w) (hb : Below B w w') (hB : w.heap.size ≤ B) : InvD cb r w' :=
  ⟨h.1.below hb hB, h.2.1.below hb hB, cell_below hb hB h.2.2⟩
def InvE (cb : Nat) (attr : Bool) (w : World) : Prop := Tb w ∧ w.cell? ⟨cb, 0, none⟩ = some (.bool attr)
theorem InvE.below {cb B : Nat} {attr : Bool} {w w' : World} (h : InvE cb attr w) (hb : Below B w w') (hB : w.heap.size ≤ B) : InvE cb attr w' :=
  ⟨h.1.below hb hB, cell_below hb hB h.2⟩

set_option maxHeartbeats 1000000 in
theorem dec1_any (cb r : Nat) (s : ByteArray) (hs : s.size ≤ maxLen) (hne : s.data.toList ≠ []) (w : World) (I : InvD cb r w) :
    Calls Tryz.prog 75 #[.string s, .pointer (some ⟨cb, 0, none⟩)] w fun e w' => e = .returned (tup3 (En.dF s.data.toList)) ∧ Below w.heap.size w w' := by
  obtain ⟨T, hr, hc⟩ := I
  have hsz : 0 < s.size := by
    rw [Lib.size_eq]; cases e : s.data.toList with | nil => exact absurd e hne | cons _ _ => simp
  have hsz' : (0 : Int) < (s.size : Int) := by omega
  have h0 : s.data.toList.head? = some s[0] := by
    rw [List.head?_eq_getElem?, Lib.data_getElem? s 0 hsz]
  by_cases ha : s[0] = 38
  · have h38 : s.data.toList.head? = some 38 := by rw [h0, ha]
    have ht : ((s[0].toNat : Int) == 38) = true := by rw [ha]; rfl
    have ht2 : ((s[0].toNat : Int) != 38) = false := by rw [ha]; rfl
    have HR := Lib.hid (fun w0 T0 h0 => reference_any s hs r w0 T0 h0)
    rw [En.dF_amp h38]
    have hrb := (En.rf_bd s.data.toList).2
    generalize En.rf s.data.toList = d at *
    obtain ⟨c, n⟩ := d
    simp only at HR hrb ⊢
    have HB := Lib.hid hrb
    unfold tup3
    clear hrb h38 h0 ha hne
    by_cases hn : n = 0
    · subst hn
      rw [if_pos rfl]
      go_enter Tryz.func75, Tryz.ntmps75
      go_wp2_with fail
      refine (HR.out _ T hr).mono ?_
      rintro e w1 ⟨rfl, b1⟩
      go_wp2
      go_ret3
      exact ⟨rfl, b1⟩
    · rw [if_neg hn]
      have hn' : ((n : Int) == 0) = false := by
        have : ¬ (n : Int) = 0 := by omega
        simpa using this
      clear hn
      go_enter Tryz.func75, Tryz.ntmps75
      go_wp2_with fail
      refine (HR.out _ T hr).mono ?_
      rintro e w1 ⟨rfl, b1⟩
      go_wp2
      go_ret3
      exact ⟨rfl, b1⟩
  · have h38 : s.data.toList.head? ≠ some 38 := by rw [h0]; simpa using ha
    have hn38 : ¬ (s[0].toNat : Int) = 38 := by
      intro e; apply ha; apply UInt8.toNat_inj.1
      show s[0].toNat = 38
      omega
    have ht : ((s[0].toNat : Int) == 38) = false := by simpa using hn38
    have ht2 : ((s[0].toNat : Int) != 38) = true := by simpa using hn38
    have HN := Lib.hid (next_any s w T.t)
    rw [En.dF_no h38]
    have hle : (U8.nx s.data.toList).2.1 ≤ s.size := by
      rw [Lib.size_eq]
      rcases U8.nx_cases s.data.toList hne with ⟨c, _, _, hw, hn⟩ | ⟨hn, _, _⟩
      · rw [hn]; exact hw
      · rw [hn]; exact Nat.zero_le _
    generalize U8.nx s.data.toList = d at *
    obtain ⟨c, n, z⟩ := d
    simp only at HN hle ⊢
    have hle' : (n : Int) ≤ (s.size : Int) := by omega
    have HX : Hid (s.extract 0 n = ⟨(s.data.toList.take n).toArray⟩) := Lib.hid (ba_eq (by rw [take_data, data_mk]))
    unfold tup3
    unfold maxLen at hs
    clear h38 hn38 h0 ha hne
    go_enter Tryz.func75, Tryz.ntmps75
    go_wp2_with fail
    refine HN.out.mono ?_
    rintro e w1 ⟨rfl, b1⟩
    go_wp2
    go_ret3
    exact ⟨by simp only; rw [← HX.out]; rfl, b1⟩


/-! ### replaced -/
set_option maxHeartbeats 2000000 in
set_option maxRecDepth 100000 in
theorem replacedD (cb r : Nat) (s : ByteArray) (hs : s.size ≤ 1000000000) (w : World) (I : InvD cb r w) :
    Calls Tryz.prog 74 #[.string s, .func (.func 75) #[] #[.pointer (some ⟨cb, 0, none⟩)]] w fun e w' => e = .returned (tup3 (En.rep En.dF s.data.toList)) ∧ Below w.heap.size w w' := by
  have HL := Lib.hid (Lib.size_eq s)
  obtain ⟨R, hR⟩ : ∃ R, R = En.rep En.dF s.data.toList := ⟨_, rfl⟩
  rw [← hR]
  have HR : Hid (R = En.goes En.dF s.size s.data.toList [] 0) := Lib.hid (by rw [hR, HL.out]; rfl)
  clear hR
  have HC := Lib.hid (fun (t : ByteArray) (ht : t.size ≤ maxLen) (hne : t.data.toList ≠ []) (w0 : World) (I0 : InvD cb r w0) => (dec1_any cb r t ht hne) w0 I0)
  have HWr := Lib.hid write_any
  have HSt := Lib.hid string_any
  have HI := Lib.hid I
  have J1 := IsSb.fresh w
  unfold tup3
  clear I
  go_enter Tryz.func74, Tryz.ntmps74
  go_wp2
  go_loopw [5] (fun v wr => ∃ (p : Nat) (out : List UInt8), v = .int .i64 p ∧ p ≤ s.size ∧ out.length ≤ 6 * p ∧ IsSb w.heap.size w.heap.size out wr ∧ Below w.heap.size w wr ∧ Hid (R = En.goes En.dF s.size (s.data.toList.drop p) out p)) (fun v _ => s.size - (intOf v).toNat)
  case atStart => exact ⟨0, [], rfl, Nat.zero_le _, Nat.zero_le _, J1, (Below.refl _ _).alloc (Nat.le_refl _) _, HR⟩
  case round =>
    obtain ⟨p, out, rfl, hp, hout, J, hbw, HH⟩ := hrel
    have IW := Lib.hid (HI.out.below hbw (Nat.le_refl _))
    clear J1
    by_cases hlt : p < s.size
    · have hlt' : (p : Int) < (s.size : Int) := by omega
      have hpn : (p : Int) ≤ (s.size : Int) := by omega
      have hne : s.data.toList.drop p ≠ [] := by intro e; have := congrArg List.length e; have := HL.out; simp at *; omega
      have hts : (s.extract p s.size).size ≤ maxLen := by have := extract_size s p s.size; unfold maxLen; omega
      have HX := Lib.hid (fun w0 I0 => HC.out (s.extract p s.size) hts (by rw [Lib.extract_to_end]; exact hne) w0 I0)
      rw [Lib.extract_to_end] at HX
      have hfl : (s.data.toList.drop p).length ≤ s.size := by rw [List.length_drop, ← HL.out]; omega
      by_cases hz : (En.dF (s.data.toList.drop p)).2.2 = 0
      · have hm := En.moves_dF _ hne hz
        have hlg := (En.long_dF) hne hz
        have hg := En.goes_good En.moves_dF (out := out) (at_ := p) hfl hne hz
        have hk : p + (En.dF (s.data.toList.drop p)).2.1 ≤ s.size := by have h2 := hm.2; rw [List.length_drop, ← HL.out] at h2; omega
        rw [List.drop_drop] at hg
        have hk1 := hm.1
        have HG := Lib.hid (HH.out.trans hg)
        clear hg hm HH hfl
        generalize En.dF (s.data.toList.drop p) = d at *
        obtain ⟨c, n, z⟩ := d
        simp only at HX HG hz hk hk1 hlg
        subst hz
        obtain ⟨P, hP⟩ : ∃ P : ByteArray, P = ⟨c.toArray⟩ := ⟨_, rfl⟩
        have hPl : P.data.toList = c := by rw [hP, data_mk]
        have hPs : P.size ≤ 6 * n := by rw [hP, size_mk]; exact hlg
        unfold tup3 at HX
        simp only at HX
        rw [← hP] at HX
        have HPl := Lib.hid hPl
        have hop : out.length + P.size ≤ 6 * (p + n) := by omega
        clear hts hne hP hPl hlg
        go_wp2_with fail
        refine (HX.out _ IW.out).mono ?_
        rintro e w1 ⟨rfl, h1⟩
        have J1 := J.below h1
        have b1 := hbw.trans (h1.mono hbw.size)
        clear J IW hbw h1
        go_wp2_with fail
        refine (HWr.out w.heap.size w.heap.size out P _ J1 (by omega) b1.size).mono ?_
        rintro e w2 ⟨rfl, J2, h2⟩
        rw [HPl.out] at J2
        have hc2 : (out ++ c).length ≤ 6 * (p + n) := by rw [List.length_append]; have := HPl.out; have h3 := Lib.size_eq P; rw [this] at h3; omega
        have b2 := b1.trans h2
        go_wp2
        go_roundw
        case rel => exact ⟨p + n, out ++ c, by go_num, hk, hc2, J2, b2, HG⟩
        case measure => simp [intOf]; omega
      · have hg := En.goes_bad (F := En.dF) (out := out) (at_ := p) hfl hne hz
        have HG := Lib.hid (HH.out.trans hg)
        clear hg HH hfl
        generalize En.dF (s.data.toList.drop p) = d at *
        obtain ⟨c, n, z⟩ := d
        simp only at HX HG hz
        have hz' : (z == 0) = false := by simpa using hz
        have hz2 : (z != 0) = true := by simpa using hz
        unfold tup3 at HX
        simp only at HX
        clear hts hne hz
        go_wp2_with fail
        refine (HX.out _ IW.out).mono ?_
        rintro e w1 ⟨rfl, h1⟩
        have b1 := hbw.trans (h1.mono hbw.size)
        clear J IW hbw h1
        go_wp2
        go_ret3
        exact ⟨by rw [HG.out]; rfl, b1⟩
    · have hlt' : ¬ (p : Int) < (s.size : Int) := by omega
      have hnil : s.data.toList.drop p = [] := List.drop_of_length_le (by have := HL.out; omega)
      have hg := HH.out
      rw [hnil, En.goes_nil] at hg
      have HG := Lib.hid hg
      clear hg hnil HH hlt
      go_wp2_with fail
      refine (HSt.out w.heap.size w.heap.size out _ J hbw.size).mono ?_
      rintro e w1 ⟨rfl, h1⟩
      have b1 := hbw.trans h1
      clear J IW hbw h1
      go_wp2
      go_ret3
      exact ⟨by rw [HG.out]; rfl, b1⟩
end Go.Proofs.YthncfhakbobkkaaGreatDoor
