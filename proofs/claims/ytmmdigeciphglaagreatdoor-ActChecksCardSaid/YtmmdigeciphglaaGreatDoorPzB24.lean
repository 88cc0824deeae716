/- Facts and walks for the statement. -/
import Derived.Test.YtmmdigeciphglaaGreatDoorPzB22
import Derived.Test.YtmmdigeciphglaaGreatDoorPzB23
import Derived.Test.YtmmdigeciphglaaGreatDoorPzB21
import Derived.Test.YtmmdigeciphglaaGreatDoorPzB19
namespace Go.Proofs.YtmmdigeciphglaaGreatDoor
open Go.RowKit Ex
theorem act_bad {s : List UInt8} (h : (Ac.act s).2.2 ≠ 0) : (Ac.act s).1 = [] := by
  unfold Ac.act at h ⊢
  by_cases h1 : (Lx.toks s).2.2 ≠ 0
  · rw [if_pos h1]
  · rw [if_neg h1] at h ⊢
    cases hb : Ac.B (kxs (Lx.toks s).1) [] with
    | bad n z => rfl
    | ok b => rw [hb] at h; exact absurd rfl h
theorem act_short {s : List UInt8} (h : (Ac.act s).2.2 = 0) : s.length ≤ 65536 := Decidable.byContradiction fun hn => by
  have e : (Lx.toks s).2.2 ≠ 0 := by unfold Lx.toks; rw [if_pos (by omega)]; decide
  unfold Ac.act at h
  rw [if_pos e] at h
  exact e h
def StFit (s : Ac.St) : Prop := Fitn s.x ∧ s.nm.length ≤ 1000000 ∧ s.x.length ≤ 65536
theorem act_fit (s : List UInt8) : ∀ t ∈ (Ac.act s).1, StFit t := fun t ht => by
  by_cases h : (Ac.act s).2.2 = 0
  · have hs := act_short h
    obtain ⟨q1, q2, q3, _⟩ := Ac.act_right hs h
    have hv : ∀ l : List Ac.St, t ∈ l → t.x.length ≤ Ac.vols l := fun l => by
      induction l with
      | nil => intro q; cases q
      | cons u l ih =>
        intro q
        show t.x.length ≤ Ac.vol u + Ac.vols l
        rcases List.mem_cons.1 q with rfl | q
        · unfold Ac.vol; omega
        · have := ih q; omega
    have hx := Nat.le_trans (hv _ ht) (Nat.le_trans q3 hs)
    have ho := q1.2 t ht
    have hn := q2 t ht
    refine ⟨⟨⟨by omega, fun n hn2 => ?_⟩, fun n hn2 => (hn n hn2).2⟩, Nat.le_trans (Ac.is_len (by rw [ho.2.1]; decide)) (by decide), hx⟩
    rcases ho.2.2 with ⟨_, e⟩ | e
    · rw [e] at hn2; cases hn2
    · obtain ⟨x, e1, e2, _, _⟩ := Ac.chk_ex e hn
      have hf := flat_fine x 0 e2 (Ac.small_of x 0 (by rw [← e1]; exact fun m hm => (hn m hm).2))
      rw [e1] at hn2
      exact ⟨by have := (hf n hn2).1.1; omega, (hf n hn2).1.2⟩
  · rw [act_bad h] at ht; cases ht
theorem fits_p {ps : List (Ac.St × Value)} {ss : List Ac.St} (h : ps.map (·.1) = ss) (hf : ∀ t ∈ ss, StFit t) : FitP ps := fun p hp => by
  have := hf p.1 (by rw [← h]; exact List.mem_map_of_mem hp)
  exact ⟨this.1, this.2.1⟩
theorem fits_x {ps : List (Ac.St × Value)} {ss : List Ac.St} (h : ps.map (·.1) = ss) (hf : ∀ t ∈ ss, StFit t) : ∀ p ∈ ps, p.1.x.length ≤ 1000000 := fun p hp => by
  have := (hf p.1 (by rw [← h]; exact List.mem_map_of_mem hp)).2.2
  omega
structure Bb (w : World) (b : Nat) (A : Option Addr) (n c : Nat) (ps : List (Ac.St × Value)) : Prop where
  blk : IsBlk w b 29 #[.slice A n c]
  row : StR w w.heap.size A ps
  len : ps.length = n
  cap : n ≤ c
  cm : c ≤ maxLen
theorem Bb.below {w w' : World} {b : Nat} {A : Option Addr} {n c : Nat} {ps : List (Ac.St × Value)} (h : Bb w b A n c ps) (hb : Below w.heap.size w w') : Bb w' b A n c ps := ⟨h.blk.below hb h.blk.lt, h.row.on hb, h.len, h.cap, h.cm⟩
theorem Bb.at_ {w : World} {b : Nat} {A : Option Addr} {n c : Nat} {ps : List (Ac.St × Value)} (h : Bb w b A n c ps) : w.cell? ⟨b, 0, none⟩ = some (.slice A n c) := h.blk.at_ 0
theorem Bb.new {w : World} {A : Option Addr} {n c : Nat} {ps : List (Ac.St × Value)} (h : StR w w.heap.size A ps) (hl : ps.length = n) (hc : n ≤ c) (hm : c ≤ maxLen) : Bb (w.alloc (.cells #[.slice A n c] 29)) w.heap.size A n c ps :=
  ⟨IsBlk.new _ _ _, h.on ((Below.refl _ _).alloc (Nat.le_refl _) _), hl, hc, hm⟩
def ApA (X : List Ac.St × Nat × Int) (w : World) (e : Ending) (w' : World) : Prop :=
  ∃ A c ps, ps.map (·.1) = X.1 ∧ StR w' w'.heap.size A ps ∧ X.1.length ≤ c ∧ c ≤ maxLen ∧ e = .returned (.tuple #[.agg #[.slice A X.1.length c], .int .i64 (X.2.1 : Nat), .int .i64 X.2.2]) ∧ StO w.heap.size w' (.slice A X.1.length c) ps ∧ Below w.heap.size w w'
theorem aparse_val (s : ByteArray) {X : List Ac.St × Nat × Int} (hX : Ac.act s.data.toList = X) (hs : s.size ≤ maxLen) (w : World) (T : Tx w) : Calls Tryz.prog 13 #[.string s] w (ApA X w) := by
  refine (aparse_any s w T hs).mono ?_
  rintro e w' ⟨A, c, ps, h1, h2, h3, h4⟩
  rw [hX] at h1 h2 h3
  have hl : X.1.length = ps.length := by rw [← h1, List.length_map]
  obtain ⟨q1, q2, q3⟩ := h3.reads hl
  exact ⟨A, c, ps, h1, q1, q2, q3, h2, h3, h4⟩
end Go.Proofs.YtmmdigeciphglaaGreatDoor
namespace Go.Proofs.YtmmdigeciphglaaGreatDoor
open Go.RowKit Ex
abbrev wt1_ : ByteArray := ⟨#[120, 32, 58, 61, 32, 120, 32, 43, 32, 49, 59, 32, 101, 109, 105, 116, 32, 103, 111, 40, 120, 41, 59]⟩
abbrev wt2_ : ByteArray := ⟨#[120, 32, 58, 61, 32, 49]⟩
abbrev wt3_ : ByteArray := ⟨#[101, 109, 105, 116, 32, 103, 111, 59]⟩
abbrev wt4_ : ByteArray := ⟨#[120, 32, 61, 32, 49, 59]⟩
abbrev wt5_ : ByteArray := ⟨#[120, 32, 58, 61, 32, 59]⟩
abbrev wt6_ : ByteArray := ⟨#[120, 32, 58, 61, 32, 121, 59]⟩
def we1_ : E := .bin 10 (.name [120]) (.num 1)
def we2_ : E := .name [120]
def we3_ : E := .name [121]
def wb1_ : List Ac.St := [⟨1, [120], flat we1_ 0⟩, ⟨2, [103, 111], flat we2_ 0⟩]
def wb6_ : List Ac.St := [⟨1, [120], flat we3_ 0⟩]
theorem wa1 : Ac.act wt1_.data.toList = (wb1_, 0, 0) := by kernel_rfl
theorem wa2 : Ac.act wt2_.data.toList = ([], 6, 110) := by kernel_rfl
theorem wa3 : Ac.act wt3_.data.toList = ([], 7, 110) := by kernel_rfl
theorem wa4 : Ac.act wt4_.data.toList = ([], 2, 110) := by kernel_rfl
theorem wa5 : Ac.act wt5_.data.toList = ([], 5, 80) := by kernel_rfl
theorem wa6 : Ac.act wt6_.data.toList = (wb6_, 0, 0) := by kernel_rfl
theorem flat_ne (e : E) (p : Nat) : flat e p ≠ [] := fun h => by
  have h1 := congrArg List.length h
  rw [flat_len] at h1
  have := Ex.sz_pos e
  simp at h1
  omega
theorem wp1 : Ac.btx wb1_ = [120, 32, 58, 61, 32, 120, 32, 43, 32, 49, 32, 59, 32, 101, 109, 105, 116, 32, 103, 111, 32, 40, 32, 120, 32, 41, 32, 59] := by
  have s1 : Ac.stT ⟨1, [120], flat we1_ 0⟩ = (2, [120]) :: (4, [58, 61]) :: (pr we1_ 0 ++ [(4, [59])]) := by
    unfold Ac.stT
    simp only [if_true, Ac.exo_flat]
  have s2 : Ac.stT ⟨2, [103, 111], flat we2_ 0⟩ = (3, Ac.emW) :: (2, [103, 111]) :: (4, [40]) :: (pr we2_ 0 ++ [(4, [41]), (4, [59])]) := by
    unfold Ac.stT
    exact Eq.trans (if_neg (by decide)) (Eq.trans (if_neg (flat_ne _ _)) (by rw [Ac.exo_flat]))
  have e : Ac.btx wb1_ = Ex.jn (Ac.stT ⟨1, [120], flat we1_ 0⟩ ++ (Ac.stT ⟨2, [103, 111], flat we2_ 0⟩ ++ [])) := rfl
  rw [e, s1, s2]
  show Ex.jn _ = _
  kernel_rfl
theorem wo1 : Ac.okB wb1_ := by
  have h := Ac.act_right (s := wt1_.data.toList) (by decide) (by rw [wa1])
  rw [wa1] at h
  exact h.1
theorem wo6 : Ac.okB wb6_ := by
  have h := Ac.act_right (s := wt6_.data.toList) (by decide) (by rw [wa6])
  rw [wa6] at h
  exact h.1
theorem wf1 : ∀ t ∈ wb1_, StFit t := by have h := act_fit wt1_.data.toList; rw [wa1] at h; exact h
theorem wf6 : ∀ t ∈ wb6_, StFit t := by have h := act_fit wt6_.data.toList; rw [wa6] at h; exact h
theorem wy6 : tyg [[120]] [] wb6_ 0 = (0, 90) := by kernel_rfl
set_option maxHeartbeats 4000000 in
set_option maxRecDepth 100000 in
theorem aworks_any (w : World) (T : Tyx w) :
    Calls Tryz.prog 11 #[] w fun e w' => e = .returned (.bool true) ∧ Below w.heap.size w w' := by
  have T0 := Lib.hid T
  have B0 := Lib.hid (Below.refl w.heap.size w)
  have P1 := Lib.hid (fun (w0 : World) (T0 : Tyx w0) => aparse_val wt1_ wa1 (by decide) w0 T0.tx)
  have P2 := Lib.hid (fun (w0 : World) (T0 : Tyx w0) => aparse_val wt2_ wa2 (by decide) w0 T0.tx)
  have P3 := Lib.hid (fun (w0 : World) (T0 : Tyx w0) => aparse_val wt3_ wa3 (by decide) w0 T0.tx)
  have P4 := Lib.hid (fun (w0 : World) (T0 : Tyx w0) => aparse_val wt4_ wa4 (by decide) w0 T0.tx)
  have P5 := Lib.hid (fun (w0 : World) (T0 : Tyx w0) => aparse_val wt5_ wa5 (by decide) w0 T0.tx)
  have P6 := Lib.hid (fun (w0 : World) (T0 : Tyx w0) => aparse_val wt6_ wa6 (by decide) w0 T0.tx)
  have HPR := Lib.hid (fun (w0 : World) (T0 : Tyx w0) (b : Nat) (A : Option Addr) (c : Nat) (ps : List (Ac.St × Value)) (h : Bb w0 b A 2 c ps) (hp : ps.map (·.1) = wb1_) => (show Calls Tryz.prog 19 #[.agg #[.slice A 2 c]] w0 (PnP wb1_ w0) from by
    have q := aprint_any w0 T0.tx A c ps (by rw [h.len]; exact h.cap) h.cm h.row (fits_p hp wf1)
    rw [h.len, hp] at q
    exact q))
  have HTY := Lib.hid (fun (w0 : World) (T0 : Tyx w0) (b : Nat) (A : Option Addr) (c : Nat) (ps : List (Ac.St × Value)) (h : Bb w0 b A 1 c ps) (hp : ps.map (·.1) = wb6_) (z : Nat) (hz : z = w0.heap.size) => (show Calls Tryz.prog 21 #[.agg #[.slice A 1 c], .slice (some ⟨z, 0, none⟩) 1 1, .slice none 0 0] (w0.alloc (.cells #[.string ⟨#[120]⟩] 9)) (TpP wb6_ [[120]] [] (w0.alloc (.cells #[.string ⟨#[120]⟩] 9))) from by
    have hb := (Below.refl w0.heap.size w0).alloc (Nat.le_refl _) (.cells #[.string ⟨#[120]⟩] 9)
    have h2 := h.below hb
    have q := atypes_any _ (T0.below hb) A c ps (by rw [h.len]; exact h.cap) h.cm h2.row (fits_p hp wf6).b (some ⟨w0.heap.size, 0, none⟩) 1 nx_ (nsx w0) (by decide) fn1 none 0 [] (ns0 _) (by decide) fn0
    rw [h.len, hp] at q
    rw [hz]
    exact q))
  clear T
  go_enter Tryz.func11, Tryz.ntmps11
  go_wp2_with fail
  refine (P1.out _ T0.out).mono ?_
  rintro e w1 ⟨A1, c1, ps1, hp1, hr1, hc1, hm1, rfl, _, hb⟩
  simp only [show wb1_.length = 2 from rfl] at hc1 ⊢
  have hv := hb.alloc hb.size (.cells #[.slice A1 2 c1] 29)
  have T1 := Lib.hid (T0.out.below hv)
  have B1 := Lib.hid (B0.out.trans (hv.mono B0.out.size))
  have X1 := Lib.hid (Bb.new hr1 (by rw [← List.length_map (f := (·.1)), hp1]; rfl) hc1 hm1)
  have HP1 := Lib.hid hp1
  have k1 := X1.out.at_
  clear hb hv hp1 hr1 hc1 hm1
  go_wp2_with fail
  refine (HPR.out _ T1.out _ _ _ _ X1.out HP1.out).mono ?_
  rintro e w2 ⟨hq, hb⟩
  rcases hq with ⟨_, rfl⟩ | ⟨hno, _⟩
  case inr => exact absurd wo1 hno
  rw [wp1]
  have T2 := Lib.hid (T1.out.below hb)
  have B2 := Lib.hid (B1.out.trans (hb.mono B1.out.size))
  clear hb k1 X1
  go_wp2_with fail
  refine (P2.out _ T2.out).mono ?_
  rintro e w2 ⟨A2, c2, ps2, _, _, _, _, rfl, _, hb⟩
  have hv := hb.alloc hb.size (.cells #[.slice A2 0 c2] 29)
  have T2 := Lib.hid (T2.out.below hv)
  have B2 := Lib.hid (B2.out.trans (hv.mono B2.out.size))
  clear hb hv
  simp only [List.length_nil]
  go_wp2_with fail
  refine (P3.out _ T2.out).mono ?_
  rintro e w3 ⟨A3, c3, ps3, _, _, _, _, rfl, _, hb⟩
  have hv := hb.alloc hb.size (.cells #[.slice A3 0 c3] 29)
  have T3 := Lib.hid (T2.out.below hv)
  have B3 := Lib.hid (B2.out.trans (hv.mono B2.out.size))
  clear hb hv
  simp only [List.length_nil]
  go_wp2_with fail
  refine (P4.out _ T3.out).mono ?_
  rintro e w4 ⟨A4, c4, ps4, _, _, _, _, rfl, _, hb⟩
  have hv := hb.alloc hb.size (.cells #[.slice A4 0 c4] 29)
  have T4 := Lib.hid (T3.out.below hv)
  have B4 := Lib.hid (B3.out.trans (hv.mono B3.out.size))
  clear hb hv
  simp only [List.length_nil]
  go_wp2_with fail
  refine (P5.out _ T4.out).mono ?_
  rintro e w5 ⟨A5, c5, ps5, _, _, _, _, rfl, _, hb⟩
  have hv := hb.alloc hb.size (.cells #[.slice A5 0 c5] 29)
  have T5 := Lib.hid (T4.out.below hv)
  have B5 := Lib.hid (B4.out.trans (hv.mono B4.out.size))
  clear hb hv
  simp only [List.length_nil]
  go_wp2_with fail
  refine (P6.out _ T5.out).mono ?_
  rintro e w6 ⟨A6, c6, ps6, hp6, hr6, hc6, hm6, rfl, _, hb⟩
  simp only [show wb6_.length = 1 from rfl] at hc6 ⊢
  have hv := hb.alloc hb.size (.cells #[.slice A6 1 c6] 29)
  have T6 := Lib.hid (T5.out.below hv)
  have B6 := Lib.hid (B5.out.trans (hv.mono B5.out.size))
  have X6 := Lib.hid (Bb.new hr6 (by rw [← List.length_map (f := (·.1)), hp6]; rfl) hc6 hm6)
  have HP6 := Lib.hid hp6
  have k6 := X6.out.at_
  clear hb hv hp6 hr6 hc6 hm6
  go_wp2_with fail
  refine (HTY.out _ T6.out _ _ _ _ X6.out HP6.out _ (by simp)).mono ?_
  rintro e w7 ⟨hq, hb⟩
  rw [wy6] at hq
  rcases hq with ⟨_, rfl⟩ | ⟨hno, _⟩
  case inr => exact absurd wo6 hno
  have hv := ((Below.refl _ _).alloc (Nat.le_refl _) (.cells #[.string ⟨#[120]⟩] 9)).trans (hb.mono (by simp))
  have B7 := Lib.hid (B6.out.trans (hv.mono B6.out.size))
  clear hb hv k6 X6
  go_wp2
  go_ret
  exact ⟨rfl, B7.out⟩
end Go.Proofs.YtmmdigeciphglaaGreatDoor
namespace Go.Proofs.YtmmdigeciphglaaGreatDoor
open Go.RowKit Ex
def nmf (ns : List Ty.Nm) : Prop := ns.length ≤ 20 ∧ ∀ q ∈ ns, q.length ≤ 100
def BoP (p : Prop) (w : World) (e : Ending) (w' : World) : Prop := (∃ b, e = .returned (.bool b) ∧ (b = true ↔ p)) ∧ Below w.heap.size w w'
set_option maxHeartbeats 4000000 in
set_option maxRecDepth 100000 in
theorem lanames_any (w : World) (A : Option Addr) (c : Nat) (ns : List Ty.Nm) (hn : NsR w w.heap.size A ns) (hc : ns.length ≤ c) (hcm : c ≤ maxLen) :
    Calls Tryz.prog 18 #[.slice A ns.length c] w (BoP (nmf ns) w) := by
  have HNS := Lib.hid hn
  have hcI : (ns.length : Int) ≤ (c : Int) := by omega
  have hnI : (ns.length : Int) ≤ 9223372036854775807 := by unfold maxLen at hcm; omega
  obtain ⟨n, hnl⟩ : ∃ n, n = ns.length := ⟨_, rfl⟩
  have HN := Lib.hid hnl
  rw [← hnl] at hcI hnI ⊢
  clear hn hc hnl hcm
  go_enter Tryz.func18, Tryz.ntmps18
  go_wp2
  go_loopw [3] (fun iv wr => ∃ j : Nat, iv = .int .i64 j ∧ j ≤ n ∧ Hid (Below w.heap.size w wr ∧ ∀ q ∈ ns.take j, q.length ≤ 100)) (fun iv _ => n - (intOf iv).toNat)
  case atStart => exact ⟨0, rfl, Nat.zero_le _, Lib.hid ⟨Below.refl _ _, fun q hq => by cases hq⟩⟩
  case round =>
    obtain ⟨j, rfl, hj, HI⟩ := hrel
    by_cases hlt : j < n
    · have hlt' : (j : Int) < (n : Int) := by omega
      have hjl : j < ns.length := by have := HN.out; omega
      obtain ⟨g, o, hA, hg, c0⟩ := (HNS.out.below HI.out.1) j hjl
      subst hA
      have HTK := Lib.hid (show ns[j].length ≤ 100 → ∀ q ∈ ns.take (j + 1), q.length ≤ 100 from fun h q hq => by
        rw [List.take_succ_eq_append_getElem hjl] at hq
        rcases List.mem_append.1 hq with hq | hq
        · exact HI.out.2 q hq
        · rw [List.mem_singleton.1 hq]; exact h)
      have HNO := Lib.hid (show ¬ ns[j].length ≤ 100 → ¬ nmf ns from fun h q => h (q.2 _ (List.getElem_mem hjl)))
      generalize ns[j] = x at *
      obtain ⟨N, hN⟩ : ∃ N : ByteArray, N = ⟨x.toArray⟩ := ⟨_, rfl⟩
      rw [← hN] at c0
      have hsz : N.size = x.length := by rw [hN]; show x.toArray.size = _; simp
      by_cases he : x.length ≤ 100
      · have e1 : ¬ (N.size : Int) > 100 := by omega
        have HF := Lib.hid (HTK.out he)
        clear he hN hlt hsz
        go_wp2
        go_roundw
        case rel => exact ⟨j + 1, by go_num, by omega, Lib.hid ⟨HI.out.1, HF.out⟩⟩
        case measure => simp [intOf]; omega
      · have e1 : (N.size : Int) > 100 := by omega
        have HF := Lib.hid (HNO.out he)
        clear he hN hlt hsz
        go_wp2
        go_ret
        exact ⟨⟨false, rfl, ⟨fun h => (by cases h), fun h => absurd h HF.out⟩⟩, HI.out.1⟩
    · obtain rfl : j = n := by omega
      have hlt' : ¬ ((j : Nat) : Int) < (j : Int) := by omega
      have HF := Lib.hid (show ∀ q ∈ ns, q.length ≤ 100 from by
        have q := HI.out.2
        rwa [List.take_of_length_le (by rw [← HN.out]; exact Nat.le_refl _)] at q)
      have HNB := Lib.hid (show decide ((j : Int) ≤ 20) = true ↔ nmf ns from ⟨fun h => ⟨by have := of_decide_eq_true h; have := HN.out; omega, HF.out⟩, fun h => decide_eq_true (by have := h.1; have := HN.out; omega)⟩)
      go_wp2
      go_ret
      exact ⟨⟨_, rfl, HNB.out⟩, HI.out.1⟩
end Go.Proofs.YtmmdigeciphglaaGreatDoor
namespace Go.Proofs.YtmmdigeciphglaaGreatDoor
open Go.RowKit Ex
def fewS (s : Ac.St) : Prop := s.nm.length ≤ 100 ∧ s.x.length ≤ 40 ∧ ∀ n ∈ s.x, n.nm.length ≤ 100
def fewA (ss : List Ac.St) : Prop := ss.length ≤ 20 ∧ ∀ s ∈ ss, fewS s
theorem fewA_fit {ps : List (Ac.St × Value)} (h : fewA (ps.map (·.1))) (hi : FitIn ps) : FitP ps := fun p hp => by
  have h1 := h.2 _ (List.mem_map_of_mem hp)
  have h2 := (hi p hp).1
  exact ⟨⟨⟨by have := h1.2.1; omega, fun n hn => ⟨Nat.le_trans (h1.2.2 n hn) (by decide), (h2 n hn).1⟩⟩, fun n hn => (h2 n hn).2⟩, Nat.le_trans h1.1 (by decide)⟩
set_option maxHeartbeats 8000000 in
set_option maxRecDepth 100000 in
theorem afew_any (w : World) (A : Option Addr) (c : Nat) (ps : List (Ac.St × Value)) (h : StR w w.heap.size A ps) (hc : ps.length ≤ c) (hcm : c ≤ maxLen) (hi : FitIn ps) :
    Calls Tryz.prog 17 #[.agg #[.slice A ps.length c]] w (BoP (fewA (ps.map (·.1))) w) := by
  have H := Lib.hid h
  have HIN := Lib.hid hi
  obtain ⟨P, hP⟩ : ∃ P, P = fewA (ps.map (·.1)) := ⟨_, rfl⟩
  rw [← hP]
  have HP := Lib.hid (show P ↔ ps.length ≤ 20 ∧ ∀ p ∈ ps, fewS p.1 from by
    rw [hP]
    unfold fewA
    rw [List.length_map]
    exact ⟨fun q => ⟨q.1, fun p hp => q.2 _ (List.mem_map_of_mem hp)⟩, fun q => ⟨q.1, fun s hs => by obtain ⟨p, hp, rfl⟩ := List.mem_map.1 hs; exact q.2 p hp⟩⟩)
  obtain ⟨n, hnl⟩ : ∃ n, n = ps.length := ⟨_, rfl⟩
  have HN := Lib.hid hnl
  obtain ⟨W1, hW1⟩ : ∃ W1, W1 = w.alloc (.cells #[.slice A n c] 29) := ⟨_, rfl⟩
  have hb1 : Below w.heap.size w W1 := by rw [hW1]; exact (Below.refl _ _).alloc (Nat.le_refl _) _
  have k1 : IsBlk W1 w.heap.size 29 #[.slice A n c] := by rw [hW1]; exact IsBlk.new _ _ _
  have HB1 := Lib.hid hb1
  have K1 := Lib.hid k1
  have x0 : W1.cell? ⟨w.heap.size, 0, none⟩ = some (.slice A n c) := k1.at_ 0
  rw [← hnl] at hc HP ⊢
  have hc' : (n : Int) ≤ (c : Int) := by omega
  have hcm' : (c : Int) ≤ 9223372036854775807 := by unfold maxLen at hcm; omega
  have HW1 := Lib.hid hW1
  rw [hW1] at x0
  clear h hi hP hnl hW1 hb1 k1 hcm
  by_cases h20 : n ≤ 20
  · have h20' : ¬ (n : Int) > 20 := by omega
    have H20 := Lib.hid h20
    go_enter Tryz.func17, Tryz.ntmps17
    go_wp2
    rw [← HW1.out]
    clear x0
    go_loopw [3] (fun iv wr => ∃ k : Nat, iv = .int .i64 k ∧ k ≤ n ∧ Hid (Below W1.heap.size W1 wr ∧ ∀ p ∈ ps.take k, fewS p.1)) (fun iv _ => n - (intOf iv).toNat)
    case atStart => exact ⟨0, rfl, Nat.zero_le _, Lib.hid ⟨Below.refl _ _, fun p hp => by cases hp⟩⟩
    case round =>
      obtain ⟨k, rfl, hk, HI⟩ := hrel
      obtain ⟨wo, hwo⟩ : ∃ wo, wo = wr := ⟨_, rfl⟩
      subst hwo
      have t0 : wo.cell? ⟨w.heap.size, 0, none⟩ = some (.slice A n c) := (K1.out.below HI.out.1 K1.out.lt).at_ 0
      have HBW := Lib.hid (HB1.out.trans (HI.out.1.mono HB1.out.size))
      by_cases hlt : k < n
      · have hlt' : (k : Int) < (n : Int) := by omega
        have hkl : k < ps.length := by have := HN.out; omega
        obtain ⟨g, o, hA, hg, c0, c1, c2⟩ := (H.out.below HBW.out).cells k hkl
        subst hA
        obtain ⟨Ax, cx, hsx, hcx, hnd⟩ := H.out.nds _ (List.getElem_mem hkl)
        have hin := HIN.out _ (List.getElem_mem hkl)
        rw [hsx] at c2
        have HTK := Lib.hid (show fewS ps[k].1 → ∀ p ∈ ps.take (k + 1), fewS p.1 from fun h p hp => by
          rw [List.take_succ_eq_append_getElem hkl] at hp
          rcases List.mem_append.1 hp with hp | hp
          · exact HI.out.2 p hp
          · rw [List.mem_singleton.1 hp]; exact h)
        have HNO := Lib.hid (show ¬ fewS ps[k].1 → ¬ P from fun h q => h ((HP.out.1 q).2 _ (List.getElem_mem hkl)))
        have HLT := Lib.hid hlt
        clear hsx hlt
        generalize ps[k] = a at *
        obtain ⟨⟨kk, nm, xs⟩, av⟩ := a
        simp only at c0 c1 c2 hcx hnd hin HTK HNO
        obtain ⟨N, hN⟩ : ∃ N : ByteArray, N = ⟨nm.toArray⟩ := ⟨_, rfl⟩
        rw [← hN] at c1
        have hsz : N.size = nm.length := by rw [hN]; show nm.toArray.size = _; simp
        obtain ⟨W2, hW2⟩ : ∃ W2, W2 = wo.alloc (.cells #[.int .u8 kk, .string N, .slice Ax xs.length cx] 80) := ⟨_, rfl⟩
        have hb2 : Below wo.heap.size wo W2 := by rw [hW2]; exact (Below.refl _ _).alloc (Nat.le_refl _) _
        obtain ⟨rx, hrx⟩ : ∃ r, r = wo.heap.size := ⟨_, rfl⟩
        have k2 : IsBlk W2 rx 80 #[.int .u8 kk, .string N, .slice Ax xs.length cx] := by rw [hW2, hrx]; exact IsBlk.new _ _ _
        have HB2 := Lib.hid (HI.out.1.trans (hb2.mono HI.out.1.size))
        have HBV := Lib.hid (HBW.out.trans (hb2.mono HBW.out.size))
        have K2 := Lib.hid k2
        have HND := Lib.hid hnd
        obtain ⟨xn, hxn⟩ : ∃ x, x = xs.length := ⟨_, rfl⟩
        have HXN := Lib.hid hxn
        have hin1 : xs.length ≤ maxLen := hin.2.1
        rw [← hxn] at c2 hcx hin1
        have hcxI : (xn : Int) ≤ (cx : Int) := by omega
        have hinI : (xn : Int) ≤ 9223372036854775807 := by unfold maxLen at hin1; omega
        have z1 : W2.cell? ⟨rx, 1, none⟩ = some (.string N) := K2.out.at_ 1
        have z2 : W2.cell? ⟨rx, 2, none⟩ = some (.slice Ax xn cx) := by rw [hxn]; exact K2.out.at_ 2
        have HW2 := Lib.hid (And.intro hW2 hrx)
        rw [← hxn] at HW2
        rw [HW2.out.1, hrx] at z1 z2
        by_cases hnn : nm.length ≤ 100
        · have e1 : ¬ (N.size : Int) > 100 := by omega
          have e1d : decide ((N.size : Int) > 100) = false := decide_eq_false e1
          by_cases hxx : xn ≤ 40
          · have e2 : ¬ (xn : Int) > 40 := by omega
            have e2d : decide ((xn : Int) > 40) = false := decide_eq_false e2
            have HSM := Lib.hid (And.intro hnn hxx)
            clear hN hsz hnn hxx hW2 hrx hb2 k2 hcx hin hnd hkl hxn hin1
            go_wp2
            rw [← HW2.out.1, ← HW2.out.2]
            clear z1 z2 c0 c1 c2 t0
            go_loopw [5] (fun jv wr => ∃ j : Nat, jv = .int .i64 j ∧ j ≤ xn ∧ Hid (Below W2.heap.size W2 wr ∧ ∀ q ∈ xs.take j, q.nm.length ≤ 100)) (fun jv _ => xn - (intOf jv).toNat)
            case atStart => exact ⟨0, rfl, Nat.zero_le _, Lib.hid ⟨Below.refl _ _, fun q hq => by cases hq⟩⟩
            case round =>
              obtain ⟨j, rfl, hj, HJ⟩ := hrel
              have z2 : wr.cell? ⟨rx, 2, none⟩ = some (.slice Ax xn cx) := by rw [HXN.out]; exact (K2.out.below HJ.out.1 K2.out.lt).at_ 2
              have HB3 := Lib.hid (HBV.out.trans (HJ.out.1.mono HBV.out.size))
              by_cases hjl : j < xn
              · have hjl' : (j : Int) < (xn : Int) := by omega
                have hjx : j < xs.length := by have := HXN.out; omega
                obtain ⟨ga, oa, hAx, hga, p0, p1, p2, p3, p4, p5⟩ := (HND.out.below HB3.out) j hjx
                subst hAx
                have HTJ := Lib.hid (show xs[j].nm.length ≤ 100 → ∀ q ∈ xs.take (j + 1), q.nm.length ≤ 100 from fun h q hq => by
                  rw [List.take_succ_eq_append_getElem hjx] at hq
                  rcases List.mem_append.1 hq with hq | hq
                  · exact HJ.out.2 q hq
                  · rw [List.mem_singleton.1 hq]; exact h)
                have HNJ := Lib.hid (show ¬ xs[j].nm.length ≤ 100 → ¬ P from fun h => HNO.out (fun q => h (q.2.2 _ (List.getElem_mem hjx))))
                have HJL := Lib.hid hjl
                clear p0 p1 p3 p4 p5
                generalize xs[j].nm = q at *
                clear hjx hjl
                obtain ⟨M, hM⟩ : ∃ N : ByteArray, N = ⟨q.toArray⟩ := ⟨_, rfl⟩
                rw [← hM] at p2
                have hms : M.size = q.length := by rw [hM]; show q.toArray.size = _; simp
                by_cases hq : q.length ≤ 100
                · have e3 : ¬ (M.size : Int) > 100 := by omega
                  have HF := Lib.hid (HTJ.out hq)
                  clear hM hms hq
                  go_wp2
                  go_roundw
                  case rel => exact ⟨j + 1, by go_num, HJL.out, Lib.hid ⟨HJ.out.1, HF.out⟩⟩
                  case measure => have := HJL.out; simp [intOf]; omega
                · have e3 : (M.size : Int) > 100 := by omega
                  have HF := Lib.hid (HNJ.out hq)
                  clear hM hms hq
                  go_wp2
                  go_ret
                  exact ⟨⟨false, rfl, ⟨fun h => (by cases h), fun h => absurd h HF.out⟩⟩, HB3.out⟩
              · obtain rfl : j = xn := by omega
                have hjl' : ¬ (j : Int) < (j : Int) := by omega
                have HF := Lib.hid (HTK.out ⟨HSM.out.1, by have := HSM.out.2; have := HXN.out; simp only; omega, by
                  have q := HJ.out.2
                  rwa [List.take_of_length_le (by have := HXN.out; omega)] at q⟩)
                have HBO := Lib.hid (HB2.out.trans (HJ.out.1.mono HB2.out.size))
                clear hjl
                go_wp2
                go_roundw
                case rel => exact ⟨k + 1, by go_num, HLT.out, Lib.hid ⟨HBO.out, HF.out⟩⟩
                case measure => have := HLT.out; simp [intOf]; omega
          · have e2 : (xn : Int) > 40 := by omega
            have e2d : decide ((xn : Int) > 40) = true := decide_eq_true e2
            have HF := Lib.hid (HNO.out (fun q => hxx (by have h1 : xs.length ≤ 40 := q.2.1; omega)))
            clear hN hsz hnn hxx hW2 hrx hb2 k2 hcx hin hnd hkl hxn hin1
            go_wp2
            rw [← HW2.out.1]
            go_ret
            exact ⟨⟨false, rfl, ⟨fun h => (by cases h), fun h => absurd h HF.out⟩⟩, HBV.out⟩
        · have e1 : (N.size : Int) > 100 := by omega
          have e1d : decide ((N.size : Int) > 100) = true := decide_eq_true e1
          have HF := Lib.hid (HNO.out (fun q => hnn q.1))
          clear hN hsz hnn hW2 hrx hb2 k2 hcx hin hnd hkl hxn hin1
          go_wp2
          rw [← HW2.out.1]
          go_ret
          exact ⟨⟨false, rfl, ⟨fun h => (by cases h), fun h => absurd h HF.out⟩⟩, HBV.out⟩
      · obtain rfl : k = n := by omega
        have hlt' : ¬ (k : Int) < (k : Int) := by omega
        have HF := Lib.hid (show P from HP.out.2 ⟨by have := H20.out; have := HN.out; omega, by
          have q := HI.out.2
          rwa [List.take_of_length_le (by rw [← HN.out]; exact Nat.le_refl _)] at q⟩)
        clear hlt
        go_wp2
        go_ret
        exact ⟨⟨true, rfl, ⟨fun _ => HF.out, fun _ => rfl⟩⟩, HBW.out⟩
  · have h20' : (n : Int) > 20 := by omega
    have HF := Lib.hid (show ¬ P from fun q => h20 (by have := (HP.out.1 q).1; have := HN.out; omega))
    clear h20
    go_enter Tryz.func17, Tryz.ntmps17
    go_wp2
    rw [← HW1.out]
    go_ret
    exact ⟨⟨false, rfl, ⟨fun h => (by cases h), fun h => absurd h HF.out⟩⟩, HB1.out⟩
end Go.Proofs.YtmmdigeciphglaaGreatDoor
