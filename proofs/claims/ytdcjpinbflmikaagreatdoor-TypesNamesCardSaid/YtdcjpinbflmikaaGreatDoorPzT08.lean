/- Facts and walks for the statement. -/
import Derived.Test.YtdcjpinbflmikaaGreatDoorPzT00
import Derived.Test.YtdcjpinbflmikaaGreatDoorPzT07
import Derived.OwnWalk
import Derived.Deep.RegionHeld3
import Derived.Deep.AppendLies
namespace Go.Proofs.YtdcjpinbflmikaaGreatDoor
open Go.RowKit
theorem lx_mk (s : ByteArray) (a k : Nat) : (⟨((s.data.toList.drop a).take k).toArray⟩ : ByteArray) = s.extract a (a + k) := by
  apply ByteArray.ext
  apply Array.toList_inj.1
  rw [lx_ext]
def tkV (t : Lx.T) : List Value := [.int .u8 t.k, .string ⟨t.tx.toArray⟩, .int .i64 (t.p : Int)]
theorem infoLT : (Tryz.prog.info? 40).map (fun i => (i.zero, i.size, i.bytes)) = some (some (.agg #[.int .u8 0, .string ⟨#[]⟩, .int .i64 0]), 3, 32) := by kernel_rfl
def jn (ts : List Lx.T) (X : List Lx.T × Nat × Int) : List Lx.T × Nat × Int := if X.2.2 = 0 then (ts ++ X.1, 0, 0) else ([], X.2.1, X.2.2)
theorem cut_none {f p : Nat} {ts : List Lx.T} (hf : 0 < f) : jn ts (Lx.cut f [] p) = (ts, 0, 0) := by
  cases f with
  | zero => omega
  | succ f => unfold Lx.cut; rw [if_pos rfl]; simp [jn]
theorem cut_bad {f p : Nat} {l : List UInt8} {ts : List Lx.T} (hf : 0 < f) (hl : l ≠ []) (h : Lx.lng l = 0 ∨ 64 < Lx.lng l) : jn ts (Lx.cut f l p) = ([], p, 70) := by
  cases f with
  | zero => omega
  | succ f => unfold Lx.cut; rw [if_neg hl, if_pos h]; rfl
theorem cut_good {f p : Nat} {l : List UInt8} {ts : List Lx.T} (hl : l ≠ []) (h : ¬ (Lx.lng l = 0 ∨ 64 < Lx.lng l)) :
    jn ts (Lx.cut (f + 1) l p) = jn (ts ++ [⟨Lx.whole (l.take (Lx.lng l)), l.take (Lx.lng l), p⟩]) (Lx.cut f (l.drop (Lx.lng l + Lx.blk false (l.drop (Lx.lng l)))) (p + Lx.lng l + Lx.blk false (l.drop (Lx.lng l)))) := by
  rw [Lx.cut, if_neg hl, if_neg h]
  simp only
  generalize Lx.cut f _ _ = X
  unfold jn
  by_cases hx : X.2.2 = 0
  · rw [if_pos hx, if_pos hx, if_pos rfl, List.append_assoc]; rfl
  · rw [if_neg hx, if_neg hx, if_neg hx]
theorem cut_form (f : Nat) (l : List UInt8) (p : Nat) : Lx.cut f l p = jn [] (Lx.cut f l p) := by
  cases f with
  | zero => rfl
  | succ f =>
    unfold Lx.cut
    simp only
    generalize Lx.cut f _ _ = X
    split
    · rfl
    · split
      · rfl
      · unfold jn
        by_cases hx : X.2.2 = 0
        · rw [if_pos hx]; rfl
        · rw [if_neg hx]; simp [hx]
structure LtI (s : ByteArray) (w : World) (R : List Lx.T × Nat × Int) (v : Value) (wr : World) (p : Nat) (ts : List Lx.T) : Prop where
  hp : p ≤ s.size
  hl : ts.length ≤ p
  below : Below w.heap.size w wr
  own : wr.ownsRow w.heap.size 40 3 v ts.length (ts.flatMap tkV)
  eq : ∃ f, s.size - p < f ∧ R = jn ts (Lx.cut f (s.data.toList.drop p) p)
def LtP (R : List Lx.T × Nat × Int) (w : World) (e : Ending) (w' : World) : Prop :=
  ∃ v, w'.ownsRow w.heap.size 40 3 v R.1.length (R.1.flatMap tkV) ∧ e = .returned (.tuple #[v, .int .i64 R.2.1, .int .i64 R.2.2]) ∧ Below w.heap.size w w'
set_option maxHeartbeats 8000000 in
set_option maxRecDepth 100000 in
theorem rtoks_any (s : ByteArray) (w : World) :
    Calls Tryz.prog 62 #[.string s] w (LtP (Lx.toks s.data.toList) w) := by
  have HL := Lib.hid (Lib.size_eq s)
  obtain ⟨R, hR⟩ : ∃ R, R = Lx.toks s.data.toList := ⟨_, rfl⟩
  rw [← hR]
  by_cases hbig : 65536 < s.size
  · have hbig' : (s.size : Int) > 65536 := by omega
    have HE := Lib.hid (show R = ([], 0, 3) by rw [hR]; unfold Lx.toks; rw [if_pos (by rw [← HL.out]; exact hbig)])
    have HB1 := Lib.hid (Below.refl w.heap.size w)
    clear hR hbig
    go_enter Tryz.func62, Tryz.ntmps62
    go_wp2
    go_ret3
    exact ⟨.slice none 0 0, by rw [HE.out]; exact World.ownsRow_nil _ _ _ _, by rw [HE.out]; rfl, HB1.out⟩
  · have hbig' : ¬ (s.size : Int) > 65536 := by omega
    have hsm : s.size ≤ 65536 := by omega
    have hs : s.size ≤ 1000000000 := by omega
    have HB0 := Lib.hid (show Calls Tryz.prog 105 #[.string s, .int .i64 0] w fun e w' => e = .returned (.int .i64 ((Lx.blk false s.data.toList : Nat) : Int)) ∧ w = w' by
      have h3 := blank_any s 0 w hs (Nat.zero_le _)
      rw [List.drop_zero, Nat.zero_add] at h3
      exact h3)
    obtain ⟨b0, hb0⟩ : ∃ b, b = Lx.blk false s.data.toList := ⟨_, rfl⟩
    have hb0l := Lx.blk_le false s.data.toList
    have H0 := Lib.hid (show LtI s w R (.slice none 0 0) w b0 [] from ⟨by rw [hb0, HL.out]; exact hb0l, Nat.zero_le _, Below.refl _ _, World.ownsRow_nil _ _ _ _, s.size + 1, by omega, by
      rw [hR, hb0]
      unfold Lx.toks
      rw [if_neg (by rw [← HL.out]; exact hbig), HL.out]
      exact cut_form _ _ _⟩)
    rw [← hb0] at HB0
    have HBL := Lib.hid (fun (k : Nat) (hk : k ≤ s.size) w0 => blank_any s k w0 hs hk)
    have HLG := Lib.hid (fun (k : Nat) (hk : k ≤ s.size) w0 => longest_any s k w0 hs hk)
    have HWH := Lib.hid (fun (a k : Nat) w0 => whole_any (s.extract a (a + k)) w0 (by rw [ByteArray.size_extract]; omega))
    clear hR hb0 hb0l hbig
    go_enter Tryz.func62, Tryz.ntmps62
    go_wp2_with fail
    refine HB0.out.mono ?_
    rintro e w1 ⟨rfl, rfl⟩
    go_wp2
    go_loopw [5, 6] (fun v0 i wr => ∃ (v : Value) (p : Nat) (ts : List Lx.T), v = v0 ∧ i = .int .i64 p ∧ Hid (LtI s w R v wr p ts)) (fun _ i _ => s.size - (intOf i).toNat)
    case atStart => exact ⟨_, b0, [], rfl, rfl, H0⟩
    case round =>
      obtain ⟨v, p, ts, hv0, rfl, HI⟩ := hrel
      subst hv0
      have hp := HI.out.hp
      by_cases hlt : p < s.size
      · have hlt' : (p : Int) < (s.size : Int) := by omega
        have HG := Lib.hid (HLG.out p hp)
        have HWN := Lib.hid (fun k => HWH.out p k)
        obtain ⟨L, hL⟩ : ∃ L, L = s.data.toList.drop p := ⟨_, rfl⟩
        have hLl : L.length = s.size - p := by rw [hL, List.length_drop, ← HL.out]
        have hne : L ≠ [] := by intro e; rw [e] at hLl; simp at hLl; omega
        obtain ⟨n, hn⟩ : ∃ n, n = Lx.lng L := ⟨_, rfl⟩
        have hnl := Lx.lng_le L
        rw [← hL, ← hn] at HG
        rw [← hn] at hnl
        have HF := HI.out.eq
        rw [← hL] at HF
        have HEQ := Lib.hid HF
        have hsz : w.heap.size ≤ w.heap.size := Nat.le_refl _
        clear HF
        by_cases h0 : n = 0
        · have HE := Lib.hid (show R = ([], p, 70) by
            obtain ⟨f, hf, he⟩ := HEQ.out
            rw [he, cut_bad (by omega) hne (by rw [← hn]; exact Or.inl h0)])
          subst h0
          clear hn hnl hL hLl hne
          go_wp2_with fail
          refine (HG.out _).mono ?_
          rintro e w1 ⟨rfl, h1⟩
          have HB1 := Lib.hid (HI.out.below.trans (h1.mono HI.out.below.size))
          clear h1
          go_wp2
          go_ret3
          exact ⟨.slice none 0 0, by rw [HE.out]; exact World.ownsRow_nil _ _ _ _, by rw [HE.out]; rfl, HB1.out⟩
        · have hn0 : ((n : Int) == 0) = false := beq_eq_false_iff_ne.2 (by omega)
          by_cases h64 : 64 < n
          · have h64' : (n : Int) > 64 := by omega
            have HE := Lib.hid (show R = ([], p, 70) by
              obtain ⟨f, hf, he⟩ := HEQ.out
              rw [he, cut_bad (by omega) hne (by rw [← hn]; exact Or.inr h64)])
            clear hn hnl hL hLl hne h0
            go_wp2_with fail
            refine (HG.out _).mono ?_
            rintro e w1 ⟨rfl, h1⟩
            have HB1 := Lib.hid (HI.out.below.trans (h1.mono HI.out.below.size))
            clear h1
            go_wp2
            go_ret3
            exact ⟨.slice none 0 0, by rw [HE.out]; exact World.ownsRow_nil _ _ _ _, by rw [HE.out]; rfl, HB1.out⟩
          · have h64' : ¬ (n : Int) > 64 := by omega
            obtain ⟨b, hb⟩ : ∃ b, b = Lx.blk false (L.drop n) := ⟨_, rfl⟩
            have hdd : L.drop n = s.data.toList.drop (p + n) := by rw [hL, List.drop_drop]
            have hpn : p + n ≤ s.size := by omega
            have hbl := Lx.blk_le false (L.drop n)
            rw [← hb, List.length_drop] at hbl
            have HBK := Lib.hid (fun w0 => show Calls Tryz.prog 105 #[.string s, .int .i64 ((p : Int) + (n : Int))] w0 fun e w' => e = .returned (.int .i64 ((p + n + b : Nat) : Int)) ∧ w0 = w' by
              have h3 := HBL.out (p + n) hpn w0
              rw [← hdd, ← hb] at h3
              rw [← Int.natCast_add]
              exact h3)
            have HWK := Lib.hid (HWN.out n)
            rw [lx_ext, ← hL] at HWK
            have HX := Lib.hid (show (⟨(L.take n).toArray⟩ : ByteArray) = s.extract p (p + n) by rw [hL]; exact lx_mk s p n)
            have HNX := Lib.hid (show ∃ f, s.size - (p + n + b) < f ∧ R = jn (ts ++ [⟨Lx.whole (L.take n), L.take n, p⟩]) (Lx.cut f (s.data.toList.drop (p + n + b)) (p + n + b)) by
              obtain ⟨f, hf, he⟩ := HEQ.out
              obtain ⟨f, rfl⟩ : ∃ f', f = f' + 1 := ⟨f - 1, by omega⟩
              refine ⟨f, by omega, ?_⟩
              rw [he, cut_good hne (by rw [← hn]; omega), ← hn, ← hb, show L.drop (n + b) = s.data.toList.drop (p + n + b) by rw [hL, List.drop_drop, Nat.add_assoc]])
            have hpb : p + n + b ≤ s.size := by omega
            generalize Lx.whole (L.take n) = K at *
            generalize L.take n = X at *
            have HN0 := Lib.hid (show 0 < n by omega)
            have hll := HI.out.hl
            have hmax : ts.length + 1 ≤ maxLen := by unfold maxLen; omega
            obtain ⟨i0, hi, hz0, hz1, hz2⟩ := info_parts infoLT
            have b1 : IntKind.i64.wrap ((p : Int) + (n : Int)) = (p : Int) + (n : Int) := IntWalk.i64_in _ (by omega)
            have a0 : (p : Int) + (n : Int) ≤ (s.size : Int) := by omega
            have a1 : (0 : Int) ≤ (p : Int) + (n : Int) := by omega
            have a2 : (p : Int) ≤ (p : Int) + (n : Int) := by omega
            have a3 : ((p : Int) + (n : Int)).toNat = p + n := by omega
            clear hb hdd hbl hn hnl hL hLl hne h0 h64 HEQ
            go_wp2_with fail
            refine (HG.out _).mono ?_
            rintro e w1 ⟨rfl, h1⟩
            have HB1 := Lib.hid (HI.out.below.trans (h1.mono HI.out.below.size))
            have HO1 := Lib.hid (own_below HI.out.own h1)
            clear h1
            go_wp2_with fail
            have hbw := Lib.hid (show ∀ k, v.ownBlock = some k → w.heap.size ≤ k from fun k hk => (HI.out.own.lt k hk).1)
            go_region_held3 (fun _ => True) (exact True.intro) (first | (go_at_call 107; refine (HWK.out _).mono ?_; rintro e w2 ⟨rfl, h2⟩; have h3 := (Below.refl w1.heap.size w1).drew.trans h2; have HB2 := Lib.hid (HB1.out.trans (h3.mono HB1.out.size)); have HO2 := Lib.hid (own_below HO1.out h3); have hsz2 := HB2.out.size; clear h2 h3) | (refine step_append_lies _ (by rfl) _ _ _ (by rfl) w.heap.size 40 i0 _ 3 32 Tryz.underlying37 hi hz0 hz1 hz2 rfl (by omega) v ts.length (ts.flatMap tkV) (by rfl) (by exact World.ownsRow.alloc HO2.out _) _ 1 _ [.int .u8 K, .string (s.extract p (p + n)), .int .i64 (p : Int)] (by rfl) rfl (by intro j u hu; exact news_at _ _ _ _ (by simp) j u hu) (by intro u hu; simp at hu; rcases hu with rfl | rfl | rfl <;> rfl) (by omega) hmax (by omega) (by simp; omega) _ rfl ?_; intro g9 cap9 w9 hown9 hgr9 hat9 hlt9; have HR9 := Lib.hid (And.intro hown9 (show Below w.heap.size w w9 from Below.grown (HB2.out.alloc hsz2 _) hgr9 (by simp; omega) hbw.out)); clear hown9 hgr9 hat9))
            have HJ := Lib.hid (show LtI s w R (.slice (some ⟨g9, 0, none⟩) (ts.length + 1) cap9) w9 (p + n + b) (ts ++ [⟨K, X, p⟩]) from ⟨hpb, by rw [List.length_append]; have := HN0.out; simp; omega, HR9.out.2, by
              rw [List.flatMap_append, List.length_append]
              have h4 := HR9.out.1
              rw [← HX.out] at h4
              exact h4, HNX.out⟩)
            clear HR9 HO2 HB2 HO1 HB1 hll hmax hi hz0 hz1 hz2
            go_wp2_with fail
            refine (HBK.out _).mono ?_
            rintro e w5 ⟨rfl, rfl⟩
            go_wp2
            refine ⟨⟨_, p + n + b, _, rfl, by go_num, HJ⟩, ?_⟩
            have := HN0.out
            simp [intOf]
            omega
      · obtain rfl : p = s.size := by omega
        have hlt' : ¬ ((s.size : Nat) : Int) < (s.size : Int) := by omega
        have HE := Lib.hid (show R = (ts, 0, 0) by
          obtain ⟨f, hf, he⟩ := HI.out.eq
          rw [List.drop_of_length_le (by rw [← HL.out]; exact Nat.le_refl _)] at he
          rw [he, cut_none (by omega)])
        clear hlt
        go_wp2
        go_ret3
        exact ⟨v, by rw [HE.out]; exact HI.out.own, by rw [HE.out]; rfl, HI.out.below⟩
end Go.Proofs.YtdcjpinbflmikaaGreatDoor
namespace Go.Proofs.YtdcjpinbflmikaaGreatDoor
open Go.RowKit
def RdT (w : World) (B : Nat) (A : Option Addr) (l : List Lx.T) : Prop := 0 < l.length → ∃ g o, A = some ⟨g, o, none⟩ ∧ g < B ∧ ∀ j (hj : j < l.length), w.cell? ⟨g, o + j * 3, none⟩ = some (.int .u8 l[j].k) ∧ w.cell? ⟨g, o + j * 3 + 1, none⟩ = some (.string ⟨l[j].tx.toArray⟩) ∧ w.cell? ⟨g, o + j * 3 + 2, none⟩ = some (.int .i64 (l[j].p : Int))
end Go.Proofs.YtdcjpinbflmikaaGreatDoor
namespace Go.Proofs.YtdcjpinbflmikaaGreatDoor
open Go.RowKit
def LlP (R : List Lx.T × Nat × Int) (w : World) (e : Ending) (w' : World) : Prop :=
  ∃ A c, w'.ownsRow w.heap.size 39 3 (.slice A R.1.length c) R.1.length (R.1.flatMap tkV) ∧ e = .returned (.tuple #[.slice A R.1.length c, .int .i64 R.2.1, .int .i64 R.2.2]) ∧ Below w.heap.size w w'
theorem tk_at : ∀ (l : List Lx.T) (j : Nat) (h : j < l.length), (l.flatMap tkV)[j * 3]? = some (.int .u8 l[j].k) ∧ (l.flatMap tkV)[j * 3 + 1]? = some (.string ⟨l[j].tx.toArray⟩) ∧ (l.flatMap tkV)[j * 3 + 2]? = some (.int .i64 (l[j].p : Int))
  | [], _, h => absurd h (Nat.not_lt_zero _)
  | t :: r, 0, _ => ⟨rfl, rfl, rfl⟩
  | t :: r, j + 1, h => by
    have ih := tk_at r j (by simpa using h)
    rw [List.flatMap_cons]
    have e : ∀ k, (tkV t ++ r.flatMap tkV)[(j + 1) * 3 + k]? = (r.flatMap tkV)[j * 3 + k]? := fun k => by
      rw [List.getElem?_append_right (by show 3 ≤ _; omega)]
      congr 1
      show (j + 1) * 3 + k - 3 = j * 3 + k
      omega
    exact ⟨(e 0).trans ih.1, (e 1).trans ih.2.1, (e 2).trans ih.2.2⟩
theorem own_rd {w : World} {B n c : Nat} {e : TypeId} {A : Option Addr} {l : List Lx.T} (h : w.ownsRow B e 3 (.slice A n c) n (l.flatMap tkV)) (hn : n = l.length) : RdT w w.heap.size A l ∧ n ≤ c ∧ c ≤ maxLen := by
  obtain ⟨A', c', e1, h1, _, h3, h4⟩ := own_slice h
  injection e1 with e1 e2 e3
  subst e1 e3
  refine ⟨fun h0 => ?_, h3, h4⟩
  obtain ⟨g, hA, hg, _, hc⟩ := h1 (by omega)
  refine ⟨g, 0, hA, hg, fun j hj => ?_⟩
  obtain ⟨a0, a1, a2⟩ := tk_at l j hj
  simp only [Nat.zero_add]
  exact ⟨hc _ _ a0, hc _ _ a1, hc _ _ a2⟩
end Go.Proofs.YtdcjpinbflmikaaGreatDoor
namespace Go.Proofs.YtdcjpinbflmikaaGreatDoor
open Go.RowKit
set_option maxHeartbeats 1000000 in
theorem clone_any (s : ByteArray) (w : World) (hs : s.size ≤ 281474976710656) : Calls Tryz.prog 75 #[.string s] w fun e w' => e = .returned (.string s) ∧ Below w.heap.size w w' := by
  have HC := Lib.hid (Tryz.stringslite_Clone s w hs)
  go_enter Tryz.func75, Tryz.ntmps75
  go_wp2_with fail
  refine HC.out.mono ?_
  rintro e w1 ⟨rfl, b⟩
  go_wp2
  go_ret
  exact ⟨rfl, b⟩
theorem infoLK : (Tryz.prog.info? 39).map (fun i => (i.zero, i.size, i.bytes)) = some (some (.agg #[.int .u8 0, .string ⟨#[]⟩, .int .i64 0]), 3, 32) := by kernel_rfl
structure LkI (s : ByteArray) (w : World) (R : List Lx.T × Nat × Int) (v : Value) (wr : World) (p : Nat) (ts : List Lx.T) : Prop where
  hp : p ≤ s.size
  hl : ts.length ≤ p
  below : Below w.heap.size w wr
  own : wr.ownsRow w.heap.size 39 3 v ts.length (ts.flatMap tkV)
  eq : ∃ f, s.size - p < f ∧ R = jn ts (Lx.cut f (s.data.toList.drop p) p)
set_option maxHeartbeats 8000000 in
set_option maxRecDepth 100000 in
theorem ltoks_any (s : ByteArray) (w : World) (hsz : s.size ≤ maxLen) (h : Sg w) :
    Calls Tryz.prog 63 #[.string s] w (LlP (Lx.toks s.data.toList) w) := by
  have HL := Lib.hid (Lib.size_eq s)
  have HSG := Lib.hid h
  clear h
  obtain ⟨R, hR⟩ : ∃ R, R = Lx.toks s.data.toList := ⟨_, rfl⟩
  rw [← hR]
  unfold maxLen at hsz
  by_cases hbig : 65536 < s.size
  · have hbig' : (s.size : Int) > 65536 := by omega
    have HE := Lib.hid (show R = ([], 0, 3) by rw [hR]; unfold Lx.toks; rw [if_pos (by rw [← HL.out]; exact hbig)])
    have HB1 := Lib.hid (Below.refl w.heap.size w)
    clear hR hbig
    go_enter Tryz.func63, Tryz.ntmps63
    go_wp2
    go_ret3
    exact ⟨none, 0, by rw [HE.out]; exact World.ownsRow_nil _ _ _ _, by rw [HE.out]; rfl, HB1.out⟩
  · have hbig' : ¬ (s.size : Int) > 65536 := by omega
    have hsm : s.size ≤ 65536 := by omega
    have hs : s.size ≤ 1000000000 := by omega
    have HB0 := Lib.hid (blanks_any s w hs)
    obtain ⟨b0, hb0⟩ : ∃ b, b = Lx.blk false s.data.toList := ⟨_, rfl⟩
    have hb0l := Lx.blk_le false s.data.toList
    have H0 := Lib.hid (fun w1 (b1 : Below w.heap.size w w1) => show LkI s w R (.slice none 0 0) w1 b0 [] from ⟨by rw [hb0, HL.out]; exact hb0l, Nat.zero_le _, b1, World.ownsRow_nil _ _ _ _, s.size + 1, by omega, by
      rw [hR, hb0]
      unfold Lx.toks
      rw [if_neg (by rw [← HL.out]; exact hbig), HL.out]
      exact cut_form _ _ _⟩)
    rw [← hb0] at HB0
    have HBL := Lib.hid (fun (k : Nat) w0 => show Calls Tryz.prog 108 #[.string (s.extract k s.size)] w0 fun e w' => e = .returned (.int .i64 (Lx.blk false (s.data.toList.drop k))) ∧ Below w0.heap.size w0 w' from by
      have := blanks_any (s.extract k s.size) w0 (by rw [ByteArray.size_extract]; omega)
      rwa [Lib.extract_to_end] at this)
    have HFS := Lib.hid (fun (k : Nat) w0 (h0 : Sg w0) => show Calls Tryz.prog 109 #[.string (s.extract k s.size)] w0 fun e w' => e = .returned (.tuple #[.int .u8 (Lx.fst (s.data.toList.drop k)).1, .int .i64 (Lx.fst (s.data.toList.drop k)).2]) ∧ Below w0.heap.size w0 w' from by
      have := first_any (s.extract k s.size) w0 (by rw [ByteArray.size_extract]; unfold maxLen; omega) h0
      rwa [Lib.extract_to_end] at this)
    have HCL := Lib.hid (fun (a k : Nat) w0 => clone_any (s.extract a (a + k)) w0 (by rw [ByteArray.size_extract]; omega))
    clear hR hb0 hb0l hbig
    go_enter Tryz.func63, Tryz.ntmps63
    go_wp2_with fail
    refine HB0.out.mono ?_
    rintro e w1 ⟨rfl, h1⟩
    have HI0 := Lib.hid (H0.out w1 h1)
    clear h1 H0
    go_wp2
    go_loopw [2, 3] (fun v0 i wr => ∃ (v : Value) (p : Nat) (ts : List Lx.T), v = v0 ∧ i = .int .i64 p ∧ Hid (LkI s w R v wr p ts)) (fun _ i _ => s.size - (intOf i).toNat)
    case atStart => exact ⟨_, b0, [], rfl, rfl, HI0⟩
    case round =>
      clear HI0
      obtain ⟨v, p, ts, hv0, rfl, HI⟩ := hrel
      subst hv0
      have hp := HI.out.hp
      by_cases hlt : p < s.size
      · have hlt' : (p : Int) < (s.size : Int) := by omega
        have HG := Lib.hid (HFS.out p wr (HSG.out.below HI.out.below (Nat.le_refl _)))
        obtain ⟨L, hL⟩ : ∃ L, L = s.data.toList.drop p := ⟨_, rfl⟩
        have hLl : L.length = s.size - p := by rw [hL, List.length_drop, ← HL.out]
        have hne : L ≠ [] := by intro e; rw [e] at hLl; simp at hLl; omega
        have hfl := Lx.fst_le L
        have hfe := Lx.fst_lng L
        have hfn := @Lx.fst_no L
        rw [← hL] at HG
        have HF := HI.out.eq
        rw [← hL] at HF
        have HEQ := Lib.hid HF
        generalize Lx.fst L = d at *
        obtain ⟨K, n⟩ := d
        simp only at HG hfl hfe hfn
        clear HF
        by_cases h0 : K = 0
        · have HE := Lib.hid (show R = ([], p, 70) by
            obtain ⟨f, hf, he⟩ := HEQ.out
            rw [he, cut_bad (by omega) hne (hfn.1 h0)])
          subst h0
          clear hfl hfe hfn hL hLl hne
          go_wp2_with fail
          refine HG.out.mono ?_
          rintro e w2 ⟨rfl, h1⟩
          have HB1 := Lib.hid (HI.out.below.trans (h1.mono HI.out.below.size))
          clear h1
          go_wp2
          go_ret3
          exact ⟨none, 0, by rw [HE.out]; exact World.ownsRow_nil _ _ _ _, by rw [HE.out]; rfl, HB1.out⟩
        · have hK0 : (K == 0) = false := beq_eq_false_iff_ne.2 h0
          have hgd : ¬ (Lx.lng L = 0 ∨ 64 < Lx.lng L) := fun e => h0 (hfn.2 e)
          rw [if_neg hgd] at hfe
          obtain ⟨hKe, hne2⟩ := Prod.mk.inj hfe
          obtain ⟨b, hb⟩ : ∃ b, b = Lx.blk false (L.drop n) := ⟨_, rfl⟩
          have hdd : L.drop n = s.data.toList.drop (p + n) := by rw [hL, List.drop_drop]
          have hn0 : 0 < n := by omega
          have hpn : p + n ≤ s.size := by have := hfl.1; omega
          have hbl := Lx.blk_le false (L.drop n)
          rw [← hb, List.length_drop] at hbl
          have HBK := Lib.hid (fun w0 => HBL.out (p + n) w0)
          rw [← hdd, ← hb] at HBK
          have HCK := Lib.hid (HCL.out p n)
          have HX := Lib.hid (show (⟨(L.take n).toArray⟩ : ByteArray) = s.extract p (p + n) by rw [hL]; exact lx_mk s p n)
          have HNX := Lib.hid (show ∃ f, s.size - (p + n + b) < f ∧ R = jn (ts ++ [⟨K, L.take n, p⟩]) (Lx.cut f (s.data.toList.drop (p + n + b)) (p + n + b)) by
            obtain ⟨f, hf, he⟩ := HEQ.out
            obtain ⟨f, rfl⟩ : ∃ f', f = f' + 1 := ⟨f - 1, by omega⟩
            refine ⟨f, by omega, ?_⟩
            rw [he, cut_good hne hgd, ← hne2, ← hb, show L.drop (n + b) = s.data.toList.drop (p + n + b) by rw [hL, List.drop_drop, Nat.add_assoc], hKe, ← hne2])
          have hpb : p + n + b ≤ s.size := by omega
          generalize L.take n = X at *
          have HN0 := Lib.hid hn0
          have hll := HI.out.hl
          have hmax : ts.length + 1 ≤ maxLen := by unfold maxLen; omega
          obtain ⟨i0, hi, hz0, hz1, hz2⟩ := info_parts infoLK
          have a0 : (p : Int) + (n : Int) ≤ (s.size : Int) := by omega
          have a1 : (0 : Int) ≤ (p : Int) + (n : Int) := by omega
          have a2 : (p : Int) ≤ (p : Int) + (n : Int) := by omega
          have a3 : ((p : Int) + (n : Int)).toNat = p + n := by omega
          clear hb hdd hbl hfl hfe hfn hL hLl hne h0 HEQ hgd hKe hne2
          go_wp2_with fail
          refine HG.out.mono ?_
          rintro e w2 ⟨rfl, h1⟩
          have HB2 := Lib.hid (HI.out.below.trans (h1.mono HI.out.below.size))
          have HO2 := Lib.hid (own_below HI.out.own h1)
          clear h1
          go_wp2_with fail
          refine (HCK.out _).mono ?_
          rintro e w3 ⟨rfl, h1⟩
          have HB3 := Lib.hid (HB2.out.trans (h1.mono HB2.out.size))
          have HO3 := Lib.hid (own_below HO2.out h1)
          have hsz3 := HB3.out.size
          clear h1 HB2 HO2
          have hbw := Lib.hid (show ∀ k, v.ownBlock = some k → w.heap.size ≤ k from fun k hk => (HI.out.own.lt k hk).1)
          go_wp2_with (at_builtin; (refine wpList_append_own _ rfl _ _ _ rfl w.heap.size 39 i0 _ 3 32 Tryz.underlying36 hi hz0 hz1 hz2 rfl (by omega) v ts.length (ts.flatMap tkV) (by rfl) (by exact World.ownsRow.alloc HO3.out _) _ 1 _ [.int .u8 K, .string (s.extract p (p + n)), .int .i64 (p : Int)] (by rfl) rfl (by intro j u hu; exact news_at _ _ _ _ (by simp) j u hu) (by intro u hu; simp at hu; rcases hu with rfl | rfl | rfl <;> rfl) hmax (by omega) (by simp; omega) ?_); intro v9 w9 hown9 hgr9 _; obtain ⟨A9, c9, hv9, _, _, _, _⟩ := own_slice hown9; subst hv9; have HR9 := Lib.hid (And.intro hown9 (show Below w.heap.size w w9 from Below.grown (HB3.out.alloc hsz3 _) hgr9 (by simp; omega) hbw.out)); clear hown9 hgr9)
          have HJ := Lib.hid (fun w5 (b5 : Below w9.heap.size w9 w5) => show LkI s w R (.slice A9 (ts.length + 1) c9) w5 (p + n + b) (ts ++ [⟨K, X, p⟩]) from ⟨hpb, by rw [List.length_append]; have := HN0.out; simp; omega, HR9.out.2.trans (b5.mono HR9.out.2.size), by
            rw [List.flatMap_append, List.length_append]
            have h4 := HR9.out.1
            rw [← HX.out] at h4
            exact own_below h4 b5, HNX.out⟩)
          clear HR9 HO3 HB3 hll hmax hi hz0 hz1 hz2
          go_wp2_with fail
          refine (HBK.out _).mono ?_
          rintro e w5 ⟨rfl, h1⟩
          have HJ5 := Lib.hid (HJ.out w5 h1)
          clear h1
          go_wp2
          refine ⟨⟨_, p + n + b, _, rfl, by go_num, HJ5⟩, ?_⟩
          have := HN0.out
          simp [intOf]
          omega
      · obtain rfl : p = s.size := by omega
        have hlt' : ¬ ((s.size : Nat) : Int) < (s.size : Int) := by omega
        have HE := Lib.hid (show R = (ts, 0, 0) by
          obtain ⟨f, hf, he⟩ := HI.out.eq
          rw [List.drop_of_length_le (by rw [← HL.out]; exact Nat.le_refl _)] at he
          rw [he, cut_none (by omega)])
        obtain ⟨A9, c9, hv9, _, _, _, _⟩ := own_slice HI.out.own
        subst hv9
        clear hlt
        go_wp2
        go_ret3
        exact ⟨A9, c9, by rw [HE.out]; exact HI.out.own, by rw [HE.out]; rfl, HI.out.below⟩
end Go.Proofs.YtdcjpinbflmikaaGreatDoor
