/- Facts and walks for the statement. -/
import Derived.Test.YtdcjpinbflmikaaGreatDoorPzW08
import Derived.Test.YtdcjpinbflmikaaGreatDoorPzW03
import Derived.OwnWalk
import Derived.Deep.RegionHeld3
import Derived.Deep.AppendLies
import Derived.Test.YtdcjpinbflmikaaGreatDoorPzW04
import Derived.WalkKit
import Derived.WalkLawsBesides
import Derived.Outline
import Derived.Lib.Hide
import Derived.Lib.CutLaws
import Derived.Lib.OthersKept
import Derived.WalkSmall
import Derived.Deep.QuietTactic
import Derived.BigQuiet
import Derived.WalkSpells
import Derived.IntWalk
import Derived.Test.YtdcjpinbflmikaaGreatDoorChecked
import Derived.LaidEql
import Derived.Stop.Asserts
import Derived.RowKitTokens
import Derived.Lib.SmallJoins
import Derived.Lib.LaidTab
namespace Go.Proofs.YtdcjpinbflmikaaGreatDoor
open Go.RowKit
theorem lx_ext (s : ByteArray) (a k : Nat) : (s.extract a (a + k)).data.toList = (s.data.toList.drop a).take k := by
  rw [← Lib.toList_data, Lib.extract_toList, show a + k - a = k by omega]
end Go.Proofs.YtdcjpinbflmikaaGreatDoor
namespace Go.Proofs.YtdcjpinbflmikaaGreatDoor
open Go.RowKit
theorem lx_mk (s : ByteArray) (a k : Nat) : (⟨((s.data.toList.drop a).take k).toArray⟩ : ByteArray) = s.extract a (a + k) := by
  apply ByteArray.ext
  apply Array.toList_inj.1
  rw [lx_ext]
def tkV (t : Lx.T) : List Value := [.int .u8 t.k, .string ⟨t.tx.toArray⟩, .int .i64 (t.p : Int)]
def jn (ts : List Lx.T) (X : List Lx.T × Nat × Int) : List Lx.T × Nat × Int := if X.2.2 = 0 then (ts ++ X.1, 0, 0) else ([], X.2.1, X.2.2)
theorem cut_none {f p : Nat} {ts : List Lx.T} (hf : 0 < f) : jn ts (Lx.cut f [] p) = (ts, 0, 0) := by
  cases f with
  | zero => omega
  | succ f => unfold Lx.cut; rw [if_pos rfl]; simp [jn]
theorem cut_bad {f p : Nat} {l : List UInt8} {ts : List Lx.T} (hf : 0 < f) (hl : l ≠ []) (h : Lx.lng l = 0 ∨ 64 < Lx.lng l) : jn ts (Lx.cut f l p) = ([], p, 70) := by
  cases f with
  | zero => omega
  | succ f => unfold Lx.cut; rw [if_neg hl, if_pos h]; rfl
theorem cut_good {f p : Nat} {l : List UInt8} {ts : List Lx.T} (hl : l ≠ []) (h : ¬ (Lx.lng l = 0 ∨ 64 < Lx.lng l)) :
    jn ts (Lx.cut (f + 1) l p) = jn (ts ++ [⟨Lx.whole (l.take (Lx.lng l)), l.take (Lx.lng l), p⟩]) (Lx.cut f (l.drop (Lx.lng l + Lx.blk false (l.drop (Lx.lng l)))) (p + Lx.lng l + Lx.blk false (l.drop (Lx.lng l)))) := by
  rw [Lx.cut, if_neg hl, if_neg h]
  simp only
  generalize Lx.cut f _ _ = X
  unfold jn
  by_cases hx : X.2.2 = 0
  · rw [if_pos hx, if_pos hx, if_pos rfl, List.append_assoc]; rfl
  · rw [if_neg hx, if_neg hx, if_neg hx]
theorem cut_form (f : Nat) (l : List UInt8) (p : Nat) : Lx.cut f l p = jn [] (Lx.cut f l p) := by
  cases f with
  | zero => rfl
  | succ f =>
    unfold Lx.cut
    simp only
    generalize Lx.cut f _ _ = X
    split
    · rfl
    · split
      · rfl
      · unfold jn
        by_cases hx : X.2.2 = 0
        · rw [if_pos hx]; rfl
        · rw [if_neg hx]; simp [hx]
end Go.Proofs.YtdcjpinbflmikaaGreatDoor
namespace Go.Proofs.YtdcjpinbflmikaaGreatDoor
open Go.RowKit
def RdT (w : World) (B : Nat) (A : Option Addr) (l : List Lx.T) : Prop := 0 < l.length → ∃ g o, A = some ⟨g, o, none⟩ ∧ g < B ∧ ∀ j (hj : j < l.length), w.cell? ⟨g, o + j * 3, none⟩ = some (.int .u8 l[j].k) ∧ w.cell? ⟨g, o + j * 3 + 1, none⟩ = some (.string ⟨l[j].tx.toArray⟩) ∧ w.cell? ⟨g, o + j * 3 + 2, none⟩ = some (.int .i64 (l[j].p : Int))
end Go.Proofs.YtdcjpinbflmikaaGreatDoor
namespace Go.Proofs.YtdcjpinbflmikaaGreatDoor
open Go.RowKit
def LlP (R : List Lx.T × Nat × Int) (w : World) (e : Ending) (w' : World) : Prop :=
  ∃ A c, w'.ownsRow w.heap.size 39 3 (.slice A R.1.length c) R.1.length (R.1.flatMap tkV) ∧ e = .returned (.tuple #[.slice A R.1.length c, .int .i64 R.2.1, .int .i64 R.2.2]) ∧ Below w.heap.size w w'
theorem tk_at : ∀ (l : List Lx.T) (j : Nat) (h : j < l.length), (l.flatMap tkV)[j * 3]? = some (.int .u8 l[j].k) ∧ (l.flatMap tkV)[j * 3 + 1]? = some (.string ⟨l[j].tx.toArray⟩) ∧ (l.flatMap tkV)[j * 3 + 2]? = some (.int .i64 (l[j].p : Int))
  | [], _, h => absurd h (Nat.not_lt_zero _)
  | t :: r, 0, _ => ⟨rfl, rfl, rfl⟩
  | t :: r, j + 1, h => by
    have ih := tk_at r j (by simpa using h)
    rw [List.flatMap_cons]
    have e : ∀ k, (tkV t ++ r.flatMap tkV)[(j + 1) * 3 + k]? = (r.flatMap tkV)[j * 3 + k]? := fun k => by
      rw [List.getElem?_append_right (by show 3 ≤ _; omega)]
      congr 1
      show (j + 1) * 3 + k - 3 = j * 3 + k
      omega
    exact ⟨(e 0).trans ih.1, (e 1).trans ih.2.1, (e 2).trans ih.2.2⟩
theorem own_rd {w : World} {B n c : Nat} {e : TypeId} {A : Option Addr} {l : List Lx.T} (h : w.ownsRow B e 3 (.slice A n c) n (l.flatMap tkV)) (hn : n = l.length) : RdT w w.heap.size A l ∧ n ≤ c ∧ c ≤ maxLen := by
  obtain ⟨A', c', e1, h1, _, h3, h4⟩ := own_slice h
  injection e1 with e1 e2 e3
  subst e1 e3
  refine ⟨fun h0 => ?_, h3, h4⟩
  obtain ⟨g, hA, hg, _, hc⟩ := h1 (by omega)
  refine ⟨g, 0, hA, hg, fun j hj => ?_⟩
  obtain ⟨a0, a1, a2⟩ := tk_at l j hj
  simp only [Nat.zero_add]
  exact ⟨hc _ _ a0, hc _ _ a1, hc _ _ a2⟩
end Go.Proofs.YtdcjpinbflmikaaGreatDoor
namespace Go.Proofs.YtdcjpinbflmikaaGreatDoor
open Go.RowKit
set_option maxHeartbeats 1000000 in
theorem clone_any (s : ByteArray) (w : World) (hs : s.size ≤ 281474976710656) : Calls Tryz.prog 75 #[.string s] w fun e w' => e = .returned (.string s) ∧ Below w.heap.size w w' := by
  have HC := Lib.hid (Tryz.stringslite_Clone s w hs)
  go_enter Tryz.func75, Tryz.ntmps75
  go_wp2_with fail
  refine HC.out.mono ?_
  rintro e w1 ⟨rfl, b⟩
  go_wp2
  go_ret
  exact ⟨rfl, b⟩
theorem infoLK : (Tryz.prog.info? 39).map (fun i => (i.zero, i.size, i.bytes)) = some (some (.agg #[.int .u8 0, .string ⟨#[]⟩, .int .i64 0]), 3, 32) := by kernel_rfl
structure LkI (s : ByteArray) (w : World) (R : List Lx.T × Nat × Int) (v : Value) (wr : World) (p : Nat) (ts : List Lx.T) : Prop where
  hp : p ≤ s.size
  hl : ts.length ≤ p
  below : Below w.heap.size w wr
  own : wr.ownsRow w.heap.size 39 3 v ts.length (ts.flatMap tkV)
  eq : ∃ f, s.size - p < f ∧ R = jn ts (Lx.cut f (s.data.toList.drop p) p)
set_option maxHeartbeats 8000000 in
set_option maxRecDepth 100000 in
theorem ltoks_any (s : ByteArray) (w : World) (hsz : s.size ≤ maxLen) (h : Sg w) :
    Calls Tryz.prog 63 #[.string s] w (LlP (Lx.toks s.data.toList) w) := by
  have HL := Lib.hid (Lib.size_eq s)
  have HSG := Lib.hid h
  clear h
  obtain ⟨R, hR⟩ : ∃ R, R = Lx.toks s.data.toList := ⟨_, rfl⟩
  rw [← hR]
  unfold maxLen at hsz
  by_cases hbig : 65536 < s.size
  · have hbig' : (s.size : Int) > 65536 := by omega
    have HE := Lib.hid (show R = ([], 0, 3) by rw [hR]; unfold Lx.toks; rw [if_pos (by rw [← HL.out]; exact hbig)])
    have HB1 := Lib.hid (Below.refl w.heap.size w)
    clear hR hbig
    go_enter Tryz.func63, Tryz.ntmps63
    go_wp2
    go_ret3
    exact ⟨none, 0, by rw [HE.out]; exact World.ownsRow_nil _ _ _ _, by rw [HE.out]; rfl, HB1.out⟩
  · have hbig' : ¬ (s.size : Int) > 65536 := by omega
    have hsm : s.size ≤ 65536 := by omega
    have hs : s.size ≤ 1000000000 := by omega
    have HB0 := Lib.hid (blanks_any s w hs)
    obtain ⟨b0, hb0⟩ : ∃ b, b = Lx.blk false s.data.toList := ⟨_, rfl⟩
    have hb0l := Lx.blk_le false s.data.toList
    have H0 := Lib.hid (fun w1 (b1 : Below w.heap.size w w1) => show LkI s w R (.slice none 0 0) w1 b0 [] from ⟨by rw [hb0, HL.out]; exact hb0l, Nat.zero_le _, b1, World.ownsRow_nil _ _ _ _, s.size + 1, by omega, by
      rw [hR, hb0]
      unfold Lx.toks
      rw [if_neg (by rw [← HL.out]; exact hbig), HL.out]
      exact cut_form _ _ _⟩)
    rw [← hb0] at HB0
    have HBL := Lib.hid (fun (k : Nat) w0 => show Calls Tryz.prog 108 #[.string (s.extract k s.size)] w0 fun e w' => e = .returned (.int .i64 (Lx.blk false (s.data.toList.drop k))) ∧ Below w0.heap.size w0 w' from by
      have := blanks_any (s.extract k s.size) w0 (by rw [ByteArray.size_extract]; omega)
      rwa [Lib.extract_to_end] at this)
    have HFS := Lib.hid (fun (k : Nat) w0 (h0 : Sg w0) => show Calls Tryz.prog 109 #[.string (s.extract k s.size)] w0 fun e w' => e = .returned (.tuple #[.int .u8 (Lx.fst (s.data.toList.drop k)).1, .int .i64 (Lx.fst (s.data.toList.drop k)).2]) ∧ Below w0.heap.size w0 w' from by
      have := first_any (s.extract k s.size) w0 (by rw [ByteArray.size_extract]; unfold maxLen; omega) h0
      rwa [Lib.extract_to_end] at this)
    have HCL := Lib.hid (fun (a k : Nat) w0 => clone_any (s.extract a (a + k)) w0 (by rw [ByteArray.size_extract]; omega))
    clear hR hb0 hb0l hbig
    go_enter Tryz.func63, Tryz.ntmps63
    go_wp2_with fail
    refine HB0.out.mono ?_
    rintro e w1 ⟨rfl, h1⟩
    have HI0 := Lib.hid (H0.out w1 h1)
    clear h1 H0
    go_wp2
    go_loopw [2, 3] (fun v0 i wr => ∃ (v : Value) (p : Nat) (ts : List Lx.T), v = v0 ∧ i = .int .i64 p ∧ Hid (LkI s w R v wr p ts)) (fun _ i _ => s.size - (intOf i).toNat)
    case atStart => exact ⟨_, b0, [], rfl, rfl, HI0⟩
    case round =>
      clear HI0
      obtain ⟨v, p, ts, hv0, rfl, HI⟩ := hrel
      subst hv0
      have hp := HI.out.hp
      by_cases hlt : p < s.size
      · have hlt' : (p : Int) < (s.size : Int) := by omega
        have HG := Lib.hid (HFS.out p wr (HSG.out.below HI.out.below (Nat.le_refl _)))
        obtain ⟨L, hL⟩ : ∃ L, L = s.data.toList.drop p := ⟨_, rfl⟩
        have hLl : L.length = s.size - p := by rw [hL, List.length_drop, ← HL.out]
        have hne : L ≠ [] := by intro e; rw [e] at hLl; simp at hLl; omega
        have hfl := Lx.fst_le L
        have hfe := Lx.fst_lng L
        have hfn := @Lx.fst_no L
        rw [← hL] at HG
        have HF := HI.out.eq
        rw [← hL] at HF
        have HEQ := Lib.hid HF
        generalize Lx.fst L = d at *
        obtain ⟨K, n⟩ := d
        simp only at HG hfl hfe hfn
        clear HF
        by_cases h0 : K = 0
        · have HE := Lib.hid (show R = ([], p, 70) by
            obtain ⟨f, hf, he⟩ := HEQ.out
            rw [he, cut_bad (by omega) hne (hfn.1 h0)])
          subst h0
          clear hfl hfe hfn hL hLl hne
          go_wp2_with fail
          refine HG.out.mono ?_
          rintro e w2 ⟨rfl, h1⟩
          have HB1 := Lib.hid (HI.out.below.trans (h1.mono HI.out.below.size))
          clear h1
          go_wp2
          go_ret3
          exact ⟨none, 0, by rw [HE.out]; exact World.ownsRow_nil _ _ _ _, by rw [HE.out]; rfl, HB1.out⟩
        · have hK0 : (K == 0) = false := beq_eq_false_iff_ne.2 h0
          have hgd : ¬ (Lx.lng L = 0 ∨ 64 < Lx.lng L) := fun e => h0 (hfn.2 e)
          rw [if_neg hgd] at hfe
          obtain ⟨hKe, hne2⟩ := Prod.mk.inj hfe
          obtain ⟨b, hb⟩ : ∃ b, b = Lx.blk false (L.drop n) := ⟨_, rfl⟩
          have hdd : L.drop n = s.data.toList.drop (p + n) := by rw [hL, List.drop_drop]
          have hn0 : 0 < n := by omega
          have hpn : p + n ≤ s.size := by have := hfl.1; omega
          have hbl := Lx.blk_le false (L.drop n)
          rw [← hb, List.length_drop] at hbl
          have HBK := Lib.hid (fun w0 => HBL.out (p + n) w0)
          rw [← hdd, ← hb] at HBK
          have HCK := Lib.hid (HCL.out p n)
          have HX := Lib.hid (show (⟨(L.take n).toArray⟩ : ByteArray) = s.extract p (p + n) by rw [hL]; exact lx_mk s p n)
          have HNX := Lib.hid (show ∃ f, s.size - (p + n + b) < f ∧ R = jn (ts ++ [⟨K, L.take n, p⟩]) (Lx.cut f (s.data.toList.drop (p + n + b)) (p + n + b)) by
            obtain ⟨f, hf, he⟩ := HEQ.out
            obtain ⟨f, rfl⟩ : ∃ f', f = f' + 1 := ⟨f - 1, by omega⟩
            refine ⟨f, by omega, ?_⟩
            rw [he, cut_good hne hgd, ← hne2, ← hb, show L.drop (n + b) = s.data.toList.drop (p + n + b) by rw [hL, List.drop_drop, Nat.add_assoc], hKe, ← hne2])
          have hpb : p + n + b ≤ s.size := by omega
          generalize L.take n = X at *
          have HN0 := Lib.hid hn0
          have hll := HI.out.hl
          have hmax : ts.length + 1 ≤ maxLen := by unfold maxLen; omega
          obtain ⟨i0, hi, hz0, hz1, hz2⟩ := info_parts infoLK
          have a0 : (p : Int) + (n : Int) ≤ (s.size : Int) := by omega
          have a1 : (0 : Int) ≤ (p : Int) + (n : Int) := by omega
          have a2 : (p : Int) ≤ (p : Int) + (n : Int) := by omega
          have a3 : ((p : Int) + (n : Int)).toNat = p + n := by omega
          clear hb hdd hbl hfl hfe hfn hL hLl hne h0 HEQ hgd hKe hne2
          go_wp2_with fail
          refine HG.out.mono ?_
          rintro e w2 ⟨rfl, h1⟩
          have HB2 := Lib.hid (HI.out.below.trans (h1.mono HI.out.below.size))
          have HO2 := Lib.hid (own_below HI.out.own h1)
          clear h1
          go_wp2_with fail
          refine (HCK.out _).mono ?_
          rintro e w3 ⟨rfl, h1⟩
          have HB3 := Lib.hid (HB2.out.trans (h1.mono HB2.out.size))
          have HO3 := Lib.hid (own_below HO2.out h1)
          have hsz3 := HB3.out.size
          clear h1 HB2 HO2
          have hbw := Lib.hid (show ∀ k, v.ownBlock = some k → w.heap.size ≤ k from fun k hk => (HI.out.own.lt k hk).1)
          go_wp2_with (at_builtin; (refine wpList_append_own _ rfl _ _ _ rfl w.heap.size 39 i0 _ 3 32 Tryz.underlying36 hi hz0 hz1 hz2 rfl (by omega) v ts.length (ts.flatMap tkV) (by rfl) (by exact World.ownsRow.alloc HO3.out _) _ 1 _ [.int .u8 K, .string (s.extract p (p + n)), .int .i64 (p : Int)] (by rfl) rfl (by intro j u hu; exact news_at _ _ _ _ (by simp) j u hu) (by intro u hu; simp at hu; rcases hu with rfl | rfl | rfl <;> rfl) hmax (by omega) (by simp; omega) ?_); intro v9 w9 hown9 hgr9 _; obtain ⟨A9, c9, hv9, _, _, _, _⟩ := own_slice hown9; subst hv9; have HR9 := Lib.hid (And.intro hown9 (show Below w.heap.size w w9 from Below.grown (HB3.out.alloc hsz3 _) hgr9 (by simp; omega) hbw.out)); clear hown9 hgr9)
          have HJ := Lib.hid (fun w5 (b5 : Below w9.heap.size w9 w5) => show LkI s w R (.slice A9 (ts.length + 1) c9) w5 (p + n + b) (ts ++ [⟨K, X, p⟩]) from ⟨hpb, by rw [List.length_append]; have := HN0.out; simp; omega, HR9.out.2.trans (b5.mono HR9.out.2.size), by
            rw [List.flatMap_append, List.length_append]
            have h4 := HR9.out.1
            rw [← HX.out] at h4
            exact own_below h4 b5, HNX.out⟩)
          clear HR9 HO3 HB3 hll hmax hi hz0 hz1 hz2
          go_wp2_with fail
          refine (HBK.out _).mono ?_
          rintro e w5 ⟨rfl, h1⟩
          have HJ5 := Lib.hid (HJ.out w5 h1)
          clear h1
          go_wp2
          refine ⟨⟨_, p + n + b, _, rfl, by go_num, HJ5⟩, ?_⟩
          have := HN0.out
          simp [intOf]
          omega
      · obtain rfl : p = s.size := by omega
        have hlt' : ¬ ((s.size : Nat) : Int) < (s.size : Int) := by omega
        have HE := Lib.hid (show R = (ts, 0, 0) by
          obtain ⟨f, hf, he⟩ := HI.out.eq
          rw [List.drop_of_length_le (by rw [← HL.out]; exact Nat.le_refl _)] at he
          rw [he, cut_none (by omega)])
        obtain ⟨A9, c9, hv9, _, _, _, _⟩ := own_slice HI.out.own
        subst hv9
        clear hlt
        go_wp2
        go_ret3
        exact ⟨A9, c9, by rw [HE.out]; exact HI.out.own, by rw [HE.out]; rfl, HI.out.below⟩
end Go.Proofs.YtdcjpinbflmikaaGreatDoor
namespace Go.Proofs.YtdcjpinbflmikaaGreatDoor
open Go.RowKit
theorem ba_eq {a b : ByteArray} (h : a.data.toList = b.data.toList) : a = b := by
  cases a with | mk x => cases b with | mk y => simpa using h
theorem mk_data (s : ByteArray) : (⟨s.data.toList.toArray⟩ : ByteArray) = s := ba_eq (by simp)
theorem data_mk (l : List UInt8) : (ByteArray.mk l.toArray).data.toList = l := by simp
theorem size_mk (l : List UInt8) : (ByteArray.mk l.toArray).size = l.length := by rw [Lib.size_eq, data_mk]
theorem cutp_no (s p : ByteArray) (h : Lib.hasPrefix s.data.toList p.data.toList = false) (w : World) :
    Calls Tryz.prog 253 #[.string s, .string p] w fun e w' => e = .returned (.tuple #[.string s, .bool false]) ∧ w = w' := by
  refine (Tryz.strings_CutPrefix s p w).mono fun e w' he => ⟨?_, he.2.symm⟩
  have ht : Lib.trimPrefix s.data.toList p.data.toList = s.data.toList := by unfold Lib.trimPrefix; rw [h]; rfl
  rw [he.1, h, ht, mk_data]
theorem cutp_yes (s p : ByteArray) (h : Lib.hasPrefix s.data.toList p.data.toList = true) (w : World) :
    Calls Tryz.prog 253 #[.string s, .string p] w fun e w' => e = .returned (.tuple #[.string ⟨(s.data.toList.drop p.data.toList.length).toArray⟩, .bool true]) ∧ w = w' := by
  refine (Tryz.strings_CutPrefix s p w).mono fun e w' he => ⟨?_, he.2.symm⟩
  have ht : Lib.trimPrefix s.data.toList p.data.toList = s.data.toList.drop p.data.toList.length := by unfold Lib.trimPrefix; rw [h]; rfl
  rw [he.1, h, ht]
end Go.Proofs.YtdcjpinbflmikaaGreatDoor
namespace Go.Proofs.YtdcjpinbflmikaaGreatDoor
open Go.RowKit Go.Extern.Stop Go.Stop Go.Extern
theorem isTypeOf (v : Value) (w : World) : (Extern.ReflectliteType.typeOf #[.iface 361 v]).run Tryz.prog w = .ok (.iface 339 (.agg #[.pointer (some ⟨11, 361, none⟩)])) w := by kernel_rfl
theorem isComparable (w : World) : ((Extern.ReflectliteType.method fun t => do Extern.Rtype.noPackHeld "Comparable" t; (fun a => Value.bool a.comparable) <$> typeInfo t) #[.agg #[.pointer (some ⟨11, 361, none⟩)]]).run Tryz.prog w = .ok (.bool true) w := by kernel_rfl
theorem isMethodComparable (v : Value) (w : World) : (Go.method 493 339 v "Comparable").run Tryz.prog w = .ok (306, v) w := by kernel_rfl
theorem isComp : (Tryz.prog.info? 361).map (·.comparable) = some true := by kernel_rfl
theorem isSize : (Tryz.prog.info? 363).map (·.size) = some 1 := by kernel_rfl
theorem noIsW (v : Value) (xT : TypeId) (w : World) : (Instr.typeAssert (.iface 335 v) xT 341 true).run Tryz.prog w = .ok (.tuple #[.nilIface, .bool false]) w := run_typeAssert_lacksB Tryz.underlying341 (by kernel_rfl) (by kernel_rfl) v xT w
theorem hasUnwrapW (v : Value) (xT : TypeId) (w : World) : (Instr.typeAssert (.iface 335 v) xT 344 true).run Tryz.prog w = .ok (.tuple #[.iface 335 v, .bool true]) w := run_typeAssert_hasB Tryz.underlying344 (by kernel_rfl) v xT w
theorem methodUnwrap (v : Value) (w : World) : (Go.method 493 335 v "Unwrap").run Tryz.prog w = .ok (302, v) w := by kernel_rfl
theorem is_nil (b : Addr) (w : World) :
    Calls Tryz.prog 237 #[.nilIface, .iface 361 (.pointer (some b))] w fun e w' => e = .returned (.bool false) ∧ w' = w := by
  have hn := run_eql_iface_nil_left (P := Tryz.prog) w 361 (.pointer (some b)) Tryz.underlying237
  go_enter Tryz.func237, Tryz.ntmps237
  go_wp2
  go_ret
  exact ⟨rfl, rfl⟩
set_option maxHeartbeats 1000000 in
set_option maxRecDepth 100000 in
theorem is_wrap_same (pb : Nat) (b : Addr) (w : World) (h1 : w.cell? ⟨pb, 2, none⟩ = some (.iface 361 (.pointer (some b)))) :
    Calls Tryz.prog 237 #[.iface 335 (.pointer (some ⟨pb, 0, none⟩)), .iface 361 (.pointer (some b))] w fun e w' => e = .returned (.bool true) ∧ w' = w := by
  obtain ⟨i, hi, hcmp⟩ := Option.map_eq_some_iff.1 isComp
  obtain ⟨j, hj, hjs⟩ := Option.map_eq_some_iff.1 isSize
  have h8 := @run_callFunc_extern Tryz.prog 257 _ Extern.ReflectliteType.typeOf Tryz.func257 (by kernel_rfl) (by kernel_rfl) (by kernel_rfl) (by kernel_rfl)
  have h32 := @run_callFunc_extern Tryz.prog 306 _ (Extern.ReflectliteType.method fun t => do Extern.Rtype.noPackHeld "Comparable" t; pure (.bool (← typeInfo t).comparable)) Tryz.func306 (by kernel_rfl) (by kernel_rfl) (by kernel_rfl) (by kernel_rfl)
  have tT := isTypeOf
  have cT := isComparable
  have mR := isMethodComparable
  have nW := noIsW
  have uW := hasUnwrapW
  have mU := methodUnwrap
  have heq := run_eql_iface_ptr_same (P := Tryz.prog) w b Tryz.underlying237 Tryz.underlying361 hi hcmp hj
  have hty := run_eql_iface_types (P := Tryz.prog) 335 361 (.pointer (some ⟨pb, 0, none⟩)) (.pointer (some b)) Tryz.underlying237 (by decide) w
  go_enter Tryz.func237, Tryz.ntmps237
  go_wp2
  refine wp_loop_rounds 2 ?_
  rw [rounds_succ]
  go_wp2
  rw [rounds_succ]
  go_wp2
  go_ret
  exact ⟨rfl, rfl⟩
end Go.Proofs.YtdcjpinbflmikaaGreatDoor
namespace Go.Proofs.YtdcjpinbflmikaaGreatDoor
open Go.RowKit
set_option maxHeartbeats 1000000 in
theorem allDigits_any (s : ByteArray) (w : World) (hs : s.size ≤ 1000000000) :
    Calls Tryz.prog 254 #[.string s] w fun e w' => e = .returned (.bool (Nu.allDg s.data.toList)) ∧ w = w' := by
  obtain ⟨R, hR⟩ : ∃ R, R = Nu.allDg s.data.toList := ⟨_, rfl⟩
  rw [← hR]
  have HR := Lib.hid hR
  have hlen := Lib.hid (Lib.size_eq s)
  clear hR
  go_enter Tryz.func254, Tryz.ntmps254
  go_wp2
  go_loop [6] (fun i => ∃ k : Nat, i = .int .i64 k ∧ k ≤ s.size ∧ Hid (R = Nu.allDg (s.data.toList.drop k))) (fun i => s.size - (intOf i).toNat)
  case atStart => exact ⟨0, rfl, Nat.zero_le _, HR⟩
  case round =>
    obtain ⟨k, rfl, hk, HI⟩ := hrel
    by_cases hlt : k < s.size
    · have hk' : k < s.data.toList.length := by rw [← hlen.out]; exact hlt
      have hd : s.data.toList.drop k = s[k] :: s.data.toList.drop (k + 1) := by rw [List.drop_eq_getElem_cons hk']; rfl
      have HS := Lib.hid (show Nu.allDg (s.data.toList.drop k) = (Nu.isDg s[k] && Nu.allDg (s.data.toList.drop (k + 1))) by rw [hd]; rfl)
      have HD := Lib.hid (show Nu.isDg s[k] = true ↔ (48 ≤ (s[k].toNat : Int) ∧ (s[k].toNat : Int) ≤ 57) by unfold Nu.isDg; rw [decide_eq_true_iff]; omega)
      clear hd
      by_cases h1 : (s[k].toNat : Int) < 48
      · have HE := Lib.hid (show R = false by
          have h2 := HD.out
          rw [HI.out, HS.out]
          cases h3 : Nu.isDg s[k] with
          | false => rfl
          | true => have := h2.1 h3; omega)
        go_wp2
        go_ret
        exact ⟨by rw [HE.out]; rfl, rfl⟩
      · by_cases h2 : (s[k].toNat : Int) > 57
        · have HE := Lib.hid (show R = false by
            have h2 := HD.out
            rw [HI.out, HS.out]
            cases h3 : Nu.isDg s[k] with
            | false => rfl
            | true => have := h2.1 h3; omega)
          go_wp2
          go_ret
          exact ⟨by rw [HE.out]; rfl, rfl⟩
        · have HN := Lib.hid (show R = Nu.allDg (s.data.toList.drop (k + 1)) by
            rw [HI.out, HS.out, HD.out.2 (by omega)]; rfl)
          go_wp2
          go_round
          case rel => exact ⟨k + 1, by go_num, hlt, HN⟩
          case measure => simp [intOf]; omega
    · have HE := Lib.hid (show R = true by rw [HI.out, List.drop_of_length_le (by have := hlen.out; omega)]; rfl)
      have hlt' : ¬ (k : Int) < (s.size : Int) := by omega
      go_wp2
      go_ret
      exact ⟨by rw [HE.out]; rfl, rfl⟩
theorem hp_minus {l : List UInt8} : Lib.hasPrefix l [45] = Nu.below l := by
  unfold Lib.hasPrefix Nu.below
  cases l with
  | nil => rfl
  | cons a r =>
    simp [List.isPrefixOf]
    exact Bool.beq_comm
theorem cut_minus (s : ByteArray) (w : World) : ∃ D : ByteArray, ∃ b, D.data.toList = Nu.strip s.data.toList ∧ D.size ≤ s.size ∧ Calls Tryz.prog 253 #[.string s, .string ⟨#[45]⟩] w fun e w' => e = .returned (.tuple #[.string D, .bool b]) ∧ w = w' := by
  cases h : Nu.below s.data.toList with
  | true =>
    have e := Nu.strip_minus h
    refine ⟨⟨(s.data.toList.drop 1).toArray⟩, true, ?_, ?_, cutp_yes s ⟨#[45]⟩ (by rw [show (⟨#[45]⟩ : ByteArray).data.toList = [45] from rfl, hp_minus]; exact h) w⟩
    · rw [data_mk]; conv => lhs; rw [e]
      rfl
    · rw [size_mk, List.length_drop, Lib.size_eq]; omega
  | false => exact ⟨s, false, (Nu.strip_other h).symm, Nat.le_refl _, cutp_no s ⟨#[45]⟩ (by rw [show (⟨#[45]⟩ : ByteArray).data.toList = [45] from rfl, hp_minus]; exact h) w⟩
set_option maxHeartbeats 1000000 in
theorem isWriting_any (s : ByteArray) (w : World) (hs : s.size ≤ 1000000000) :
    Calls Tryz.prog 235 #[.string s] w fun e w' => e = .returned (.bool (Nu.isW s.data.toList)) ∧ w = w' := by
  by_cases h48 : s = ⟨#[48]⟩
  · subst h48
    go_enter Tryz.func235, Tryz.ntmps235
    go_wp2
    go_ret
    exact ⟨rfl, rfl⟩
  · obtain ⟨D, b, hD, hDs, hC⟩ := cut_minus s w
    have HC := Lib.hid hC
    have HALL := Lib.hid (allDigits_any D w (by omega))
    have hl48 : (s.data.toList == [48]) = false := by
      rw [beq_eq_false_iff_ne]
      intro e
      exact h48 (ba_eq (by rw [e]))
    have HW := Lib.hid (show Nu.isW s.data.toList = (!D.data.toList.isEmpty && D.data.toList.head? != some 48 && Nu.allDg D.data.toList) by unfold Nu.isW; rw [hl48, ← hD]; rfl)
    obtain ⟨R, hR⟩ : ∃ R, R = Nu.isW s.data.toList := ⟨_, rfl⟩
    rw [← hR] at HW ⊢
    clear hR hD hC hl48
    have hs48 : (s.toList == [48]) = false := by
      rw [Lib.toList_data, beq_eq_false_iff_ne]
      intro e
      exact h48 (ba_eq (by rw [e]))
    have HDL := Lib.hid (Lib.size_eq D)
    clear h48
    by_cases h0 : D.size = 0
    · have hDn : D.toList = [] := by rw [Lib.toList_data]; exact List.length_eq_zero_iff.1 (by rw [← HDL.out]; exact h0)
      have HE := Lib.hid (show R = false by rw [HW.out, ← Lib.toList_data, hDn]; rfl)
      go_enter Tryz.func235, Tryz.ntmps235
      go_wp2_with fail
      refine HC.out.mono ?_
      rintro e w1 ⟨rfl, rfl⟩
      go_wp2
      go_ret
      exact ⟨by rw [HE.out]; rfl, rfl⟩
    · have hDn : D.toList.isEmpty = false := by
        rw [Lib.toList_data]
        cases hh : D.data.toList with
        | nil => exfalso; have h1 := HDL.out; rw [hh] at h1; exact h0 h1
        | cons _ _ => rfl
      have hpos : 0 < D.size := by omega
      have HH := Lib.hid (show D.data.toList.head? = some D[0] by
        have : 0 < D.data.toList.length := by rw [← HDL.out]; exact hpos
        rw [List.head?_eq_getElem?, List.getElem?_eq_getElem this]
        rfl)
      have HWB := Lib.hid (show R = (!(D[0] == 48) && Nu.allDg D.data.toList) by rw [HW.out, ← Lib.toList_data, hDn, Lib.toList_data, HH.out]; rfl)
      by_cases hz : (D[0].toNat : Int) = 48
      · have HE := Lib.hid (show R = false by
          rw [HWB.out, show (D[0] == 48) = true from beq_iff_eq.2 (UInt8.toNat_inj.1 (by show D[0].toNat = 48; omega))]; rfl)
        have hz' : ((D[0].toNat : Int) == 48) = true := beq_iff_eq.2 hz
        clear h0
        go_enter Tryz.func235, Tryz.ntmps235
        go_wp2_with fail
        refine HC.out.mono ?_
        rintro e w1 ⟨rfl, rfl⟩
        go_wp2
        go_ret
        exact ⟨by rw [HE.out]; rfl, rfl⟩
      · have HE := Lib.hid (show R = Nu.allDg D.data.toList by
          rw [HWB.out, show (D[0] == 48) = false from beq_eq_false_iff_ne.2 (fun e => hz (by rw [e]; rfl))]; rfl)
        have hz' : ((D[0].toNat : Int) == 48) = false := beq_eq_false_iff_ne.2 hz
        have hz2 : ((D[0].toNat : Int) != 48) = true := by simp [bne, hz']
        clear h0
        go_enter Tryz.func235, Tryz.ntmps235
        go_wp2_with fail
        refine HC.out.mono ?_
        rintro e w1 ⟨rfl, rfl⟩
        go_wp2_with fail
        refine HALL.out.mono ?_
        rintro e w1 ⟨rfl, rfl⟩
        go_wp2
        go_ret
        exact ⟨by rw [HE.out]; rfl, rfl⟩
structure Tb (w : World) : Prop where
  e : ∃ a, w.cell? ⟨3, 0, none⟩ = some (.iface 361 (.pointer (some a)))
  t : Lib.TabIs Tryz.prog w "internal/strconv.uint64pow10" .u64 Lib.pow10Tab
theorem gPow : Tryz.prog.globalNamed "internal/strconv.uint64pow10" = some 5 := by kernel_rfl
theorem cell_ltN {w : World} {a : Addr} {v : Value} (h : w.cell? a = some v) : a.block < w.heap.size := by
  rcases Nat.lt_or_ge a.block w.heap.size with h' | h'
  · exact h'
  · simp [World.cell?, Array.getElem?_eq_none h'] at h
theorem Tb.below {B : Nat} {w w' : World} (h : Tb w) (hb : Below B w w') (hB : w.heap.size ≤ B) : Tb w' := by
  obtain ⟨⟨a, ha⟩, ht⟩ := h
  exact ⟨⟨a, (hb.cell (Nat.lt_of_lt_of_le (cell_ltN ha) hB)).trans ha⟩, Joins.tab_stays gPow ht hb hB⟩
set_option maxHeartbeats 2000000 in
set_option maxRecDepth 100000 in
theorem parse_any (s : ByteArray) (w : World) (T : Tb w) (hs : s.size ≤ 1000000000) :
    Calls Tryz.prog 217 #[.string s] w fun e w' => e = .returned (tv (Nu.prs s.data.toList)) ∧ Below w.heap.size w w' := by
  have HIW := Lib.hid (isWriting_any s w hs)
  have HT := Lib.hid T
  clear T
  unfold Nu.prs
  cases hw : Nu.isW s.data.toList with
  | false =>
    rw [hw] at HIW
    simp only [Bool.false_eq_true, if_false]
    clear hw
    go_enter Tryz.func217, Tryz.ntmps217
    go_wp2_with fail
    refine HIW.out.mono ?_
    rintro e w1 ⟨rfl, rfl⟩
    go_wp2
    go_ret2
    exact ⟨rfl, Below.refl _ _⟩
  | true =>
    rw [hw] at HIW
    simp only [if_true]
    have hp := Nu.parseB hw
    clear hw
    by_cases hf : Nu.fits (Nu.worth s.data.toList)
    · rw [if_pos hf] at hp
      rw [Nu.tell_in hf]
      have HC := Lib.hid (Tryz.strconv_ParseInt_10_at64_ok s (by omega) _ hp w)
      clear hp hf
      generalize Nu.worth s.data.toList = v at *
      unfold tv
      go_enter Tryz.func217, Tryz.ntmps217
      go_wp2_with fail
      refine HIW.out.mono ?_
      rintro e w1 ⟨rfl, rfl⟩
      go_wp2_with fail
      refine HC.out.mono ?_
      rintro e w1 ⟨rfl, hw1⟩
      have hb1 : Below w.heap.size w w1 := by
        rcases hw1 with rfl | ⟨t, rfl⟩
        · exact Below.refl _ _
        · exact Lib.bytesWorld_below _ _ _
      obtain ⟨⟨a, ha⟩, _⟩ := HT.out.below hb1 (Nat.le_refl _)
      have HB := Lib.hid hb1
      have HIS := Lib.hid (is_nil a w1)
      clear hw1 hb1
      go_wp2_with fail
      refine HIS.out.mono ?_
      rintro e w2 ⟨rfl, rfl⟩
      go_wp2
      go_ret2
      exact ⟨rfl, HB.out⟩
    · rw [if_neg hf] at hp
      rw [Nu.tell_out hf]
      obtain ⟨a, ha⟩ := HT.out.e
      have HC := Lib.hid (Tryz.strconv_ParseInt_10_at64_range s (by omega) hp _ w ha (Or.inr ⟨_, _, rfl⟩))
      clear hp hf
      generalize Lib.intSat 64 s.data.toList = v at *
      unfold tv
      have HA := Lib.hid ha
      clear ha
      go_enter Tryz.func217, Tryz.ntmps217
      go_wp2_with fail
      refine HIW.out.mono ?_
      rintro e w1 ⟨rfl, rfl⟩
      go_wp2_with fail
      refine HC.out.mono ?_
      rintro e w1 ⟨N, rfl, hN, hblk, hb1⟩
      have ha1 : w1.cell? ⟨3, 0, none⟩ = some (.iface 361 (.pointer (some a))) := (hb1.cell (cell_ltN HA.out)).trans HA.out
      have HB := Lib.hid hb1
      have HIS := Lib.hid (is_wrap_same N a w1 (by rw [Lib.cell_of_heap hblk 2]; rfl))
      clear hN hblk hb1
      go_wp2_with fail
      refine HIS.out.mono ?_
      rintro e w2 ⟨rfl, rfl⟩
      go_wp2
      go_ret2
      exact ⟨rfl, HB.out⟩
end Go.Proofs.YtdcjpinbflmikaaGreatDoor
