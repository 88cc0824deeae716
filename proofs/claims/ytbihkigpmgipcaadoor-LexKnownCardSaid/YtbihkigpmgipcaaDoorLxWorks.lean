/- Layer 7's statements: works, walked, from what the package's functions answer. Conditions: they do, in every world of a kind that stays. -/
import Derived.Test.YtbihkigpmgipcaaDoorLxLaw1
namespace Go.Proofs.YtbihkigpmgipcaaDoor
open Go.RowKit

/-- What the package's Tokens answers, in a row of its own. -/
def LlP (R : List Lx.T × Nat × Int) (w : World) (e : Ending) (w' : World) : Prop :=
  ∃ A c, w'.ownsRow w.heap.size 32 3 (.slice A R.1.length c) R.1.length (R.1.flatMap tkV) ∧ e = .returned (.tuple #[.slice A R.1.length c, .int .i64 R.2.1, .int .i64 R.2.2]) ∧ Below w.heap.size w w'
theorem own_less {B B' : Nat} {w : World} {e : TypeId} {size n : Nat} {v : Value} {xs : List Value} (h : w.ownsRow B e size v n xs) (hB : B' ≤ B) : w.ownsRow B' e size v n xs :=
  ⟨h.1, h.2.imp id fun ⟨g, cap, cur, e1, e2, e3⟩ => ⟨g, cap, cur, e1, Nat.le_trans hB e2, e3⟩⟩
structure Kind7 (I : World → Prop) : Prop where
  stays : ∀ w w', I w → Below w.heap.size w w' → I w'
  toks : ∀ (s : ByteArray) w, s.size ≤ maxLen → I w → Calls Tryd.prog 11 #[.string s] w (LlP (Lx.toks s.data.toList) w)
  is : ∀ (s : ByteArray) w, s.size ≤ 1000000 → I w → Calls Tryd.prog 16 #[.string s] w fun e w' => e = .returned (.int .u8 (Lx.is s.data.toList)) ∧ Below w.heap.size w w'
theorem own_slice {w : World} {B : Nat} {e : TypeId} {size n : Nat} {v : Value} {xs : List Value} (h : w.ownsRow B e size v n xs) :
    ∃ A cap, v = .slice A n cap ∧ (0 < n → ∃ g, A = some ⟨g, 0, none⟩ ∧ g < w.heap.size ∧ B ≤ g ∧ ∀ j u, xs[j]? = some u → w.cell? ⟨g, j, none⟩ = some u) ∧ (A = none → cap = 0 ∧ n = 0) ∧ n ≤ cap ∧ cap ≤ maxLen := by
  rcases h.2 with ⟨h1, h2⟩ | ⟨g, cap, cur, h1, h2, h3, h4, h5, _⟩
  · exact ⟨none, 0, by rw [h1, h2], fun h => by omega, fun _ => ⟨rfl, h2⟩, by omega, Nat.zero_le _⟩
  · subst h1
    refine ⟨some ⟨g, 0, none⟩, cap, rfl, fun _ => ⟨g, rfl, (Array.getElem?_eq_some_iff.1 h3).1, h2, fun j u hu => ?_⟩, fun h => (by cases h), h4, h5⟩
    have := h.cells (g := g) rfl j u hu
    have hadd : (⟨g, 0, none⟩ : Addr).add j = ⟨g, j, none⟩ := by unfold Addr.add; split <;> simp_all
    rwa [hadd] at this
theorem tk_at : ∀ (l : List Lx.T) (j : Nat) (h : j < l.length), (l.flatMap tkV)[j * 3]? = some (.int .u8 l[j].k) ∧ (l.flatMap tkV)[j * 3 + 1]? = some (.string ⟨l[j].tx.toArray⟩) ∧ (l.flatMap tkV)[j * 3 + 2]? = some (.int .i64 (l[j].p : Int))
  | [], _, h => absurd h (Nat.not_lt_zero _)
  | t :: r, 0, _ => ⟨rfl, rfl, rfl⟩
  | t :: r, j + 1, h => by
    have ih := tk_at r j (by simpa using h)
    rw [List.flatMap_cons]
    have e : ∀ k, (tkV t ++ r.flatMap tkV)[(j + 1) * 3 + k]? = (r.flatMap tkV)[j * 3 + k]? := fun k => by
      rw [List.getElem?_append_right (by show 3 ≤ _; omega)]
      congr 1
      show (j + 1) * 3 + k - 3 = j * 3 + k
      omega
    exact ⟨(e 0).trans ih.1, (e 1).trans ih.2.1, (e 2).trans ih.2.2⟩
/-- A row of one's own reads so. -/
theorem own_rd {w : World} {B n c : Nat} {e : TypeId} {A : Option Addr} {l : List Lx.T} (h : w.ownsRow B e 3 (.slice A n c) n (l.flatMap tkV)) (hn : n = l.length) : RdT w w.heap.size A l ∧ n ≤ c ∧ c ≤ maxLen := by
  obtain ⟨A', c', e1, h1, _, h3, h4⟩ := own_slice h
  injection e1 with e1 e2 e3
  subst e1 e3
  refine ⟨fun h0 => ?_, h3, h4⟩
  obtain ⟨g, hA, hg, _, hc⟩ := h1 (by omega)
  refine ⟨g, 0, hA, hg, fun j hj => ?_⟩
  obtain ⟨a0, a1, a2⟩ := tk_at l j hj
  simp only [Nat.zero_add]
  exact ⟨hc _ _ a0, hc _ _ a1, hc _ _ a2⟩
theorem w1 : Lx.toks [120, 58, 61, 120, 43, 49, 32, 45, 45, 32, 109, 111, 114, 101] = ([⟨2, [120], 0⟩, ⟨4, [58, 61], 1⟩, ⟨2, [120], 3⟩, ⟨4, [43], 4⟩, ⟨1, [49], 5⟩], 0, 0) := by kernel_rfl
theorem w2 : Lx.toks [97, 60, 61, 62, 98] = ([⟨2, [97], 0⟩, ⟨4, [60, 61], 1⟩, ⟨4, [62], 3⟩, ⟨2, [98], 4⟩], 0, 0) := by kernel_rfl
theorem w3 : Lx.toks [97, 32, 33, 32, 98] = ([], 2, 70) := by kernel_rfl
theorem w4 : Lx.toks [49, 97] = ([⟨1, [49], 0⟩, ⟨2, [97], 1⟩], 0, 0) := by kernel_rfl
theorem w5 : Lx.is [101, 109, 105, 116] = 3 ∧ Lx.is [101, 109, 105, 116, 115] = 2 ∧ Lx.is [45, 45] = 0 := ⟨by kernel_rfl, by kernel_rfl, by kernel_rfl⟩
set_option maxHeartbeats 4000000 in
set_option maxRecDepth 100000 in
theorem works_any {I : World → Prop} (K : Kind7 I) (w : World) (hI : I w) :
    Calls Tryd.prog 9 #[] w fun e w' => e = .returned (.bool true) ∧ Below w.heap.size w w' := by
  have HK := Lib.hid K
  have HIw := Lib.hid hI
  clear K hI
  go_enter Tryd.func9, Tryd.ntmps9
  go_wp2_with fail
  have t1 := HK.out.toks ⟨#[120, 58, 61, 120, 43, 49, 32, 45, 45, 32, 109, 111, 114, 101]⟩ w (by decide) HIw.out
  rw [show (ByteArray.mk #[120, 58, 61, 120, 43, 49, 32, 45, 45, 32, 109, 111, 114, 101]).data.toList = [120, 58, 61, 120, 43, 49, 32, 45, 45, 32, 109, 111, 114, 101] from rfl, w1] at t1
  refine t1.mono ?_
  clear t1
  rintro e wa ⟨Aa, ca, oa, rfl, ba⟩
  obtain ⟨ra, la, _⟩ := own_rd oa rfl
  obtain ⟨ga, pa, rfl, hga, da⟩ := ra (by decide)
  have a0 := (da 1 (by decide)).1
  have a1 := (da 1 (by decide)).2.1
  have a2 := (da 1 (by decide)).2.2
  have HIa := Lib.hid (And.intro ba (HK.out.stays _ _ HIw.out ba))
  clear oa ra da ba
  go_wp2_with fail
  have t1 := HK.out.toks ⟨#[97, 60, 61, 62, 98]⟩ wa (by decide) HIa.out.2
  rw [show (ByteArray.mk #[97, 60, 61, 62, 98]).data.toList = [97, 60, 61, 62, 98] from rfl, w2] at t1
  refine t1.mono ?_
  clear t1
  rintro e wb ⟨Ab, cb, ob, rfl, bb⟩
  obtain ⟨rb, lb, _⟩ := own_rd ob rfl
  obtain ⟨gb, pb, rfl, hgb, db⟩ := rb (by decide)
  have b1 := (db 1 (by decide)).2.1
  replace a0 := (bb.cell (p := ⟨ga, _, none⟩) hga).trans a0
  replace a1 := (bb.cell (p := ⟨ga, _, none⟩) hga).trans a1
  replace a2 := (bb.cell (p := ⟨ga, _, none⟩) hga).trans a2
  replace hga := Nat.lt_of_lt_of_le hga bb.size
  have HIb := Lib.hid (And.intro (HIa.out.1.trans (bb.mono HIa.out.1.size)) (HK.out.stays _ _ HIa.out.2 bb))
  clear ob rb db bb HIa
  go_wp2_with fail
  have t1 := HK.out.toks ⟨#[97, 32, 33, 32, 98]⟩ wb (by decide) HIb.out.2
  rw [show (ByteArray.mk #[97, 32, 33, 32, 98]).data.toList = [97, 32, 33, 32, 98] from rfl, w3] at t1
  refine t1.mono ?_
  clear t1
  rintro e wc ⟨Ac, cc, oc, rfl, bc⟩
  obtain ⟨_, lc, _⟩ := own_rd oc rfl
  replace a0 := (bc.cell (p := ⟨ga, _, none⟩) hga).trans a0
  replace a1 := (bc.cell (p := ⟨ga, _, none⟩) hga).trans a1
  replace a2 := (bc.cell (p := ⟨ga, _, none⟩) hga).trans a2
  replace b1 := (bc.cell (p := ⟨gb, _, none⟩) hgb).trans b1
  replace hga := Nat.lt_of_lt_of_le hga bc.size
  replace hgb := Nat.lt_of_lt_of_le hgb bc.size
  have HIc := Lib.hid (And.intro (HIb.out.1.trans (bc.mono HIb.out.1.size)) (HK.out.stays _ _ HIb.out.2 bc))
  clear oc bc HIb
  go_wp2_with fail
  have t1 := HK.out.toks ⟨#[49, 97]⟩ wc (by decide) HIc.out.2
  rw [show (ByteArray.mk #[49, 97]).data.toList = [49, 97] from rfl, w4] at t1
  refine t1.mono ?_
  clear t1
  rintro e wd ⟨Ad, cd, od, rfl, bd⟩
  obtain ⟨rd, ld, _⟩ := own_rd od rfl
  obtain ⟨gd, pd, rfl, hgd, dd⟩ := rd (by decide)
  have d0 := (dd 1 (by decide)).1
  replace a0 := (bd.cell (p := ⟨ga, _, none⟩) hga).trans a0
  replace a1 := (bd.cell (p := ⟨ga, _, none⟩) hga).trans a1
  replace a2 := (bd.cell (p := ⟨ga, _, none⟩) hga).trans a2
  replace b1 := (bd.cell (p := ⟨gb, _, none⟩) hgb).trans b1
  have HId := Lib.hid (And.intro (HIc.out.1.trans (bd.mono HIc.out.1.size)) (HK.out.stays _ _ HIc.out.2 bd))
  clear od rd dd bd HIc
  go_wp2_with fail
  have t1 := HK.out.is ⟨#[101, 109, 105, 116]⟩ wd (by decide) HId.out.2
  rw [show (ByteArray.mk #[101, 109, 105, 116]).data.toList = [101, 109, 105, 116] from rfl, w5.1] at t1
  refine t1.mono ?_
  clear t1
  rintro e we ⟨rfl, bwe⟩
  have HIwe := Lib.hid (And.intro (HId.out.1.trans (bwe.mono HId.out.1.size)) (HK.out.stays _ _ HId.out.2 bwe))
  clear bwe HId
  go_wp2_with fail
  have t1 := HK.out.is ⟨#[101, 109, 105, 116, 115]⟩ we (by decide) HIwe.out.2
  rw [show (ByteArray.mk #[101, 109, 105, 116, 115]).data.toList = [101, 109, 105, 116, 115] from rfl, w5.2.1] at t1
  refine t1.mono ?_
  clear t1
  rintro e wf ⟨rfl, bwf⟩
  have HIwf := Lib.hid (And.intro (HIwe.out.1.trans (bwf.mono HIwe.out.1.size)) (HK.out.stays _ _ HIwe.out.2 bwf))
  clear bwf HIwe
  go_wp2_with fail
  have t1 := HK.out.is ⟨#[45, 45]⟩ wf (by decide) HIwf.out.2
  rw [show (ByteArray.mk #[45, 45]).data.toList = [45, 45] from rfl, w5.2.2] at t1
  refine t1.mono ?_
  clear t1
  rintro e wh ⟨rfl, bwh⟩
  have HIwh := Lib.hid (And.intro (HIwf.out.1.trans (bwh.mono HIwf.out.1.size)) (HK.out.stays _ _ HIwf.out.2 bwh))
  clear bwh HIwf
  go_wp2
  go_ret
  exact ⟨rfl, HIwh.out.1⟩
end Go.Proofs.YtbihkigpmgipcaaDoor
