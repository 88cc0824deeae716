/- The row and card of TokenBack: for every input the answer is true, and the input reads as it did. Condition: the listed tables and sentinels start as the program's text lays them (the card ties them). -/
import Derived.Test.YtpdoegafjfhiiaaGreatDoorTkFrame
import Derived.Test.YtpdoegafjfhiiaaGreatDoorTkLawB
import Derived.Deep.Slices
import Derived.Deep.SlicePairs
import Derived.ChangeSame
import Derived.ReadAgain
namespace Go.Proofs.YtpdoegafjfhiiaaGreatDoor
open Go.RowKit Go.Shelf Go.Lib
open Go.ChangeShapes Go.WideShapes Go.ChangeAt
open Go.ChangeMaps (open_string shut_string)
set_option maxRecDepth 100000

theorem cell_plain {w : World} {a : Addr} {v : Value} (h : w.cell? a = some v) : a = ⟨a.block, a.off, none⟩ ∧ a.block < w.heap.size := by
  obtain ⟨g, o, sp⟩ := a
  unfold World.cell? at h
  split at h
  · rename_i hh
    split at h
    · cases h
    · rename_i hs
      refine ⟨?_, (Array.getElem?_eq_some_iff.1 hh).1⟩
      cases sp with
      | none => rfl
      | some _ => exact absurd rfl hs
  · cases h
theorem add_plain (g o n : Nat) : (⟨g, o, none⟩ : Addr).add n = ⟨g, o + n, none⟩ := by
  unfold Addr.add
  split
  · rename_i h; subst h; rfl
  · rfl
section
variable {H : Type} {enc : TypeId × Value → H} {W : World}
theorem attrs_of {fuel : Nat} {cs : List Value} {x : DataW H × List MemPlace} (h : DataW.trod enc Tryz.prog W 0 (fun _ => true) true fuel 31 cs = some x) :
    ∃ A c al, cs = [.slice A al.length c] ∧ Reads2o W W.heap.size A al ∧ al.length ≤ c ∧ c ≤ maxLen ∧ ∀ a ∈ al, a.1.length ≤ maxLen ∧ a.2.length ≤ maxLen := by
  rcases Deep.open_slice_pairs Tryz.underlying31 Tryz.underlying38 (by kernel_rfl) rfl rfl (by kernel_rfl) (by kernel_rfl) h with ⟨hc, _⟩ | ⟨a, len, cap, m, n, V0, V1, D0, D1, P0, P1, hcs, _, hl, hm, hmm, _, hi⟩
  · exact ⟨none, 0, [], hc, fun h => absurd h (by simp), Nat.le_refl _, by decide, fun a ha => by cases ha⟩
  · have hi2 : ∀ i : Fin len, ∃ s : ByteArray × ByteArray, W.cell? (a.add (i.1 * 2)) = some (.string s.1) ∧ W.cell? (a.add (i.1 * 2 + 1)) = some (.string s.2) ∧ s.1.size ≤ maxLen ∧ s.2.size ≤ maxLen := fun i => by
      obtain ⟨c0, c1, t0, t1⟩ := hi i.1 (by rw [hmm]; simp; have := i.2; omega)
      obtain ⟨s0, e0, _, w0⟩ := DataW.trod_string Tryz.underlying9 t0
      obtain ⟨s1, e1, _, w1⟩ := DataW.trod_string Tryz.underlying9 t1
      simp only [List.cons.injEq, and_true] at e0 e1
      rw [e0] at c0
      rw [e1] at c1
      exact ⟨(s0, s1), c0, c1, w0, w1⟩
    obtain ⟨f, hf⟩ := Classical.skolem.1 hi2
    have hlen : (List.ofFn fun i : Fin len => ((f i).1.data.toList, (f i).2.data.toList)).length = len := List.length_ofFn
    refine ⟨some a, cap, List.ofFn fun i : Fin len => ((f i).1.data.toList, (f i).2.data.toList), by rw [hlen]; exact hcs, fun h0 => ?_, by rw [hlen]; exact hl, hm, fun y hy => ?_⟩
    · rw [hlen] at h0
      obtain ⟨ha, hb⟩ := cell_plain (hf ⟨0, h0⟩).1
      have ha' : a = ⟨a.block, a.off, none⟩ := by
        have : a.add (0 * 2) = a := by unfold Addr.add; rw [if_pos (by omega)]
        rw [this] at ha; exact ha
      have hb' : a.block < W.heap.size := by
        have : a.add (0 * 2) = a := by unfold Addr.add; rw [if_pos (by omega)]
        rw [this] at hb; exact hb
      refine ⟨a.block, a.off, by rw [← ha'], hb', fun k hk => ?_⟩
      rw [hlen] at hk
      have h1 := hf ⟨k, hk⟩
      rw [ha', add_plain, add_plain] at h1
      rw [List.getElem_ofFn]
      exact ⟨h1.1, h1.2.1⟩
    · obtain ⟨i, rfl⟩ := List.mem_ofFn.1 hy
      have := hf i
      show (f i).1.data.toList.length ≤ maxLen ∧ (f i).2.data.toList.length ≤ maxLen
      rw [← Lib.size_eq, ← Lib.size_eq]
      exact this.2.2
theorem parts_of {r : Reach} {b0 : Nat} {v : Value} {d : DataW H} {p : List MemPlace} (hv : Value.okWide Tryz.prog W r b0 40 v) (h : DataW.Trod enc Tryz.prog W 0 (fun _ => true) true 40 v d p) :
    ∃ A c ps, v = .slice A ps.length c ∧ ReadsPt W W.heap.size A ps := by
  obtain ⟨a0, len0, cap0, rfl⟩ := okWide_slice Tryz.underlying40 hv
  obtain ⟨fuel, hf⟩ := h
  rcases Deep.open_slice Tryz.underlying40 hf with ⟨hc, _⟩ | ⟨a, len, cap, m, n, D, Pl, hcs, _, hl, hm, hmm, _, hi⟩
  · simp only [Value.cells, List.cons.injEq, and_true] at hc
    exact ⟨none, 0, [], hc, fun h => absurd h (by simp), fun x hx => by cases hx⟩
  · simp only [Value.cells, List.cons.injEq, and_true] at hcs
    have hi2 : ∀ i : Fin len, ∃ x : Pt, (W.cell? (a.add (i.1 * 5)) = some (.int .i64 x.K) ∧ W.cell? (a.add (i.1 * 5 + 1)) = some (.string x.N) ∧ W.cell? (a.add (i.1 * 5 + 2)) = some (.slice x.A x.al.length x.c) ∧ W.cell? (a.add (i.1 * 5 + 3)) = some (.string x.X) ∧ W.cell? (a.add (i.1 * 5 + 4)) = some (.bool x.rm)) ∧
        Reads2o W W.heap.size x.A x.al ∧ x.N.size ≤ maxLen ∧ x.X.size ≤ maxLen ∧ x.al.length ≤ x.c ∧ x.c ≤ maxLen ∧ ∀ a ∈ x.al, a.1.length ≤ maxLen ∧ a.2.length ≤ maxLen := fun i => by
      obtain ⟨cs', hce, ht'⟩ := hi i.1 (by rw [hmm]; simp; have := i.2; omega)
      have h5 : Tryz.prog.cellsOf 42 = 5 := by kernel_rfl
      obtain ⟨_, hcl, hat⟩ := World.cells?_some hce
      obtain ⟨xs, n', _, _, _, hxl, hg⟩ := DataW.trod_struct Tryz.underlying42 ht'
      rw [h5] at hcl hat
      have hx5 : xs.length = 5 := hxl
      match cs', hcl with
      | [v0, v1, v2, v3, v4], _ =>
        have t0 : DataW.trod enc Tryz.prog W 0 (fun _ => true) true n' 3 (List.take (Tryz.prog.cellsOf 3) (List.drop 0 [v0, v1, v2, v3, v4])) = some (xs[0]'(by omega)) := (hg 0 _ rfl).trans (List.getElem?_eq_getElem (by omega))
        have t1 : DataW.trod enc Tryz.prog W 0 (fun _ => true) true n' 9 (List.take (Tryz.prog.cellsOf 9) (List.drop 1 [v0, v1, v2, v3, v4])) = some (xs[1]'(by omega)) := (hg 1 _ rfl).trans (List.getElem?_eq_getElem (by omega))
        have t2 : DataW.trod enc Tryz.prog W 0 (fun _ => true) true n' 31 (List.take (Tryz.prog.cellsOf 31) (List.drop 2 [v0, v1, v2, v3, v4])) = some (xs[2]'(by omega)) := (hg 2 _ rfl).trans (List.getElem?_eq_getElem (by omega))
        have t3 : DataW.trod enc Tryz.prog W 0 (fun _ => true) true n' 9 (List.take (Tryz.prog.cellsOf 9) (List.drop 3 [v0, v1, v2, v3, v4])) = some (xs[3]'(by omega)) := (hg 3 _ rfl).trans (List.getElem?_eq_getElem (by omega))
        have t4 : DataW.trod enc Tryz.prog W 0 (fun _ => true) true n' 4 (List.take (Tryz.prog.cellsOf 4) (List.drop 4 [v0, v1, v2, v3, v4])) = some (xs[4]'(by omega)) := (hg 4 _ rfl).trans (List.getElem?_eq_getElem (by omega))
        simp only [show Tryz.prog.cellsOf 3 = 1 by kernel_rfl, show Tryz.prog.cellsOf 9 = 1 by kernel_rfl, show Tryz.prog.cellsOf 31 = 1 by kernel_rfl, show Tryz.prog.cellsOf 4 = 1 by kernel_rfl, List.drop_zero, List.drop_succ_cons, List.take_succ_cons, List.take_zero] at t0 t1 t2 t3 t4
        have c0 := hat 0 (by omega)
        have c1 := hat 1 (by omega)
        have c2 := hat 2 (by omega)
        have c3 := hat 3 (by omega)
        have c4 := hat 4 (by omega)
        rw [Deep.add_add] at c0 c1 c2 c3 c4
        obtain ⟨K, e0, _, _⟩ := DataW.trod_int Tryz.underlying3 t0
        obtain ⟨N, e1, _, w1⟩ := DataW.trod_string Tryz.underlying9 t1
        obtain ⟨A, c, al, e2, h2, h3, h4, h5⟩ := attrs_of t2
        obtain ⟨X, e3, _, w3⟩ := DataW.trod_string Tryz.underlying9 t3
        obtain ⟨rm, e4, _⟩ := DataW.trod_bool Tryz.underlying4 t4
        simp only [List.cons.injEq, and_true] at e0 e1 e2 e3 e4
        subst e0 e1 e2 e3 e4
        exact ⟨⟨K, N, A, c, al, X, rm⟩, ⟨c0, c1, c2, c3, c4⟩, h2, w1, w3, h3, h4, h5⟩
    obtain ⟨f, hf⟩ := Classical.skolem.1 hi2
    have hlen : (List.ofFn f).length = len := List.length_ofFn
    refine ⟨some a, cap, List.ofFn f, by rw [hlen]; exact hcs, fun h0 => ?_, fun y hy => ?_⟩
    · rw [hlen] at h0
      obtain ⟨ha, hb⟩ := cell_plain (hf ⟨0, h0⟩).1.1
      have hz : a.add (0 * 5) = a := by unfold Addr.add; rw [if_pos (by omega)]
      rw [hz] at ha hb
      refine ⟨a.block, a.off, by rw [← ha], hb, fun k hk => ?_⟩
      rw [hlen] at hk
      have h1 := (hf ⟨k, hk⟩).1
      rw [ha, add_plain, add_plain, add_plain, add_plain, add_plain] at h1
      rw [List.getElem_ofFn]
      exact h1
    · obtain ⟨i, rfl⟩ := List.mem_ofFn.1 hy
      exact (hf i).2
theorem trod_again {W' : World} {t : TypeId} {v : Value} {d : DataW H} {p : List MemPlace} {sp : Nat → Bool} (h : DataW.Trod enc Tryz.prog W 0 (fun _ => true) true t v d p) (hb : Below W.heap.size W W') (ht : t < Tryz.prog.types.size) (hlt : ∀ q ∈ p, q.block < W.heap.size) (hsp : ∀ q ∈ p, sp q.block = true) :
    DataW.Trod enc Tryz.prog W' 0 sp true t v d p := by
  obtain ⟨n, hn⟩ := DataW.Trod.respare (kids_rows (by kernel_rfl) (by kernel_rfl)) (slices_full_of Tryz.prog (by kernel_rfl)) ht h hsp
  exact ⟨n, DataW.trod_carry n _ _ _ hn (fun q hq => hb.same (hlt q hq))⟩
end

namespace cardTokenBack
theorem lifted (os : Os) (started : os.Started) (H : Type) (enc : TypeId × Value → H) :
    ReturnsInHanded {} Tryz.checked os 4 .any (fun w args => (Rows.tokenBackSpec.pre enc Tryz.prog Tryz.f4 [] false w args ∧ laidMetH Tryz.prog laidAllOf w) ∧ sizedMet enc Tryz.prog Tryz.f4 (OpenSpec.ofChange Rows.tokenBackSpec) false w args)
      (Rows.tokenBackSpec.post enc Tryz.prog Tryz.f4 false true false false) := by
  refine row_shaped (C := Tryz.checked) (X := fun w _ => laidMetH Tryz.prog laidAllOf w) (fun _ _ _ hh h => h.of_heap hh) own started (by kernel_rfl) Tryz.func4
    (ChangeSpec.witness_shaped (enc := enc) (C := Tryz.checked) (os := os) (X := fun w _ => laidMetH Tryz.prog laidAllOf w) false (World.laidAll Tryz.prog os laidAllOf) #[.slice none 0 0] 8 (World.laidAll_os _ _ _)
      (World.shaped_of_ZipB (by kernel_rfl) (by kernel_rfl)) (by kernel_rfl) (by kernel_rfl) (by kernel_rfl)
      (by rw [MakeChecks.laidMetH_plain _ _ _ (by kernel_rfl)]; exact laidMet_laidAll _ (by kernel_rfl) (by kernel_rfl))) ?_
  intro W base args ds gs before hval0 hW hL hsh
  have hval : ∀ (j : Nat) t v, Tryz.f4.params[j]? = some t → args[j]? = some v → Value.okWide Tryz.prog W .any base t v := hval0
  have hW' := hW
  obtain ⟨p, q, hA0, hV, rfl, _, _⟩ := hW
  have hA : DataW.TrodAll enc Tryz.prog W 0 (fun _ => true) true Tryz.f4.params.toList args.toList ds p := hA0
  rw [Tryz.params4] at hA hval
  obtain ⟨v0, d0, rfl, rfl, h0⟩ := trodAll_one hA
  obtain ⟨rfl, rfl⟩ := trodVars_none hV
  have hlt := DataW.TrodAll.lt hA
  obtain ⟨A, c, ps, rfl, hrd⟩ := parts_of (hval 0 40 v0 rfl rfl) h0
  simp only [List.append_nil] at hW'
  rw [MakeChecks.laidMetH_plain _ _ _ (by kernel_rfl)] at hL
  have T := tb_of hL
  have M := mx_of hsh
  refine (lawBack A c ps W T M hrd).mono fun e W' ⟨he, hb⟩ => ?_
  subst he
  exact ⟨_, rfl, _, _, _, [], p, [], hW', trodAll_mk1 (shut_bool Tryz.underlying4 _), trodAll_mk1 (trod_again h0 hb (of_decide_eq_true (by kernel_rfl)) hlt (fun q hq => decide_eq_true (hlt q hq))), rfl, hb.frame _, fun h => by cases h⟩

theorem holds : Rows.TokenBackSaid :=
  OpenClaim.holds_of_wide 4 Tryz.f4 rfl rfl rfl rfl rfl rfl rfl ⟨rfl, rfl, rfl, rfl, rfl⟩ rfl rfl rfl rfl rfl (by kernel_rfl) Tryz.func4 (by kernel_rfl)
    (of_decide_eq_true (by kernel_rfl)) (by unfold Func.isWrapper; rw [if_neg (of_decide_eq_false (by kernel_rfl))]; exact ⟨rfl, rfl⟩)
    (fun os started H enc _ => lifted os started H enc)
theorem plain (f : FuncId) (fn : Func) (hf : Tryz.pinned.checked.prog.funcNamed "hopscotch/hopscotchlaw04.TokenBack" = some f) (hfn : Tryz.pinned.checked.prog.funcs[f]? = some fn) :
    true = Tryz.pinned.checked.prog.looks [] ∧ ∀ (j : Nat) t, fn.params[j]? = some t → Tryz.pinned.checked.prog.wantsStandIn t = false := by
  obtain rfl : f = 4 := Option.some.inj ((show Tryz.prog.funcNamed "hopscotch/hopscotchlaw04.TokenBack" = some 4 by kernel_rfl).symm.trans hf) |>.symm
  obtain rfl : fn = Tryz.f4 := (Option.some.inj (Tryz.func4.symm.trans hfn)).symm
  refine ⟨by kernel_rfl, fun j t ht => ?_⟩
  rw [Tryz.params4] at ht
  have hm : t ∈ [40] := by simpa using Array.mem_of_getElem? ht
  have hall : ([40].all fun u => !Tryz.prog.wantsStandIn u) = true := by kernel_rfl
  exact (show Tryz.prog.wantsStandIn t = false by simpa using List.all_eq_true.1 hall t hm)
theorem card : Rows.TokenBackCardSaid :=
  Claim7.holds_tied_plain_at .later [] _ _ _ _ holds (fun _ h => by cases h) (by kernel_rfl) (fun _ h => by cases h) tokenBack_row_tie rfl ⟨rfl, rfl⟩ (by kernel_rfl) rfl plain (by kernel_rfl)
end cardTokenBack

end Go.Proofs.YtpdoegafjfhiiaaGreatDoor
