/- What a tree that came in reads as, with the bounds that the form gives: each string and slice takes at most 2^47 bytes. No condition. -/
import Derived.Test.YtgidpcfaeekjhaaGreatDoorTkFrame
import Derived.Test.YtgidpcfaeekjhaaGreatDoorTrWorks
import Derived.Deep.Slices
import Derived.Deep.SlicePairs
import Derived.ChangeSame
import Derived.ReadAgain
import Derived.SizedLaws
namespace Go.Proofs.YtgidpcfaeekjhaaGreatDoor
open Go.RowKit Go.Shelf Go.Lib
open Go.ChangeShapes Go.WideShapes Go.ChangeAt Go.ChangeMaps
set_option maxRecDepth 100000

theorem cell_plain {w : World} {a : Addr} {v : Value} (h : w.cell? a = some v) : a = ⟨a.block, a.off, none⟩ ∧ a.block < w.heap.size := by
  obtain ⟨g, o, sp⟩ := a
  unfold World.cell? at h
  split at h
  · rename_i hh
    split at h
    · cases h
    · rename_i hs
      refine ⟨?_, (Array.getElem?_eq_some_iff.1 hh).1⟩
      cases sp with
      | none => rfl
      | some _ => exact absurd rfl hs
  · cases h
theorem add_plain (g o n : Nat) : (⟨g, o, none⟩ : Addr).add n = ⟨g, o + n, none⟩ := by
  unfold Addr.add
  split
  · rename_i h; subst h; rfl
  · rfl
theorem weightsAll_mem {H : Type} {P : Program} {e : TypeId} : ∀ {l : List (DataW H)} {d : DataW H}, d ∈ l → ∀ n ∈ d.weights P e, n ∈ DataW.weightsAll P e l
  | d' :: r, d, hd, n, hn => by
    simp only [DataW.weightsAll, List.mem_append]
    rcases List.mem_cons.1 hd with rfl | h
    · exact Or.inl hn
    · exact Or.inr (weightsAll_mem h n hn)
section
variable {H : Type} {enc : TypeId × Value → H} {W : World}
/-- Each string and slice in it is of a bounded size. -/
def Sz (t : TypeId) (d : DataW H) : Prop := ∀ n ∈ d.weights Tryz.prog t, n ≤ reachBytes
theorem Sz.slice {t e : TypeId} {es sp : List (DataW H)} (ht : Tryz.prog.underlying t = some (.slice e)) (h : Sz t (.slice es sp)) : (es.length + sp.length) * Tryz.prog.bytesOf e ≤ reachBytes ∧ ∀ d ∈ es, Sz e d := by
  unfold Sz at h
  simp only [DataW.weights, ht, List.mem_cons, List.mem_append] at h
  exact ⟨h _ (Or.inl rfl), fun d hd n hn => h n (Or.inr (Or.inl (weightsAll_mem hd n hn)))⟩
theorem Sz.part {t : TypeId} {fs : Array Field} {ps : List (DataW H)} (ht : Tryz.prog.underlying t = some (.struct fs)) (h : Sz t (.agg ps)) {j : Nat} {f : Field} {d : DataW H} (hf : fs[j]? = some f) (hd : ps[j]? = some d) : Sz f.type d := by
  unfold Sz at h
  simp only [DataW.weights, ht] at h
  exact fun n hn => h n (DataW.weights_mem_each (by rw [List.getElem?_map, Array.getElem?_toList, hf]; rfl) hd n hn)
theorem Sz.str {t : TypeId} {l : List UInt8} (h : Sz t (.lit (.string l) : DataW H)) : l.length ≤ 140737488351232 := h _ (by simp [DataW.weights])
theorem Sz.of {ts : List TypeId} {ds : List (DataW H)} (h : (DataW.weightsEach Tryz.prog ts ds).all (· ≤ reachBytes) = true) {j : Nat} {t : TypeId} {d : DataW H} (ht : ts[j]? = some t) (hd : ds[j]? = some d) : Sz t d := fun n hn => by
  have := List.all_eq_true.1 h _ (DataW.weights_mem_each ht hd n hn)
  simpa using this
theorem attrs_szd {fuel : Nat} {cs : List Value} {x : DataW H × List MemPlace} (h : DataW.trod enc Tryz.prog W 0 (fun _ => true) true fuel 47 cs = some x) (hz : Sz 47 x.1) :
    ∃ A c al, cs = [.slice A al.length c] ∧ Reads2o W W.heap.size A al ∧ al.length ≤ c ∧ c ≤ maxLen ∧ al.length ≤ 8796093022208 ∧ ∀ a ∈ al, a.1.length ≤ 140737488355328 ∧ a.2.length ≤ 140737488355328 := by
  rcases Deep.open_slice_pairs Tryz.underlying47 Tryz.underlying51 (by kernel_rfl) rfl rfl (by kernel_rfl) (by kernel_rfl) h with ⟨hc, _⟩ | ⟨a, len, cap, m, n, V0, V1, D0, D1, P0, P1, hcs, _, hl, hm, hmm, hx, hi⟩
  · exact ⟨none, 0, [], hc, fun h => absurd h (by simp), Nat.le_refl _, by decide, by simp, fun a ha => by cases ha⟩
  · rw [hx] at hz
    obtain ⟨hz1, hz2⟩ := hz.slice Tryz.underlying47
    rw [List.length_map, List.length_range, show Tryz.prog.bytesOf 51 = 32 by kernel_rfl] at hz1
    unfold reachBytes at hz1
    have hi2 : ∀ i : Fin len, ∃ s : ByteArray × ByteArray, W.cell? (a.add (i.1 * 2)) = some (.string s.1) ∧ W.cell? (a.add (i.1 * 2 + 1)) = some (.string s.2) ∧ s.1.size ≤ 140737488355328 ∧ s.2.size ≤ 140737488355328 := fun i => by
      obtain ⟨c0, c1, t0, t1⟩ := hi i.1 (by rw [hmm]; simp; have := i.2; omega)
      have hzi := hz2 _ (List.mem_map.2 ⟨i.1, List.mem_range.2 i.2, rfl⟩)
      have z0 := hzi.part Tryz.underlying51 (j := 0) rfl rfl
      have z1 := hzi.part Tryz.underlying51 (j := 1) rfl rfl
      obtain ⟨s0, e0, d0, w0⟩ := DataW.trod_string Tryz.underlying9 t0
      obtain ⟨s1, e1, d1, w1⟩ := DataW.trod_string Tryz.underlying9 t1
      simp only [List.cons.injEq, and_true] at e0 e1
      rw [e0] at c0
      rw [e1] at c1
      rw [(Prod.mk.inj d0).1] at z0
      rw [(Prod.mk.inj d1).1] at z1
      have y0 := z0.str
      have y1 := z1.str
      rw [← Lib.size_eq] at y0 y1
      exact ⟨(s0, s1), c0, c1, by simp only; omega, by simp only; omega⟩
    obtain ⟨f, hf⟩ := Classical.skolem.1 hi2
    have hlen : (List.ofFn fun i : Fin len => ((f i).1.data.toList, (f i).2.data.toList)).length = len := List.length_ofFn
    refine ⟨some a, cap, List.ofFn fun i : Fin len => ((f i).1.data.toList, (f i).2.data.toList), by rw [hlen]; exact hcs, fun h0 => ?_, by rw [hlen]; exact hl, hm, by rw [hlen]; omega, fun y hy => ?_⟩
    · rw [hlen] at h0
      obtain ⟨ha, hb⟩ := cell_plain (hf ⟨0, h0⟩).1
      have hz : a.add (0 * 2) = a := by unfold Addr.add; rw [if_pos (by omega)]
      rw [hz] at ha hb
      refine ⟨a.block, a.off, by rw [← ha], hb, fun k hk => ?_⟩
      rw [hlen] at hk
      have h1 := hf ⟨k, hk⟩
      rw [ha, add_plain, add_plain] at h1
      rw [List.getElem_ofFn]
      exact ⟨h1.1, h1.2.1⟩
    · obtain ⟨i, rfl⟩ := List.mem_ofFn.1 hy
      have := hf i
      show (f i).1.data.toList.length ≤ _ ∧ (f i).2.data.toList.length ≤ _
      rw [← Lib.size_eq, ← Lib.size_eq]
      exact this.2.2
theorem nodes_szd {fuel : Nat} {cs : List Value} {x : DataW H × List MemPlace} (h : DataW.trod enc Tryz.prog W 0 (fun _ => true) true fuel 29 cs = some x) (hz : Sz 29 x.1) :
    ∃ A c nds, cs = [.slice A nds.length c] ∧ ReadsNd W W.heap.size A nds ∧ nds.length ≤ c ∧ c ≤ maxLen ∧ ∀ y ∈ nds, NdBig y := by
  rcases Deep.open_slice Tryz.underlying29 h with ⟨hc, _⟩ | ⟨a, len, cap, m, n, D, Pl, hcs, _, hl, hm, hmm, hx, hi⟩
  · exact ⟨none, 0, [], hc, ⟨fun h => absurd h (by simp), fun y hy => by cases hy⟩, Nat.le_refl _, by decide, fun y hy => by cases hy⟩
  · rw [hx] at hz
    obtain ⟨_, hz2⟩ := hz.slice Tryz.underlying29
    have hi2 : ∀ i : Fin len, ∃ y : Nd, (∀ (j : Nat) (u : Value), y.cs[j]? = some u → W.cell? ((a.add (i.1 * 7)).add j) = some u) ∧ NdOk W W.heap.size y ∧ NdBig y := fun i => by
      obtain ⟨cs', hce, ht'⟩ := hi i.1 (by rw [hmm]; simp; have := i.2; omega)
      have hzi := hz2 _ (List.mem_map.2 ⟨i.1, List.mem_range.2 i.2, rfl⟩)
      have h7 : Tryz.prog.cellsOf 49 = 7 := by kernel_rfl
      obtain ⟨_, hcl, hat⟩ := World.cells?_some hce
      obtain ⟨xs, n', _, hxe, _, hxl, hg⟩ := DataW.trod_struct Tryz.underlying49 ht'
      rw [h7] at hcl hat
      rw [(Prod.mk.inj hxe).1] at hzi
      have hx7 : xs.length = 7 := hxl
      match cs', hcl with
      | [v0, v1, v2, v3, v4, v5, v6], _ =>
        have t0 : DataW.trod enc Tryz.prog W 0 (fun _ => true) true n' 9 (List.take (Tryz.prog.cellsOf 9) (List.drop 0 [v0, v1, v2, v3, v4, v5, v6])) = some (xs[0]'(by omega)) := (hg 0 _ rfl).trans (List.getElem?_eq_getElem (by omega))
        have t1 : DataW.trod enc Tryz.prog W 0 (fun _ => true) true n' 47 (List.take (Tryz.prog.cellsOf 47) (List.drop 1 [v0, v1, v2, v3, v4, v5, v6])) = some (xs[1]'(by omega)) := (hg 1 _ rfl).trans (List.getElem?_eq_getElem (by omega))
        have t2 : DataW.trod enc Tryz.prog W 0 (fun _ => true) true n' 9 (List.take (Tryz.prog.cellsOf 9) (List.drop 2 [v0, v1, v2, v3, v4, v5, v6])) = some (xs[2]'(by omega)) := (hg 2 _ rfl).trans (List.getElem?_eq_getElem (by omega))
        have t3 : DataW.trod enc Tryz.prog W 0 (fun _ => true) true n' 3 (List.take (Tryz.prog.cellsOf 3) (List.drop 3 [v0, v1, v2, v3, v4, v5, v6])) = some (xs[3]'(by omega)) := (hg 3 _ rfl).trans (List.getElem?_eq_getElem (by omega))
        have t4 : DataW.trod enc Tryz.prog W 0 (fun _ => true) true n' 3 (List.take (Tryz.prog.cellsOf 3) (List.drop 4 [v0, v1, v2, v3, v4, v5, v6])) = some (xs[4]'(by omega)) := (hg 4 _ rfl).trans (List.getElem?_eq_getElem (by omega))
        have t5 : DataW.trod enc Tryz.prog W 0 (fun _ => true) true n' 3 (List.take (Tryz.prog.cellsOf 3) (List.drop 5 [v0, v1, v2, v3, v4, v5, v6])) = some (xs[5]'(by omega)) := (hg 5 _ rfl).trans (List.getElem?_eq_getElem (by omega))
        have t6 : DataW.trod enc Tryz.prog W 0 (fun _ => true) true n' 3 (List.take (Tryz.prog.cellsOf 3) (List.drop 6 [v0, v1, v2, v3, v4, v5, v6])) = some (xs[6]'(by omega)) := (hg 6 _ rfl).trans (List.getElem?_eq_getElem (by omega))
        simp only [show Tryz.prog.cellsOf 3 = 1 by kernel_rfl, show Tryz.prog.cellsOf 9 = 1 by kernel_rfl, show Tryz.prog.cellsOf 47 = 1 by kernel_rfl, List.drop_zero, List.drop_succ_cons, List.take_succ_cons, List.take_zero] at t0 t1 t2 t3 t4 t5 t6
        have z0 := hzi.part Tryz.underlying49 (j := 0) rfl (by rw [List.getElem?_map, List.getElem?_eq_getElem (by omega)]; rfl)
        have z1 := hzi.part Tryz.underlying49 (j := 1) rfl (by rw [List.getElem?_map, List.getElem?_eq_getElem (by omega)]; rfl)
        have z2 := hzi.part Tryz.underlying49 (j := 2) rfl (by rw [List.getElem?_map, List.getElem?_eq_getElem (by omega)]; rfl)
        obtain ⟨N, e0, d0, _⟩ := DataW.trod_string Tryz.underlying9 t0
        obtain ⟨A, c, al, e1, q2, q3, q4, q5, q6⟩ := attrs_szd t1 z1
        obtain ⟨X, e2, d2, _⟩ := DataW.trod_string Tryz.underlying9 t2
        obtain ⟨pa, e3, _, _⟩ := DataW.trod_int Tryz.underlying3 t3
        obtain ⟨fi, e4, _, _⟩ := DataW.trod_int Tryz.underlying3 t4
        obtain ⟨nx, e5, _, _⟩ := DataW.trod_int Tryz.underlying3 t5
        obtain ⟨at0, e6, _, _⟩ := DataW.trod_int Tryz.underlying3 t6
        simp only [List.cons.injEq, and_true] at e0 e1 e2 e3 e4 e5 e6
        rw [d0] at z0
        rw [d2] at z2
        have y0 := z0.str
        have y2 := z2.str
        subst e0 e1 e2 e3 e4 e5 e6
        refine ⟨⟨⟨N.data.toList, al, X.data.toList, pa, fi, nx, at0⟩, A, c⟩, fun j u hu => ?_, ⟨q2, q3, q4⟩, ⟨by simp only; omega, by simp only; omega, q5, q6⟩⟩
        have hj : j < 7 := (Array.getElem?_eq_some_iff.1 hu).1
        have hc := hat j hj
        refine hc.trans ?_
        unfold Nd.cs at hu
        simp only [Array.toArray_toList] at hu
        rw [← Array.getElem?_toList] at hu
        exact hu
    obtain ⟨f, hf⟩ := Classical.skolem.1 hi2
    have hlen : (List.ofFn f).length = len := List.length_ofFn
    refine ⟨some a, cap, List.ofFn f, by rw [hlen]; exact hcs, ⟨fun h0 => ?_, fun y hy => ?_⟩, by rw [hlen]; exact hl, hm, fun y hy => ?_⟩
    · rw [hlen] at h0
      obtain ⟨ha, hb⟩ := cell_plain ((hf ⟨0, h0⟩).1 0 _ rfl)
      have hz : ((a.add (0 * 7)).add 0) = a := by unfold Addr.add; simp
      rw [hz] at ha hb
      have ha' : a = ⟨a.block, a.off, none⟩ := ha
      refine ⟨a.block, a.off, by rw [← ha'], hb, fun k hk j u hu => ?_⟩
      rw [hlen] at hk
      rw [List.getElem_ofFn] at hu
      have h1 := (hf ⟨k, hk⟩).1 j u hu
      rw [ha', add_plain, add_plain] at h1
      exact h1
    · obtain ⟨i, rfl⟩ := List.mem_ofFn.1 hy
      exact (hf i).2.1
    · obtain ⟨i, rfl⟩ := List.mem_ofFn.1 hy
      exact (hf i).2.2
theorem tree_szd {r : Reach} {b0 : Nat} {v : Value} {d : DataW H} {p : List MemPlace} (hv : Value.okWide Tryz.prog W r b0 31 v) (h : DataW.Trod enc Tryz.prog W 0 (fun _ => true) true 31 v d p) (hz : Sz 31 d) :
    ∃ A c nds, v = .agg #[.slice A nds.length c] ∧ ReadsNd W W.heap.size A nds ∧ nds.length ≤ c ∧ c ≤ maxLen ∧ ∀ y ∈ nds, NdBig y := by
  obtain ⟨cs, rfl, hcs⟩ := okWide_struct Tryz.underlying31 hv
  obtain ⟨fuel, hf⟩ := h
  obtain ⟨xs, n', _, hxe, _, hxl, hg⟩ := DataW.trod_struct Tryz.underlying31 hf
  have hx1 : xs.length = 1 := hxl
  rw [show Tryz.prog.cellsOf 31 = 1 by kernel_rfl] at hcs
  rw [(Prod.mk.inj hxe).1] at hz
  have t0 := (hg 0 _ rfl).trans (List.getElem?_eq_getElem (by omega))
  have z0 := hz.part Tryz.underlying31 (j := 0) rfl (by rw [List.getElem?_map, List.getElem?_eq_getElem (by omega)]; rfl)
  obtain ⟨A, c, nds, e, q1, q2, q3, q4⟩ := nodes_szd t0 z0
  refine ⟨A, c, nds, ?_, q1, q2, q3, q4⟩
  obtain ⟨l⟩ := cs
  match l, hcs with
  | [u], _ =>
    change List.take (Tryz.prog.cellsOf 29) [u] = _ at e
    rw [show Tryz.prog.cellsOf 29 = 1 by kernel_rfl] at e
    simp only [List.take_succ_cons, List.take_zero, List.cons.injEq, and_true] at e
    rw [e]
theorem trod_again {W' : World} {t : TypeId} {v : Value} {d : DataW H} {p : List MemPlace} {sp : Nat → Bool} (h : DataW.Trod enc Tryz.prog W 0 (fun _ => true) true t v d p) (hb : Below W.heap.size W W') (ht : t < Tryz.prog.types.size) (hlt : ∀ q ∈ p, q.block < W.heap.size) (hsp : ∀ q ∈ p, sp q.block = true) :
    DataW.Trod enc Tryz.prog W' 0 sp true t v d p := by
  obtain ⟨n, hn⟩ := DataW.Trod.respare (kids_rows (by kernel_rfl) (by kernel_rfl)) (slices_full_of Tryz.prog (by kernel_rfl)) ht h hsp
  exact ⟨n, DataW.trod_carry n _ _ _ hn (fun q hq => hb.same (hlt q hq))⟩
/-- A row whose contract is handed the world's shape, and the sizes of what came in. -/
theorem row_sized {a : Assume} {C : Checked} {os : Os} {f : FuncId} {fn : Func} {s : ChangeSpec} {conds : List PathCond} {apart fresh handsOn again : Bool} {X : World → Array Value → Prop}
    (hX : ∀ (w w' : World) (args : Array Value), w.heap = w'.heap → X w args → X w' args)
    (own : ownKnob C.prog.godebug = none) (started : os.Started) (noInit : C.prog.inits.idxOf? f = none) (hfn : C.prog.funcs[f]? = some fn)
    (witness : ∃ (w : World) (tape : Tape) (i : Input), w.os = os ∧ (w.forCall tape i).Shaped C.prog ∧ i.vars = [] ∧ Input.okWide C.prog (w.forCall tape i) .any w.heap.size f i ∧
      ((s.pre enc C.prog fn conds apart (w.forCall tape i).memory i.args ∧ X (w.forCall tape i).memory i.args) ∧ sizedMet enc C.prog fn (OpenSpec.ofChange s) apart (w.forCall tape i).memory i.args) ∧ a.holds C.prog (lone (Frame.enter C.prog f i.args .normal) [] (w.forCall tape i)))
    (contract : ∀ (W : World) (base : Nat) (args : Array Value) (ds gs : List (DataW H)) (before : List MemPlace),
      (∀ (j : Nat) t v, fn.params[j]? = some t → args[j]? = some v → Value.okWide C.prog W .any base t v) →
      DataW.Whole enc C.prog fn.params.toList s.vars apart W args.toList ds gs before → X W args → W.ShapedOpen C.prog →
      (DataW.weightsEach C.prog (fn.params.toList ++ s.plain.varTypes C.prog) (ds ++ gs)).all (· ≤ reachBytes) = true →
      Calls C.prog f args W fun e W' => ∃ v, e = .returned v ∧ s.post enc C.prog fn apart fresh handsOn again W args v W') :
    ReturnsInHanded a C os f .any (fun w args => (s.pre enc C.prog fn conds apart w args ∧ X w args) ∧ sizedMet enc C.prog fn (OpenSpec.ofChange s) apart w args) (s.post enc C.prog fn apart fresh handsOn again) := by
  refine returnsInHanded_of_calls own started noInit witness ?_
  intro w tape i _ hsh _ hok hpre _
  obtain ⟨_, _, _, g, hg, _, _, _, _, hval⟩ := hok
  obtain rfl := Option.some.inj (hg.symm.trans hfn)
  obtain ⟨⟨⟨ds, gs, before, hw, _⟩, hx⟩, hz⟩ := hpre
  refine (contract (w.forCall tape i) w.heap.size i.args ds gs before hval (DataW.Whole.of_heap (w' := w.forCall tape i) (by rfl) hw) (hX _ _ _ (by rfl) hx) hsh (hz.weights hw)).mono ?_
  rintro e W' ⟨v, rfl, hp⟩
  exact ChangeSpec.post_blind hp
end
end Go.Proofs.YtgidpcfaeekjhaaGreatDoor
