/- Facts and walks for the statement. -/
import Derived.Test.YteadfpkihhaadaaGreatDoorPz25
import Derived.Test.YteadfpkihhaadaaGreatDoorPz07
import Derived.Test.YteadfpkihhaadaaGreatDoorPz08
namespace Go.Proofs.YteadfpkihhaadaaGreatDoor
open Go.RowKit Go.Shelf
structure Kp (w w' : World) : Prop where
 os : w'.os = w.os
 tape : w'.tape = w.tape
 output : w'.output = w.output
 size : w.heap.size ≤ w'.heap.size
 block : ∀ (k : Nat) (cs : Array Value) (t : TypeId) (f : Nat × Nat), w.heap[k]? = some (.cells cs t f) → t ≠ 93 → t ≠ 5 → w'.heap[k]? = some (.cells cs t f)
theorem at_lt {w : World} {k : Nat} {o : Obj} (h : w.heap[k]? = some o) : k < w.heap.size := by
 rcases Nat.lt_or_ge k w.heap.size with h' | h'
 ·exact h'
 ·rw [Array.getElem?_eq_none h'] at h; cases h
theorem Kp.refl (w : World) : Kp w w := ⟨rfl, rfl, rfl, Nat.le_refl _, fun _ _ _ _ h _ _ => h⟩
theorem Kp.trans {w w1 w2 : World} (h1 : Kp w w1) (h2 : Kp w1 w2) : Kp w w2 :=
 ⟨h2.os.trans h1.os, h2.tape.trans h1.tape, h2.output.trans h1.output, Nat.le_trans h1.size h2.size, fun k cs t f h a b => h2.block k cs t f (h1.block k cs t f h a b) a b⟩
theorem Kp.of_below {w w' : World} (h : Below w.heap.size w w') : Kp w w' := ⟨h.os, h.tape, h.output, h.size, fun k _ _ _ hk _ _ => (h.block k (at_lt hk)).trans hk⟩
theorem Kp.on {w w1 w2 : World} (h1 : Kp w w1) (h2 : Below w1.heap.size w1 w2) : Kp w w2 := h1.trans (Kp.of_below h2)
theorem Kp.blk {w w' : World} {g : Nat} {t : TypeId} {cs : Array Value} (hk : Kp w w') (h : IsBlk w g t cs) (h1 : t ≠ 93) (h2 : t ≠ 5) : IsBlk w' g t cs := hk.block g cs t (0, 0) h h1 h2
theorem Kp.own {w w' : World} {B : Nat} {e : TypeId} {size n : Nat} {v : Value} {xs : List Value} (hk : Kp w w') (h : w.ownsRow B e size v n xs) (h1 : e ≠ 93) (h2 : e ≠ 5) : w'.ownsRow B e size v n xs := by
 refine ⟨h.1, ?_⟩
 rcases h.2 with h3 | ⟨g, cap, cur, e1, e2, e3, e4⟩
 ·exact Or.inl h3
 ·exact Or.inr ⟨g, cap, cur, e1, e2, hk.block g _ _ _ e3 h1 h2, e4⟩
theorem Kp.set {w : World} {p : Addr} {cs : Array Value} {t : TypeId} {f : Nat × Nat} (h : w.heap[p.block]? = some (.cells cs t f)) (ht : t = 93 ∨ t = 5) (u : Value) : Kp w (w.setCell p u) :=
 ⟨rfl, rfl, rfl, by simp [World.setCell], fun k cs' t' f' hk a b => by
  rw [Below.heap_setCell w p u k (fun e => by
   rw [e, h] at hk
   injection hk with hk
   injection hk with _ hk _
   rw [hk] at ht
   rcases ht with e | e
   ·exact a e
   ·exact b e)]
  exact hk⟩
theorem Kp.grown {w w' : World} {B n : Nat} {v : Value} {xs : List Value} (h : w.grownBy w' v.ownBlock) (ho : w.ownsRowF B 5 1 v n xs) : Kp w w' :=
 ⟨h.os, h.tape, h.output, h.size, fun k cs t f hk a b => by
  rw [h.block k (at_lt hk) (fun e => Lib.ownBlock_neF ho hk b e.symm)]
  exact hk⟩
theorem copyCheck_kp (B b : Nat) (bs : List Value) (w : World) (h : Lib.IsBuilderF 93 5 B b bs w) :
  Calls Tryz.prog 110 #[.pointer (some ⟨b, 0, none⟩)] w fun e w' => e = .returned (.tuple #[]) ∧ (Lib.BuilderAtF 93 5 B b (.pointer (some ⟨b, 0, none⟩)) bs w' ∧ Below B w w') ∧ Kp w w' := by
 rcases h with h | h
 ·refine (copyCheck_fresh b w h.cell0 h.shape h.frozen0).mono ?_
  rintro e w' ⟨rfl, rfl⟩
  obtain ⟨_, v, hb, _⟩ := id h
  exact ⟨rfl, ⟨h.used _, (Below.refl B w).setCell (p := ⟨b, 0, none⟩) h.1 _⟩, Kp.set (p := ⟨b, 0, none⟩) hb (Or.inl rfl) _⟩
 ·refine (copyCheck_used b w h.cell0).mono ?_
  rintro e w' ⟨rfl, rfl⟩
  exact ⟨rfl, ⟨h, Below.refl B _⟩, Kp.refl _⟩
set_option maxHeartbeats 2000000 in
set_option maxRecDepth 100000 in
theorem writeCells_kp (B b : Nat) (bs : List Value) (s : ByteArray) (w : World) (h : Lib.IsBuilderF 93 5 B b bs w) (hlen : bs.length + s.size ≤ 140737488355328) (hBw : B ≤ w.heap.size) :
  Calls Tryz.prog 76 #[.pointer (some ⟨b, 0, none⟩), .string s] w fun e w' => e = .returned (.tuple #[.int .i64 s.size, .nilIface]) ∧ (Lib.BuilderAtF 93 5 B b (.pointer (some ⟨b, 0, none⟩)) (bs ++ Lib.strCells s) w' ∧ Below B w w') ∧ Kp w w' := by
 obtain ⟨i0, hi, hz0, hz1, hz2⟩ := info_parts u8Info
 go_enter Tryz.func76, Tryz.ntmps76
 go_wp2_with (go_at_call 110; refine (copyCheck_kp B b bs _ h).mono ?_)
 rintro e w1 ⟨rfl, ⟨h1, hb1⟩, hk1⟩
 obtain ⟨hB, v, hbk, hown, hne⟩ := h1
 have c0 : w1.cell? ⟨b, 0, none⟩ = some (.pointer (some ⟨b, 0, none⟩)) := by rw [Lib.cell_of_heap hbk]; rfl
 have c1 : w1.cell? ⟨b, 1, none⟩ = some v := by rw [Lib.cell_of_heap hbk]; rfl
 go_wp2_with (at_builtin; refine Lib.wpList_append_own_stringF _ rfl _ _ 91 9 rfl B 5 i0 Tryz.underlying91 Tryz.underlying9 hi hz0 hz1 hz2 _ _ _ rfl hown s rfl ?c3 ?c4 ?c5 ?_)
 case c3 => unfold maxLen; omega
 case c4 => omega
 case c5 => have := hb1.size; omega
 intro v' w2 hown' hgrow _
 have hlt : b < w1.heap.size := by
  rcases Nat.lt_or_ge b w1.heap.size with h' | h'
  ·exact h'
  ·simp [Array.getElem?_eq_none h'] at hbk
 have hb2 : w2.heap[b]? = some (.cells #[.pointer (some ⟨b, 0, none⟩), v] 93 (0, 0)) := by
  rw [hgrow.block b hlt (fun e => hne e.symm)]
  exact hbk
 have d0 : w2.cell? ⟨b, 0, none⟩ = some (.pointer (some ⟨b, 0, none⟩)) := by rw [Lib.cell_of_heap hb2]; rfl
 have d1 : w2.cell? ⟨b, 1, none⟩ = some v := by rw [Lib.cell_of_heap hb2]; rfl
 have f1 : w2.frozen? ⟨b, 1, none⟩ = false := Lib.frozen_of_heap hb2 1
 obtain ⟨ao, n', cap, rfl⟩ : ∃ ao n' cap, v' = .slice ao n' cap := by
  rcases hown'.2 with ⟨hv, _⟩ | ⟨g, cap, cur, fz, hv, _⟩
  ·exact ⟨_, _, _, hv⟩
  ·exact ⟨_, _, _, hv⟩
 go_wp2
 go_ret2
 refine ⟨rfl, ⟨?_, ?_⟩, (hk1.trans (Kp.grown hgrow hown)).trans (Kp.set (p := ⟨b, 1, none⟩) hb2 (Or.inl rfl) _)⟩
 ·exact Lib.BuilderAtF.put (T := 93) (e := 5) hB hb2 (bs' := bs ++ Lib.strCells s) (by simpa [Lib.strCells_length] using hown') (by decide)
 ·exact (hb1.grown hgrow (by have := hb1.size; omega) (fun k hk => (hown.lt k hk).1)).setCell (p := ⟨b, 1, none⟩) hB _
theorem write_kp (B b : Nat) (l : List UInt8) (s : ByteArray) (w : World) (h : IsSb B b l w) (hlen : l.length + s.size ≤ 140737488355328) (hBw : B ≤ w.heap.size) :
  Calls Tryz.prog 76 #[.pointer (some ⟨b, 0, none⟩), .string s] w fun e w' => e = .returned (.tuple #[.int .i64 s.size, .nilIface]) ∧ IsSb B b (l ++ s.data.toList) w' ∧ Below B w w' ∧ Kp w w' := by
 refine (writeCells_kp B b (Lib.byteCells l) s w h (by rw [Lib.byteCells_length]; exact hlen) hBw).mono ?_
 rintro e w' ⟨rfl, ⟨h1, h2⟩, h3⟩
 refine ⟨rfl, .inr ?_, h2, h3⟩
 rw [Lib.byteCells_append]
 exact h1
/-! ### kids -/
def intV (k : Nat) : Value := .int .i64 k
def IntRow (B : Nat) (w : World) (v : Value) (ks : List Nat) : Prop := w.ownsRow B 3 1 v ks.length (ks.map intV)
theorem infoInt5 : (Tryz.prog.info? 3).map (fun i => (i.zero, i.size, i.bytes)) = some (some (.int .i64 0), 1, 8) := by kernel_rfl
theorem Tr.chain_len (ns : List Tr.N) : ∀ (f : Nat) (k : Int), (Tr.chain f ns k).length ≤ f
 | 0, _ => Nat.le_refl _
 | f + 1, k => by
  unfold Tr.chain
  split
  ·simp
  ·rw [List.length_cons]; have := Tr.chain_len ns f (Tr.nxt ns k.toNat); omega
structure KdI (W0 : World) (ns : List Tr.N) (n : Nat) (wr : World) (v : Value) (done : List Nat) (z : Int) : Prop where
 below : Below W0.heap.size W0 wr
 own : IntRow W0.heap.size wr v done
 eq : Tr.kidsOf ns n = done ++ Tr.chainOf ns z
theorem nd_links {w : World} {g o : Nat} {xs : List Nd} (hcl : ∀ (k : Nat) (hk : k < xs.length), ∀ j u, (xs[k].cs)[j]? = some u → w.cell? ⟨g, o + k * 7 + j, none⟩ = some u) (j : Nat) (hj : j < xs.length) :
  w.cell? ⟨g, o + j * 7 + 4, none⟩ = some (.int .i64 (Tr.fst (xs.map Nd.n) j)) ∧ w.cell? ⟨g, o + j * 7 + 5, none⟩ = some (.int .i64 (Tr.nxt (xs.map Nd.n) j)) := by
 have e : (xs.map Nd.n)[j]? = some xs[j].n := by rw [List.getElem?_map, List.getElem?_eq_getElem hj]; rfl
 refine ⟨hcl j hj 4 _ ?_, hcl j hj 5 _ ?_⟩
 ·unfold Tr.fst; rw [e]; rfl
 ·unfold Tr.nxt; rw [e]; rfl
set_option maxHeartbeats 4000000 in
set_option maxRecDepth 100000 in
theorem kids_any (w : World) (A : Option Addr) (c : Nat) (xs : List Nd) (hl : xs.length ≤ c) (hn : xs.length ≤ 4096) (hr : ReadsNd w w.heap.size A xs) (hk : Tr.Linked (xs.map Nd.n)) (n : Nat) (hn1 : n < xs.length) :
  Calls Tryz.prog 44 #[.agg #[.slice A xs.length c], .int .i64 n] w fun e w' => ∃ v, e = .returned v ∧ IntRow w.heap.size w' v (Tr.kidsOf (xs.map Nd.n) n) ∧ Below w.heap.size w w' := by
 obtain ⟨g, o, hA, hg, hcl⟩ := hr.row (by omega)
 subst hA
 obtain ⟨W0, hW0⟩ : ∃ W0, W0 = w.alloc (.cells #[.slice (some ⟨g, o, none⟩) xs.length c] 71) := ⟨_, rfl⟩
 have hb0 : Below w.heap.size w W0 := by rw [hW0]; exact (Below.refl _ _).alloc (Nat.le_refl _) _
 have hk0 : IsBlk W0 w.heap.size 71 #[.slice (some ⟨g, o, none⟩) xs.length c] := by rw [hW0]; exact IsBlk.new _ _ _
 have hs0 : W0.heap.size = w.heap.size + 1 := by rw [hW0]; simp
 have HCL := Lib.hid (fun w' (hb : Below w.heap.size w w') (j : Nat) (hj : j < xs.length) => (show w'.cell? ⟨g, o + j * 7 + 4, none⟩ = some (.int .i64 (Tr.fst (xs.map Nd.n) j)) ∧ w'.cell? ⟨g, o + j * 7 + 5, none⟩ = some (.int .i64 (Tr.nxt (xs.map Nd.n) j)) from
  ⟨(hb.cell (p := ⟨g, _, none⟩) hg).trans (nd_links hcl j hj).1, (hb.cell (p := ⟨g, _, none⟩) hg).trans (nd_links hcl j hj).2⟩))
 have HST := Lib.hid (fun (j : Nat) (hj : j < xs.length) => Tr.chain_step hk (k := j) (by rw [List.length_map]; exact hj))
 have HNX := Lib.hid (fun (j : Nat) (hj : j < xs.length) => (show Tr.nxt (xs.map Nd.n) j = -1 ∨ ((j : Int) < Tr.nxt (xs.map Nd.n) j ∧ Tr.nxt (xs.map Nd.n) j < xs.length) from by
  have := hk.nxt (k := j) (by rw [List.length_map]; exact hj)
  unfold Tr.Lk at this
  rwa [List.length_map] at this))
 have hfs : Tr.fst (xs.map Nd.n) n = -1 ∨ (0 ≤ Tr.fst (xs.map Nd.n) n ∧ Tr.fst (xs.map Nd.n) n < xs.length) := by
  have := hk.fst (k := n) (by rw [List.length_map]; exact hn1)
  unfold Tr.Lk at this
  rw [List.length_map] at this
  rcases this with h | h
  ·exact Or.inl h
  ·exact Or.inr ⟨by omega, h.2⟩
 have HKL := Lib.hid (show (Tr.kidsOf (xs.map Nd.n) n).length ≤ 4096 from by
  have := Tr.chain_len (xs.map Nd.n) (xs.map Nd.n).length (Tr.fst (xs.map Nd.n) n)
  rw [List.length_map] at this
  unfold Tr.kidsOf Tr.chainOf
  rw [List.length_map]; omega)
 have HS := Lib.hid (show KdI W0 (xs.map Nd.n) n W0 (.slice none 0 0) [] (Tr.fst (xs.map Nd.n) n) from ⟨Below.refl _ _, World.ownsRow_nil _ _ _ _, rfl⟩)
 have x4 := (HCL.out W0 hb0 n hn1).1
 rw [hW0] at x4
 have HB0 := Lib.hid hb0
 have HK0 := Lib.hid hk0
 have HE0 := Lib.hid hW0
 have HSZ := Lib.hid hs0
 have hn1' : (n : Int) < (xs.length : Int) := by omega
 have hl' : (xs.length : Int) ≤ (c : Int) := by omega
 have hFS := Lib.hid hfs
 obtain ⟨fs, hfse⟩ : ∃ z, z = Tr.fst (xs.map Nd.n) n := ⟨_, rfl⟩
 rw [← hfse] at x4 HS hFS
 clear hr hk hW0 hb0 hk0 hs0 hcl hfs hfse hg
 generalize xs.map Nd.n = ns at *
 go_enter Tryz.func44, Tryz.ntmps44
 go_wp2
 rw [← HE0.out]
 go_loopw [5, 6] (fun v kv wr => ∃ (z : Int) (done : List Nat), kv = .int .i64 z ∧ (z = -1 ∨ (0 ≤ z ∧ z < xs.length)) ∧ Hid (KdI W0 ns n wr v done z)) (fun _ kv _ => if intOf kv < 0 then 0 else xs.length - (intOf kv).toNat)
 case atStart => exact ⟨fs, [], rfl, hFS.out, HS⟩
 case round =>
  obtain ⟨z, done, rfl, hz, HI⟩ := hrel
  obtain ⟨Av, cv, hv, hc1, hc2, hc3⟩ := own_sliced HI.out.own
  subst hv
  by_cases hz1 : z = -1
  ·subst hz1
   have HE := Lib.hid (show Tr.kidsOf ns n = done from by rw [HI.out.eq, Tr.chain_end, List.append_nil])
   have HBW := Lib.hid (HB0.out.trans (HI.out.below.mono HB0.out.size))
   go_wp2
   go_ret
   exact ⟨_, rfl, by rw [HE.out]; exact own_less HI.out.own (by rw [HSZ.out]; omega), HBW.out⟩
  ·obtain ⟨j, rfl⟩ : ∃ j : Nat, z = j := ⟨z.toNat, by omega⟩
   have hj : j < xs.length := by omega
   have hj' : (j : Int) < (xs.length : Int) := by omega
   have hne : ((j : Int) == -1) = false := beq_eq_false_iff_ne.2 hz1
   have hne' : ((j : Int) != -1) = true := by simp [bne, hne]
   have HNJ := Lib.hid (HNX.out j hj)
   have HEQ := Lib.hid (show Tr.kidsOf ns n = (done ++ [j]) ++ Tr.chainOf ns (Tr.nxt ns j) from by rw [HI.out.eq, HST.out j hj, List.append_assoc]; rfl)
   have hdl : done.length ≤ 4096 := by
    have h1 := HKL.out
    rw [HI.out.eq, List.length_append] at h1; omega
   have HC5 := Lib.hid (fun w' (hb : Below w.heap.size w w') => (HCL.out w' hb j hj).2)
   obtain ⟨i0, hi, hz0, hz1', hz2⟩ := info_parts infoInt5
   have hbig : done.length + 1 ≤ maxLen := by unfold maxLen; omega
   have HOWN := Lib.hid HI.out.own
   have hws : W0.heap.size ≤ wr.heap.size := HI.out.below.size
   have HBL := Lib.hid HI.out.below
   obtain ⟨nz, hnz⟩ : ∃ z, z = Tr.nxt ns j := ⟨_, rfl⟩
   rw [← hnz] at HNJ HEQ HC5
   clear hz hz1 hnz hc3
   go_wp2_with (at_builtin; (refine wpList_append_own _ rfl _ _ _ rfl W0.heap.size 3 i0 _ 1 8 Tryz.underlying45 hi hz0 hz1' hz2 rfl (by omega) (.slice Av done.length cv) done.length (done.map intV) (by rfl) (by exact HOWN.out.alloc _) _ 1 _ [.int .i64 j] (by rfl) rfl (by intro j u hu; exact news_at _ _ _ _ (by simp) j u hu) (by intro u hu; simp at hu; subst hu; rfl) hbig (by omega) (by simp; omega) ?_); intro v3 w3 hown3 hgr3 _; obtain ⟨A3, c3, hv3, _, _, _⟩ := own_sliced hown3; subst hv3; have B3 := Lib.hid (HBL.out.trans (Below.grown ((Below.refl W0.heap.size wr).alloc hws _) hgr3 (by simp; omega) (fun k hk => (HOWN.out.lt k hk).1))); have t0 : w3.cell? ⟨w.heap.size, 0, none⟩ = some (.slice (some ⟨g, o, none⟩) xs.length c) := (HK0.out.below B3.out (by rw [HSZ.out]; omega)).at_ 0; have a5 := HC5.out w3 (HB0.out.trans (B3.out.mono HB0.out.size)))
   go_roundw
   case rel => exact ⟨nz, done ++ [j], rfl, by rcases HNJ.out with h | h <;> omega, Lib.hid ⟨B3.out, by unfold IntRow; rw [List.length_append, List.map_append]; exact hown3, HEQ.out⟩⟩
   case measure =>
    have e2 : ¬ (j : Int) < 0 := by omega
    rcases HNJ.out with h | h
    ·subst h; simp [intOf, e2]; omega
    ·have e1 : ¬ nz < 0 := by omega
     simp [intOf, e1, e2]; omega
end Go.Proofs.YteadfpkihhaadaaGreatDoor
namespace Go.Proofs.YteadfpkihhaadaaGreatDoor
open Go.RowKit Go.Shelf
structure WrI (B b : Nat) (w : World) (p : Nat) (rc nc : Array Value) (wx : World) (cur : List UInt8) : Prop where
 bl : Below B w wx
 sb : IsSb B b cur wx
 row : IsBlk wx p 71 rc
 nd : IsBlk wx (p + 1) 49 nc
 kp : Kp w wx
 base : B ≤ w.heap.size
theorem WrI.on {B b : Nat} {w : World} {p : Nat} {rc nc : Array Value} {wx wy : World} {cur : List UInt8} (h : WrI B b w p rc nc wx cur) (hb : Below wx.heap.size wx wy) : WrI B b w p rc nc wy cur :=
 ⟨h.bl.trans (hb.mono (Nat.le_trans h.base h.bl.size)), h.sb.below hb, h.row.below hb h.row.lt, h.nd.below hb h.nd.lt, h.kp.on hb, h.base⟩
theorem WrI.wrote {B b : Nat} {w : World} {p : Nat} {rc nc : Array Value} {wx wy : World} {cur cur' : List UInt8} (h : WrI B b w p rc nc wx cur) (hb : Below B wx wy) (hk : Kp wx wy) (hs : IsSb B b cur' wy) : WrI B b w p rc nc wy cur' :=
 ⟨h.bl.trans hb, hs, hk.blk h.row (by decide) (by decide), hk.blk h.nd (by decide) (by decide), h.kp.trans hk, h.base⟩
theorem WrI.write {B b : Nat} {w : World} {p : Nat} {rc nc : Array Value} {wx : World} {cur : List UInt8} (h : WrI B b w p rc nc wx cur) (s : ByteArray) (hl : cur.length + s.size ≤ 140737488355328) :
  Calls Tryz.prog 76 #[.pointer (some ⟨b, 0, none⟩), .string s] wx fun e w' => e = .returned (.tuple #[.int .i64 s.size, .nilIface]) ∧ WrI B b w p rc nc w' (cur ++ s.data.toList) ∧ Kp wx w' := by
 refine (write_kp B b cur s wx h.sb hl (Nat.le_trans h.base h.bl.size)).mono ?_
 rintro e w' ⟨rfl, h1, h2, h3⟩
 exact ⟨rfl, h.wrote h2 h3 h1, h3⟩
theorem Tk.asw_take_le (al : List (List UInt8 × List UInt8)) {q : Nat} (hq : q < al.length) : (Tk.asw (al.take q)).length + (Tk.aw al[q]).length ≤ (Tk.asw al).length := by
 have e : al = al.take q ++ al[q] :: al.drop (q + 1) := by rw [← List.drop_eq_getElem_cons hq, List.take_append_drop]
 conv => rhs; rw [e]
 unfold Tk.asw
 rw [List.flatMap_append, List.length_append, List.flatMap_cons, List.length_append]
 omega
theorem Tr.fm_take_le (f : Nat → List UInt8) (l : List Nat) {q : Nat} (hq : q < l.length) : ((l.take q).flatMap f).length + (f l[q]).length ≤ (l.flatMap f).length := by
 have e : l = l.take q ++ l[q] :: l.drop (q + 1) := by rw [← List.drop_eq_getElem_cons hq, List.take_append_drop]
 conv => rhs; rw [e]
 rw [List.flatMap_append, List.length_append, List.flatMap_cons, List.length_append]
 omega
theorem Tr.fm_snoc (f : Nat → List UInt8) (l : List Nat) {q : Nat} (hq : q < l.length) : (l.take (q + 1)).flatMap f = (l.take q).flatMap f ++ f l[q] := by
 rw [List.take_succ_eq_append_getElem hq, List.flatMap_append]; simp
structure WrOk (w0 : World) (A : Option Addr) (c : Nat) (xs : List Nd) : Prop where
 tb : Tb w0
 le : xs.length ≤ c
 cm : c ≤ maxLen
 n : xs.length ≤ 4096
 rd : ReadsNd w0 w0.heap.size A xs
 lk : Tr.Linked (xs.map Nd.n)
 pr : ∀ x ∈ xs, Tr.proper x.n = true
 ft : ∀ x ∈ xs, NdFit x
def WrtP (B b : Nat) (cur : List UInt8) (w : World) (e : Ending) (w' : World) : Prop := e = .returned (.tuple #[]) ∧ IsSb B b cur w' ∧ Below B w w' ∧ Kp w w'
theorem wr_parts {l nm asw enc kids W : List UInt8} {N XE : ByteArray} (hN : N.data.toList = nm) (hX : XE.data.toList = enc) (hW : W = 60 :: (nm ++ (asw ++ 62 :: (enc ++ (kids ++ 60 :: 47 :: (nm ++ [62])))))) (hl : l.length + W.length ≤ 140737488355328) :
  (l ++ 60 :: (nm ++ asw)).length + (⟨#[62]⟩ ++ XE : ByteArray).size ≤ 140737488355328 ∧
  (l ++ 60 :: (nm ++ asw) ++ 62 :: enc).length + kids.length ≤ 140737488355328 ∧
  (l ++ 60 :: (nm ++ asw) ++ 62 :: enc ++ kids).length + (⟨#[60, 47]⟩ ++ N ++ ⟨#[62]⟩ : ByteArray).size ≤ 140737488355328 ∧
  (l ++ 60 :: (nm ++ asw)) ++ (⟨#[62]⟩ ++ XE : ByteArray).data.toList = l ++ 60 :: (nm ++ asw) ++ 62 :: enc ∧
  (l ++ 60 :: (nm ++ asw) ++ 62 :: enc ++ kids) ++ (⟨#[60, 47]⟩ ++ N ++ ⟨#[62]⟩ : ByteArray).data.toList = l ++ W := by
 have e1 : (⟨#[62]⟩ ++ XE : ByteArray).data.toList = 62 :: enc := by rw [ByteArray.data_append, Array.toList_append, hX]; rfl
 have e2 : (⟨#[60, 47]⟩ ++ N ++ ⟨#[62]⟩ : ByteArray).data.toList = 60 :: 47 :: (nm ++ [62]) := by
  rw [ByteArray.data_append, Array.toList_append, ByteArray.data_append, Array.toList_append, hN]; rfl
 subst hW
 rw [Lib.size_eq, Lib.size_eq, e1, e2]
 simp only [List.length_append, List.length_cons, List.length_nil] at hl ⊢
 refine ⟨by omega, by omega, by omega, by first | trivial | rfl, by simp [List.append_assoc]⟩
set_option maxHeartbeats 16000000 in
set_option maxRecDepth 100000 in
theorem roww_any (w0 : World) (A : Option Addr) (c : Nat) (xs : List Nd) (hok : WrOk w0 A c xs) (B : Nat) (hB : w0.heap.size ≤ B) (b : Nat) (d : Nat) : ∀ (n : Nat), n < xs.length → xs.length - n ≤ d → ∀ (w : World) (l : List UInt8), Below B w0 w → B ≤ w.heap.size → IsSb B b l w → l.length + (Tr.wrOf (xs.map Nd.n) n).length ≤ 140737488355328 →
  Calls Tryz.prog 38 #[.agg #[.slice A xs.length c], .pointer (some ⟨b, 0, none⟩), .int .i64 n] w (WrtP B b (l ++ Tr.wrOf (xs.map Nd.n) n) w) := by
 induction d with
 | zero => intro n hn hd; omega
 | succ d ih =>
  intro n hn hd w l hbw hBw hsb hlen
  obtain ⟨g, o, hA, hg, hcl⟩ := hok.rd.row (by omega)
  subst hA
  have HIH0 := Lib.hid (fun (j : Nat) (h1 : n < j) (h2 : j < xs.length) => ih j h2 (by omega))
  clear ih
  have hst0 : ∀ ns, ns = xs.map Nd.n → Tr.wrOf ns n = 60 :: (xs[n].n.nm ++ (Tk.asw xs[n].n.al ++ (if xs[n].n.tx = [] ∧ xs[n].n.fi = -1 then [47, 62] else 62 :: (En.encB false xs[n].n.tx ++ ((Tr.kidsOf ns n).flatMap (Tr.wrOf ns) ++ 60 :: 47 :: (xs[n].n.nm ++ [62])))))) := by
   rintro ns rfl
   rw [Tr.wr_step hok.lk (n := n) (by rw [List.length_map]; exact hn)]
   simp only [List.getElem_map]
  have hks := Tr.kids_in hok.lk (n := n) (by rw [List.length_map]; exact hn)
  rw [List.length_map] at hks
  have hpr := Tr.proper_iff.1 (hok.pr _ (List.getElem_mem hn))
  have hft := hok.ft _ (List.getElem_mem hn)
  have hnd := hok.rd.att _ (List.getElem_mem hn)
  have hcs := hcl n hn
  have HTB := Lib.hid (fun wx (hb : Below B w wx) => hok.tb.below (hbw.trans hb) hB)
  have HKD := Lib.hid (fun wx (hb : Below B w wx) => kids_any wx (some ⟨g, o, none⟩) c xs hok.le hok.n ((hok.rd.below ((hbw.trans hb).mono hB)).more (Nat.le_trans hB (Nat.le_trans hBw hb.size))) hok.lk n hn)
  have HKS := Lib.hid hks
  have hn' : (n : Int) < (xs.length : Int) := by omega
  have hlc : (xs.length : Int) ≤ (c : Int) := by have := hok.le; omega
  clear hok hcl hks
  obtain ⟨ns, hns⟩ : ∃ ns, ns = xs.map Nd.n := ⟨_, rfl⟩
  have hst := hst0 ns hns
  rw [← hns] at hlen HKS HKD HIH0 ⊢
  clear hns hst0
  generalize xs[n] = x at *
  obtain ⟨⟨nm, al, tx, pa, fi, nx, at0⟩, Ax, cx⟩ := x
  try simp only at hst
  try simp only at hpr
  obtain ⟨hp1, hp2, hp3, hp4, hp5, hp6⟩ := hpr
  try simp only at hp1
  try simp only at hp2
  try simp only at hp3
  try simp only at hp4
  try simp only at hp5
  try simp only at hp6
  obtain ⟨f1, f2, f3, f4⟩ := hft
  try simp only at f1
  try simp only at f2
  try simp only at f3
  try simp only at f4
  have HATT := Lib.hid (fun wx (hb : Below B w wx) => (show Reads2o wx wx.heap.size Ax al from (((hnd.below ((hbw.trans hb).mono hB)).more (Nat.le_trans hB (Nat.le_trans hBw hb.size))).att)))
  have hcx : (al.length : Int) ≤ (cx : Int) := by have := hnd.len; simp only at this; omega
  have hall : (al.length : Int) ≤ 32 := by omega
  clear hnd
  obtain ⟨rc, hrc⟩ : ∃ rc : Array Value, rc = #[.slice (some ⟨g, o, none⟩) xs.length c] := ⟨_, rfl⟩
  obtain ⟨N, hN⟩ : ∃ N : ByteArray, N = ⟨nm.toArray⟩ := ⟨_, rfl⟩
  obtain ⟨X, hX⟩ : ∃ N : ByteArray, N = ⟨tx.toArray⟩ := ⟨_, rfl⟩
  obtain ⟨nc, hnc⟩ : ∃ nc : Array Value, nc = #[.string N, .slice Ax al.length cx, .string X, .int .i64 pa, .int .i64 fi, .int .i64 nx, .int .i64 at0] := ⟨_, rfl⟩
  obtain ⟨W0, hW0⟩ : ∃ W0, W0 = w.alloc (.cells rc 71) := ⟨_, rfl⟩
  obtain ⟨W1, hW1⟩ : ∃ W1, W1 = W0.alloc (.cells nc 49) := ⟨_, rfl⟩
  have hb0 : Below w.heap.size w W0 := by rw [hW0]; exact (Below.refl _ _).alloc (Nat.le_refl _) _
  have hb1 : Below W0.heap.size W0 W1 := by rw [hW1]; exact (Below.refl _ _).alloc (Nat.le_refl _) _
  have hs0 : W0.heap.size = w.heap.size + 1 := by rw [hW0]; simp
  have hk0 : IsBlk W0 w.heap.size 71 rc := by rw [hW0]; exact IsBlk.new _ _ _
  have hk1 : IsBlk W1 (w.heap.size + 1) 49 nc := by rw [hW1, ← hs0]; exact IsBlk.new _ _ _
  have hb01 : Below w.heap.size w W1 := hb0.trans (hb1.mono hb0.size)
  have HI1 := Lib.hid (show WrI B b w w.heap.size rc nc W1 l from ⟨hb01.mono hBw, hsb.below hb01, hk0.below hb1 hk0.lt, hk1, Kp.of_below hb01, hBw⟩)
  have hNd : N.data.toList = nm := by rw [hN]
  have hXd : X.data.toList = tx := by rw [hX]
  have hNs : N.size = nm.length := by rw [Lib.size_eq, hNd]
  have hXs : X.size = tx.length := by rw [Lib.size_eq, hXd]
  have hisl := Nm.isn_len hp1
  have hN64 : N.size ≤ 64 := by omega
  have hcl2 : ∀ wx, Below w.heap.size w wx → ∀ j u, (nc)[j]? = some u → wx.cell? ⟨g, o + n * 7 + j, none⟩ = some u := fun wx hb j u hu => by
   refine (((hb.mono (Nat.le_trans hB hBw))).cell (p := ⟨g, _, none⟩) hg).trans (((hbw.mono hB).cell (p := ⟨g, _, none⟩) hg).trans (hcs j u ?_))
   rw [hnc, hN, hX] at hu
   exact hu
  have a0 : W0.cell? ⟨g, o + n * 7, none⟩ = some (.string N) := hcl2 W0 hb0 0 _ (by rw [hnc]; rfl)
  have a1 : W0.cell? ⟨g, o + n * 7 + 1, none⟩ = some (.slice Ax al.length cx) := hcl2 W0 hb0 1 _ (by rw [hnc]; rfl)
  have a2 : W0.cell? ⟨g, o + n * 7 + 2, none⟩ = some (.string X) := hcl2 W0 hb0 2 _ (by rw [hnc]; rfl)
  have a3 : W0.cell? ⟨g, o + n * 7 + 3, none⟩ = some (.int .i64 pa) := hcl2 W0 hb0 3 _ (by rw [hnc]; rfl)
  have a4 : W0.cell? ⟨g, o + n * 7 + 4, none⟩ = some (.int .i64 fi) := hcl2 W0 hb0 4 _ (by rw [hnc]; rfl)
  have a5 : W0.cell? ⟨g, o + n * 7 + 5, none⟩ = some (.int .i64 nx) := hcl2 W0 hb0 5 _ (by rw [hnc]; rfl)
  have a6 : W0.cell? ⟨g, o + n * 7 + 6, none⟩ = some (.int .i64 at0) := hcl2 W0 hb0 6 _ (by rw [hnc]; rfl)
  have HIH := Lib.hid (fun (j : Nat) (h1 : n < j) (h2 : j < xs.length) (wx : World) (cur : List UInt8) (hw : WrI B b w w.heap.size rc nc wx cur) (hl : cur.length + (Tr.wrOf ns j).length ≤ 140737488355328) => HIH0.out j h1 h2 wx cur (hbw.trans hw.bl) (Nat.le_trans hBw hw.bl.size) hw.sb hl)
  have hVX := Tr.chs_valid hp3
  obtain ⟨XE, hXE⟩ : ∃ S : ByteArray, S = ⟨(En.encB false tx).toArray⟩ := ⟨_, rfl⟩
  have hXEd : XE.data.toList = En.encB false tx := by rw [hXE]
  have hXEs : XE.size = (En.encB false tx).length := by rw [Lib.size_eq, hXEd]
  have hXEl := Tk.encB_len false tx
  have hXEb : XE.size ≤ 6291456 := by omega
  have HEX := Lib.hid (fun wx (hb : Below B w wx) => (show Calls Tryz.prog 77 #[.string X, .bool false] wx fun e w' => e = .returned (.tuple #[.string XE, .int .i64 0]) ∧ Below wx.heap.size wx w' from by
   have := encode_ent X false (by omega) wx (HTB.out wx hb)
   rw [hXd, En.rep_eF_of hVX] at this
   simp only [← hXE] at this
   exact this))
  have HEA := Lib.hid (fun (q : Nat) (hq : q < al.length) (V VE : ByteArray) (hV : V = ⟨al[q].2.toArray⟩) (hVE : VE = ⟨(En.encB true al[q].2).toArray⟩) wx (hb : Below B w wx) => (show Calls Tryz.prog 77 #[.string V, .bool true] wx fun e w' => e = .returned (.tuple #[.string VE, .int .i64 0]) ∧ Below wx.heap.size wx w' from by
   have hm := List.getElem_mem hq
   have hVd : V.data.toList = al[q].2 := by rw [hV]
   have := encode_ent V true (by rw [Lib.size_eq, hVd]; have := (f4 _ hm).2; omega) wx (HTB.out wx hb)
   rw [hVd, En.rep_eF_of (Tr.chs_valid (hp6 _ hm).2)] at this
   simp only [← hVE] at this
   exact this))
  have HA6 := Lib.hid (fun (q : Nat) (hq : q < al.length) => (show al[q].1.length ≤ 64 ∧ al[q].2.length ≤ 1048576 from ⟨(Nm.isn_len (hp6 _ (List.getElem_mem hq)).1).2, (f4 _ (List.getElem_mem hq)).2⟩))
  obtain ⟨cur1, hcur1⟩ : ∃ c, c = l ++ 60 :: (nm ++ Tk.asw al) := ⟨_, rfl⟩
  have hwl : (Tr.wrOf ns n).length = 1 + nm.length + (Tk.asw al).length + (if tx = [] ∧ fi = -1 then [47, 62] else 62 :: (En.encB false tx ++ ((Tr.kidsOf ns n).flatMap (Tr.wrOf ns) ++ 60 :: 47 :: (nm ++ [62])))).length := by
   rw [hst]; simp only [List.length_cons, List.length_append]; omega
  have HS1 := Lib.hid (show l ++ (⟨#[60]⟩ ++ N : ByteArray).data.toList = l ++ 60 :: (nm ++ Tk.asw (al.take 0)) from by rw [ByteArray.data_append, Array.toList_append, hNd]; simp [Tk.asw])
  have HL1 := Lib.hid (show l.length + (⟨#[60]⟩ ++ N : ByteArray).size ≤ 140737488355328 from by
   rw [Lib.size_eq, ByteArray.data_append, Array.toList_append, List.length_append, ← Lib.size_eq N, hNs]
   show l.length + (1 + nm.length) ≤ _
   omega)
  have HLA := Lib.hid (fun (q : Nat) (hq : q < al.length) => (show (l ++ 60 :: (nm ++ Tk.asw (al.take q))).length + (Tk.aw al[q]).length ≤ 140737488355328 from by
   have := Tk.asw_take_le al hq
   simp only [List.length_append, List.length_cons]
   omega))
  have HTK := Lib.hid (fun (q : Nat) (hq : q < al.length) => (show l ++ 60 :: (nm ++ Tk.asw (al.take (q + 1))) = (l ++ 60 :: (nm ++ Tk.asw (al.take q))) ++ Tk.aw al[q] from by
   rw [take_snoc_ hq, Tk.asw_snoc]; simp [List.append_assoc]))
  have HCU1 := Lib.hid (show l ++ 60 :: (nm ++ Tk.asw (al.take al.length)) = cur1 from by rw [hcur1, List.take_length])
  have HEM := Lib.hid (show tx = [] ∧ fi = -1 → cur1.length + 2 ≤ 140737488355328 ∧ cur1 ++ [47, 62] = l ++ Tr.wrOf ns n from fun h => by
   rw [if_pos h] at hwl hst
   rw [hcur1, hst]
   refine ⟨?_, by simp [List.append_assoc]⟩
   simp only [List.length_append, List.length_cons, List.length_nil] at hwl ⊢
   omega)
  have HND := Lib.hid (And.intro hNd hNs)
  have hteq : X.toList = tx := by rw [Lib.toList_data, hXd]
  have HTE := Lib.hid hteq
  have HST := Lib.hid hst
  have HWL := Lib.hid hlen
  have HXE := Lib.hid hXEd
  have HC1 := Lib.hid hcur1
  have HRC := Lib.hid hrc
  have HNC := Lib.hid hnc
  rw [hW0] at a0 a1 a2 a3 a4 a5 a6
  rw [hnc] at hW1
  rw [hrc] at hW0 a0 a1 a2 a3 a4 a5 a6
  have HE0 := Lib.hid hW0
  have HE1 := Lib.hid hW1
  clear hst hwl hlen hXEd hXE hXEs hXEl hcur1 hrc hnc hN hX hNd hXd hNs hXs hteq hVX hp1 hp2 hp3 hp4 hp5 hp6 f1 f2 f3 f4 hW0 hW1 hb0 hb1 hs0 hk0 hk1 hb01 hcl2 hcs hisl hsb hbw hB hg hn hd HIH0 HTB
  go_enter Tryz.func38, Tryz.ntmps38
  go_wp2_with fail
  rw [← HE0.out, ← HE1.out]
  refine (WrI.write HI1.out _ HL1.out).mono ?_
  rintro e w2 ⟨rfl, h2, _⟩
  have HI2 := Lib.hid (show WrI B b w w.heap.size rc nc w2 (l ++ 60 :: (nm ++ Tk.asw (al.take 0))) from by rw [← HS1.out]; exact h2)
  have n1 : w2.cell? ⟨w.heap.size + 1, 1, none⟩ = some (.slice Ax al.length cx) := by rw [h2.nd.at_, HNC.out]; rfl
  clear h2 a0 a1 a2 a3 a4 a5 a6
  go_wp2
  go_loopw [28] (fun i wr => ∃ q : Nat, i = .int .i64 q ∧ q ≤ al.length ∧ Hid (WrI B b w w.heap.size rc nc wr (l ++ 60 :: (nm ++ Tk.asw (al.take q))))) (fun i _ => al.length - (intOf i).toNat)
  case atStart => exact ⟨0, rfl, Nat.zero_le _, HI2⟩
  case round =>
   obtain ⟨q, rfl, hq, HJ⟩ := hrel
   by_cases hql : q < al.length
   ·have hql' : (q : Int) < (al.length : Int) := by omega
    obtain ⟨ga, oa, hAa, hga, hca⟩ := (HATT.out wr HJ.out.bl) (by omega)
    subst hAa
    obtain ⟨d0, d1⟩ := hca q hql
    have HL := Lib.hid (HLA.out q hql)
    have HT := Lib.hid (HTK.out q hql)
    have h6 := HA6.out q hql
    have HE := Lib.hid (HEA.out q hql)
    have HQL := Lib.hid hql
    clear hca
    generalize al[q] = a at *
    obtain ⟨U, hU⟩ : ∃ N : ByteArray, N = ⟨a.1.toArray⟩ := ⟨_, rfl⟩
    obtain ⟨V, hV⟩ : ∃ N : ByteArray, N = ⟨a.2.toArray⟩ := ⟨_, rfl⟩
    obtain ⟨VE, hVE⟩ : ∃ N : ByteArray, N = ⟨(En.encB true a.2).toArray⟩ := ⟨_, rfl⟩
    rw [← hU] at d0
    rw [← hV] at d1
    have HEV := Lib.hid (HE.out V VE hV hVE)
    have hUd : U.data.toList = a.1 := by rw [hU]
    have hVEd : VE.data.toList = En.encB true a.2 := by rw [hVE]
    have hUb : U.size ≤ 64 := by rw [Lib.size_eq, hUd]; exact h6.1
    have hVEb : VE.size ≤ 6291456 := by rw [Lib.size_eq, hVEd]; have := Tk.encB_len true a.2; omega
    have hsd : (⟨#[32]⟩ ++ U ++ ⟨#[61, 34]⟩ ++ VE ++ ⟨#[34]⟩ : ByteArray).data.toList = Tk.aw a := by
     unfold Tk.aw
     simp only [ByteArray.data_append, Array.toList_append, hUd, hVEd]
     simp
    have HSD := Lib.hid hsd
    have HLL := Lib.hid (show (l ++ 60 :: (nm ++ Tk.asw (al.take q))).length + (⟨#[32]⟩ ++ U ++ ⟨#[61, 34]⟩ ++ VE ++ ⟨#[34]⟩ : ByteArray).size ≤ 140737488355328 from by rw [Lib.size_eq, hsd]; exact HL.out)
    have hbs := HJ.out.base
    have hbz := HJ.out.bl.size
    clear hU hV hVE hUd hVEd hsd h6 hql
    go_wp2_with fail
    refine (HEV.out _ ?_).mono ?_
    ·exact HJ.out.bl.trans ((Below.refl _ _).alloc (by omega) _)
    rintro e w3 ⟨rfl, h3⟩
    have k0 : w3.cell? ⟨wr.heap.size, 0, none⟩ = some (.string U) := (h3.cell (p := ⟨wr.heap.size, 0, none⟩) (by simp)).trans (by rw [(IsBlk.new wr _ _).at_]; rfl)
    have HI3 := Lib.hid (HJ.out.on (((Below.refl _ _).alloc (Nat.le_refl _) _).trans (h3.mono (by simp))))
    clear h3 d0 d1 hbs hbz
    go_wp2_with fail
    refine (WrI.write HI3.out _ HLL.out).mono ?_
    rintro e w4 ⟨rfl, h4, _⟩
    have HN := Lib.hid (show WrI B b w w.heap.size rc nc w4 (l ++ 60 :: (nm ++ Tk.asw (al.take (q + 1)))) from by rw [HT.out, ← HSD.out]; exact h4)
    clear h4 k0
    go_wp2
    go_roundw
    case rel => exact ⟨q + 1, by go_num, HQL.out, HN⟩
    case measure => have := HQL.out; simp [intOf]; omega
   ·obtain rfl : q = al.length := by omega
    have hql' : ¬ ((al.length : Nat) : Int) < (al.length : Int) := by omega
    have HI3 := Lib.hid (show WrI B b w w.heap.size rc nc wr cur1 from by rw [← HCU1.out]; exact HJ.out)
    have n2 : wr.cell? ⟨w.heap.size + 1, 2, none⟩ = some (.string X) := by rw [HI3.out.nd.at_, HNC.out]; rfl
    have n4 : wr.cell? ⟨w.heap.size + 1, 4, none⟩ = some (.int .i64 fi) := by rw [HI3.out.nd.at_, HNC.out]; rfl
    clear hql hq HJ
    by_cases htx : tx = []
    ·have he : X.toList = [] := by rw [HTE.out]; exact htx
     by_cases hfi : fi = -1
     ·have HEE := Lib.hid (HEM.out ⟨htx, hfi⟩)
      subst hfi
      clear htx
      go_wp2_with fail
      refine (WrI.write HI3.out ⟨#[47, 62]⟩ HEE.out.1).mono ?_
      rintro e w4 ⟨rfl, h4, _⟩
      have HF := Lib.hid (show IsSb B b (l ++ Tr.wrOf ns n) w4 ∧ Below B w w4 ∧ Kp w w4 from ⟨by rw [← HEE.out.2]; exact h4.sb, h4.bl, h4.kp⟩)
      clear h4 n2 n4
      go_wp2
      go_end0
      exact ⟨rfl, HF.out⟩
     ·have hfb : (fi == -1) = false := beq_eq_false_iff_ne.2 hfi
      have hcond : ¬ (tx = [] ∧ fi = -1) := fun h => hfi h.2
      clear htx hfi
      obtain ⟨cur2, hcur2⟩ : ∃ c, c = cur1 ++ 62 :: En.encB false tx := ⟨_, rfl⟩
      have hparts := wr_parts (l := l) (N := N) (XE := XE) HND.out.1 HXE.out (HST.out.trans (by rw [if_neg hcond])) HWL.out
      rw [← HC1.out, ← hcur2] at hparts
      obtain ⟨q1, q2, q3, q4, q5⟩ := hparts
      have HL2 := Lib.hid q1
      have HL3 := Lib.hid q2
      have HL4 := Lib.hid q3
      have HC2 := Lib.hid q4.symm
      have HFIN := Lib.hid q5.symm
      clear q1 q2 q3 q4 q5 hcur2 hcond
      go_wp2_with fail
      refine (HEX.out _ ?_).mono ?_
      ·exact HI3.out.bl
      rintro e w4 ⟨rfl, h4⟩
      have HI4 := Lib.hid (HI3.out.on h4)
      clear h4 n2 n4
      go_wp2_with fail
      refine (WrI.write HI4.out _ HL2.out).mono ?_
      rintro e w5 ⟨rfl, h5, _⟩
      have HI5 := Lib.hid (show WrI B b w w.heap.size rc nc w5 cur2 from by rw [HC2.out]; exact h5)
      have r5 : w5.cell? ⟨w.heap.size, 0, none⟩ = some (.slice (some ⟨g, o, none⟩) xs.length c) := by rw [h5.row.at_, HRC.out]; rfl
      clear h5
      go_wp2_with fail
      refine (HKD.out w5 HI5.out.bl).mono ?_
      rintro e w6 ⟨kv, rfl, hkv, h6⟩
      obtain ⟨Ak, ck, hv, hk1, hk2, hk3⟩ := own_sliced hkv
      subst hv
      have HI6 := Lib.hid (HI5.out.on h6)
      have HKV := Lib.hid (own_less hkv (Nat.zero_le _))
      have HK3 := Lib.hid hk3
      clear h6 r5 hkv hk3
      have hkl' : ((Tr.kidsOf ns n).length : Int) ≤ 9223372036854775807 := by unfold maxLen at hk2; omega
      have hkc : ((Tr.kidsOf ns n).length : Int) ≤ (ck : Int) := by omega
      clear hk1 hk2
      generalize Tr.kidsOf ns n = ks at *
      go_wp2
      go_loopw [72] (fun i wr => ∃ q : Nat, i = .int .i64 q ∧ q ≤ ks.length ∧ Hid (WrI B b w w.heap.size rc nc wr (cur2 ++ (ks.take q).flatMap (Tr.wrOf ns)) ∧ IntRow 0 wr (.slice Ak ks.length ck) ks)) (fun i _ => ks.length - (intOf i).toNat)
      case atStart => exact ⟨0, rfl, Nat.zero_le _, Lib.hid ⟨by simpa using HI6.out, HKV.out⟩⟩
      case round =>
       obtain ⟨q, rfl, hq, HJ⟩ := hrel
       by_cases hql : q < ks.length
       ·have hql' : (q : Int) < (ks.length : Int) := by omega
        obtain ⟨gk, hAk, _, _⟩ := HK3.out (by omega)
        subst hAk
        have kc : wr.cell? ⟨gk, q, none⟩ = some (.int .i64 ks[q]) := by
         have := World.ownsRow.cellAt HJ.out.2 q (by omega)
         rw [this, List.getElem?_map, List.getElem?_eq_getElem hql]; rfl
        have HJI := Lib.hid (HKS.out ks[q] (List.getElem_mem hql))
        have HJL := Lib.hid (Tr.fm_take_le (Tr.wrOf ns) ks hql)
        have HJS := Lib.hid (Tr.fm_snoc (Tr.wrOf ns) ks hql)
        have rr : wr.cell? ⟨w.heap.size, 0, none⟩ = some (.slice (some ⟨g, o, none⟩) xs.length c) := by rw [HJ.out.1.row.at_, HRC.out]; rfl
        have HQL := Lib.hid hql
        generalize ks[q] = j at *
        clear hql
        go_wp2_with fail
        refine (HIH.out j HJI.out.1 HJI.out.2 wr (cur2 ++ (ks.take q).flatMap (Tr.wrOf ns)) HJ.out.1 ?_).mono ?_
        ·have h1 := HL3.out; have h2 := HJL.out; rw [List.length_append]; omega
        rintro e w7 ⟨rfl, h7, h8, h9⟩
        have HN := Lib.hid (show WrI B b w w.heap.size rc nc w7 (cur2 ++ (ks.take (q + 1)).flatMap (Tr.wrOf ns)) ∧ IntRow 0 w7 (.slice (some ⟨gk, 0, none⟩) ks.length ck) ks from ⟨by rw [HJS.out, ← List.append_assoc]; exact HJ.out.1.wrote h8 h9 h7, h9.own HJ.out.2 (by decide) (by decide)⟩)
        clear h7 h8 h9 kc rr
        go_wp2
        go_roundw
        case rel => exact ⟨q + 1, by go_num, HQL.out, HN⟩
        case measure => have := HQL.out; simp [intOf]; omega
       ·obtain rfl : q = ks.length := by omega
        have hql' : ¬ ((ks.length : Nat) : Int) < (ks.length : Int) := by omega
        have HI7 := Lib.hid (show WrI B b w w.heap.size rc nc wr (cur2 ++ ks.flatMap (Tr.wrOf ns)) from by have := HJ.out.1; rwa [List.take_length] at this)
        have n0 : wr.cell? ⟨w.heap.size + 1, 0, none⟩ = some (.string N) := by rw [HJ.out.1.nd.at_, HNC.out]; rfl
        clear hql
        go_wp2_with fail
        refine (WrI.write HI7.out _ HL4.out).mono ?_
        rintro e w8 ⟨rfl, h8, _⟩
        have HF := Lib.hid (show IsSb B b (l ++ Tr.wrOf ns n) w8 ∧ Below B w w8 ∧ Kp w w8 from ⟨by rw [HFIN.out]; exact h8.sb, h8.bl, h8.kp⟩)
        clear h8 n0
        go_wp2
        go_end0
        exact ⟨rfl, HF.out⟩
    ·have he : ¬ X.toList = [] := by rw [HTE.out]; exact htx
     have hcond : ¬ (tx = [] ∧ fi = -1) := fun h => htx h.1
     clear htx
     obtain ⟨cur2, hcur2⟩ : ∃ c, c = cur1 ++ 62 :: En.encB false tx := ⟨_, rfl⟩
     have hparts := wr_parts (l := l) (N := N) (XE := XE) HND.out.1 HXE.out (HST.out.trans (by rw [if_neg hcond])) HWL.out
     rw [← HC1.out, ← hcur2] at hparts
     obtain ⟨q1, q2, q3, q4, q5⟩ := hparts
     have HL2 := Lib.hid q1
     have HL3 := Lib.hid q2
     have HL4 := Lib.hid q3
     have HC2 := Lib.hid q4.symm
     have HFIN := Lib.hid q5.symm
     clear q1 q2 q3 q4 q5 hcur2 hcond
     go_wp2_with fail
     refine (HEX.out _ ?_).mono ?_
     ·exact HI3.out.bl
     rintro e w4 ⟨rfl, h4⟩
     have HI4 := Lib.hid (HI3.out.on h4)
     clear h4 n2 n4
     go_wp2_with fail
     refine (WrI.write HI4.out _ HL2.out).mono ?_
     rintro e w5 ⟨rfl, h5, _⟩
     have HI5 := Lib.hid (show WrI B b w w.heap.size rc nc w5 cur2 from by rw [HC2.out]; exact h5)
     have r5 : w5.cell? ⟨w.heap.size, 0, none⟩ = some (.slice (some ⟨g, o, none⟩) xs.length c) := by rw [h5.row.at_, HRC.out]; rfl
     clear h5
     go_wp2_with fail
     refine (HKD.out w5 HI5.out.bl).mono ?_
     rintro e w6 ⟨kv, rfl, hkv, h6⟩
     obtain ⟨Ak, ck, hv, hk1, hk2, hk3⟩ := own_sliced hkv
     subst hv
     have HI6 := Lib.hid (HI5.out.on h6)
     have HKV := Lib.hid (own_less hkv (Nat.zero_le _))
     have HK3 := Lib.hid hk3
     clear h6 r5 hkv hk3
     have hkl' : ((Tr.kidsOf ns n).length : Int) ≤ 9223372036854775807 := by unfold maxLen at hk2; omega
     have hkc : ((Tr.kidsOf ns n).length : Int) ≤ (ck : Int) := by omega
     clear hk1 hk2
     generalize Tr.kidsOf ns n = ks at *
     go_wp2
     go_loopw [72] (fun i wr => ∃ q : Nat, i = .int .i64 q ∧ q ≤ ks.length ∧ Hid (WrI B b w w.heap.size rc nc wr (cur2 ++ (ks.take q).flatMap (Tr.wrOf ns)) ∧ IntRow 0 wr (.slice Ak ks.length ck) ks)) (fun i _ => ks.length - (intOf i).toNat)
     case atStart => exact ⟨0, rfl, Nat.zero_le _, Lib.hid ⟨by simpa using HI6.out, HKV.out⟩⟩
     case round =>
      obtain ⟨q, rfl, hq, HJ⟩ := hrel
      by_cases hql : q < ks.length
      ·have hql' : (q : Int) < (ks.length : Int) := by omega
       obtain ⟨gk, hAk, _, _⟩ := HK3.out (by omega)
       subst hAk
       have kc : wr.cell? ⟨gk, q, none⟩ = some (.int .i64 ks[q]) := by
        have := World.ownsRow.cellAt HJ.out.2 q (by omega)
        rw [this, List.getElem?_map, List.getElem?_eq_getElem hql]; rfl
       have HJI := Lib.hid (HKS.out ks[q] (List.getElem_mem hql))
       have HJL := Lib.hid (Tr.fm_take_le (Tr.wrOf ns) ks hql)
       have HJS := Lib.hid (Tr.fm_snoc (Tr.wrOf ns) ks hql)
       have rr : wr.cell? ⟨w.heap.size, 0, none⟩ = some (.slice (some ⟨g, o, none⟩) xs.length c) := by rw [HJ.out.1.row.at_, HRC.out]; rfl
       have HQL := Lib.hid hql
       generalize ks[q] = j at *
       clear hql
       go_wp2_with fail
       refine (HIH.out j HJI.out.1 HJI.out.2 wr (cur2 ++ (ks.take q).flatMap (Tr.wrOf ns)) HJ.out.1 ?_).mono ?_
       ·have h1 := HL3.out; have h2 := HJL.out; rw [List.length_append]; omega
       rintro e w7 ⟨rfl, h7, h8, h9⟩
       have HN := Lib.hid (show WrI B b w w.heap.size rc nc w7 (cur2 ++ (ks.take (q + 1)).flatMap (Tr.wrOf ns)) ∧ IntRow 0 w7 (.slice (some ⟨gk, 0, none⟩) ks.length ck) ks from ⟨by rw [HJS.out, ← List.append_assoc]; exact HJ.out.1.wrote h8 h9 h7, h9.own HJ.out.2 (by decide) (by decide)⟩)
       clear h7 h8 h9 kc rr
       go_wp2
       go_roundw
       case rel => exact ⟨q + 1, by go_num, HQL.out, HN⟩
       case measure => have := HQL.out; simp [intOf]; omega
      ·obtain rfl : q = ks.length := by omega
       have hql' : ¬ ((ks.length : Nat) : Int) < (ks.length : Int) := by omega
       have HI7 := Lib.hid (show WrI B b w w.heap.size rc nc wr (cur2 ++ ks.flatMap (Tr.wrOf ns)) from by have := HJ.out.1; rwa [List.take_length] at this)
       have n0 : wr.cell? ⟨w.heap.size + 1, 0, none⟩ = some (.string N) := by rw [HJ.out.1.nd.at_, HNC.out]; rfl
       clear hql
       go_wp2_with fail
       refine (WrI.write HI7.out _ HL4.out).mono ?_
       rintro e w8 ⟨rfl, h8, _⟩
       have HF := Lib.hid (show IsSb B b (l ++ Tr.wrOf ns n) w8 ∧ Below B w w8 ∧ Kp w w8 from ⟨by rw [HFIN.out]; exact h8.sb, h8.bl, h8.kp⟩)
       clear h8 n0
       go_wp2
       go_end0
       exact ⟨rfl, HF.out⟩
end Go.Proofs.YteadfpkihhaadaaGreatDoor
namespace Go.Proofs.YteadfpkihhaadaaGreatDoor
open Go.RowKit Go.Shelf
def Tr.write (ns : List Tr.N) : List UInt8 := if Tr.check ns then Tr.wrOf ns 0 else []
set_option maxHeartbeats 4000000 in
set_option maxRecDepth 100000 in
theorem twrite_any (w : World) (T : Tb w) (A : Option Addr) (c : Nat) (xs : List Nd) (hl : xs.length ≤ c) (hc : c ≤ maxLen) (hr : ReadsNd w w.heap.size A xs) (hf : ∀ x ∈ xs, NdFit x) (hlen : (Tr.write (xs.map Nd.n)).length ≤ 140737488355328) :
  Calls Tryz.prog 15 #[.agg #[.slice A xs.length c]] w fun e w' => e = .returned (.tuple #[.string ⟨(Tr.write (xs.map Nd.n)).toArray⟩, .int .i64 (if Tr.check (xs.map Nd.n) then 0 else 50)]) ∧ Below w.heap.size w w' := by
 obtain ⟨W0, hW0⟩ : ∃ W0, W0 = w.alloc (.cells #[.slice A xs.length c] 31) := ⟨_, rfl⟩
 have hb0 : Below w.heap.size w W0 := by rw [hW0]; exact (Below.refl _ _).alloc (Nat.le_refl _) _
 have hk0 : IsBlk W0 w.heap.size 31 #[.slice A xs.length c] := by rw [hW0]; exact IsBlk.new _ _ _
 have HCH := Lib.hid (check_any W0 (T.below hb0 (Nat.le_refl _)) A c xs hl hc ((hr.below hb0).more hb0.size) hf)
 have HOK := Lib.hid (fun (h : Tr.check (xs.map Nd.n) = true) w1 (hb : Below w.heap.size w w1) => (show WrOk w1 A c xs from by
  obtain ⟨h1, h2, _, h4⟩ := Tr.check_ok h
  exact ⟨T.below hb (Nat.le_refl _), hl, hc, by rwa [List.length_map] at h4, (hr.below hb).more hb.size, h1, fun x hx => h2 _ (List.mem_map.2 ⟨x, hx, rfl⟩), hf⟩))
 have HP := Lib.hid (fun (h : Tr.check (xs.map Nd.n) = true) => (show 0 < xs.length from by have := (Tr.check_ok h).2.2.1; rwa [List.length_map] at this))
 have HWE := Lib.hid (fun (h : Tr.check (xs.map Nd.n) = true) => (show Tr.write (xs.map Nd.n) = Tr.wrOf (xs.map Nd.n) 0 from if_pos h))
 have HWN := Lib.hid (fun (h : Tr.check (xs.map Nd.n) = false) => (show Tr.write (xs.map Nd.n) = [] from by unfold Tr.write; rw [h]; rfl))
 have HB0 := Lib.hid hb0
 have HK0 := Lib.hid hk0
 have HE0 := Lib.hid hW0
 have HLN := Lib.hid hlen
 obtain ⟨ns, hns⟩ : ∃ ns, ns = xs.map Nd.n := ⟨_, rfl⟩
 have HNS := Lib.hid hns
 rw [← hns] at HCH HOK HP HWE HWN HLN ⊢
 clear hns hb0 hk0 hW0 hr hf T hl hc hlen
 obtain ⟨cb, hcb⟩ : ∃ b, b = Tr.check ns := ⟨_, rfl⟩
 rw [← hcb] at HCH HOK HP HWE HWN ⊢
 obtain ⟨S, hS⟩ : ∃ S : ByteArray, S = ⟨(Tr.write ns).toArray⟩ := ⟨_, rfl⟩
 rw [← hS]
 have HS := Lib.hid hS
 clear hS hcb
 cases cb with
 | false =>
  have HF := Lib.hid (show S = ⟨#[]⟩ from by rw [HS.out, HWN.out rfl])
  go_enter Tryz.func15, Tryz.ntmps15
  go_wp2_with fail
  rw [← HE0.out]
  refine HCH.out.mono ?_
  rintro e w1 ⟨rfl, h1⟩
  have HL := Lib.hid (HB0.out.trans (h1.mono HB0.out.size))
  clear h1
  go_wp2
  go_ret2
  exact ⟨by rw [HF.out]; rfl, HL.out⟩
 | true =>
  go_enter Tryz.func15, Tryz.ntmps15
  go_wp2_with fail
  rw [← HE0.out]
  refine HCH.out.mono ?_
  rintro e w1 ⟨rfl, h1⟩
  have HL := Lib.hid (HB0.out.trans (h1.mono HB0.out.size))
  have k1 := HK0.out.below h1 HK0.out.lt
  obtain ⟨W2, hW2⟩ : ∃ W2, W2 = w1.alloc (.cells #[.pointer none, .slice none 0 0] 93) := ⟨_, rfl⟩
  have hb2 : Below w1.heap.size w1 W2 := by rw [hW2]; exact (Below.refl _ _).alloc (Nat.le_refl _) _
  have t0 : W2.cell? ⟨w.heap.size, 0, none⟩ = some (.slice A xs.length c) := (k1.below hb2 k1.lt).at_ 0
  rw [hW2] at t0
  have hsb : IsSb w1.heap.size w1.heap.size [] W2 := by rw [hW2]; exact IsSb.fresh w1
  have HWW := Lib.hid (roww_any w1 A c xs (HOK.out (by trivial) w1 HL.out) w1.heap.size (Nat.le_refl _) w1.heap.size xs.length 0 (HP.out (by trivial)) (by omega) W2 [] hb2 hb2.size hsb (by
   rw [← HNS.out, ← HWE.out (by trivial)]; have := HLN.out; simpa using this))
  rw [← HNS.out, ← HWE.out (by trivial), List.nil_append, show (((0 : Nat) : Int)) = 0 from rfl] at HWW
  have HB2 := Lib.hid hb2
  have HE2 := Lib.hid hW2
  clear h1 k1 hb2 hsb hW2
  go_wp2_with fail
  rw [← HE2.out]
  refine HWW.out.mono ?_
  rintro e w3 ⟨rfl, hs3, hb3, _⟩
  have HB3 := Lib.hid (HB2.out.trans hb3)
  have HST := Lib.hid (string_any w1.heap.size w1.heap.size (Tr.write ns) w3 hs3 (Nat.le_trans HB2.out.size hb3.size))
  rw [← HS.out] at HST
  clear hs3 hb3 t0
  go_wp2_with fail
  refine HST.out.mono ?_
  rintro e w4 ⟨rfl, h4⟩
  have HL4 := Lib.hid (HL.out.trans ((HB3.out.trans h4).mono HL.out.size))
  clear h4
  go_wp2
  go_ret2
  exact ⟨rfl, HL4.out⟩
def Tr.kidsAt (ns : List Tr.N) (n : Int) : List Nat := if 0 ≤ n ∧ n < ns.length ∧ Tr.check ns = true then Tr.kidsOf ns n.toNat else []
theorem IntRow.nil (B : Nat) (w : World) : IntRow B w (.slice none 0 0) [] := World.ownsRow_nil _ _ _ _
set_option maxHeartbeats 4000000 in
set_option maxRecDepth 100000 in
theorem tkids_any (w : World) (T : Tb w) (A : Option Addr) (c : Nat) (xs : List Nd) (hl : xs.length ≤ c) (hc : c ≤ maxLen) (hr : ReadsNd w w.heap.size A xs) (hf : ∀ x ∈ xs, NdFit x) (n : Int) :
  Calls Tryz.prog 20 #[.agg #[.slice A xs.length c], .int .i64 n] w fun e w' => ∃ v, e = .returned v ∧ IntRow w.heap.size w' v (Tr.kidsAt (xs.map Nd.n) n) ∧ Below w.heap.size w w' := by
 obtain ⟨W1, hW1⟩ : ∃ W1, W1 = (w.alloc (.cells #[.slice A xs.length c] 31)).alloc (.cells #[.slice A xs.length c] 71) := ⟨_, rfl⟩
 have hz : (w.alloc (.cells #[.slice A xs.length c] 31)).heap.size = w.heap.size + 1 := by simp
 have hb1 : Below w.heap.size w W1 := by rw [hW1]; exact ((Below.refl _ _).alloc (Nat.le_refl _) _).alloc (by simp) _
 have hk1 : IsBlk W1 w.heap.size 31 #[.slice A xs.length c] := by rw [hW1]; exact (IsBlk.new w _ _).below ((Below.refl _ _).alloc (Nat.le_refl _) _) (by simp)
 have hk2 : IsBlk W1 (w.heap.size + 1) 71 #[.slice A xs.length c] := by rw [hW1, ← hz]; exact IsBlk.new _ _ _
 have HHAS := Lib.hid (fun w' => has_any w' A xs.length c n)
 have HCH := Lib.hid (fun w' (hb : Below w.heap.size w w') => check_any w' (T.below hb (Nat.le_refl _)) A c xs hl hc ((hr.below hb).more hb.size) hf)
 have HKD := Lib.hid (fun (h : Tr.check (xs.map Nd.n) = true) (j : Nat) (hj : j < xs.length) w' (hb : Below w.heap.size w w') => kids_any w' A c xs hl (by have := (Tr.check_ok h).2.2.2; rwa [List.length_map] at this) ((hr.below hb).more hb.size) (Tr.check_ok h).1 j hj)
 have HK1 := Lib.hid hk1
 have HK2 := Lib.hid hk2
 have HB1 := Lib.hid hb1
 have HE1 := Lib.hid hW1
 have x2 : W1.cell? ⟨w.heap.size + 1, 0, none⟩ = some (.slice A xs.length c) := hk2.at_ 0
 rw [hW1] at x2
 have HKA := Lib.hid (show Tr.kidsAt (xs.map Nd.n) n = if 0 ≤ n ∧ n < xs.length ∧ Tr.check (xs.map Nd.n) = true then Tr.kidsOf (xs.map Nd.n) n.toNat else [] from by unfold Tr.kidsAt; rw [List.length_map])
 obtain ⟨ns, hns⟩ : ∃ ns, ns = xs.map Nd.n := ⟨_, rfl⟩
 rw [← hns] at HCH HKD HKA ⊢
 obtain ⟨cb, hcb⟩ : ∃ b, b = Tr.check ns := ⟨_, rfl⟩
 rw [← hcb] at HCH HKD HKA
 clear hns hcb hk1 hk2 hb1 hW1 hz hr hf T hl hc
 by_cases hn : 0 ≤ n ∧ n < (xs.length : Int)
 ·rw [decide_eq_true hn] at HHAS
  obtain ⟨j, rfl⟩ : ∃ j : Nat, n = j := ⟨n.toNat, by omega⟩
  have HJ := Lib.hid (show j < xs.length from by omega)
  clear hn
  cases cb with
  | false =>
   have HF := Lib.hid (show Tr.kidsAt ns j = [] from by rw [HKA.out, if_neg (by simp)])
   go_enter Tryz.func20, Tryz.ntmps20
   go_wp2_with fail
   rw [← HE1.out]
   refine (HHAS.out W1).mono ?_
   rintro e w2 ⟨rfl, h2⟩
   have B2 := Lib.hid (HB1.out.trans (h2.mono HB1.out.size))
   have t0 : w2.cell? ⟨w.heap.size, 0, none⟩ = some (.slice A xs.length c) := (HK1.out.below h2 HK1.out.lt).at_ 0
   clear h2 x2
   go_wp2_with fail
   refine (HCH.out w2 B2.out).mono ?_
   rintro e w3 ⟨rfl, h3⟩
   have B3 := Lib.hid (B2.out.trans (h3.mono B2.out.size))
   clear h3 t0
   go_wp2
   go_ret
   exact ⟨_, rfl, by rw [HF.out]; exact IntRow.nil _ _, B3.out⟩
  | true =>
   have HF := Lib.hid (show Tr.kidsAt ns j = Tr.kidsOf ns j from by rw [HKA.out, if_pos ⟨by omega, by have := HJ.out; omega, rfl⟩, Int.toNat_natCast])
   go_enter Tryz.func20, Tryz.ntmps20
   go_wp2_with fail
   rw [← HE1.out]
   refine (HHAS.out W1).mono ?_
   rintro e w2 ⟨rfl, h2⟩
   have B2 := Lib.hid (HB1.out.trans (h2.mono HB1.out.size))
   have k2 := HK2.out.below h2 HK2.out.lt
   have HK2' := Lib.hid k2
   have t0 : w2.cell? ⟨w.heap.size, 0, none⟩ = some (.slice A xs.length c) := (HK1.out.below h2 HK1.out.lt).at_ 0
   clear h2 x2 k2
   go_wp2_with fail
   refine (HCH.out w2 B2.out).mono ?_
   rintro e w3 ⟨rfl, h3⟩
   have B3 := Lib.hid (B2.out.trans (h3.mono B2.out.size))
   have t1 : w3.cell? ⟨w.heap.size + 1, 0, none⟩ = some (.slice A xs.length c) := (HK2'.out.below h3 HK2'.out.lt).at_ 0
   clear h3 t0
   go_wp2_with fail
   refine (HKD.out (by trivial) j HJ.out w3 B3.out).mono ?_
   rintro e w4 ⟨v, rfl, hv, h4⟩
   have HV := Lib.hid (show IntRow w.heap.size w4 v (Tr.kidsAt ns j) from by rw [HF.out]; exact own_less hv B3.out.size)
   have B4 := Lib.hid (B3.out.trans (h4.mono B3.out.size))
   clear hv h4 t1
   go_wp2
   go_ret
   exact ⟨_, rfl, HV.out, B4.out⟩
 ·rw [decide_eq_false hn] at HHAS
  have HF := Lib.hid (show Tr.kidsAt ns n = [] from by rw [HKA.out, if_neg (fun h => hn ⟨h.1, h.2.1⟩)])
  clear hn
  go_enter Tryz.func20, Tryz.ntmps20
  go_wp2_with fail
  rw [← HE1.out]
  refine (HHAS.out W1).mono ?_
  rintro e w2 ⟨rfl, h2⟩
  have B2 := Lib.hid (HB1.out.trans (h2.mono HB1.out.size))
  clear h2 x2
  go_wp2
  go_ret
  exact ⟨_, rfl, by rw [HF.out]; exact IntRow.nil _ _, B2.out⟩
def Tr.getAt (ns : List Tr.N) (n : Int) (nm : List UInt8) : List UInt8 × Bool := if 0 ≤ n ∧ n < ns.length then Tr.get1 nm (((ns[n.toNat]?).map Tr.N.al).getD []) else ([], false)
theorem Tr.get1_at {nm : List UInt8} {al : List Tr.At} {q : Nat} (hq : q < al.length) : Tr.get1 nm (al.drop q) = if al[q].1 = nm then (al[q].2, true) else Tr.get1 nm (al.drop (q + 1)) := by
 rw [List.drop_eq_getElem_cons hq]; rfl
set_option maxHeartbeats 4000000 in
set_option maxRecDepth 100000 in
theorem tget_any (w : World) (A : Option Addr) (c : Nat) (xs : List Nd) (hl : xs.length ≤ c) (hr : ReadsNd w w.heap.size A xs) (n : Int) (M : ByteArray) :
  Calls Tryz.prog 19 #[.agg #[.slice A xs.length c], .int .i64 n, .string M] w fun e w' => e = .returned (.tuple #[.string ⟨(Tr.getAt (xs.map Nd.n) n M.data.toList).1.toArray⟩, .bool (Tr.getAt (xs.map Nd.n) n M.data.toList).2]) ∧ Below w.heap.size w w' := by
 obtain ⟨W1, hW1⟩ : ∃ W1, W1 = (w.alloc (.cells #[.slice A xs.length c] 31)).alloc (.cells #[.slice A xs.length c] 71) := ⟨_, rfl⟩
 have hz : (w.alloc (.cells #[.slice A xs.length c] 31)).heap.size = w.heap.size + 1 := by simp
 have hb1 : Below w.heap.size w W1 := by rw [hW1]; exact ((Below.refl _ _).alloc (Nat.le_refl _) _).alloc (by simp) _
 have hk2 : IsBlk W1 (w.heap.size + 1) 71 #[.slice A xs.length c] := by rw [hW1, ← hz]; exact IsBlk.new _ _ _
 have HHAS := Lib.hid (fun w' => has_any w' A xs.length c n)
 have HK2 := Lib.hid hk2
 have HB1 := Lib.hid hb1
 have HE1 := Lib.hid hW1
 have x2 : W1.cell? ⟨w.heap.size + 1, 0, none⟩ = some (.slice A xs.length c) := hk2.at_ 0
 rw [hW1] at x2
 obtain ⟨R, hR⟩ : ∃ R, R = Tr.getAt (xs.map Nd.n) n M.data.toList := ⟨_, rfl⟩
 rw [← hR]
 have HRD := Lib.hid hr
 clear hz hb1 hk2 hW1 hr
 by_cases hn : 0 ≤ n ∧ n < (xs.length : Int)
 ·rw [decide_eq_true hn] at HHAS
  obtain ⟨j, rfl⟩ : ∃ j : Nat, n = j := ⟨n.toNat, by omega⟩
  have hj : j < xs.length := by omega
  have HR := Lib.hid (show R = Tr.get1 M.data.toList (xs[j].n.al.drop 0) from by
   rw [hR]
   unfold Tr.getAt
   rw [List.length_map, if_pos hn, Int.toNat_natCast, List.getElem?_map, List.getElem?_eq_getElem hj]; rfl)
  have hj' : (j : Int) < (xs.length : Int) := hn.2
  have hl' : (xs.length : Int) ≤ (c : Int) := by omega
  obtain ⟨g, o, hA, hg, hcl⟩ := HRD.out.row (by omega)
  subst hA
  have hcj := hcl j hj
  have hnd := HRD.out.att _ (List.getElem_mem hj)
  clear hcl hR hn
  generalize xs[j] = x at *
  obtain ⟨⟨nm, al, tx, pa, fi, nx, at0⟩, Ax, cx⟩ := x
  simp only at HR
  have HC1 := Lib.hid (fun w' (hb : Below w.heap.size w w') => (show w'.cell? ⟨g, o + j * 7 + 1, none⟩ = some (.slice Ax al.length cx) from (hb.cell (p := ⟨g, _, none⟩) hg).trans (hcj 1 _ rfl)))
  have HAT := Lib.hid (fun w' (hb : Below w.heap.size w w') => (show Reads2o w' w'.heap.size Ax al from ((hnd.below hb).more hb.size).att))
  have hcx : (al.length : Int) ≤ (cx : Int) := by have := hnd.len; simp only at this; omega
  have hcm : (al.length : Int) ≤ 9223372036854775807 := by have := hnd.len; have := hnd.cap; unfold maxLen at this; simp only at *; omega
  clear hcj hnd hj hg
  go_enter Tryz.func19, Tryz.ntmps19
  go_wp2_with fail
  rw [← HE1.out]
  refine (HHAS.out W1).mono ?_
  rintro e w2 ⟨rfl, h2⟩
  have B2 := Lib.hid (HB1.out.trans (h2.mono HB1.out.size))
  have t1 : w2.cell? ⟨w.heap.size + 1, 0, none⟩ = some (.slice (some ⟨g, o, none⟩) xs.length c) := (HK2.out.below h2 HK2.out.lt).at_ 0
  have a1 := HC1.out w2 B2.out
  clear h2 x2
  go_wp2
  go_loopw [25] (fun i wr => ∃ q : Nat, i = .int .i64 q ∧ q ≤ al.length ∧ Hid (Below w.heap.size w wr ∧ R = Tr.get1 M.data.toList (al.drop q))) (fun i _ => al.length - (intOf i).toNat)
  case atStart => exact ⟨0, rfl, Nat.zero_le _, Lib.hid ⟨B2.out, HR.out⟩⟩
  case round =>
   obtain ⟨q, rfl, hq, HJ⟩ := hrel
   by_cases hql : q < al.length
   ·have hql' : (q : Int) < (al.length : Int) := by omega
    obtain ⟨ga, oa, hAa, hga, hca⟩ := (HAT.out wr HJ.out.1) (by omega)
    subst hAa
    obtain ⟨d0, d1⟩ := hca q hql
    have HST := Lib.hid (HJ.out.2.trans (Tr.get1_at hql))
    have HQL := Lib.hid hql
    clear hca
    generalize al[q] = a at *
    clear hql
    obtain ⟨U, hU⟩ : ∃ N : ByteArray, N = ⟨a.1.toArray⟩ := ⟨_, rfl⟩
    obtain ⟨V, hV⟩ : ∃ N : ByteArray, N = ⟨a.2.toArray⟩ := ⟨_, rfl⟩
    rw [← hU] at d0
    rw [← hV] at d1
    have HUV := Lib.hid (And.intro hU hV)
    have HBA := Lib.hid (HJ.out.1.alloc HJ.out.1.size (.cells #[.string U, .string V] 51))
    by_cases hu : U = M
    ·have HE := Lib.hid (show R = (a.2, true) from by rw [HST.out, if_pos (by rw [← hu, hU])])
     subst hu
     clear hU hV
     go_wp2
     go_ret2
     exact ⟨by rw [HE.out, HUV.out.2]; rfl, HBA.out⟩
    ·have hun : ¬ U.toList = M.toList := fun e => hu (ba_eq (by rw [← Lib.toList_data, e, Lib.toList_data]))
     have huu : (U.toList == M.toList) = false := beq_eq_false_iff_ne.2 hun
     have HE := Lib.hid (show R = Tr.get1 M.data.toList (al.drop (q + 1)) from by rw [HST.out, if_neg (fun e => hu (ba_eq (by rw [hU, ← e])))])
     clear hU hV hu
     go_wp2
     go_roundw
     case rel => exact ⟨q + 1, by go_num, HQL.out, Lib.hid ⟨HBA.out, HE.out⟩⟩
     case measure => have := HQL.out; simp [intOf]; omega
   ·obtain rfl : q = al.length := by omega
    have hql' : ¬ ((al.length : Nat) : Int) < (al.length : Int) := by omega
    have HE := Lib.hid (show R = ([], false) from by rw [HJ.out.2, List.drop_eq_nil_of_le (Nat.le_refl _)]; rfl)
    clear hql
    go_wp2
    go_ret2
    exact ⟨by rw [HE.out]; rfl, HJ.out.1⟩
 ·rw [decide_eq_false hn] at HHAS
  have HE := Lib.hid (show R = ([], false) from by rw [hR]; unfold Tr.getAt; rw [List.length_map, if_neg hn])
  clear hn hR
  go_enter Tryz.func19, Tryz.ntmps19
  go_wp2_with fail
  rw [← HE1.out]
  refine (HHAS.out W1).mono ?_
  rintro e w2 ⟨rfl, h2⟩
  have B2 := Lib.hid (HB1.out.trans (h2.mono HB1.out.size))
  clear h2 x2
  go_wp2
  go_ret2
  exact ⟨by rw [HE.out]; rfl, B2.out⟩
end Go.Proofs.YteadfpkihhaadaaGreatDoor
