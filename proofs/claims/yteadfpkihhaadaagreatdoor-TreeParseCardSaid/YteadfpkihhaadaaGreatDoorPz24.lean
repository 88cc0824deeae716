/- Facts and walks for the statement. -/
import Derived.Shelf.SlGeneric
import Derived.Shelf.SlSortCmp.WholeK
import Derived.Shelf.SlSortCmp.NoneTotal
import Derived.Shelf.SlicesQ.IndexFunc
import Derived.Ground.SlsfProg
import Derived.Ground.SlgfProg
import Derived.Test.YteadfpkihhaadaaGreatDoorProg
import Derived.Test.YteadfpkihhaadaaGreatDoorPz23
import Derived.Test.YteadfpkihhaadaaGreatDoorPz16
namespace Go.Proofs
open Go.Shelf
def Tryz.lays26_ren : Go.Shelf.Ren := ⟨fun | 6 => 26 | 15 => 56 | 14 => 55 | 28 => 102 | 29 => 103 | 20 => 94 | 21 => 95 | 22 => 96 | 23 => 97 | 24 => 98 | 25 => 99 | 26 => 100 | 27 => 101 | 46 => 135 | 47 => 136 | 48 => 137 | 49 => 138 | 50 => 139 | 57 => 165 | n => n, fun | 22 => 47 | 24 => 51 | 25 => 78 | 3 => 3 | 39 => 112 | 0 => 0 | 53 => 161 | 55 => 163 | 4 => 4 | 46 => 154 | 45 => 153 | 50 => 158 | 5 => 5 | 9 => 9 | 66 => 188 | 70 => 192 | 76 => 219 | 77 => 147 | n => n, fun | n => n⟩
theorem Tryz.lays26 : Go.Proofs.SlLaysF0.n6 Tryz.prog Tryz.lays26_ren := {
 mixed := by kernel_rfl
 f6 := ⟨Tryz.f26.name, by decide, Tryz.func26.trans (congrArg some (by kernel_rfl))⟩
 f14 := ⟨Tryz.f55.name, by decide, Tryz.func55.trans (congrArg some (by kernel_rfl))⟩
 f15 := Tryz.func56.trans (congrArg some (by kernel_rfl))
 f20 := ⟨Tryz.f94.name, by decide, Tryz.func94.trans (congrArg some (by kernel_rfl))⟩
 f21 := ⟨Tryz.f95.name, by decide, Tryz.func95.trans (congrArg some (by kernel_rfl))⟩
 f22 := ⟨Tryz.f96.name, by decide, Tryz.func96.trans (congrArg some (by kernel_rfl))⟩
 f23 := ⟨Tryz.f97.name, by decide, Tryz.func97.trans (congrArg some (by kernel_rfl))⟩
 f24 := ⟨Tryz.f98.name, by decide, Tryz.func98.trans (congrArg some (by kernel_rfl))⟩
 f25 := ⟨Tryz.f99.name, by decide, Tryz.func99.trans (congrArg some (by kernel_rfl))⟩
 f26 := ⟨Tryz.f100.name, by decide, Tryz.func100.trans (congrArg some (by kernel_rfl))⟩
 f27 := ⟨Tryz.f101.name, by decide, Tryz.func101.trans (congrArg some (by kernel_rfl))⟩
 f28 := Tryz.func102.trans (congrArg some (by kernel_rfl))
 f29 := Tryz.func103.trans (congrArg some (by kernel_rfl))
 f46 := ⟨Tryz.f135.name, by decide, Tryz.func135.trans (congrArg some (by kernel_rfl))⟩
 f47 := Tryz.func136.trans (congrArg some (by kernel_rfl))
 f48 := Tryz.func137.trans (congrArg some (by kernel_rfl))
 f49 := ⟨Tryz.f138.name, by decide, Tryz.func138.trans (congrArg some (by kernel_rfl))⟩
 f50 := ⟨Tryz.f139.name, by decide, Tryz.func139.trans (congrArg some (by kernel_rfl))⟩
 f57 := ⟨Tryz.f165.name, by decide, Tryz.func165.trans (congrArg some (by kernel_rfl))⟩
 t0 := Tryz.underlying0
 a0 := Tryz.isAgg0
 z0 := Tryz.sizeOf0
 v0 := Tryz.zeroValue0
 t3 := Tryz.underlying3
 a3 := Tryz.isAgg3
 z3 := Tryz.sizeOf3
 v3 := Tryz.zeroValue3
 t4 := Tryz.underlying4
 a4 := Tryz.isAgg4
 z4 := Tryz.sizeOf4
 v4 := Tryz.zeroValue4
 t5 := Tryz.underlying5
 a5 := Tryz.isAgg5
 z5 := Tryz.sizeOf5
 v5 := Tryz.zeroValue5
 t9 := Tryz.underlying9
 a9 := Tryz.isAgg9
 z9 := Tryz.sizeOf9
 v9 := Tryz.zeroValue9
 t22 := Tryz.underlying47
 a22 := Tryz.isAgg47
 z22 := Tryz.sizeOf47
 v22 := Tryz.zeroValue47
 t25 := Tryz.underlying78
 a25 := Tryz.isAgg78
 z25 := Tryz.sizeOf78
 v25 := Tryz.zeroValue78
 t39 := Tryz.underlying112
 a39 := Tryz.isAgg112
 z39 := Tryz.sizeOf112
 v39 := Tryz.zeroValue112
 t45 := Tryz.underlying153
 a45 := Tryz.isAgg153
 z45 := Tryz.sizeOf153
 v45 := Tryz.zeroValue153
 t46 := Tryz.underlying154
 a46 := Tryz.isAgg154
 z46 := Tryz.sizeOf154
 v46 := Tryz.zeroValue154
 t50 := Tryz.underlying158
 a50 := Tryz.isAgg158
 z50 := Tryz.sizeOf158
 v50 := Tryz.zeroValue158
 t53 := Tryz.underlying161
 a53 := Tryz.isAgg161
 z53 := Tryz.sizeOf161
 v53 := Tryz.zeroValue161
 t55 := Tryz.underlying163
 a55 := Tryz.isAgg163
 z55 := Tryz.sizeOf163
 v55 := Tryz.zeroValue163
 t66 := Tryz.underlying188
 a66 := Tryz.isAgg188
 z66 := Tryz.sizeOf188
 v66 := Tryz.zeroValue188
 t70 := Tryz.underlying192
 a70 := Tryz.isAgg192
 z70 := Tryz.sizeOf192
 v70 := Tryz.zeroValue192
 t76 := Tryz.underlying219
 a76 := Tryz.isAgg219
 z76 := Tryz.sizeOf219
 v76 := Tryz.zeroValue219
 t77 := Tryz.underlying147
 a77 := Tryz.isAgg147
 z77 := Tryz.sizeOf147
 v77 := Tryz.zeroValue147 }
open Go.RowKit Go.Lib Go.Sort in
theorem Tryz.slices_SortFunc {α : Type} [Inhabited α] (enc : α → List Value) (hk : ∀ x, (enc x).length = 2) (h1 : ∀ x, ∀ v ∈ enc x, v.oneCell' = true) (cf : α → α → Int) (hO : SWO (ltOf cf)) (g : Nat) (cb : Array Value) (blk off cap : Nat) (d : Array α) (w : World) (eg : ∀ args w, (callFunc g args).run Tryz.prog w = .ok (.enter g args) w) (hcmp : CmpLays Tryz.prog g cb enc 2 cf blk off d.size w) (hH : HoldsK enc 2 w blk off d) (hblk : blk < w.heap.size) (hsz : d.size < 4611686018427387904) :
  Calls Tryz.prog 26 #[.slice (some ⟨blk, off, none⟩) d.size cap, .func (.func g) #[] cb] w fun e w' => e = .returned (.tuple #[]) ∧ ∃ d' n os, PermIn 0 d.size d d' ∧ SortedIn (ltOf cf) 0 d.size d' ∧ w' = sortWorldK enc 2 w blk off n d' os := AnyQ.slices_SortFunc Tryz.lays26 2 Tryz.isAgg51 Tryz.sizeOf51 enc hk h1 cf hO g cb blk off cap d w eg hcmp hH hblk hsz
open Go.RowKit Go.Lib Go.Sort in
theorem Tryz.slices_SortFunc_none (p : Option Addr) (cap : Nat) (fv : Value) (w : World) :
  Calls Tryz.prog 26 #[.slice p 0 cap, fv] w fun e w' => e = .returned (.tuple #[]) ∧ w' = w := AnyF.slices_SortFunc_none Tryz.lays26 p cap fv w
end Go.Proofs
namespace Go.Proofs.YteadfpkihhaadaaGreatDoor
open Go.RowKit Go.Sort
def cmpN (a b : Tr.At) : Int := if Tr.lt a.1 b.1 then -1 else if Tr.lt b.1 a.1 then 1 else 0
set_option maxHeartbeats 4000000 in
set_option maxRecDepth 100000 in
theorem cmpStr_any (w : World) (a b : List UInt8) (x y : List UInt8) :
  Calls Tryz.prog 57 #[.string ⟨a.toArray⟩, .string ⟨b.toArray⟩] w fun e w' => e = .returned (.int .i64 (cmpN (a, x) (b, y))) ∧ w' = w := by
 have HN := Lib.hid (fun (s : ByteArray) (w0 : World) => (show Calls Tryz.prog 104 #[.string s] w0 fun e w' => e = .returned (.bool false) ∧ w' = w0 from by
  have hs : (s.toList == s.toList) = true := by simp
  go_enter Tryz.func104, Tryz.ntmps104
  go_wp2
  go_ret
  exact ⟨rfl, rfl⟩))
 obtain ⟨U, hU⟩ : ∃ U : ByteArray, U = ⟨a.toArray⟩ := ⟨_, rfl⟩
 obtain ⟨V, hV⟩ : ∃ U : ByteArray, U = ⟨b.toArray⟩ := ⟨_, rfl⟩
 obtain ⟨l1, hl1⟩ : ∃ L, L = Tr.lt a b := ⟨_, rfl⟩
 obtain ⟨l2, hl2⟩ : ∃ L, L = Tr.lt b a := ⟨_, rfl⟩
 have k1 : Op.bytesLess U.toList V.toList = l1 := by rw [toList_of hU, toList_of hV, hl1]; rfl
 have k2 : Op.bytesLess V.toList U.toList = l2 := by rw [toList_of hU, toList_of hV, hl2]; rfl
 have k3 : decide (U.data.toList < V.data.toList) = l1 := by rw [← k1, bytesLess_eq, Lib.toList_data, Lib.toList_data]
 have k4 : decide (V.data.toList < U.data.toList) = l2 := by rw [← k2, bytesLess_eq, Lib.toList_data, Lib.toList_data]
 have k5 : (U.toList == V.toList) = (!l1 && !l2) := by
  rw [toList_of hU, toList_of hV, hl1, hl2]
  cases e1 : Tr.lt a b with
  | true =>
   apply beq_eq_false_iff_ne.2
   rintro rfl
   rw [Tr.lt_irrefl] at e1; cases e1
  | false =>
   cases e2 : Tr.lt b a with
   | true =>
    apply beq_eq_false_iff_ne.2
    rintro rfl
    rw [Tr.lt_irrefl] at e2; cases e2
   | false => rw [Tr.lt_tri e1 e2]; simp
 have HC := Lib.hid (show cmpN (a, x) (b, y) = if l1 then -1 else if l2 then 1 else 0 from by unfold cmpN; rw [hl1, hl2])
 obtain ⟨R, hR⟩ : ∃ R, R = cmpN (a, x) (b, y) := ⟨_, rfl⟩
 rw [← hR] at HC ⊢
 rw [← hU, ← hV]
 clear hU hV hl1 hl2 hR
 go_enter Tryz.func57, Tryz.ntmps57
 go_wp2_with fail
 refine (HN.out _ _).mono ?_
 rintro e w1 ⟨rfl, rfl⟩
 go_wp2_with fail
 refine (HN.out _ _).mono ?_
 rintro e w2 ⟨rfl, rfl⟩
 cases l1 with
 | true =>
  have HR := Lib.hid (show R = -1 from by rw [HC.out]; rfl)
  go_wp2
  go_ret
  exact ⟨by rw [HR.out]; rfl, rfl⟩
 | false =>
  cases l2 with
  | true =>
   have HR := Lib.hid (show R = 1 from by rw [HC.out]; rfl)
   go_wp2
   go_ret
   exact ⟨by rw [HR.out]; rfl, rfl⟩
  | false =>
   have HR := Lib.hid (show R = 0 from by rw [HC.out]; rfl)
   go_wp2
   go_ret
   exact ⟨by rw [HR.out]; rfl, rfl⟩
def encA (a : Tr.At) : List Value := [.string ⟨a.1.toArray⟩, .string ⟨a.2.toArray⟩]
set_option maxHeartbeats 4000000 in
set_option maxRecDepth 100000 in
theorem byName_any (w : World) (a b : Tr.At) :
  Calls Tryz.prog 27 #[.agg (encA a).toArray, .agg (encA b).toArray] w fun e w' => e = .returned (.int .i64 (cmpN a b)) ∧ ∃ os, w' = grow w os := by
 obtain ⟨a1, a2⟩ := a
 obtain ⟨b1, b2⟩ := b
 have HC := Lib.hid (fun w0 => cmpStr_any w0 a1 b1 a2 b2)
 generalize cmpN (a1, a2) (b1, b2) = R at *
 unfold encA
 simp only
 generalize (⟨a1.toArray⟩ : ByteArray) = U at *
 generalize (⟨b1.toArray⟩ : ByteArray) = V at *
 generalize (⟨a2.toArray⟩ : ByteArray) = U2 at *
 generalize (⟨b2.toArray⟩ : ByteArray) = V2 at *
 go_enter Tryz.func27, Tryz.ntmps27
 go_wp2_with fail
 refine (HC.out _).mono ?_
 rintro e w1 ⟨rfl, rfl⟩
 go_wp2
 go_ret
 exact ⟨rfl, _, by rw [alloc_eq_grow, alloc_eq_grow, grow_grow]⟩
theorem cmp_lays (blk off size : Nat) (w : World) : CmpLays Tryz.prog 27 #[] encA 2 cmpN blk off size w := fun m os dk _ x y => by
 refine (byName_any (sortWorldK encA 2 w blk off m dk os) x y).mono ?_
 rintro e w' ⟨h1, os', h2⟩
 exact ⟨h1, 0, os', h2⟩
theorem lt_cmp (a b : Tr.At) : ltOf cmpN a b = Tr.lt a.1 b.1 := by
 unfold ltOf cmpN
 cases e1 : Tr.lt a.1 b.1 with
 | true => rfl
 | false => cases e2 : Tr.lt b.1 a.1 <;> rfl
theorem swo_cmp : SWO (ltOf cmpN) where
 irrefl x := by rw [lt_cmp]; exact Tr.lt_irrefl _
 trans x y z h1 h2 := by rw [lt_cmp] at *; exact Tr.lt_trans h1 h2
 ntrans x y z h1 h2 := by rw [lt_cmp] at *; exact Tr.le_trans h2 h1
theorem encA_len (a : Tr.At) : (encA a).length = 2 := rfl
theorem attrV_enc (al : List Tr.At) : attrV al = al.flatMap encA := rfl
theorem flat_attr (d : Array Tr.At) (j : Nat) (hj : j < d.size * 2) : (attrV d.toList)[j]? = some (flatK encA 2 d)[j]! := by
 rw [get_flatK _ _ _ _ hj, attrV_enc]
 have h1 : j / 2 < d.toList.length := by rw [Array.length_toList]; omega
 have h2 := fl_at encA_len d.toList (j / 2) (j % 2) h1 (Nat.mod_lt _ (by omega))
 rw [show j / 2 * 2 + j % 2 = j by omega] at h2
 rw [h2]
 have e1 : d[j / 2]! = d.toList[j / 2] := by
  rw [getElem!_pos d (j / 2) (by rw [← Array.length_toList]; exact h1)]
  simp
 rw [e1]
 have hl : j % 2 < (encA d.toList[j / 2]).length := by rw [encA_len]; exact Nat.mod_lt _ (by omega)
 rw [List.getElem?_eq_getElem hl, show (encA d.toList[j / 2])[j % 2]! = (encA d.toList[j / 2])[j % 2] from getElem!_pos (encA d.toList[j / 2]) (j % 2) hl]
theorem sorted_own {w : World} {B : Nat} {g n cap : Nat} {d d' : Array Tr.At} (h : w.ownsRow B 51 2 (.slice (some ⟨g, 0, none⟩) n cap) n (attrV d.toList)) (hd : d'.size = n) (m : Nat) (os : Array Obj) :
  (sortWorldK encA 2 w g 0 m d' os).ownsRow B 51 2 (.slice (some ⟨g, 0, none⟩) n cap) n (attrV d'.toList) ∧ w.grownBy (sortWorldK encA 2 w g 0 m d' os) (some g) := by
 have hlen : (attrV d'.toList).length = n * 2 := by rw [attrV_enc, fl_len encA_len, Array.length_toList, hd]
 have hlt := (h.lt g rfl).2
 rcases h.2 with ⟨h', _⟩ | ⟨g', cap', cur, h', hb, hg, hnc, hcm, hcs, htake⟩
 ·cases h'
 ·injection h' with h1 h2 h3
  injection h1 with h1
  injection h1 with h1
  subst h1 h3
  constructor
  ·refine ⟨hlen, .inr ⟨g, cap, putCells id 0 (flatK encA 2 d') cur, rfl, hb, ?_, hnc, hcm, by rw [← hcs]; simp [putCells], ?_⟩⟩
   ·unfold sortWorldK grow putRowK putRow mapBlock Go.Sort.ahead
    simp only
    rw [Array.getElem?_append_left (by simpa using hlt), Array.getElem?_modify, if_pos rfl, hg]
    rfl
   ·apply List.ext_getElem?
    intro j
    rw [List.getElem?_take]
    by_cases hj : j < n * 2
    ·rw [if_pos hj, flat_attr d' j (by rw [hd]; exact hj)]
     have hjc : j < cur.size := by rw [hcs]; have := Nat.mul_le_mul_right 2 hnc; omega
     have hf : j < (flatK encA 2 d').size := by rw [size_flatK, hd]; exact hj
     simp [putCells, hjc, size_flatK, hd, hj]
    ·rw [if_neg hj, List.getElem?_eq_none (by omega)]
  ·refine ⟨rfl, rfl, rfl, by unfold sortWorldK grow putRowK putRow mapBlock Go.Sort.ahead; simp, fun k hk hne => ?_⟩
   have hkg : g ≠ k := fun e => hne (by rw [e])
   unfold sortWorldK grow putRowK putRow mapBlock Go.Sort.ahead
   simp only
   rw [Array.getElem?_append_left (by simpa using hk), Array.getElem?_modify, if_neg hkg]
theorem enters_byName : ∀ args w, (callFunc 27 args).run Tryz.prog w = .ok (.enter 27 args) w := enters_of Tryz.func27 (by kernel_rfl) rfl
def SortP (B : Nat) (w : World) (v : Value) (al : List Tr.At) (e : Ending) (w' : World) : Prop :=
 e = .returned (.tuple #[]) ∧ ∃ d : List Tr.At, d.Perm al ∧ Tr.Up d ∧ OwnT B w' v d ∧ w.grownBy w' v.ownBlock
theorem sort_any (w : World) (B : Nat) (v : Value) (al : List Tr.At) (h : OwnT B w v al) (hl : al.length ≤ 1048576) :
  Calls Tryz.prog 26 #[v, .func (.func 27) #[] #[]] w (SortP B w v al) := by
 rcases Nat.eq_zero_or_pos al.length with h0 | h0
 ·obtain rfl : al = [] := List.eq_nil_of_length_eq_zero h0
  have hv : ∃ p cap, v = .slice p 0 cap := by
   rcases own_form h with ⟨e1, _⟩ | ⟨g, cap, e1, _⟩
   ·exact ⟨_, _, e1⟩
   ·exact ⟨_, _, e1⟩
  obtain ⟨p, cap, rfl⟩ := hv
  refine (Tryz.slices_SortFunc_none p cap _ w).mono ?_
  rintro e w' ⟨rfl, rfl⟩
  exact ⟨rfl, [], List.Perm.refl _, List.Pairwise.nil, h, grown_refl _ _⟩
 ·obtain ⟨g, cap, rfl⟩ : ∃ g cap, v = .slice (some ⟨g, 0, none⟩) al.length cap := by
   rcases own_form h with ⟨_, e2⟩ | ⟨g, cap, e1, _⟩
   ·omega
   ·exact ⟨_, _, e1⟩
  have hH : HoldsK encA 2 w g 0 al.toArray := by
   intro j hj
   rw [size_flatK, List.size_toArray] at hj
   rw [Nat.zero_add]
   refine ⟨?_, World.ownsRow.frozenAt h j⟩
   rw [World.ownsRow.cellAt h j hj]
   exact flat_attr al.toArray j (by rw [List.size_toArray]; exact hj)
  have := Tryz.slices_SortFunc encA (fun _ => rfl) (fun x v hv => by simp [encA] at hv; rcases hv with rfl | rfl <;> rfl) cmpN swo_cmp 27 #[] g 0 cap al.toArray w enters_byName (cmp_lays g 0 _ w) hH (h.lt g rfl).2 (by rw [List.size_toArray]; omega)
  rw [List.size_toArray] at this
  refine this.mono ?_
  rintro e w' ⟨rfl, d', m, os, hp, hs, rfl⟩
  obtain ⟨p1, _, p3⟩ := hp
  have p1 : d'.size = al.length := by simpa using p1
  have hperm : d'.toList.Perm al := by
   have e1 : (d'.extract 0 al.length).toList = d'.toList := by rw [← p1]; simp
   have e2 : (al.toArray.extract 0 al.length).toList = al := by simp
   have := p3
   rw [e1, e2] at this
   exact this
  have hso := sorted_own (d := al.toArray) (d' := d') h p1 m os
  refine ⟨rfl, d'.toList, hperm, ?_, ?_, hso.2⟩
  ·unfold Tr.Up
   rw [List.pairwise_iff_getElem]
   intro i j hi hj hij
   rw [Array.length_toList] at hi hj
   have := hs i j (Nat.zero_le _) hij (by omega)
   rw [lt_cmp, getElem!_pos d' j hj, getElem!_pos d' i hi] at this
   simpa using this
  ·unfold OwnT
   have e3 : d'.toList.length = al.length := by simp [p1]
   rw [e3]
   exact hso.1
end Go.Proofs.YteadfpkihhaadaaGreatDoor
namespace Go.Proofs.YteadfpkihhaadaaGreatDoor
open Go.RowKit
theorem own_sliced {w : World} {B : Nat} {e : TypeId} {size n : Nat} {v : Value} {xs : List Value} (h : w.ownsRow B e size v n xs) : ∃ A c, v = .slice A n c ∧ n ≤ c ∧ c ≤ maxLen ∧ (0 < n → ∃ g, A = some ⟨g, 0, none⟩ ∧ B ≤ g ∧ g < w.heap.size) := by
 rcases own_form h with ⟨e1, e2⟩ | ⟨g, c, e1, e2, e3, e4, e5⟩
 ·exact ⟨none, 0, by rw [e1, e2], by omega, Nat.zero_le _, by omega⟩
 ·exact ⟨_, _, e1, e4, e5, fun _ => ⟨g, rfl, e2, e3⟩⟩
theorem OwnT.reads {w : World} {B : Nat} {A : Option Addr} {c : Nat} {al : List Tr.At} (h : OwnT B w (.slice A al.length c) al) : Reads2o w w.heap.size A al := fun h0 => by
 obtain ⟨A', c', e, _, _, h3⟩ := own_sliced h
 injection e with e1 _ e3
 subst e1 e3
 obtain ⟨g, rfl, _, hg⟩ := h3 h0
 refine ⟨g, 0, rfl, hg, fun k hk => ?_⟩
 have h1 := World.ownsRow.cellAt h (k * 2) (by omega)
 have h2 := World.ownsRow.cellAt h (k * 2 + 1) (by omega)
 have f0 := fl_at encA_len al k 0 hk (by omega)
 have f1 := fl_at encA_len al k 1 hk (by omega)
 rw [Nat.add_zero] at f0
 rw [attrV_enc] at h1 h2
 rw [Nat.zero_add]
 exact ⟨by rw [h1, f0]; rfl, by rw [h2, f1]; rfl⟩
theorem OwnT.nd {w : World} {B : Nat} {A : Option Addr} {c : Nat} {x : Tr.N} (h : OwnT B w (.slice A x.al.length c) x.al) : NdOk w w.heap.size ⟨x, A, c⟩ := by
 obtain ⟨A', c', e, h1, h2, _⟩ := own_sliced h
 injection e with e1 _ e3
 subst e1 e3
 exact ⟨h.reads, h1, h2⟩
def Nd.av (x : Nd) : Value := .slice x.A x.n.al.length x.c
structure PaI (B len : Nat) (w : World) (tv : Value) (ps : List (Tk.T × Value)) (r : Nat) (R : List Tr.N × Nat × Int) (wr : World) (k nx : Nat) (m : Gm) : Prop where
 bl : Below B w wr
 res : IsBlk wr B 31 #[.slice none 0 0]
 gs : GS B wr r m
 rb : B ≠ r
 tok : wr.ownsRow B 76 5 tv ps.length (ps.flatMap tokV)
 rest : ∀ j (hj : j < ps.length), nx ≤ j → OwnT B wr ps[j].2 ps[j].1.as
 nds : ∀ y ∈ m.ns, OwnT B wr y.av y.n.al ∧ ∃ j, ∃ hj : j < ps.length, j < k ∧ (y.av.ownBlock = none ∨ y.av.ownBlock = ps[j].2.ownBlock)
 eq : R = Tr.loop len ((ps.map (·.1)).drop k) m.g
 bd : Tr.Bd m.g (Tk.txs ((ps.map (·.1)).take k)) k
theorem PaI.on {B len : Nat} {w : World} {tv : Value} {ps : List (Tk.T × Value)} {r : Nat} {R : List Tr.N × Nat × Int} {wr w' : World} {k nx : Nat} {m : Gm} (h : PaI B len w tv ps r R wr k nx m) (hb : Below wr.heap.size wr w') : PaI B len w tv ps r R w' k nx m :=
 ⟨h.bl.trans (hb.mono (Nat.le_trans h.gs.base (Nat.le_of_lt h.gs.blk.lt))), h.res.below hb h.res.lt, h.gs.below hb, h.rb, own_below h.tok hb, fun j hj hn => own_below (h.rest j hj hn) hb, fun y hy => ⟨own_below (h.nds y hy).1 hb, (h.nds y hy).2⟩, h.eq, h.bd⟩
def Apart5 (ps : List (Tk.T × Value)) : Prop := ps.Pairwise (fun x y => ∀ g h, x.2.ownBlock = some g → y.2.ownBlock = some h → g ≠ h)
theorem Apart5.at_ {ps : List (Tk.T × Value)} (h : Apart5 ps) {i j : Nat} (hi : i < ps.length) (hj : j < ps.length) (hij : i ≠ j) {g : Nat} (h1 : ps[i].2.ownBlock = some g) : ps[j].2.ownBlock ≠ some g := fun h2 => by
 unfold Apart5 at h
 rw [List.pairwise_iff_getElem] at h
 rcases Nat.lt_or_gt_of_ne hij with hlt | hlt
 ·exact h i j hi hj hlt g g h1 h2 rfl
 ·exact h j i hj hi hlt g g h2 h1 rfl
theorem PaI.sorted {B len : Nat} {w : World} {tv : Value} {ps : List (Tk.T × Value)} {r : Nat} {R : List Tr.N × Nat × Int} {wr w' : World} {k : Nat} {m : Gm} (h : PaI B len w tv ps r R wr k k m) (hap : Apart5 ps) (hk : k < ps.length) (hgr : wr.grownBy w' ps[k].2.ownBlock) : PaI B len w tv ps r R w' k (k + 1) m := by
 have hcur := h.rest k hk (Nat.le_refl _)
 have hkeep : ∀ {B' : Nat} {e : TypeId} {size n : Nat} {v : Value} {xs : List Value}, wr.ownsRow B' e size v n xs → e ≠ 51 → w'.ownsRow B' e size v n xs := fun h1 hne => World.ownsRow.kept h1 hgr (own_types h1 hcur hne)
 have hb : ∀ g, ps[k].2.ownBlock = some g → B ≤ g ∧ g < wr.heap.size := fun g hg => World.ownsRow.lt hcur g hg
 refine ⟨?_, ?_, ?_, h.rb, hkeep h.tok (by decide), ?_, ?_, h.eq, h.bd⟩
 ·exact h.bl.trans (below_of_grown hgr (Nat.le_trans h.gs.base (Nat.le_of_lt h.gs.blk.lt)) (fun g hg => (hb g hg).1))
 ·exact h.res.grown hgr (fun e => blk_apart h.res hcur (by decide) e.symm)
 ·refine h.gs.fr (F := fun b => ps[k].2.ownBlock = some b) (Fr.of_grown hgr (fun _ h => h)) (fun b ho hb => h.gs.not_row hcur (by decide) (by decide) (by decide) (by decide) b hb ho) ?_
  intro x hx h0 a ha e
  obtain ⟨hy, j, hj, hjk, hs⟩ := h.nds x hx
  have hob : x.av.ownBlock = some a.block := by unfold Nd.av; rw [ha]; rfl
  rcases hs with hs | hs
  ·rw [hob] at hs; cases hs
  ·rw [hob] at hs
   exact hap.at_ hj hk (by omega) hs.symm e
 ·intro j hj hn
  refine World.ownsRow.kept (h.rest j hj (by omega)) hgr ?_
  cases e : ps[j].2.ownBlock with
  | none => exact Or.inl rfl
  | some g => exact Or.inr (fun e2 => hap.at_ hj hk (by omega) e e2.symm)
 ·intro y hy
  obtain ⟨h1, j, hj, hjk, hs⟩ := h.nds y hy
  refine ⟨World.ownsRow.kept h1 hgr ?_, j, hj, hjk, hs⟩
  rcases hs with hs | hs
  ·exact Or.inl hs
  ·cases e : ps[j].2.ownBlock with
   | none => exact Or.inl (hs.trans e)
   | some g => exact Or.inr (fun e2 => hap.at_ hj hk (by omega) e (by rw [← e2, hs, e]))
theorem drop_at {α : Type} {l : List α} {k : Nat} (hk : k < l.length) : l.drop k = l[k] :: l.drop (k + 1) := List.drop_eq_getElem_cons hk
theorem txs_take {ts : List Tk.T} {k : Nat} (hk : k < ts.length) : Tk.txs (ts.take (k + 1)) = Tk.txs (ts.take k) + ts[k].tx.length := by
 unfold Tk.txs
 rw [List.take_succ_eq_append_getElem hk, List.map_append, List.sum_append]; simp
theorem PaI.taken {B len : Nat} {w : World} {tv : Value} {ps : List (Tk.T × Value)} {r : Nat} {R : List Tr.N × Nat × Int} {wr w' : World} {k : Nat} {m m' : Gm} {d : List Tr.At} {A : Option Addr} {c : Nat} (h : PaI B len w tv ps r R wr k (k + 1) m) (hk : k < ps.length)
  (hp : d.Perm ps[k].1.as) (hu : Tr.Up d) (hv : ps[k].2 = .slice A d.length c) (hd : OwnT B wr ps[k].2 d) (hw : Tr.wrongAs m.g ⟨ps[k].1.k, ps[k].1.nm, d, ps[k].1.tx, ps[k].1.p⟩ = 0)
  (hg : GTo B r wr m w' m') (hm : m'.g = Tr.takeAs m.g ⟨ps[k].1.k, ps[k].1.nm, d, ps[k].1.tx, ps[k].1.p⟩) (htr : TrIn m m' (some ⟨Tr.nodeAs ⟨ps[k].1.k, ps[k].1.nm, d, ps[k].1.tx, ps[k].1.p⟩, A, c⟩)) : PaI B len w tv ps r R w' (k + 1) (k + 1) m' := by
 have hkm : k < (ps.map (·.1)).length := by rw [List.length_map]; exact hk
 have hrow : ∀ {B' : Nat} {size n : Nat} {v : Value} {xs : List Value}, wr.ownsRow B' 51 size v n xs → w'.ownsRow B' 51 size v n xs := fun h1 => hg.fr.own h1 (h.gs.not_row h1 (by decide) (by decide) (by decide) (by decide))
 have hB : B ≤ wr.heap.size := Nat.le_trans h.gs.base (Nat.le_of_lt h.gs.blk.lt)
 refine ⟨h.bl.trans (hg.fr.below (fun b hb => (h.gs.kinds hb).1) hB), hg.fr.blk h.res (h.gs.not_own h.res (by decide) (by decide) (by decide) (by decide)), hg.gs, h.rb, hg.fr.own h.tok (h.gs.not_row h.tok (by decide) (by decide) (by decide) (by decide)), fun j hj hn => hrow (h.rest j hj hn), ?_, ?_, ?_⟩
 ·intro y hy
  rcases htr y hy with ⟨z, hz, e⟩ | ⟨z, e1, e⟩
  ·obtain ⟨h1, j, hj, hjk, hs⟩ := h.nds z hz
   have hav : y.av = z.av ∧ y.n.al = z.n.al := by
    unfold Nd.tr at e
    injection e with e1 e
    injection e with e2 e3
    exact ⟨by unfold Nd.av; rw [e1, e2, e3], e3⟩
   rw [hav.1, hav.2]
   exact ⟨hrow h1, j, hj, by omega, hs⟩
  ·injection e1 with e1
   subst e1
   have hav : y.av = ps[k].2 ∧ y.n.al = d := by
    unfold Nd.tr at e
    injection e with e1 e
    injection e with e2 e3
    exact ⟨by unfold Nd.av; rw [e1, e2, e3, hv]; rfl, e3⟩
   rw [hav.1, hav.2]
   exact ⟨hrow hd, k, hk, by omega, Or.inr rfl⟩
 ·rw [h.eq, drop_at hkm, Tr.loop_step (d := d) (by rw [List.getElem_map]; exact hp) hu, hm]
  simp only [List.getElem_map]
  rw [hw, if_neg (by simp)]
 ·rw [hm, txs_take hkm]
  have := h.bd.takeAs ⟨ps[k].1.k, ps[k].1.nm, d, ps[k].1.tx, ps[k].1.p⟩ hw
  simpa using this
theorem PaI.bad {B len : Nat} {w : World} {tv : Value} {ps : List (Tk.T × Value)} {r : Nat} {R : List Tr.N × Nat × Int} {wr : World} {k nx : Nat} {m : Gm} {d : List Tr.At} (h : PaI B len w tv ps r R wr k nx m) (hk : k < ps.length) (hp : d.Perm ps[k].1.as) (hu : Tr.Up d)
  (hw : Tr.wrongAs m.g ⟨ps[k].1.k, ps[k].1.nm, d, ps[k].1.tx, ps[k].1.p⟩ ≠ 0) : R = ([], ps[k].1.p, Tr.wrongAs m.g ⟨ps[k].1.k, ps[k].1.nm, d, ps[k].1.tx, ps[k].1.p⟩) := by
 have hkm : k < (ps.map (·.1)).length := by rw [List.length_map]; exact hk
 rw [h.eq, drop_at hkm, Tr.loop_step (d := d) (by rw [List.getElem_map]; exact hp) hu]
 simp only [List.getElem_map]
 rw [if_pos hw]
theorem PaI.done {B len : Nat} {w : World} {tv : Value} {ps : List (Tk.T × Value)} {r : Nat} {R : List Tr.N × Nat × Int} {wr : World} {nx : Nat} {m : Gm} (h : PaI B len w tv ps r R wr ps.length nx m) : R = if Tr.behind m.g then (m.g.ns, 0, 0) else ([], len, 50) := by
 have := h.eq
 rw [List.drop_eq_nil_of_le (by rw [List.length_map]; exact Nat.le_refl _)] at this
 rw [this]; rfl
structure NdRow (B : Nat) (w : World) (v : Value) (nds : List Nd) : Prop where
 own : w.ownsRow B 49 7 v nds.length (nds.flatMap ndV)
 att : ∀ x ∈ nds, OwnT B w x.av x.n.al
def ParP (R : List Tr.N × Nat × Int) (w : World) (e : Ending) (w' : World) : Prop :=
 ∃ v nds, e = .returned (.tuple #[.agg #[v], .int .i64 R.2.1, .int .i64 R.2.2]) ∧ NdRow w.heap.size w' v nds ∧ nds.map Nd.n = R.1 ∧ Below w.heap.size w w'
end Go.Proofs.YteadfpkihhaadaaGreatDoor
