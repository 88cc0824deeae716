/- Facts and walks for the statement. -/
import Derived.Test.YteadfpkihhaadaaGreatDoorPz09
import Derived.ScopeJumps
import Derived.WalkMore
namespace Go.Proofs.YteadfpkihhaadaaGreatDoor
open Go.RowKit
def Mx (w : World) : Prop := ∃ m, w.cell? ⟨3, 0, none⟩ = some (.int .i64 m)
theorem Mx.below {w w' : World} (h : Mx w) (hb : Below w.heap.size w w') : Mx w' := by
 obtain ⟨m, hm⟩ := h
 exact ⟨m, (hb.cell (p := ⟨3, 0, none⟩) (World.block_lt_of_cell? w _ hm)).trans hm⟩
theorem cut_any (s sep : ByteArray) (w : World) (hs : s.size ≤ 1000000) (h : Mx w) :
  Calls Tryz.prog 126 #[.string s, .string sep] w fun e w' => e = .returned (.tuple #[.string ⟨(Lib.cut s.data.toList sep.data.toList).1.toArray⟩, .string ⟨(Lib.cut s.data.toList sep.data.toList).2.1.toArray⟩, .bool (Lib.cut s.data.toList sep.data.toList).2.2]) ∧ Below w.heap.size w w' := by
 obtain ⟨m, hm⟩ := h
 refine (Tryz.strings_Cut s sep m w (by omega) hm).mono fun e w' he => ⟨he.1, ?_⟩
 obtain ⟨n, rfl⟩ := he.2
 exact ⟨rfl, rfl, rfl, Nat.le_refl _, fun _ _ => rfl⟩
abbrev m00 : ByteArray := ⟨#[60, 33, 45, 45]⟩
abbrev m01 : ByteArray := ⟨#[45, 45, 62]⟩
abbrev m10 : ByteArray := ⟨#[60, 63]⟩
abbrev m11 : ByteArray := ⟨#[63, 62]⟩
def remB (l : List UInt8) (n : Nat) (e : List UInt8) : Nat := if 0 ≤ Lib.index (l.drop n) e then (Lib.index (l.drop n) e).toNat + (n + e.length) else 0
theorem rem_of0 {l : List UInt8} (h : Lib.hasPrefix l [60, 33, 45, 45] = true) : Tk.rem l = remB l 4 [45, 45, 62] := by unfold Tk.rem remB; rw [if_pos h]; rfl
theorem rem_of1 {l : List UInt8} (h0 : Lib.hasPrefix l [60, 33, 45, 45] = false) (h : Lib.hasPrefix l [60, 63] = true) : Tk.rem l = remB l 2 [63, 62] := by unfold Tk.rem remB; rw [if_neg (by rw [h0]; decide), if_pos h]; rfl
theorem rem_of2 {l : List UInt8} (h0 : Lib.hasPrefix l [60, 33, 45, 45] = false) (h : Lib.hasPrefix l [60, 63] = false) : Tk.rem l = 0 := by unfold Tk.rem; rw [if_neg (by rw [h0]; decide), if_neg (by rw [h]; decide)]
set_option maxHeartbeats 4000000 in
set_option maxRecDepth 100000 in
theorem remark_any (s : ByteArray) (hs : s.size ≤ 1000000) (w : World) (hmx : Mx w) :
  Calls Tryz.prog 93 #[.string s] w fun e w' => e = .returned (.int .i64 (Tk.rem s.data.toList)) ∧ Below w.heap.size w w' := by
 have i0 : ∀ w, (Instr.index 186 (.agg #[.string m00, .string m01, .string m10, .string m11]) (.int .i64 0)).run Tryz.prog w = .ok (.agg #[.string m00, .string m01]) w := fun _ => by kernel_rfl
 have i1 : ∀ w, (Instr.index 186 (.agg #[.string m00, .string m01, .string m10, .string m11]) (.int .i64 1)).run Tryz.prog w = .ok (.agg #[.string m10, .string m11]) w := fun _ => by kernel_rfl
 obtain ⟨l, hl⟩ : ∃ l, l = s.data.toList := ⟨_, rfl⟩
 have HM := Lib.hid hmx
 rw [← hl]
 clear hmx
 go_enter Tryz.func93, Tryz.ntmps93
 go_wp2
 go_loopw [12] (fun i wr => ∃ k : Int, (k = 0 ∨ k = 1 ∨ k = 2) ∧ i = .int .i64 k ∧ Hid (Below w.heap.size w wr) ∧ Hid (1 ≤ k → Lib.hasPrefix l [60, 33, 45, 45] = false) ∧ Hid (2 ≤ k → Lib.hasPrefix l [60, 63] = false)) (fun i _ => 2 - (intOf i).toNat)
 case atStart => exact ⟨0, Or.inl rfl, rfl, Lib.hid (Below.refl _ _), Lib.hid (fun h => by omega), Lib.hid (fun h => by omega)⟩
 case round =>
  obtain ⟨k, hk, rfl, HB, HA, HC⟩ := hrel
  have HMR := Lib.hid (HM.out.below HB.out)
  rcases hk with rfl | rfl | rfl
  ·cases hy : Lib.hasPrefix l [60, 33, 45, 45] with
   | true =>
    have HPX := Lib.hid (fun w0 => cutp_yes s m00 (by rw [← hl]; exact hy) w0)
    have hal : (⟨(s.data.toList.drop m00.data.toList.length).toArray⟩ : ByteArray).size ≤ 1000000 := by rw [size_mk, List.length_drop, ← Lib.size_eq]; omega
    obtain ⟨D, hD⟩ : ∃ D : ByteArray, D = ⟨(s.data.toList.drop m00.data.toList.length).toArray⟩ := ⟨_, rfl⟩
    rw [← hD] at HPX hal
    have hDd : D.data.toList = l.drop 4 := by rw [hD, hl]; rfl
    have HCX := Lib.hid (fun w0 (k : Mx w0) => cut_any D m01 w0 hal k)
    have hR := rem_of0 hy
    unfold remB at hR
    unfold Lib.cut at HCX
    rw [hDd] at HCX
    by_cases hi : 0 ≤ Lib.index (l.drop 4) [45, 45, 62]
    ·rw [if_pos hi] at hR HCX
     have hroom := Lib.index_room _ _ hi
     obtain ⟨V, hV⟩ : ∃ V : ByteArray, V = ⟨((l.drop 4).take (Lib.index (l.drop 4) [45, 45, 62]).toNat).toArray⟩ := ⟨_, rfl⟩
     have hVs : V.size = (Lib.index (l.drop 4) [45, 45, 62]).toNat := by rw [hV, size_mk, List.length_take]; simp only [List.length_cons, List.length_nil] at hroom; omega
     simp only at HCX
     rw [← hV] at HCX
     rw [← hVs] at hR
     have hVl : V.size ≤ 1000000 := by
      have : (l.drop 4).length ≤ s.size := by rw [List.length_drop, hl, ← Lib.size_eq]; omega
      omega
     have HRR := Lib.hid hR
     generalize ((l.drop 4).drop ((Lib.index (l.drop 4) [45, 45, 62]).toNat + m01.data.toList.length)).toArray = W at HCX
     clear hR hV hVs hi hroom hD hDd hal
     go_wp2_with fail
     refine (HPX.out _).mono ?_
     rintro e w1 ⟨rfl, rfl⟩
     go_wp2_with fail
     refine (HCX.out _ (HMR.out.below ((Below.refl _ _).alloc (Nat.le_refl _) _))).mono ?_
     rintro e w2 ⟨rfl, h2⟩
     have k0 : w2.cell? ⟨wr.heap.size, 0, none⟩ = some (.string m00) := (h2.cell (p := ⟨wr.heap.size, 0, none⟩) (by simp)).trans (by rw [(IsBlk.new wr _ _).at_]; rfl)
     have k1 : w2.cell? ⟨wr.heap.size, 1, none⟩ = some (.string m01) := (h2.cell (p := ⟨wr.heap.size, 1, none⟩) (by simp)).trans (by rw [(IsBlk.new wr _ _).at_]; rfl)
     have B2 := Lib.hid (HB.out.trans ((((Below.refl _ _).alloc (Nat.le_refl _) _).trans (h2.mono (by simp))).mono HB.out.size))
     clear h2
     go_wp2
     go_ret
     exact ⟨by rw [HRR.out]; simp [Int.add_comm, Int.add_left_comm], B2.out⟩
    ·rw [if_neg hi] at hR HCX
     have HRR := Lib.hid hR
     clear hR hi hD hDd hal
     go_wp2_with fail
     refine (HPX.out _).mono ?_
     rintro e w1 ⟨rfl, rfl⟩
     go_wp2_with fail
     refine (HCX.out _ (HMR.out.below ((Below.refl _ _).alloc (Nat.le_refl _) _))).mono ?_
     rintro e w2 ⟨rfl, h2⟩
     have B2 := Lib.hid (HB.out.trans ((((Below.refl _ _).alloc (Nat.le_refl _) _).trans (h2.mono (by simp))).mono HB.out.size))
     clear h2
     go_wp2
     go_ret
     exact ⟨by rw [HRR.out]; rfl, B2.out⟩
   | false =>
    have HPX := Lib.hid (fun w0 => cutp_no s m00 (by rw [← hl]; exact hy) w0)
    have HY := Lib.hid hy
    clear hy
    go_wp2_with fail
    refine (HPX.out _).mono ?_
    rintro e w1 ⟨rfl, rfl⟩
    have B2 := Lib.hid (HB.out.trans (((Below.refl _ _).alloc (Nat.le_refl _) (.cells #[.string m00, .string m01] 185)).mono HB.out.size))
    go_wp2
    go_roundw
    case rel => exact ⟨1, Or.inr (Or.inl rfl), rfl, B2, by first | exact Lib.hid (fun _ => HY.out) | exact Lib.hid (fun _ => trivial), Lib.hid (fun h => by omega)⟩
    case measure => simp [intOf]
  ·have h0 := HA.out (by omega)
   cases hy : Lib.hasPrefix l [60, 63] with
   | true =>
    have HPX := Lib.hid (fun w0 => cutp_yes s m10 (by rw [← hl]; exact hy) w0)
    have hal : (⟨(s.data.toList.drop m10.data.toList.length).toArray⟩ : ByteArray).size ≤ 1000000 := by rw [size_mk, List.length_drop, ← Lib.size_eq]; omega
    obtain ⟨D, hD⟩ : ∃ D : ByteArray, D = ⟨(s.data.toList.drop m10.data.toList.length).toArray⟩ := ⟨_, rfl⟩
    rw [← hD] at HPX hal
    have hDd : D.data.toList = l.drop 2 := by rw [hD, hl]; rfl
    have HCX := Lib.hid (fun w0 (k : Mx w0) => cut_any D m11 w0 hal k)
    have hR := rem_of1 h0 hy
    unfold remB at hR
    unfold Lib.cut at HCX
    rw [hDd] at HCX
    by_cases hi : 0 ≤ Lib.index (l.drop 2) [63, 62]
    ·rw [if_pos hi] at hR HCX
     have hroom := Lib.index_room _ _ hi
     obtain ⟨V, hV⟩ : ∃ V : ByteArray, V = ⟨((l.drop 2).take (Lib.index (l.drop 2) [63, 62]).toNat).toArray⟩ := ⟨_, rfl⟩
     have hVs : V.size = (Lib.index (l.drop 2) [63, 62]).toNat := by rw [hV, size_mk, List.length_take]; simp only [List.length_cons, List.length_nil] at hroom; omega
     simp only at HCX
     rw [← hV] at HCX
     rw [← hVs] at hR
     have hVl : V.size ≤ 1000000 := by
      have : (l.drop 2).length ≤ s.size := by rw [List.length_drop, hl, ← Lib.size_eq]; omega
      omega
     have HRR := Lib.hid hR
     generalize ((l.drop 2).drop ((Lib.index (l.drop 2) [63, 62]).toNat + m11.data.toList.length)).toArray = W at HCX
     clear hR hV hVs hi hroom hD hDd hal
     go_wp2_with fail
     refine (HPX.out _).mono ?_
     rintro e w1 ⟨rfl, rfl⟩
     go_wp2_with fail
     refine (HCX.out _ (HMR.out.below ((Below.refl _ _).alloc (Nat.le_refl _) _))).mono ?_
     rintro e w2 ⟨rfl, h2⟩
     have k0 : w2.cell? ⟨wr.heap.size, 0, none⟩ = some (.string m10) := (h2.cell (p := ⟨wr.heap.size, 0, none⟩) (by simp)).trans (by rw [(IsBlk.new wr _ _).at_]; rfl)
     have k1 : w2.cell? ⟨wr.heap.size, 1, none⟩ = some (.string m11) := (h2.cell (p := ⟨wr.heap.size, 1, none⟩) (by simp)).trans (by rw [(IsBlk.new wr _ _).at_]; rfl)
     have B2 := Lib.hid (HB.out.trans ((((Below.refl _ _).alloc (Nat.le_refl _) _).trans (h2.mono (by simp))).mono HB.out.size))
     clear h2
     go_wp2
     go_ret
     exact ⟨by rw [HRR.out]; simp [Int.add_comm, Int.add_left_comm], B2.out⟩
    ·rw [if_neg hi] at hR HCX
     have HRR := Lib.hid hR
     clear hR hi hD hDd hal
     go_wp2_with fail
     refine (HPX.out _).mono ?_
     rintro e w1 ⟨rfl, rfl⟩
     go_wp2_with fail
     refine (HCX.out _ (HMR.out.below ((Below.refl _ _).alloc (Nat.le_refl _) _))).mono ?_
     rintro e w2 ⟨rfl, h2⟩
     have B2 := Lib.hid (HB.out.trans ((((Below.refl _ _).alloc (Nat.le_refl _) _).trans (h2.mono (by simp))).mono HB.out.size))
     clear h2
     go_wp2
     go_ret
     exact ⟨by rw [HRR.out]; rfl, B2.out⟩
   | false =>
    have HPX := Lib.hid (fun w0 => cutp_no s m10 (by rw [← hl]; exact hy) w0)
    have HY := Lib.hid hy
    have H0 := Lib.hid h0
    clear hy h0
    go_wp2_with fail
    refine (HPX.out _).mono ?_
    rintro e w1 ⟨rfl, rfl⟩
    have B2 := Lib.hid (HB.out.trans (((Below.refl _ _).alloc (Nat.le_refl _) (.cells #[.string m10, .string m11] 185)).mono HB.out.size))
    go_wp2
    go_roundw
    case rel => exact ⟨2, Or.inr (Or.inr rfl), rfl, B2, by first | exact Lib.hid (fun _ => H0.out) | exact Lib.hid (fun _ => trivial), by first | exact Lib.hid (fun _ => HY.out) | exact Lib.hid (fun _ => trivial)⟩
    case measure => simp [intOf]
  ·have HR := Lib.hid (rem_of2 (HA.out (by omega)) (HC.out (by omega)))
   go_wp2
   go_ret
   exact ⟨by rw [HR.out]; rfl, HB.out⟩
set_option maxHeartbeats 1000000 in
theorem blank_any (s : ByteArray) (hs : s.size ≤ maxLen) (w : World) :
  Calls Tryz.prog 69 #[.string s] w fun e w' => e = .returned (.bool (Tk.allB s.data.toList)) ∧ Below w.heap.size w w' := by
 have HT := Lib.hid (trim_any s w hs)
 have he := Tk.trim_isEmpty s.data.toList
 cases ht : Lib.trimS s.data.toList Tk.blanks with
 | nil =>
  rw [ht] at HT he
  rw [← he]
  clear ht he
  go_enter Tryz.func69, Tryz.ntmps69
  go_wp2_with fail
  refine HT.out.mono ?_
  rintro e w1 ⟨rfl, h1⟩
  go_wp2
  go_ret
  exact ⟨rfl, h1⟩
 | cons a t =>
  rw [ht] at HT he
  rw [← he]
  clear ht he
  obtain ⟨X, hX⟩ : ∃ X : ByteArray, X = ⟨(a :: t).toArray⟩ := ⟨_, rfl⟩
  have hXe : X.toList.isEmpty = false := by rw [Lib.toList_data, hX]; rfl
  have hXe2 : X.toList ≠ [] := by intro h; rw [h] at hXe; cases hXe
  rw [← hX] at HT
  clear hX
  go_enter Tryz.func69, Tryz.ntmps69
  go_wp2_with fail
  refine HT.out.mono ?_
  rintro e w1 ⟨rfl, h1⟩
  go_wp2
  go_ret
  exact ⟨by first | rfl | simp, h1⟩
end Go.Proofs.YteadfpkihhaadaaGreatDoor
namespace Go.Proofs.YteadfpkihhaadaaGreatDoor
open Go
def jumpsTo (J : Nat → Act → World → Prop) (Q : Exit → Act → World → Prop) : Exit → Act → World → Prop
 | .goto l, a, w => J l a w
 | e, a, w => Q e a w
section
variable {P : Program} {a : Act} {w : World} {Q : Exit → Act → World → Prop}
theorem scope_multi {c : Code} (J : Nat → Nat → Act → World → Prop) (first : c.wp P (jumpsTo (fun l a w => ∃ m, J m l a w) Q) a w)
  (pass : ∀ m l a w, J m l a w → ∃ rest, findLabel c l = some rest ∧ rest.wp P (jumpsTo (fun l' a' w' => ∃ m', m' < m ∧ J m' l' a' w') Q) a w) : (Code.scope c).wp P Q a w := by
 intro b k cs
 have key : ∀ m l a w, J m l a w → ∃ rest, findLabel c l = some rest ∧ ∃ e a' w', Q e a' w' ∧ Arrives P (lone (b.at a (.code rest :: .inScope c :: k)) cs w) b k cs e a' w' := by
  intro m
  induction m using Nat.strongRecOn with
  | _ m ih =>
   intro l a w hJ
   obtain ⟨rest, hf, hp⟩ := pass m l a w hJ
   refine ⟨rest, hf, ?_⟩
   obtain ⟨e, a1, w1, hq, harr⟩ := hp b (.inScope c :: k) cs
   cases e with
   | goto l' =>
    obtain ⟨m', hlt, hJ'⟩ := hq
    obtain ⟨rest', hf', e2, a2, w2, hq2, harr2⟩ := ih m' hlt l' a1 w1 hJ'
    have hg : gotoIn l' (.inScope c :: k) = some (.code rest' :: .inScope c :: k) := by simp [gotoIn, hf']
    exact ⟨e2, a2, w2, hq2, .of_steps (harr _ hg) harr2⟩
   | normal => exact ⟨.normal, a1, w1, hq, Steps.trans harr (.one step_inScope)⟩
   | exit id => exact ⟨.exit id, a1, w1, hq, fun k' hk => harr k' (by simp [exitTo, hk])⟩
   | ret => exact ⟨_, a1, w1, hq, harr⟩
   | panic ch => exact ⟨_, a1, w1, hq, harr⟩
   | outgrown => exact ⟨_, a1, w1, hq, harr⟩
 obtain ⟨e, a1, w1, hq, harr⟩ := first b (.inScope c :: k) cs
 cases e with
 | goto l' =>
  obtain ⟨m, hJ⟩ := hq
  obtain ⟨rest', hf', e2, a2, w2, hq2, harr2⟩ := key m l' a1 w1 hJ
  have hg : gotoIn l' (.inScope c :: k) = some (.code rest' :: .inScope c :: k) := by simp [gotoIn, hf']
  exact ⟨e2, a2, w2, hq2, .of_steps (.head step_scope (harr _ hg)) harr2⟩
 | normal => exact ⟨.normal, a1, w1, hq, .head step_scope (Steps.trans harr (.one step_inScope))⟩
 | exit id => exact ⟨.exit id, a1, w1, hq, fun k' hk => .head step_scope (harr k' (by simp [exitTo, hk]))⟩
 | ret => exact ⟨_, a1, w1, hq, .of_steps (.one step_scope) harr⟩
 | panic ch => exact ⟨_, a1, w1, hq, .of_steps (.one step_scope) harr⟩
 | outgrown => exact ⟨_, a1, w1, hq, .of_steps (.one step_scope) harr⟩
def inl (P : Program) (c : Code) (Q : Exit → Act → World → Prop) (N : Act → World → Prop) : Nat → Nat → Act → World → Prop
 | 0, l, a, w => l = 0 ∧ N a w
 | k + 1, l, a, w => (l = 0 ∧ N a w) ∨ (l ≠ 0 ∧ ∃ rest, findLabel c l = some rest ∧ rest.wp P (jumpsTo (inl P c Q N k) Q) a w)
theorem inl.back {c : Code} {N : Act → World → Prop} {a : Act} {w : World} (k : Nat) (h : N a w) : inl P c Q N k 0 a w := by
 cases k with
 | zero => exact ⟨rfl, h⟩
 | succ k => exact Or.inl ⟨rfl, h⟩
theorem inl.on {c : Code} {N : Act → World → Prop} {l k : Nat} {a : Act} {w : World} (rest : Code) (hl : l ≠ 0) (hf : findLabel c l = some rest) (h : rest.wp P (jumpsTo (inl P c Q N k) Q) a w) : inl P c Q N (k + 1) l a w := Or.inr ⟨hl, rest, hf, h⟩
theorem scope_inl {c : Code} (K : Nat) (I : Act → World → Prop) (mu : Act → World → Nat) (n0 : Nat) (rest0 : Code) (hf : findLabel c 0 = some (Code.seq .skip rest0))
  (first : (∀ a w, I a w → mu a w = n0 → rest0.wp P (jumpsTo (inl P c Q (fun a' w' => I a' w' ∧ mu a' w' < n0) K) Q) a w) → c.wp P (jumpsTo (inl P c Q (fun a' w' => I a' w' ∧ mu a' w' < n0) K) Q) a w)
  (pass : ∀ a w, I a w → rest0.wp P (jumpsTo (inl P c Q (fun a' w' => I a' w' ∧ mu a' w' < mu a w) K) Q) a w) : (Code.scope c).wp P Q a w := by
 have hM : ∀ {d : Code} {a : Act} {w : World} {J J' : Nat → Act → World → Prop}, (∀ l a w, J l a w → J' l a w) → d.wp P (jumpsTo J Q) a w → d.wp P (jumpsTo J' Q) a w := by
  intro d a w J J' h
  refine Code.wp_mono fun e a w => ?_
  cases e with
  | goto l => exact h l a w
  | _ => exact id
 refine scope_multi (fun m l a w => ∃ n k, k ≤ K ∧ m = (K + 1) * n + k ∧ inl P c Q (fun a' w' => I a' w' ∧ mu a' w' < n) k l a w) (hM (fun l a w h => ⟨_, n0, K, Nat.le_refl _, rfl, h⟩) (first (fun a w hI he => he ▸ pass a w hI))) ?_
 rintro m l a w ⟨n, k, hk, rfl, h⟩
 have zero : l = 0 ∧ I a w ∧ mu a w < n → ∃ rest, findLabel c l = some rest ∧ rest.wp P (jumpsTo (fun l' a' w' => ∃ m', m' < (K + 1) * n + k ∧ ∃ n' k', k' ≤ K ∧ m' = (K + 1) * n' + k' ∧ inl P c Q (fun a' w' => I a' w' ∧ mu a' w' < n') k' l' a' w') Q) a w := by
  rintro ⟨rfl, hI, hlt⟩
  refine ⟨_, hf, wp_seq (wp_skip (hM (fun l' a' w' h' => ⟨(K + 1) * mu a w + K, ?_, mu a w, K, Nat.le_refl _, rfl, h'⟩) (pass a w hI)))⟩
  have : (K + 1) * (mu a w + 1) ≤ (K + 1) * n := Nat.mul_le_mul_left _ hlt
  rw [Nat.mul_succ] at this
  omega
 cases k with
 | zero => exact zero h
 | succ k =>
  rcases h with h | ⟨hl, rest, hf', hw⟩
  ·exact zero h
  ·exact ⟨rest, hf', hM (fun l' a' w' h' => ⟨(K + 1) * n + k, by omega, n, k, by omega, rfl, h'⟩) hw⟩
end
end Go.Proofs.YteadfpkihhaadaaGreatDoor
