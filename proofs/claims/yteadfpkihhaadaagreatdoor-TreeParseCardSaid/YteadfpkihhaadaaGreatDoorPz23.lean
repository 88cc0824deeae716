/- Facts and walks for the statement. -/
import Derived.Test.YteadfpkihhaadaaGreatDoorPz22
import Derived.Sort.Walk0
import Derived.Laws.EntriesVeiled
namespace Go.Proofs.YteadfpkihhaadaaGreatDoor
open Go.RowKit
theorem toList_of {a : List UInt8} {A : ByteArray} (h : A = ⟨a.toArray⟩) : A.toList = a := by rw [Lib.toList_data, h]
theorem rising_at {al : List Tr.At} {k : Nat} (hk : k + 1 < al.length) : Tr.rising (al.drop k) = (Tr.lt al[k].1 al[k + 1].1 && Tr.rising (al.drop (k + 1))) := by
 rw [List.drop_eq_getElem_cons (by omega : k < al.length), List.drop_eq_getElem_cons hk]
 rfl
theorem rising_end {al : List Tr.At} {k : Nat} (hk : al.length ≤ k + 1) : Tr.rising (al.drop k) = true := by
 rcases Nat.lt_or_ge k al.length with h | h
 ·rw [List.drop_eq_getElem_cons h, List.drop_eq_nil_of_le hk]; rfl
 ·rw [List.drop_eq_nil_of_le h]; rfl
set_option maxHeartbeats 4000000 in
set_option maxRecDepth 100000 in
theorem rising_any (w : World) (A : Option Addr) (c : Nat) (al : List Tr.At) (hl : al.length ≤ c) (hc : c ≤ maxLen) (h : Reads2o w w.heap.size A al) :
  Calls Tryz.prog 71 #[.slice A al.length c] w fun e w' => e = .returned (.bool (Tr.rising al)) ∧ Below w.heap.size w w' := by
 have H := Lib.hid h
 have hm : (al.length : Int) ≤ 9223372036854775807 := by unfold maxLen at hc; omega
 obtain ⟨R, hR⟩ : ∃ R, R = Tr.rising al := ⟨_, rfl⟩
 have HR := Lib.hid (show R = Tr.rising (al.drop 0) from hR)
 rw [← hR]
 clear h hR
 go_enter Tryz.func71, Tryz.ntmps71
 go_wp2
 go_loopw [3] (fun i wr => ∃ k : Nat, i = .int .i64 (k + 1 : Nat) ∧ k ≤ al.length ∧ Hid (Below w.heap.size w wr ∧ R = Tr.rising (al.drop k))) (fun i _ => al.length + 1 - (intOf i).toNat)
 case atStart => exact ⟨0, rfl, Nat.zero_le _, Lib.hid ⟨Below.refl _ _, HR.out⟩⟩
 case round =>
  obtain ⟨k, rfl, hk, HI⟩ := hrel
  by_cases hlt : k + 1 < al.length
  ·have hlt' : ((k + 1 : Nat) : Int) < (al.length : Int) := by omega
   obtain ⟨g, o, hA, hg, hcl⟩ := (H.out.below HI.out.1) (by omega)
   subst hA
   have c0 := (hcl k (by omega)).1
   have c1 := (hcl (k + 1) hlt).1
   have HST := Lib.hid (HI.out.2.trans (rising_at hlt))
   clear hcl
   have e1 : (((k + 1 : Nat) : Int) - 1).toNat = k := by omega
   have e2 : IntKind.i64.wrap (((k + 1 : Nat) : Int) - 1) = ((k + 1 : Nat) : Int) - 1 := by rw [IntKind.wrap_i64]; omega
   have e3 : (0 : Int) ≤ ((k + 1 : Nat) : Int) - 1 := by omega
   have e4 : ((k + 1 : Nat) : Int) - 1 < (al.length : Int) := by omega
   generalize al[k]'(by omega) = a at *
   generalize al[k + 1]'hlt = b at *
   obtain ⟨U, hU⟩ : ∃ U : ByteArray, U = ⟨a.1.toArray⟩ := ⟨_, rfl⟩
   obtain ⟨V, hV⟩ : ∃ U : ByteArray, U = ⟨b.1.toArray⟩ := ⟨_, rfl⟩
   rw [← hU] at c0
   rw [← hV] at c1
   obtain ⟨L, hL⟩ : ∃ L, L = Tr.lt a.1 b.1 := ⟨_, rfl⟩
   rw [← hL] at HST
   have hlb : Op.bytesLess U.toList V.toList = L := by rw [toList_of hU, toList_of hV, hL]; rfl
   have hlb2 : decide (U.data.toList < V.data.toList) = L := by rw [← hlb, bytesLess_eq, Lib.toList_data, Lib.toList_data]
   clear hU hV hL hk
   obtain ⟨K, hK⟩ : ∃ K, K = k + 1 := ⟨_, rfl⟩
   rw [← hK] at hlt hlt' c1 HST e1 e2 e3 e4 ⊢
   have HKK := Lib.hid hK
   clear hK
   cases L with
   | true =>
    go_wp2_with fail
    go_quiet (fail)
    go_wp2
    go_roundw
    case rel => exact ⟨K, by go_num, by omega, Lib.hid ⟨below_drewN HI.out.1 _, by rw [HST.out, Bool.true_and]⟩⟩
    case measure => have := HKK.out; simp [intOf]; omega
   | false =>
    have HF := Lib.hid (show R = false by rw [HST.out, Bool.false_and])
    go_wp2_with fail
    go_quiet (fail)
    go_wp2
    go_ret
    exact ⟨by rw [HF.out]; rfl, below_drewN HI.out.1 _⟩
  ·have hlt' : ¬ ((k + 1 : Nat) : Int) < (al.length : Int) := by omega
   have HF := Lib.hid (show R = true from HI.out.2.trans (rising_end (by omega)))
   clear hlt hk
   generalize k + 1 = K at *
   go_wp2
   go_ret
   exact ⟨by rw [HF.out]; rfl, HI.out.1⟩
set_option maxHeartbeats 4000000 in
set_option maxRecDepth 100000 in
theorem begins_any5 (w : World) (t : Tk.T) (A : Option Addr) (c : Nat) (hk : t.k = 1 ∨ t.k = 2 ∨ t.k = 3 ∨ t.k = 4) :
  Calls Tryz.prog 105 #[.agg (tokC5 t A c)] w fun e w' => e = .returned (.bool (Tr.begins t)) ∧ Below w.heap.size w w' := by
 obtain ⟨W1, hW1⟩ : ∃ W1, W1 = w.alloc (.cells (tokC5 t A c) 76) := ⟨_, rfl⟩
 have hb1 : Below w.heap.size w W1 := by rw [hW1]; exact (Below.refl _ _).alloc (Nat.le_refl _) _
 have hk1 : IsBlk W1 w.heap.size 76 (tokC5 t A c) := by rw [hW1]; exact IsBlk.new _ _ _
 have HB1 := Lib.hid hb1
 have HE1 := Lib.hid hW1
 have HK1 := Lib.hid hk1
 unfold tokC5 at HE1 HK1 ⊢
 obtain ⟨N, hN⟩ : ∃ N : ByteArray, N = ⟨t.nm.toArray⟩ := ⟨_, rfl⟩
 obtain ⟨X, hX⟩ : ∃ N : ByteArray, N = ⟨t.tx.toArray⟩ := ⟨_, rfl⟩
 unfold Tr.begins
 rcases hk with hk | hk | hk | hk
 ·rw [show (t.k == 1 || t.k == 3) = true by rw [hk]; rfl]
  rw [← hN, ← hX, hk] at HE1 HK1 ⊢
  have x0 : W1.cell? ⟨w.heap.size, 0, none⟩ = some (.int .u8 1) := HK1.out.at_ 0
  have x1 : W1.cell? ⟨w.heap.size, 1, none⟩ = some (.string N) := HK1.out.at_ 1
  have x2 : W1.cell? ⟨w.heap.size, 2, none⟩ = some (.slice A t.as.length c) := HK1.out.at_ 2
  have x3 : W1.cell? ⟨w.heap.size, 3, none⟩ = some (.string X) := HK1.out.at_ 3
  have x4 : W1.cell? ⟨w.heap.size, 4, none⟩ = some (.int .i64 t.p) := HK1.out.at_ 4
  rw [HE1.out] at x0 x1 x2 x3 x4
  clear hk hN hX hW1 hb1 hk1
  go_enter Tryz.func105, Tryz.ntmps105
  go_wp2
  rw [← HE1.out]
  go_ret
  exact ⟨rfl, HB1.out⟩
 ·rw [show (t.k == 1 || t.k == 3) = false by rw [hk]; rfl]
  rw [← hN, ← hX, hk] at HE1 HK1 ⊢
  have x0 : W1.cell? ⟨w.heap.size, 0, none⟩ = some (.int .u8 2) := HK1.out.at_ 0
  have x1 : W1.cell? ⟨w.heap.size, 1, none⟩ = some (.string N) := HK1.out.at_ 1
  have x2 : W1.cell? ⟨w.heap.size, 2, none⟩ = some (.slice A t.as.length c) := HK1.out.at_ 2
  have x3 : W1.cell? ⟨w.heap.size, 3, none⟩ = some (.string X) := HK1.out.at_ 3
  have x4 : W1.cell? ⟨w.heap.size, 4, none⟩ = some (.int .i64 t.p) := HK1.out.at_ 4
  rw [HE1.out] at x0 x1 x2 x3 x4
  clear hk hN hX hW1 hb1 hk1
  go_enter Tryz.func105, Tryz.ntmps105
  go_wp2
  rw [← HE1.out]
  go_ret
  exact ⟨rfl, HB1.out⟩
 ·rw [show (t.k == 1 || t.k == 3) = true by rw [hk]; rfl]
  rw [← hN, ← hX, hk] at HE1 HK1 ⊢
  have x0 : W1.cell? ⟨w.heap.size, 0, none⟩ = some (.int .u8 3) := HK1.out.at_ 0
  have x1 : W1.cell? ⟨w.heap.size, 1, none⟩ = some (.string N) := HK1.out.at_ 1
  have x2 : W1.cell? ⟨w.heap.size, 2, none⟩ = some (.slice A t.as.length c) := HK1.out.at_ 2
  have x3 : W1.cell? ⟨w.heap.size, 3, none⟩ = some (.string X) := HK1.out.at_ 3
  have x4 : W1.cell? ⟨w.heap.size, 4, none⟩ = some (.int .i64 t.p) := HK1.out.at_ 4
  rw [HE1.out] at x0 x1 x2 x3 x4
  clear hk hN hX hW1 hb1 hk1
  go_enter Tryz.func105, Tryz.ntmps105
  go_wp2
  rw [← HE1.out]
  go_ret
  exact ⟨rfl, HB1.out⟩
 ·rw [show (t.k == 1 || t.k == 3) = false by rw [hk]; rfl]
  rw [← hN, ← hX, hk] at HE1 HK1 ⊢
  have x0 : W1.cell? ⟨w.heap.size, 0, none⟩ = some (.int .u8 4) := HK1.out.at_ 0
  have x1 : W1.cell? ⟨w.heap.size, 1, none⟩ = some (.string N) := HK1.out.at_ 1
  have x2 : W1.cell? ⟨w.heap.size, 2, none⟩ = some (.slice A t.as.length c) := HK1.out.at_ 2
  have x3 : W1.cell? ⟨w.heap.size, 3, none⟩ = some (.string X) := HK1.out.at_ 3
  have x4 : W1.cell? ⟨w.heap.size, 4, none⟩ = some (.int .i64 t.p) := HK1.out.at_ 4
  rw [HE1.out] at x0 x1 x2 x3 x4
  clear hk hN hX hW1 hb1 hk1
  go_enter Tryz.func105, Tryz.ntmps105
  go_wp2
  rw [← HE1.out]
  go_ret
  exact ⟨rfl, HB1.out⟩
def RuleP (w : World) (b : Bool) (e : Ending) (w' : World) : Prop := e = .returned (.bool b) ∧ Below w.heap.size w w'
set_option maxHeartbeats 4000000 in
set_option maxRecDepth 100000 in
theorem strayText_any (B : Nat) (w : World) (r : Nat) (m : Gm) (h : GS B w r m) (t : Tk.T) (A : Option Addr) (c : Nat) (hk : t.k = 1 ∨ t.k = 2 ∨ t.k = 3 ∨ t.k = 4) (hx : t.tx.length ≤ 140737488355328) :
  Calls Tryz.prog 58 #[.pointer (some ⟨r, 0, none⟩), .agg (tokC5 t A c)] w (RuleP w (Tr.broken m.g t 0)) := by
 obtain ⟨W1, hW1⟩ : ∃ W1, W1 = w.alloc (.cells (tokC5 t A c) 76) := ⟨_, rfl⟩
 have hb1 : Below w.heap.size w W1 := by rw [hW1]; exact (Below.refl _ _).alloc (Nat.le_refl _) _
 have hk1 : IsBlk W1 w.heap.size 76 (tokC5 t A c) := by rw [hW1]; exact IsBlk.new _ _ _
 have HB1 := Lib.hid hb1
 have HE1 := Lib.hid hW1
 have HK1 := Lib.hid hk1
 unfold tokC5 at HE1 HK1 ⊢
 obtain ⟨N, hN⟩ : ∃ N : ByteArray, N = ⟨t.nm.toArray⟩ := ⟨_, rfl⟩
 obtain ⟨X, hX⟩ : ∃ N : ByteArray, N = ⟨t.tx.toArray⟩ := ⟨_, rfl⟩
 have hbr : Tr.broken m.g t 0 = (t.k == 4 && m.es.isEmpty && !Tk.allB t.tx) := by unfold Tr.broken Gm.g; simp [List.isEmpty_map]
 rw [hbr]
 unfold RuleP
 have HO := Lib.hid (outside_any B W1 r m (h.below hb1))
 have HBL := Lib.hid (fun w' => blank_any ⟨t.tx.toArray⟩ (by show t.tx.toArray.size ≤ maxLen; unfold maxLen; simp only [List.size_toArray]; omega) w')
 change Hid (∀ w', Calls _ _ _ w' fun e w'' => e = .returned (.bool (Tk.allB t.tx)) ∧ _) at HBL
 rw [← hX] at HBL
 clear h hx hbr
 generalize m.es.isEmpty = b at *
 generalize Tk.allB t.tx = b2 at *
 rcases hk with hk | hk | hk | hk
 ·rw [show (t.k == 4 && b && !b2) = false by rw [hk]; rfl]
  rw [← hN, ← hX, hk] at HE1 HK1 ⊢
  have x0 : W1.cell? ⟨w.heap.size, 0, none⟩ = some (.int .u8 1) := HK1.out.at_ 0
  have x1 : W1.cell? ⟨w.heap.size, 1, none⟩ = some (.string N) := HK1.out.at_ 1
  have x2 : W1.cell? ⟨w.heap.size, 2, none⟩ = some (.slice A t.as.length c) := HK1.out.at_ 2
  have x3 : W1.cell? ⟨w.heap.size, 3, none⟩ = some (.string X) := HK1.out.at_ 3
  have x4 : W1.cell? ⟨w.heap.size, 4, none⟩ = some (.int .i64 t.p) := HK1.out.at_ 4
  rw [HE1.out] at x0 x1 x2 x3 x4
  clear hk hN hX hW1 hb1 hk1
  clear HO HBL
  go_enter Tryz.func58, Tryz.ntmps58
  go_wp2
  rw [← HE1.out]
  go_ret
  exact ⟨rfl, HB1.out⟩
 ·rw [show (t.k == 4 && b && !b2) = false by rw [hk]; rfl]
  rw [← hN, ← hX, hk] at HE1 HK1 ⊢
  have x0 : W1.cell? ⟨w.heap.size, 0, none⟩ = some (.int .u8 2) := HK1.out.at_ 0
  have x1 : W1.cell? ⟨w.heap.size, 1, none⟩ = some (.string N) := HK1.out.at_ 1
  have x2 : W1.cell? ⟨w.heap.size, 2, none⟩ = some (.slice A t.as.length c) := HK1.out.at_ 2
  have x3 : W1.cell? ⟨w.heap.size, 3, none⟩ = some (.string X) := HK1.out.at_ 3
  have x4 : W1.cell? ⟨w.heap.size, 4, none⟩ = some (.int .i64 t.p) := HK1.out.at_ 4
  rw [HE1.out] at x0 x1 x2 x3 x4
  clear hk hN hX hW1 hb1 hk1
  clear HO HBL
  go_enter Tryz.func58, Tryz.ntmps58
  go_wp2
  rw [← HE1.out]
  go_ret
  exact ⟨rfl, HB1.out⟩
 ·rw [show (t.k == 4 && b && !b2) = false by rw [hk]; rfl]
  rw [← hN, ← hX, hk] at HE1 HK1 ⊢
  have x0 : W1.cell? ⟨w.heap.size, 0, none⟩ = some (.int .u8 3) := HK1.out.at_ 0
  have x1 : W1.cell? ⟨w.heap.size, 1, none⟩ = some (.string N) := HK1.out.at_ 1
  have x2 : W1.cell? ⟨w.heap.size, 2, none⟩ = some (.slice A t.as.length c) := HK1.out.at_ 2
  have x3 : W1.cell? ⟨w.heap.size, 3, none⟩ = some (.string X) := HK1.out.at_ 3
  have x4 : W1.cell? ⟨w.heap.size, 4, none⟩ = some (.int .i64 t.p) := HK1.out.at_ 4
  rw [HE1.out] at x0 x1 x2 x3 x4
  clear hk hN hX hW1 hb1 hk1
  clear HO HBL
  go_enter Tryz.func58, Tryz.ntmps58
  go_wp2
  rw [← HE1.out]
  go_ret
  exact ⟨rfl, HB1.out⟩
 ·rw [show (t.k == 4 && b && !b2) = (b && !b2) by rw [hk]; rfl]
  rw [← hN, ← hX, hk] at HE1 HK1 ⊢
  have x0 : W1.cell? ⟨w.heap.size, 0, none⟩ = some (.int .u8 4) := HK1.out.at_ 0
  have x1 : W1.cell? ⟨w.heap.size, 1, none⟩ = some (.string N) := HK1.out.at_ 1
  have x2 : W1.cell? ⟨w.heap.size, 2, none⟩ = some (.slice A t.as.length c) := HK1.out.at_ 2
  have x3 : W1.cell? ⟨w.heap.size, 3, none⟩ = some (.string X) := HK1.out.at_ 3
  have x4 : W1.cell? ⟨w.heap.size, 4, none⟩ = some (.int .i64 t.p) := HK1.out.at_ 4
  rw [HE1.out] at x0 x1 x2 x3 x4
  clear hk hN hX hW1 hb1 hk1
  go_enter Tryz.func58, Tryz.ntmps58
  go_wp2_with fail
  rw [← HE1.out] at x3 ⊢
  refine HO.out.mono ?_
  rintro e w2 ⟨rfl, h2⟩
  have B2 := Lib.hid (HB1.out.trans (h2.mono HB1.out.size))
  have y3 := (h2.cell (p := ⟨w.heap.size, 3, none⟩) HK1.out.lt).trans x3
  clear h2 x0 x1 x2 x3 x4
  cases b with
  | false =>
   go_wp2
   go_ret
   exact ⟨rfl, B2.out⟩
  | true =>
   go_wp2_with fail
   refine (HBL.out _).mono ?_
   rintro e w3 ⟨rfl, h3⟩
   have B3 := Lib.hid (B2.out.trans (h3.mono B2.out.size))
   clear h3 y3
   cases b2 with
   | false =>
    go_wp2
    go_ret
    exact ⟨rfl, B3.out⟩
   | true =>
    go_wp2
    go_ret
    exact ⟨rfl, B3.out⟩
end Go.Proofs.YteadfpkihhaadaaGreatDoor
namespace Go.Proofs.YteadfpkihhaadaaGreatDoor
open Go.RowKit
set_option maxHeartbeats 4000000 in
set_option maxRecDepth 100000 in
theorem strayTag_any (B : Nat) (w : World) (r : Nat) (m : Gm) (h : GS B w r m) (t : Tk.T) (A : Option Addr) (c : Nat) (hk : t.k = 1 ∨ t.k = 2 ∨ t.k = 3 ∨ t.k = 4) :
  Calls Tryz.prog 59 #[.pointer (some ⟨r, 0, none⟩), .agg (tokC5 t A c)] w (RuleP w (Tr.broken m.g t 1)) := by
 obtain ⟨W1, hW1⟩ : ∃ W1, W1 = w.alloc (.cells (tokC5 t A c) 76) := ⟨_, rfl⟩
 have hb1 : Below w.heap.size w W1 := by rw [hW1]; exact (Below.refl _ _).alloc (Nat.le_refl _) _
 have hk1 : IsBlk W1 w.heap.size 76 (tokC5 t A c) := by rw [hW1]; exact IsBlk.new _ _ _
 have HB1 := Lib.hid hb1
 have HE1 := Lib.hid hW1
 have HK1 := Lib.hid hk1
 unfold tokC5 at HE1 HK1 ⊢
 obtain ⟨N, hN⟩ : ∃ N : ByteArray, N = ⟨t.nm.toArray⟩ := ⟨_, rfl⟩
 obtain ⟨X, hX⟩ : ∃ N : ByteArray, N = ⟨t.tx.toArray⟩ := ⟨_, rfl⟩
 have hbr : Tr.broken m.g t 1 = (Tr.begins t && (Tr.behind m.g)) := by unfold Tr.broken Gm.g; simp
 rw [hbr]
 have HG1 := Lib.hid (h.below hb1)
 have HBG := Lib.hid (fun w' => begins_any5 w' t A c hk)
 unfold tokC5 at HBG
 unfold RuleP
 have HO := Lib.hid (fun w' (hb : Below W1.heap.size W1 w') => (fun W1 (hb1 : Below w.heap.size w W1) => (behind_any B W1 r m (h.below hb1))) w' (hb1.trans (hb.mono hb1.size)))
 rw [← hN, ← hX] at HE1 HK1 HBG ⊢
 have x0 : W1.cell? ⟨w.heap.size, 0, none⟩ = some (.int .u8 t.k) := HK1.out.at_ 0
 have x1 : W1.cell? ⟨w.heap.size, 1, none⟩ = some (.string N) := HK1.out.at_ 1
 have x2 : W1.cell? ⟨w.heap.size, 2, none⟩ = some (.slice A t.as.length c) := HK1.out.at_ 2
 have x3 : W1.cell? ⟨w.heap.size, 3, none⟩ = some (.string X) := HK1.out.at_ 3
 have x4 : W1.cell? ⟨w.heap.size, 4, none⟩ = some (.int .i64 t.p) := HK1.out.at_ 4
 rw [HE1.out] at x0 x1 x2 x3 x4
 clear h hk hN hX hW1 hb1 hk1 hbr
 generalize Tr.begins t = b at *
 generalize (Tr.behind m.g) = b2 at *
 go_enter Tryz.func59, Tryz.ntmps59
 go_wp2_with fail
 rw [← HE1.out]
 refine (HBG.out _).mono ?_
 rintro e w2 ⟨rfl, h2⟩
 have B2 := Lib.hid (HB1.out.trans (h2.mono HB1.out.size))
 have H2 := Lib.hid h2
 clear h2
 clear x0 x1 x2 x3 x4
 cases b with
 | false =>
  go_wp2
  go_ret
  exact ⟨rfl, B2.out⟩
 | true =>
  go_wp2_with fail
  refine (HO.out _ H2.out).mono ?_
  rintro e w3 ⟨rfl, h3⟩
  have B3 := Lib.hid (B2.out.trans (h3.mono B2.out.size))
  clear h3
  cases b2 with
  | false =>
   go_wp2
   go_ret
   exact ⟨rfl, B3.out⟩
  | true =>
   go_wp2
   go_ret
   exact ⟨rfl, B3.out⟩
set_option maxHeartbeats 4000000 in
set_option maxRecDepth 100000 in
theorem tooDeep_any (B : Nat) (w : World) (r : Nat) (m : Gm) (h : GS B w r m) (t : Tk.T) (A : Option Addr) (c : Nat) (hk : t.k = 1 ∨ t.k = 2 ∨ t.k = 3 ∨ t.k = 4) :
  Calls Tryz.prog 62 #[.pointer (some ⟨r, 0, none⟩), .agg (tokC5 t A c)] w (RuleP w (Tr.broken m.g t 4)) := by
 obtain ⟨W1, hW1⟩ : ∃ W1, W1 = w.alloc (.cells (tokC5 t A c) 76) := ⟨_, rfl⟩
 have hb1 : Below w.heap.size w W1 := by rw [hW1]; exact (Below.refl _ _).alloc (Nat.le_refl _) _
 have hk1 : IsBlk W1 w.heap.size 76 (tokC5 t A c) := by rw [hW1]; exact IsBlk.new _ _ _
 have HB1 := Lib.hid hb1
 have HE1 := Lib.hid hW1
 have HK1 := Lib.hid hk1
 unfold tokC5 at HE1 HK1 ⊢
 obtain ⟨N, hN⟩ : ∃ N : ByteArray, N = ⟨t.nm.toArray⟩ := ⟨_, rfl⟩
 obtain ⟨X, hX⟩ : ∃ N : ByteArray, N = ⟨t.tx.toArray⟩ := ⟨_, rfl⟩
 have hbr : Tr.broken m.g t 4 = (Tr.begins t && (decide (64 ≤ m.es.length))) := by unfold Tr.broken Gm.g; simp
 rw [hbr]
 have HG1 := Lib.hid (h.below hb1)
 have HBG := Lib.hid (fun w' => begins_any5 w' t A c hk)
 unfold tokC5 at HBG
 unfold RuleP
 have HO := Lib.hid (fun w' (hb : Below W1.heap.size W1 w') => (fun W1 (hb1 : Below w.heap.size w W1) => (deep_any B W1 r m (h.below hb1))) w' (hb1.trans (hb.mono hb1.size)))
 rw [← hN, ← hX] at HE1 HK1 HBG ⊢
 have x0 : W1.cell? ⟨w.heap.size, 0, none⟩ = some (.int .u8 t.k) := HK1.out.at_ 0
 have x1 : W1.cell? ⟨w.heap.size, 1, none⟩ = some (.string N) := HK1.out.at_ 1
 have x2 : W1.cell? ⟨w.heap.size, 2, none⟩ = some (.slice A t.as.length c) := HK1.out.at_ 2
 have x3 : W1.cell? ⟨w.heap.size, 3, none⟩ = some (.string X) := HK1.out.at_ 3
 have x4 : W1.cell? ⟨w.heap.size, 4, none⟩ = some (.int .i64 t.p) := HK1.out.at_ 4
 rw [HE1.out] at x0 x1 x2 x3 x4
 clear h hk hN hX hW1 hb1 hk1 hbr
 generalize Tr.begins t = b at *
 generalize (decide (64 ≤ m.es.length)) = b2 at *
 go_enter Tryz.func62, Tryz.ntmps62
 go_wp2_with fail
 rw [← HE1.out]
 refine (HBG.out _).mono ?_
 rintro e w2 ⟨rfl, h2⟩
 have B2 := Lib.hid (HB1.out.trans (h2.mono HB1.out.size))
 have H2 := Lib.hid h2
 clear h2
 clear x0 x1 x2 x3 x4
 cases b with
 | false =>
  go_wp2
  go_ret
  exact ⟨rfl, B2.out⟩
 | true =>
  go_wp2_with fail
  refine (HO.out _ H2.out).mono ?_
  rintro e w3 ⟨rfl, h3⟩
  have B3 := Lib.hid (B2.out.trans (h3.mono B2.out.size))
  clear h3
  cases b2 with
  | false =>
   go_wp2
   go_ret
   exact ⟨rfl, B3.out⟩
  | true =>
   go_wp2
   go_ret
   exact ⟨rfl, B3.out⟩
set_option maxHeartbeats 4000000 in
set_option maxRecDepth 100000 in
theorem twice_any (w : World) (r : Nat) (m : Gm) (t : Tk.T) (A : Option Addr) (c : Nat) (hk : t.k = 1 ∨ t.k = 2 ∨ t.k = 3 ∨ t.k = 4) (hnd : NdOk w w.heap.size ⟨Tr.nodeAs t, A, c⟩) :
  Calls Tryz.prog 60 #[.pointer (some ⟨r, 0, none⟩), .agg (tokC5 t A c)] w (RuleP w (Tr.broken m.g t 2)) := by
 obtain ⟨W1, hW1⟩ : ∃ W1, W1 = w.alloc (.cells (tokC5 t A c) 76) := ⟨_, rfl⟩
 have hb1 : Below w.heap.size w W1 := by rw [hW1]; exact (Below.refl _ _).alloc (Nat.le_refl _) _
 have hk1 : IsBlk W1 w.heap.size 76 (tokC5 t A c) := by rw [hW1]; exact IsBlk.new _ _ _
 have HB1 := Lib.hid hb1
 have HE1 := Lib.hid hW1
 have HK1 := Lib.hid hk1
 unfold tokC5 at HE1 HK1 ⊢
 obtain ⟨N, hN⟩ : ∃ N : ByteArray, N = ⟨t.nm.toArray⟩ := ⟨_, rfl⟩
 obtain ⟨X, hX⟩ : ∃ N : ByteArray, N = ⟨t.tx.toArray⟩ := ⟨_, rfl⟩
 have hbr : Tr.broken m.g t 2 = (Tr.begins t && !Tr.rising t.as) := by unfold Tr.broken; rfl
 rw [hbr]
 have HBG := Lib.hid (fun w' => begins_any5 w' t A c hk)
 unfold tokC5 at HBG
 unfold RuleP
 have HO := Lib.hid (fun w' (hb : Below w.heap.size w w') => rising_any w' A c t.as hnd.len hnd.cap ((hnd.below hb).more hb.size).att)
 rw [← hN, ← hX] at HE1 HK1 HBG ⊢
 have x0 : W1.cell? ⟨w.heap.size, 0, none⟩ = some (.int .u8 t.k) := HK1.out.at_ 0
 have x1 : W1.cell? ⟨w.heap.size, 1, none⟩ = some (.string N) := HK1.out.at_ 1
 have x2 : W1.cell? ⟨w.heap.size, 2, none⟩ = some (.slice A t.as.length c) := HK1.out.at_ 2
 have x3 : W1.cell? ⟨w.heap.size, 3, none⟩ = some (.string X) := HK1.out.at_ 3
 have x4 : W1.cell? ⟨w.heap.size, 4, none⟩ = some (.int .i64 t.p) := HK1.out.at_ 4
 have X2 := Lib.hid x2
 have XL := Lib.hid hk1.lt
 rw [HE1.out] at x0 x1 x2 x3 x4
 clear hk hN hX hW1 hb1 hk1 hbr hnd
 generalize Tr.begins t = b at *
 generalize Tr.rising t.as = b2 at *
 go_enter Tryz.func60, Tryz.ntmps60
 go_wp2_with fail
 rw [← HE1.out]
 refine (HBG.out _).mono ?_
 rintro e w2 ⟨rfl, h2⟩
 have B2 := Lib.hid (HB1.out.trans (h2.mono HB1.out.size))
 have H2 := Lib.hid h2
 clear h2
 clear x0 x1 x2 x3 x4
 have y2 := (H2.out.cell (p := ⟨w.heap.size, 2, none⟩) XL.out).trans X2.out
 cases b with
 | false =>
  go_wp2
  go_ret
  exact ⟨rfl, B2.out⟩
 | true =>
  go_wp2_with fail
  refine (HO.out _ B2.out).mono ?_
  rintro e w3 ⟨rfl, h3⟩
  have B3 := Lib.hid (B2.out.trans (h3.mono B2.out.size))
  clear h3
  cases b2 with
  | false =>
   go_wp2
   go_ret
   exact ⟨rfl, B3.out⟩
  | true =>
   go_wp2
   go_ret
   exact ⟨rfl, B3.out⟩
set_option maxHeartbeats 4000000 in
set_option maxRecDepth 100000 in
theorem tooMany_any (B : Nat) (w : World) (r : Nat) (m : Gm) (h : GS B w r m) (t : Tk.T) (A : Option Addr) (c : Nat) (hk : t.k = 1 ∨ t.k = 2 ∨ t.k = 3 ∨ t.k = 4) :
  Calls Tryz.prog 61 #[.pointer (some ⟨r, 0, none⟩), .agg (tokC5 t A c)] w (RuleP w (Tr.broken m.g t 3)) := by
 obtain ⟨W1, hW1⟩ : ∃ W1, W1 = w.alloc (.cells (tokC5 t A c) 76) := ⟨_, rfl⟩
 have hb1 : Below w.heap.size w W1 := by rw [hW1]; exact (Below.refl _ _).alloc (Nat.le_refl _) _
 have hk1 : IsBlk W1 w.heap.size 76 (tokC5 t A c) := by rw [hW1]; exact IsBlk.new _ _ _
 have HB1 := Lib.hid hb1
 have HE1 := Lib.hid hW1
 have HK1 := Lib.hid hk1
 unfold tokC5 at HE1 HK1 ⊢
 obtain ⟨N, hN⟩ : ∃ N : ByteArray, N = ⟨t.nm.toArray⟩ := ⟨_, rfl⟩
 obtain ⟨X, hX⟩ : ∃ N : ByteArray, N = ⟨t.tx.toArray⟩ := ⟨_, rfl⟩
 have hbr : Tr.broken m.g t 3 = (Tr.begins t && decide (4096 ≤ m.ns.length)) := by unfold Tr.broken Gm.g; simp
 rw [hbr]
 have HBG := Lib.hid (fun w' => begins_any5 w' t A c hk)
 unfold tokC5 at HBG
 unfold RuleP
 obtain ⟨An, cn, Ao, co, hc⟩ := h.cells
 have HR := Lib.hid (fun w' (hb : Below w.heap.size w w') => (hb.cell (p := ⟨r, 0, none⟩) h.blk.lt).trans hc.c0)
 have HO := Lib.hid (fun w' => full_any w' An m.ns.length cn)
 rw [← hN, ← hX] at HE1 HK1 HBG ⊢
 have x0 : W1.cell? ⟨w.heap.size, 0, none⟩ = some (.int .u8 t.k) := HK1.out.at_ 0
 have x1 : W1.cell? ⟨w.heap.size, 1, none⟩ = some (.string N) := HK1.out.at_ 1
 have x2 : W1.cell? ⟨w.heap.size, 2, none⟩ = some (.slice A t.as.length c) := HK1.out.at_ 2
 have x3 : W1.cell? ⟨w.heap.size, 3, none⟩ = some (.string X) := HK1.out.at_ 3
 have x4 : W1.cell? ⟨w.heap.size, 4, none⟩ = some (.int .i64 t.p) := HK1.out.at_ 4
 rw [HE1.out] at x0 x1 x2 x3 x4
 clear h hk hN hX hW1 hb1 hk1 hbr hc
 generalize Tr.begins t = b at *
 generalize decide (4096 ≤ m.ns.length) = b2 at *
 go_enter Tryz.func61, Tryz.ntmps61
 go_wp2_with fail
 rw [← HE1.out]
 refine (HBG.out _).mono ?_
 rintro e w2 ⟨rfl, h2⟩
 have B2 := Lib.hid (HB1.out.trans (h2.mono HB1.out.size))
 have H2 := Lib.hid h2
 clear h2
 clear x0 x1 x2 x3 x4
 have y2 := HR.out w2 B2.out
 cases b with
 | false =>
  go_wp2
  go_ret
  exact ⟨rfl, B2.out⟩
 | true =>
  go_wp2_with fail
  refine (HO.out _).mono ?_
  rintro e w3 ⟨rfl, h3⟩
  have B3 := Lib.hid (B2.out.trans (h3.mono B2.out.size))
  clear h3
  cases b2 with
  | false =>
   go_wp2
   go_ret
   exact ⟨rfl, B3.out⟩
  | true =>
   go_wp2
   go_ret
   exact ⟨rfl, B3.out⟩
end Go.Proofs.YteadfpkihhaadaaGreatDoor
namespace Go.Proofs.YteadfpkihhaadaaGreatDoor
open Go.RowKit
set_option maxHeartbeats 4000000 in
set_option maxRecDepth 100000 in
theorem unopened_no (w : World) (r : Nat) (t : Tk.T) (A : Option Addr) (c : Nat) (hk : t.k = 1 ∨ t.k = 3 ∨ t.k = 4) :
  Calls Tryz.prog 63 #[.pointer (some ⟨r, 0, none⟩), .agg (tokC5 t A c)] w (RuleP w false) := by
 obtain ⟨W1, hW1⟩ : ∃ W1, W1 = w.alloc (.cells (tokC5 t A c) 76) := ⟨_, rfl⟩
 have hb1 : Below w.heap.size w W1 := by rw [hW1]; exact (Below.refl _ _).alloc (Nat.le_refl _) _
 have hk1 : IsBlk W1 w.heap.size 76 (tokC5 t A c) := by rw [hW1]; exact IsBlk.new _ _ _
 have HB1 := Lib.hid hb1
 have HE1 := Lib.hid hW1
 have HK1 := Lib.hid hk1
 unfold tokC5 at HE1 HK1 ⊢
 obtain ⟨N, hN⟩ : ∃ N : ByteArray, N = ⟨t.nm.toArray⟩ := ⟨_, rfl⟩
 obtain ⟨X, hX⟩ : ∃ N : ByteArray, N = ⟨t.tx.toArray⟩ := ⟨_, rfl⟩
 unfold RuleP
 rcases hk with hk | hk | hk
 ·skip
  rw [← hN, ← hX, hk] at HE1 HK1 ⊢
  have x0 : W1.cell? ⟨w.heap.size, 0, none⟩ = some (.int .u8 1) := HK1.out.at_ 0
  have x1 : W1.cell? ⟨w.heap.size, 1, none⟩ = some (.string N) := HK1.out.at_ 1
  have x2 : W1.cell? ⟨w.heap.size, 2, none⟩ = some (.slice A t.as.length c) := HK1.out.at_ 2
  have x3 : W1.cell? ⟨w.heap.size, 3, none⟩ = some (.string X) := HK1.out.at_ 3
  have x4 : W1.cell? ⟨w.heap.size, 4, none⟩ = some (.int .i64 t.p) := HK1.out.at_ 4
  rw [HE1.out] at x0 x1 x2 x3 x4
  clear hk hN hX hW1 hb1 hk1
  rw [← HE1.out] at x0
  clear x1 x2 x3 x4
  go_enter Tryz.func63, Tryz.ntmps63
  go_wp2_with fail
  rw [← HE1.out]
  refine wp_region_held_drew (S := (fun w' => w'.cell? ⟨w.heap.size, 0, none⟩ = some (.int .u8 1))) (by kernel_rfl) x0 (fun hHeld => ?_)
  refine wpAnyH_take (i := 0) (v := (.pointer (some ⟨w.heap.size,0,none⟩))) rfl (by kernel_rfl) (by kernel_rfl) (by kernel_rfl) (fun _ _ _ h => h) (Or.inl ⟨by rfl, by (intro w hS; go_simp)⟩) hHeld ?_
  try simp only [Act.put, List.getElem_toArray, List.getElem_cons_zero, List.setIfInBounds_toArray, List.set_cons_zero, List.set_cons_succ]
  refine wpAnyH_take (i := 1) (v := (.int .u8 1)) rfl (by kernel_rfl) (by kernel_rfl) (by kernel_rfl) (fun _ _ _ h => h) (Or.inl ⟨by rfl, ?_⟩) hHeld ?_
  ·intro w1 hS
   try (obtain ⟨s0, s1, s2, s3, s4⟩ := hS)
   go_simp
  try simp only [Act.put, List.getElem_toArray, List.getElem_cons_succ, List.getElem_cons_zero, List.setIfInBounds_toArray, List.set_cons_zero, List.set_cons_succ]
  refine wpAnyH_take (i := 2) (v := (.bool false)) rfl (by kernel_rfl) (by kernel_rfl) (by kernel_rfl) (fun _ _ _ h => h) (Or.inl ⟨by rfl, ?_⟩) hHeld ?_
  ·intro w1 hS
   try (obtain ⟨s0, s1, s2, s3, s4⟩ := hS)
   go_simp
  try simp only [Act.put, List.getElem_toArray, List.getElem_cons_succ, List.getElem_cons_zero, List.setIfInBounds_toArray, List.set_cons_zero, List.set_cons_succ]
  refine wpAnyH_take (i := 3) (v := (.bool false)) rfl (by kernel_rfl) (by kernel_rfl) (by kernel_rfl) (fun _ _ _ h => h) (Or.inl ⟨by rfl, ?_⟩) hHeld ?_
  ·intro w1 hS
   try (obtain ⟨s0, s1, s2, s3, s4⟩ := hS)
   go_simp
  try simp only [Act.put, List.getElem_toArray, List.getElem_cons_succ, List.getElem_cons_zero, List.setIfInBounds_toArray, List.set_cons_zero, List.set_cons_succ]
  refine wpAnyH_take (i := 4) (v := undef) rfl (by kernel_rfl) (by kernel_rfl) (by kernel_rfl) (fun _ _ _ h => h) (Or.inr ⟨by first | (simp [Region.wanted, yielded]; done) | (simp [Region.wanted, yielded, undef]; done), rfl⟩) hHeld ?_
  try simp only [Act.put, List.getElem_toArray, List.getElem_cons_succ, List.getElem_cons_zero, List.setIfInBounds_toArray, List.set_cons_zero, List.set_cons_succ]
  refine wpAnyH_take (i := 5) (v := undef) rfl (by kernel_rfl) (by kernel_rfl) (by kernel_rfl) (fun _ _ _ h => h) (Or.inr ⟨by first | (simp [Region.wanted, yielded]; done) | (simp [Region.wanted, yielded, undef]; done), rfl⟩) hHeld ?_
  try simp only [Act.put, List.getElem_toArray, List.getElem_cons_succ, List.getElem_cons_zero, List.setIfInBounds_toArray, List.set_cons_zero, List.set_cons_succ]
  refine wpAnyH_take (i := 6) (v := undef) rfl (by kernel_rfl) (by kernel_rfl) (by kernel_rfl) (fun _ _ _ h => h) (Or.inr ⟨by first | (simp [Region.wanted, yielded]; done) | (simp [Region.wanted, yielded, undef]; done), rfl⟩) hHeld ?_
  try simp only [Act.put, List.getElem_toArray, List.getElem_cons_succ, List.getElem_cons_zero, List.setIfInBounds_toArray, List.set_cons_zero, List.set_cons_succ]
  refine wpAnyH_take (i := 7) (v := undef) rfl (by kernel_rfl) (by kernel_rfl) (by kernel_rfl) (fun _ _ _ h => h) (Or.inr ⟨by first | (simp [Region.wanted, yielded]; done) | (simp [Region.wanted, yielded, undef]; done), rfl⟩) hHeld ?_
  try simp only [Act.put, List.getElem_toArray, List.getElem_cons_succ, List.getElem_cons_zero, List.setIfInBounds_toArray, List.set_cons_zero, List.set_cons_succ]
  refine wpAnyH_take (i := 8) (v := undef) rfl (by kernel_rfl) (by kernel_rfl) (by kernel_rfl) (fun _ _ _ h => h) (Or.inr ⟨by first | (simp [Region.wanted, yielded]; done) | (simp [Region.wanted, yielded, undef]; done), rfl⟩) hHeld ?_
  try simp only [Act.put, List.getElem_toArray, List.getElem_cons_succ, List.getElem_cons_zero, List.setIfInBounds_toArray, List.set_cons_zero, List.set_cons_succ]
  refine wpAnyH_take (i := 9) (v := undef) rfl (by kernel_rfl) (by kernel_rfl) (by kernel_rfl) (fun _ _ _ h => h) (Or.inr ⟨by first | (simp [Region.wanted, yielded]; done) | (simp [Region.wanted, yielded, undef]; done), rfl⟩) hHeld ?_
  try simp only [Act.put, List.getElem_toArray, List.getElem_cons_succ, List.getElem_cons_zero, List.setIfInBounds_toArray, List.set_cons_zero, List.set_cons_succ]
  refine wpAnyH_take (i := 10) (v := undef) rfl (by kernel_rfl) (by kernel_rfl) (by kernel_rfl) (fun _ _ _ h => h) (Or.inr ⟨by first | (simp [Region.wanted, yielded]; done) | (simp [Region.wanted, yielded, undef]; done), rfl⟩) hHeld ?_
  try simp only [Act.put, List.getElem_toArray, List.getElem_cons_succ, List.getElem_cons_zero, List.setIfInBounds_toArray, List.set_cons_zero, List.set_cons_succ]
  refine wpAnyH_take (i := 11) (v := undef) rfl (by kernel_rfl) (by kernel_rfl) (by kernel_rfl) (fun _ _ _ h => h) (Or.inr ⟨by first | (simp [Region.wanted, yielded]; done) | (simp [Region.wanted, yielded, undef]; done), rfl⟩) hHeld ?_
  try simp only [Act.put, List.getElem_toArray, List.getElem_cons_succ, List.getElem_cons_zero, List.setIfInBounds_toArray, List.set_cons_zero, List.set_cons_succ]
  refine wpAnyH_take (i := 12) (v := undef) rfl (by kernel_rfl) (by kernel_rfl) (by kernel_rfl) (fun _ _ _ h => h) (Or.inr ⟨by first | (simp [Region.wanted, yielded]; done) | (simp [Region.wanted, yielded, undef]; done), rfl⟩) hHeld ?_
  try simp only [Act.put, List.getElem_toArray, List.getElem_cons_succ, List.getElem_cons_zero, List.setIfInBounds_toArray, List.set_cons_zero, List.set_cons_succ]
  refine wpAnyH_take (i := 13) (v := undef) rfl (by kernel_rfl) (by kernel_rfl) (by kernel_rfl) (fun _ _ _ h => h) (Or.inr ⟨by first | (simp [Region.wanted, yielded]; done) | (simp [Region.wanted, yielded, undef]; done), rfl⟩) hHeld ?_
  try simp only [Act.put, List.getElem_toArray, List.getElem_cons_succ, List.getElem_cons_zero, List.setIfInBounds_toArray, List.set_cons_zero, List.set_cons_succ]
  refine wpAnyH_take (i := 14) (v := undef) rfl (by kernel_rfl) (by kernel_rfl) (by kernel_rfl) (fun _ _ _ h => h) (Or.inr ⟨by first | (simp [Region.wanted, yielded]; done) | (simp [Region.wanted, yielded, undef]; done), rfl⟩) hHeld ?_
  try simp only [Act.put, List.getElem_toArray, List.getElem_cons_succ, List.getElem_cons_zero, List.setIfInBounds_toArray, List.set_cons_zero, List.set_cons_succ]
  refine wpAnyH_take (i := 15) (v := undef) rfl (by kernel_rfl) (by kernel_rfl) (by kernel_rfl) (fun _ _ _ h => h) (Or.inr ⟨by first | (simp [Region.wanted, yielded]; done) | (simp [Region.wanted, yielded, undef]; done), rfl⟩) hHeld ?_
  try simp only [Act.put, List.getElem_toArray, List.getElem_cons_succ, List.getElem_cons_zero, List.setIfInBounds_toArray, List.set_cons_zero, List.set_cons_succ]
  refine wpAnyH_take (i := 16) (v := undef) rfl (by kernel_rfl) (by kernel_rfl) (by kernel_rfl) (fun _ _ _ h => h) (Or.inr ⟨by first | (simp [Region.wanted, yielded]; done) | (simp [Region.wanted, yielded, undef]; done), rfl⟩) hHeld ?_
  try simp only [Act.put, List.getElem_toArray, List.getElem_cons_succ, List.getElem_cons_zero, List.setIfInBounds_toArray, List.set_cons_zero, List.set_cons_succ]
  refine wpAnyH_take (i := 17) (v := undef) rfl (by kernel_rfl) (by kernel_rfl) (by kernel_rfl) (fun _ _ _ h => h) (Or.inr ⟨by first | (simp [Region.wanted, yielded]; done) | (simp [Region.wanted, yielded, undef]; done), rfl⟩) hHeld ?_
  try simp only [Act.put, List.getElem_toArray, List.getElem_cons_succ, List.getElem_cons_zero, List.setIfInBounds_toArray, List.set_cons_zero, List.set_cons_succ]
  refine wpAnyH_take (i := 18) (v := undef) rfl (by kernel_rfl) (by kernel_rfl) (by kernel_rfl) (fun _ _ _ h => h) (Or.inr ⟨by first | (simp [Region.wanted, yielded]; done) | (simp [Region.wanted, yielded, undef]; done), rfl⟩) hHeld ?_
  try simp only [Act.put, List.getElem_toArray, List.getElem_cons_succ, List.getElem_cons_zero, List.setIfInBounds_toArray, List.set_cons_zero, List.set_cons_succ]
  refine wpAnyH_take (i := 19) (v := undef) rfl (by kernel_rfl) (by kernel_rfl) (by kernel_rfl) (fun _ _ _ h => h) (Or.inr ⟨by first | (simp [Region.wanted, yielded]; done) | (simp [Region.wanted, yielded, undef]; done), rfl⟩) hHeld ?_
  try simp only [Act.put, List.getElem_toArray, List.getElem_cons_succ, List.getElem_cons_zero, List.setIfInBounds_toArray, List.set_cons_zero, List.set_cons_succ]
  refine wpAnyH_take (i := 20) (v := undef) rfl (by kernel_rfl) (by kernel_rfl) (by kernel_rfl) (fun _ _ _ h => h) (Or.inr ⟨by first | (simp [Region.wanted, yielded]; done) | (simp [Region.wanted, yielded, undef]; done), rfl⟩) hHeld ?_
  try simp only [Act.put, List.getElem_toArray, List.getElem_cons_succ, List.getElem_cons_zero, List.setIfInBounds_toArray, List.set_cons_zero, List.set_cons_succ]
  refine wpAnyH_take (i := 21) (v := undef) rfl (by kernel_rfl) (by kernel_rfl) (by kernel_rfl) (fun _ _ _ h => h) (Or.inr ⟨by first | (simp [Region.wanted, yielded]; done) | (simp [Region.wanted, yielded, undef]; done), rfl⟩) hHeld ?_
  try simp only [Act.put, List.getElem_toArray, List.getElem_cons_succ, List.getElem_cons_zero, List.setIfInBounds_toArray, List.set_cons_zero, List.set_cons_succ]
  refine wpAnyH_take (i := 22) (v := undef) rfl (by kernel_rfl) (by kernel_rfl) (by kernel_rfl) (fun _ _ _ h => h) (Or.inr ⟨by first | (simp [Region.wanted, yielded]; done) | (simp [Region.wanted, yielded, undef]; done), rfl⟩) hHeld ?_
  try simp only [Act.put, List.getElem_toArray, List.getElem_cons_succ, List.getElem_cons_zero, List.setIfInBounds_toArray, List.set_cons_zero, List.set_cons_succ]
  refine wpAnyH_take (i := 23) (v := undef) rfl (by kernel_rfl) (by kernel_rfl) (by kernel_rfl) (fun _ _ _ h => h) (Or.inr ⟨by first | (simp [Region.wanted, yielded]; done) | (simp [Region.wanted, yielded, undef]; done), rfl⟩) hHeld ?_
  try simp only [Act.put, List.getElem_toArray, List.getElem_cons_succ, List.getElem_cons_zero, List.setIfInBounds_toArray, List.set_cons_zero, List.set_cons_succ]
  refine wpAnyH_take (i := 24) (v := (.bool false)) rfl (by kernel_rfl) (by kernel_rfl) (by kernel_rfl) (fun _ _ _ h => h) (Or.inl ⟨by rfl, ?_⟩) hHeld ?_
  ·intro w1 hS
   try (obtain ⟨s0, s1, s2, s3, s4⟩ := hS)
   go_simp
  try simp only [Act.put, List.getElem_toArray, List.getElem_cons_succ, List.getElem_cons_zero, List.setIfInBounds_toArray, List.set_cons_zero, List.set_cons_succ]
  refine wpAnyH_take (i := 25) (v := (.bool false)) rfl (by kernel_rfl) (by kernel_rfl) (by kernel_rfl) (fun _ _ _ h => h) (Or.inl ⟨by rfl, ?_⟩) hHeld ?_
  ·intro w1 hS
   try (obtain ⟨s0, s1, s2, s3, s4⟩ := hS)
   go_simp
  try simp only [Act.put, List.getElem_toArray, List.getElem_cons_succ, List.getElem_cons_zero, List.setIfInBounds_toArray, List.set_cons_zero, List.set_cons_succ]
  refine wpAnyH_done (by kernel_rfl) ?_ _
  clear hHeld
  go_wp2
  go_ret
  exact ⟨rfl, HB1.out.drew⟩
 ·skip
  rw [← hN, ← hX, hk] at HE1 HK1 ⊢
  have x0 : W1.cell? ⟨w.heap.size, 0, none⟩ = some (.int .u8 3) := HK1.out.at_ 0
  have x1 : W1.cell? ⟨w.heap.size, 1, none⟩ = some (.string N) := HK1.out.at_ 1
  have x2 : W1.cell? ⟨w.heap.size, 2, none⟩ = some (.slice A t.as.length c) := HK1.out.at_ 2
  have x3 : W1.cell? ⟨w.heap.size, 3, none⟩ = some (.string X) := HK1.out.at_ 3
  have x4 : W1.cell? ⟨w.heap.size, 4, none⟩ = some (.int .i64 t.p) := HK1.out.at_ 4
  rw [HE1.out] at x0 x1 x2 x3 x4
  clear hk hN hX hW1 hb1 hk1
  rw [← HE1.out] at x0
  clear x1 x2 x3 x4
  go_enter Tryz.func63, Tryz.ntmps63
  go_wp2_with fail
  rw [← HE1.out]
  refine wp_region_held_drew (S := (fun w' => w'.cell? ⟨w.heap.size, 0, none⟩ = some (.int .u8 3))) (by kernel_rfl) x0 (fun hHeld => ?_)
  refine wpAnyH_take (i := 0) (v := (.pointer (some ⟨w.heap.size,0,none⟩))) rfl (by kernel_rfl) (by kernel_rfl) (by kernel_rfl) (fun _ _ _ h => h) (Or.inl ⟨by rfl, by (intro w hS; go_simp)⟩) hHeld ?_
  try simp only [Act.put, List.getElem_toArray, List.getElem_cons_zero, List.setIfInBounds_toArray, List.set_cons_zero, List.set_cons_succ]
  refine wpAnyH_take (i := 1) (v := (.int .u8 3)) rfl (by kernel_rfl) (by kernel_rfl) (by kernel_rfl) (fun _ _ _ h => h) (Or.inl ⟨by rfl, ?_⟩) hHeld ?_
  ·intro w1 hS
   try (obtain ⟨s0, s1, s2, s3, s4⟩ := hS)
   go_simp
  try simp only [Act.put, List.getElem_toArray, List.getElem_cons_succ, List.getElem_cons_zero, List.setIfInBounds_toArray, List.set_cons_zero, List.set_cons_succ]
  refine wpAnyH_take (i := 2) (v := (.bool false)) rfl (by kernel_rfl) (by kernel_rfl) (by kernel_rfl) (fun _ _ _ h => h) (Or.inl ⟨by rfl, ?_⟩) hHeld ?_
  ·intro w1 hS
   try (obtain ⟨s0, s1, s2, s3, s4⟩ := hS)
   go_simp
  try simp only [Act.put, List.getElem_toArray, List.getElem_cons_succ, List.getElem_cons_zero, List.setIfInBounds_toArray, List.set_cons_zero, List.set_cons_succ]
  refine wpAnyH_take (i := 3) (v := (.bool false)) rfl (by kernel_rfl) (by kernel_rfl) (by kernel_rfl) (fun _ _ _ h => h) (Or.inl ⟨by rfl, ?_⟩) hHeld ?_
  ·intro w1 hS
   try (obtain ⟨s0, s1, s2, s3, s4⟩ := hS)
   go_simp
  try simp only [Act.put, List.getElem_toArray, List.getElem_cons_succ, List.getElem_cons_zero, List.setIfInBounds_toArray, List.set_cons_zero, List.set_cons_succ]
  refine wpAnyH_take (i := 4) (v := undef) rfl (by kernel_rfl) (by kernel_rfl) (by kernel_rfl) (fun _ _ _ h => h) (Or.inr ⟨by first | (simp [Region.wanted, yielded]; done) | (simp [Region.wanted, yielded, undef]; done), rfl⟩) hHeld ?_
  try simp only [Act.put, List.getElem_toArray, List.getElem_cons_succ, List.getElem_cons_zero, List.setIfInBounds_toArray, List.set_cons_zero, List.set_cons_succ]
  refine wpAnyH_take (i := 5) (v := undef) rfl (by kernel_rfl) (by kernel_rfl) (by kernel_rfl) (fun _ _ _ h => h) (Or.inr ⟨by first | (simp [Region.wanted, yielded]; done) | (simp [Region.wanted, yielded, undef]; done), rfl⟩) hHeld ?_
  try simp only [Act.put, List.getElem_toArray, List.getElem_cons_succ, List.getElem_cons_zero, List.setIfInBounds_toArray, List.set_cons_zero, List.set_cons_succ]
  refine wpAnyH_take (i := 6) (v := undef) rfl (by kernel_rfl) (by kernel_rfl) (by kernel_rfl) (fun _ _ _ h => h) (Or.inr ⟨by first | (simp [Region.wanted, yielded]; done) | (simp [Region.wanted, yielded, undef]; done), rfl⟩) hHeld ?_
  try simp only [Act.put, List.getElem_toArray, List.getElem_cons_succ, List.getElem_cons_zero, List.setIfInBounds_toArray, List.set_cons_zero, List.set_cons_succ]
  refine wpAnyH_take (i := 7) (v := undef) rfl (by kernel_rfl) (by kernel_rfl) (by kernel_rfl) (fun _ _ _ h => h) (Or.inr ⟨by first | (simp [Region.wanted, yielded]; done) | (simp [Region.wanted, yielded, undef]; done), rfl⟩) hHeld ?_
  try simp only [Act.put, List.getElem_toArray, List.getElem_cons_succ, List.getElem_cons_zero, List.setIfInBounds_toArray, List.set_cons_zero, List.set_cons_succ]
  refine wpAnyH_take (i := 8) (v := undef) rfl (by kernel_rfl) (by kernel_rfl) (by kernel_rfl) (fun _ _ _ h => h) (Or.inr ⟨by first | (simp [Region.wanted, yielded]; done) | (simp [Region.wanted, yielded, undef]; done), rfl⟩) hHeld ?_
  try simp only [Act.put, List.getElem_toArray, List.getElem_cons_succ, List.getElem_cons_zero, List.setIfInBounds_toArray, List.set_cons_zero, List.set_cons_succ]
  refine wpAnyH_take (i := 9) (v := undef) rfl (by kernel_rfl) (by kernel_rfl) (by kernel_rfl) (fun _ _ _ h => h) (Or.inr ⟨by first | (simp [Region.wanted, yielded]; done) | (simp [Region.wanted, yielded, undef]; done), rfl⟩) hHeld ?_
  try simp only [Act.put, List.getElem_toArray, List.getElem_cons_succ, List.getElem_cons_zero, List.setIfInBounds_toArray, List.set_cons_zero, List.set_cons_succ]
  refine wpAnyH_take (i := 10) (v := undef) rfl (by kernel_rfl) (by kernel_rfl) (by kernel_rfl) (fun _ _ _ h => h) (Or.inr ⟨by first | (simp [Region.wanted, yielded]; done) | (simp [Region.wanted, yielded, undef]; done), rfl⟩) hHeld ?_
  try simp only [Act.put, List.getElem_toArray, List.getElem_cons_succ, List.getElem_cons_zero, List.setIfInBounds_toArray, List.set_cons_zero, List.set_cons_succ]
  refine wpAnyH_take (i := 11) (v := undef) rfl (by kernel_rfl) (by kernel_rfl) (by kernel_rfl) (fun _ _ _ h => h) (Or.inr ⟨by first | (simp [Region.wanted, yielded]; done) | (simp [Region.wanted, yielded, undef]; done), rfl⟩) hHeld ?_
  try simp only [Act.put, List.getElem_toArray, List.getElem_cons_succ, List.getElem_cons_zero, List.setIfInBounds_toArray, List.set_cons_zero, List.set_cons_succ]
  refine wpAnyH_take (i := 12) (v := undef) rfl (by kernel_rfl) (by kernel_rfl) (by kernel_rfl) (fun _ _ _ h => h) (Or.inr ⟨by first | (simp [Region.wanted, yielded]; done) | (simp [Region.wanted, yielded, undef]; done), rfl⟩) hHeld ?_
  try simp only [Act.put, List.getElem_toArray, List.getElem_cons_succ, List.getElem_cons_zero, List.setIfInBounds_toArray, List.set_cons_zero, List.set_cons_succ]
  refine wpAnyH_take (i := 13) (v := undef) rfl (by kernel_rfl) (by kernel_rfl) (by kernel_rfl) (fun _ _ _ h => h) (Or.inr ⟨by first | (simp [Region.wanted, yielded]; done) | (simp [Region.wanted, yielded, undef]; done), rfl⟩) hHeld ?_
  try simp only [Act.put, List.getElem_toArray, List.getElem_cons_succ, List.getElem_cons_zero, List.setIfInBounds_toArray, List.set_cons_zero, List.set_cons_succ]
  refine wpAnyH_take (i := 14) (v := undef) rfl (by kernel_rfl) (by kernel_rfl) (by kernel_rfl) (fun _ _ _ h => h) (Or.inr ⟨by first | (simp [Region.wanted, yielded]; done) | (simp [Region.wanted, yielded, undef]; done), rfl⟩) hHeld ?_
  try simp only [Act.put, List.getElem_toArray, List.getElem_cons_succ, List.getElem_cons_zero, List.setIfInBounds_toArray, List.set_cons_zero, List.set_cons_succ]
  refine wpAnyH_take (i := 15) (v := undef) rfl (by kernel_rfl) (by kernel_rfl) (by kernel_rfl) (fun _ _ _ h => h) (Or.inr ⟨by first | (simp [Region.wanted, yielded]; done) | (simp [Region.wanted, yielded, undef]; done), rfl⟩) hHeld ?_
  try simp only [Act.put, List.getElem_toArray, List.getElem_cons_succ, List.getElem_cons_zero, List.setIfInBounds_toArray, List.set_cons_zero, List.set_cons_succ]
  refine wpAnyH_take (i := 16) (v := undef) rfl (by kernel_rfl) (by kernel_rfl) (by kernel_rfl) (fun _ _ _ h => h) (Or.inr ⟨by first | (simp [Region.wanted, yielded]; done) | (simp [Region.wanted, yielded, undef]; done), rfl⟩) hHeld ?_
  try simp only [Act.put, List.getElem_toArray, List.getElem_cons_succ, List.getElem_cons_zero, List.setIfInBounds_toArray, List.set_cons_zero, List.set_cons_succ]
  refine wpAnyH_take (i := 17) (v := undef) rfl (by kernel_rfl) (by kernel_rfl) (by kernel_rfl) (fun _ _ _ h => h) (Or.inr ⟨by first | (simp [Region.wanted, yielded]; done) | (simp [Region.wanted, yielded, undef]; done), rfl⟩) hHeld ?_
  try simp only [Act.put, List.getElem_toArray, List.getElem_cons_succ, List.getElem_cons_zero, List.setIfInBounds_toArray, List.set_cons_zero, List.set_cons_succ]
  refine wpAnyH_take (i := 18) (v := undef) rfl (by kernel_rfl) (by kernel_rfl) (by kernel_rfl) (fun _ _ _ h => h) (Or.inr ⟨by first | (simp [Region.wanted, yielded]; done) | (simp [Region.wanted, yielded, undef]; done), rfl⟩) hHeld ?_
  try simp only [Act.put, List.getElem_toArray, List.getElem_cons_succ, List.getElem_cons_zero, List.setIfInBounds_toArray, List.set_cons_zero, List.set_cons_succ]
  refine wpAnyH_take (i := 19) (v := undef) rfl (by kernel_rfl) (by kernel_rfl) (by kernel_rfl) (fun _ _ _ h => h) (Or.inr ⟨by first | (simp [Region.wanted, yielded]; done) | (simp [Region.wanted, yielded, undef]; done), rfl⟩) hHeld ?_
  try simp only [Act.put, List.getElem_toArray, List.getElem_cons_succ, List.getElem_cons_zero, List.setIfInBounds_toArray, List.set_cons_zero, List.set_cons_succ]
  refine wpAnyH_take (i := 20) (v := undef) rfl (by kernel_rfl) (by kernel_rfl) (by kernel_rfl) (fun _ _ _ h => h) (Or.inr ⟨by first | (simp [Region.wanted, yielded]; done) | (simp [Region.wanted, yielded, undef]; done), rfl⟩) hHeld ?_
  try simp only [Act.put, List.getElem_toArray, List.getElem_cons_succ, List.getElem_cons_zero, List.setIfInBounds_toArray, List.set_cons_zero, List.set_cons_succ]
  refine wpAnyH_take (i := 21) (v := undef) rfl (by kernel_rfl) (by kernel_rfl) (by kernel_rfl) (fun _ _ _ h => h) (Or.inr ⟨by first | (simp [Region.wanted, yielded]; done) | (simp [Region.wanted, yielded, undef]; done), rfl⟩) hHeld ?_
  try simp only [Act.put, List.getElem_toArray, List.getElem_cons_succ, List.getElem_cons_zero, List.setIfInBounds_toArray, List.set_cons_zero, List.set_cons_succ]
  refine wpAnyH_take (i := 22) (v := undef) rfl (by kernel_rfl) (by kernel_rfl) (by kernel_rfl) (fun _ _ _ h => h) (Or.inr ⟨by first | (simp [Region.wanted, yielded]; done) | (simp [Region.wanted, yielded, undef]; done), rfl⟩) hHeld ?_
  try simp only [Act.put, List.getElem_toArray, List.getElem_cons_succ, List.getElem_cons_zero, List.setIfInBounds_toArray, List.set_cons_zero, List.set_cons_succ]
  refine wpAnyH_take (i := 23) (v := undef) rfl (by kernel_rfl) (by kernel_rfl) (by kernel_rfl) (fun _ _ _ h => h) (Or.inr ⟨by first | (simp [Region.wanted, yielded]; done) | (simp [Region.wanted, yielded, undef]; done), rfl⟩) hHeld ?_
  try simp only [Act.put, List.getElem_toArray, List.getElem_cons_succ, List.getElem_cons_zero, List.setIfInBounds_toArray, List.set_cons_zero, List.set_cons_succ]
  refine wpAnyH_take (i := 24) (v := (.bool false)) rfl (by kernel_rfl) (by kernel_rfl) (by kernel_rfl) (fun _ _ _ h => h) (Or.inl ⟨by rfl, ?_⟩) hHeld ?_
  ·intro w1 hS
   try (obtain ⟨s0, s1, s2, s3, s4⟩ := hS)
   go_simp
  try simp only [Act.put, List.getElem_toArray, List.getElem_cons_succ, List.getElem_cons_zero, List.setIfInBounds_toArray, List.set_cons_zero, List.set_cons_succ]
  refine wpAnyH_take (i := 25) (v := (.bool false)) rfl (by kernel_rfl) (by kernel_rfl) (by kernel_rfl) (fun _ _ _ h => h) (Or.inl ⟨by rfl, ?_⟩) hHeld ?_
  ·intro w1 hS
   try (obtain ⟨s0, s1, s2, s3, s4⟩ := hS)
   go_simp
  try simp only [Act.put, List.getElem_toArray, List.getElem_cons_succ, List.getElem_cons_zero, List.setIfInBounds_toArray, List.set_cons_zero, List.set_cons_succ]
  refine wpAnyH_done (by kernel_rfl) ?_ _
  clear hHeld
  go_wp2
  go_ret
  exact ⟨rfl, HB1.out.drew⟩
 ·skip
  rw [← hN, ← hX, hk] at HE1 HK1 ⊢
  have x0 : W1.cell? ⟨w.heap.size, 0, none⟩ = some (.int .u8 4) := HK1.out.at_ 0
  have x1 : W1.cell? ⟨w.heap.size, 1, none⟩ = some (.string N) := HK1.out.at_ 1
  have x2 : W1.cell? ⟨w.heap.size, 2, none⟩ = some (.slice A t.as.length c) := HK1.out.at_ 2
  have x3 : W1.cell? ⟨w.heap.size, 3, none⟩ = some (.string X) := HK1.out.at_ 3
  have x4 : W1.cell? ⟨w.heap.size, 4, none⟩ = some (.int .i64 t.p) := HK1.out.at_ 4
  rw [HE1.out] at x0 x1 x2 x3 x4
  clear hk hN hX hW1 hb1 hk1
  rw [← HE1.out] at x0
  clear x1 x2 x3 x4
  go_enter Tryz.func63, Tryz.ntmps63
  go_wp2_with fail
  rw [← HE1.out]
  refine wp_region_held_drew (S := (fun w' => w'.cell? ⟨w.heap.size, 0, none⟩ = some (.int .u8 4))) (by kernel_rfl) x0 (fun hHeld => ?_)
  refine wpAnyH_take (i := 0) (v := (.pointer (some ⟨w.heap.size,0,none⟩))) rfl (by kernel_rfl) (by kernel_rfl) (by kernel_rfl) (fun _ _ _ h => h) (Or.inl ⟨by rfl, by (intro w hS; go_simp)⟩) hHeld ?_
  try simp only [Act.put, List.getElem_toArray, List.getElem_cons_zero, List.setIfInBounds_toArray, List.set_cons_zero, List.set_cons_succ]
  refine wpAnyH_take (i := 1) (v := (.int .u8 4)) rfl (by kernel_rfl) (by kernel_rfl) (by kernel_rfl) (fun _ _ _ h => h) (Or.inl ⟨by rfl, ?_⟩) hHeld ?_
  ·intro w1 hS
   try (obtain ⟨s0, s1, s2, s3, s4⟩ := hS)
   go_simp
  try simp only [Act.put, List.getElem_toArray, List.getElem_cons_succ, List.getElem_cons_zero, List.setIfInBounds_toArray, List.set_cons_zero, List.set_cons_succ]
  refine wpAnyH_take (i := 2) (v := (.bool false)) rfl (by kernel_rfl) (by kernel_rfl) (by kernel_rfl) (fun _ _ _ h => h) (Or.inl ⟨by rfl, ?_⟩) hHeld ?_
  ·intro w1 hS
   try (obtain ⟨s0, s1, s2, s3, s4⟩ := hS)
   go_simp
  try simp only [Act.put, List.getElem_toArray, List.getElem_cons_succ, List.getElem_cons_zero, List.setIfInBounds_toArray, List.set_cons_zero, List.set_cons_succ]
  refine wpAnyH_take (i := 3) (v := (.bool false)) rfl (by kernel_rfl) (by kernel_rfl) (by kernel_rfl) (fun _ _ _ h => h) (Or.inl ⟨by rfl, ?_⟩) hHeld ?_
  ·intro w1 hS
   try (obtain ⟨s0, s1, s2, s3, s4⟩ := hS)
   go_simp
  try simp only [Act.put, List.getElem_toArray, List.getElem_cons_succ, List.getElem_cons_zero, List.setIfInBounds_toArray, List.set_cons_zero, List.set_cons_succ]
  refine wpAnyH_take (i := 4) (v := undef) rfl (by kernel_rfl) (by kernel_rfl) (by kernel_rfl) (fun _ _ _ h => h) (Or.inr ⟨by first | (simp [Region.wanted, yielded]; done) | (simp [Region.wanted, yielded, undef]; done), rfl⟩) hHeld ?_
  try simp only [Act.put, List.getElem_toArray, List.getElem_cons_succ, List.getElem_cons_zero, List.setIfInBounds_toArray, List.set_cons_zero, List.set_cons_succ]
  refine wpAnyH_take (i := 5) (v := undef) rfl (by kernel_rfl) (by kernel_rfl) (by kernel_rfl) (fun _ _ _ h => h) (Or.inr ⟨by first | (simp [Region.wanted, yielded]; done) | (simp [Region.wanted, yielded, undef]; done), rfl⟩) hHeld ?_
  try simp only [Act.put, List.getElem_toArray, List.getElem_cons_succ, List.getElem_cons_zero, List.setIfInBounds_toArray, List.set_cons_zero, List.set_cons_succ]
  refine wpAnyH_take (i := 6) (v := undef) rfl (by kernel_rfl) (by kernel_rfl) (by kernel_rfl) (fun _ _ _ h => h) (Or.inr ⟨by first | (simp [Region.wanted, yielded]; done) | (simp [Region.wanted, yielded, undef]; done), rfl⟩) hHeld ?_
  try simp only [Act.put, List.getElem_toArray, List.getElem_cons_succ, List.getElem_cons_zero, List.setIfInBounds_toArray, List.set_cons_zero, List.set_cons_succ]
  refine wpAnyH_take (i := 7) (v := undef) rfl (by kernel_rfl) (by kernel_rfl) (by kernel_rfl) (fun _ _ _ h => h) (Or.inr ⟨by first | (simp [Region.wanted, yielded]; done) | (simp [Region.wanted, yielded, undef]; done), rfl⟩) hHeld ?_
  try simp only [Act.put, List.getElem_toArray, List.getElem_cons_succ, List.getElem_cons_zero, List.setIfInBounds_toArray, List.set_cons_zero, List.set_cons_succ]
  refine wpAnyH_take (i := 8) (v := undef) rfl (by kernel_rfl) (by kernel_rfl) (by kernel_rfl) (fun _ _ _ h => h) (Or.inr ⟨by first | (simp [Region.wanted, yielded]; done) | (simp [Region.wanted, yielded, undef]; done), rfl⟩) hHeld ?_
  try simp only [Act.put, List.getElem_toArray, List.getElem_cons_succ, List.getElem_cons_zero, List.setIfInBounds_toArray, List.set_cons_zero, List.set_cons_succ]
  refine wpAnyH_take (i := 9) (v := undef) rfl (by kernel_rfl) (by kernel_rfl) (by kernel_rfl) (fun _ _ _ h => h) (Or.inr ⟨by first | (simp [Region.wanted, yielded]; done) | (simp [Region.wanted, yielded, undef]; done), rfl⟩) hHeld ?_
  try simp only [Act.put, List.getElem_toArray, List.getElem_cons_succ, List.getElem_cons_zero, List.setIfInBounds_toArray, List.set_cons_zero, List.set_cons_succ]
  refine wpAnyH_take (i := 10) (v := undef) rfl (by kernel_rfl) (by kernel_rfl) (by kernel_rfl) (fun _ _ _ h => h) (Or.inr ⟨by first | (simp [Region.wanted, yielded]; done) | (simp [Region.wanted, yielded, undef]; done), rfl⟩) hHeld ?_
  try simp only [Act.put, List.getElem_toArray, List.getElem_cons_succ, List.getElem_cons_zero, List.setIfInBounds_toArray, List.set_cons_zero, List.set_cons_succ]
  refine wpAnyH_take (i := 11) (v := undef) rfl (by kernel_rfl) (by kernel_rfl) (by kernel_rfl) (fun _ _ _ h => h) (Or.inr ⟨by first | (simp [Region.wanted, yielded]; done) | (simp [Region.wanted, yielded, undef]; done), rfl⟩) hHeld ?_
  try simp only [Act.put, List.getElem_toArray, List.getElem_cons_succ, List.getElem_cons_zero, List.setIfInBounds_toArray, List.set_cons_zero, List.set_cons_succ]
  refine wpAnyH_take (i := 12) (v := undef) rfl (by kernel_rfl) (by kernel_rfl) (by kernel_rfl) (fun _ _ _ h => h) (Or.inr ⟨by first | (simp [Region.wanted, yielded]; done) | (simp [Region.wanted, yielded, undef]; done), rfl⟩) hHeld ?_
  try simp only [Act.put, List.getElem_toArray, List.getElem_cons_succ, List.getElem_cons_zero, List.setIfInBounds_toArray, List.set_cons_zero, List.set_cons_succ]
  refine wpAnyH_take (i := 13) (v := undef) rfl (by kernel_rfl) (by kernel_rfl) (by kernel_rfl) (fun _ _ _ h => h) (Or.inr ⟨by first | (simp [Region.wanted, yielded]; done) | (simp [Region.wanted, yielded, undef]; done), rfl⟩) hHeld ?_
  try simp only [Act.put, List.getElem_toArray, List.getElem_cons_succ, List.getElem_cons_zero, List.setIfInBounds_toArray, List.set_cons_zero, List.set_cons_succ]
  refine wpAnyH_take (i := 14) (v := undef) rfl (by kernel_rfl) (by kernel_rfl) (by kernel_rfl) (fun _ _ _ h => h) (Or.inr ⟨by first | (simp [Region.wanted, yielded]; done) | (simp [Region.wanted, yielded, undef]; done), rfl⟩) hHeld ?_
  try simp only [Act.put, List.getElem_toArray, List.getElem_cons_succ, List.getElem_cons_zero, List.setIfInBounds_toArray, List.set_cons_zero, List.set_cons_succ]
  refine wpAnyH_take (i := 15) (v := undef) rfl (by kernel_rfl) (by kernel_rfl) (by kernel_rfl) (fun _ _ _ h => h) (Or.inr ⟨by first | (simp [Region.wanted, yielded]; done) | (simp [Region.wanted, yielded, undef]; done), rfl⟩) hHeld ?_
  try simp only [Act.put, List.getElem_toArray, List.getElem_cons_succ, List.getElem_cons_zero, List.setIfInBounds_toArray, List.set_cons_zero, List.set_cons_succ]
  refine wpAnyH_take (i := 16) (v := undef) rfl (by kernel_rfl) (by kernel_rfl) (by kernel_rfl) (fun _ _ _ h => h) (Or.inr ⟨by first | (simp [Region.wanted, yielded]; done) | (simp [Region.wanted, yielded, undef]; done), rfl⟩) hHeld ?_
  try simp only [Act.put, List.getElem_toArray, List.getElem_cons_succ, List.getElem_cons_zero, List.setIfInBounds_toArray, List.set_cons_zero, List.set_cons_succ]
  refine wpAnyH_take (i := 17) (v := undef) rfl (by kernel_rfl) (by kernel_rfl) (by kernel_rfl) (fun _ _ _ h => h) (Or.inr ⟨by first | (simp [Region.wanted, yielded]; done) | (simp [Region.wanted, yielded, undef]; done), rfl⟩) hHeld ?_
  try simp only [Act.put, List.getElem_toArray, List.getElem_cons_succ, List.getElem_cons_zero, List.setIfInBounds_toArray, List.set_cons_zero, List.set_cons_succ]
  refine wpAnyH_take (i := 18) (v := undef) rfl (by kernel_rfl) (by kernel_rfl) (by kernel_rfl) (fun _ _ _ h => h) (Or.inr ⟨by first | (simp [Region.wanted, yielded]; done) | (simp [Region.wanted, yielded, undef]; done), rfl⟩) hHeld ?_
  try simp only [Act.put, List.getElem_toArray, List.getElem_cons_succ, List.getElem_cons_zero, List.setIfInBounds_toArray, List.set_cons_zero, List.set_cons_succ]
  refine wpAnyH_take (i := 19) (v := undef) rfl (by kernel_rfl) (by kernel_rfl) (by kernel_rfl) (fun _ _ _ h => h) (Or.inr ⟨by first | (simp [Region.wanted, yielded]; done) | (simp [Region.wanted, yielded, undef]; done), rfl⟩) hHeld ?_
  try simp only [Act.put, List.getElem_toArray, List.getElem_cons_succ, List.getElem_cons_zero, List.setIfInBounds_toArray, List.set_cons_zero, List.set_cons_succ]
  refine wpAnyH_take (i := 20) (v := undef) rfl (by kernel_rfl) (by kernel_rfl) (by kernel_rfl) (fun _ _ _ h => h) (Or.inr ⟨by first | (simp [Region.wanted, yielded]; done) | (simp [Region.wanted, yielded, undef]; done), rfl⟩) hHeld ?_
  try simp only [Act.put, List.getElem_toArray, List.getElem_cons_succ, List.getElem_cons_zero, List.setIfInBounds_toArray, List.set_cons_zero, List.set_cons_succ]
  refine wpAnyH_take (i := 21) (v := undef) rfl (by kernel_rfl) (by kernel_rfl) (by kernel_rfl) (fun _ _ _ h => h) (Or.inr ⟨by first | (simp [Region.wanted, yielded]; done) | (simp [Region.wanted, yielded, undef]; done), rfl⟩) hHeld ?_
  try simp only [Act.put, List.getElem_toArray, List.getElem_cons_succ, List.getElem_cons_zero, List.setIfInBounds_toArray, List.set_cons_zero, List.set_cons_succ]
  refine wpAnyH_take (i := 22) (v := undef) rfl (by kernel_rfl) (by kernel_rfl) (by kernel_rfl) (fun _ _ _ h => h) (Or.inr ⟨by first | (simp [Region.wanted, yielded]; done) | (simp [Region.wanted, yielded, undef]; done), rfl⟩) hHeld ?_
  try simp only [Act.put, List.getElem_toArray, List.getElem_cons_succ, List.getElem_cons_zero, List.setIfInBounds_toArray, List.set_cons_zero, List.set_cons_succ]
  refine wpAnyH_take (i := 23) (v := undef) rfl (by kernel_rfl) (by kernel_rfl) (by kernel_rfl) (fun _ _ _ h => h) (Or.inr ⟨by first | (simp [Region.wanted, yielded]; done) | (simp [Region.wanted, yielded, undef]; done), rfl⟩) hHeld ?_
  try simp only [Act.put, List.getElem_toArray, List.getElem_cons_succ, List.getElem_cons_zero, List.setIfInBounds_toArray, List.set_cons_zero, List.set_cons_succ]
  refine wpAnyH_take (i := 24) (v := (.bool false)) rfl (by kernel_rfl) (by kernel_rfl) (by kernel_rfl) (fun _ _ _ h => h) (Or.inl ⟨by rfl, ?_⟩) hHeld ?_
  ·intro w1 hS
   try (obtain ⟨s0, s1, s2, s3, s4⟩ := hS)
   go_simp
  try simp only [Act.put, List.getElem_toArray, List.getElem_cons_succ, List.getElem_cons_zero, List.setIfInBounds_toArray, List.set_cons_zero, List.set_cons_succ]
  refine wpAnyH_take (i := 25) (v := (.bool false)) rfl (by kernel_rfl) (by kernel_rfl) (by kernel_rfl) (fun _ _ _ h => h) (Or.inl ⟨by rfl, ?_⟩) hHeld ?_
  ·intro w1 hS
   try (obtain ⟨s0, s1, s2, s3, s4⟩ := hS)
   go_simp
  try simp only [Act.put, List.getElem_toArray, List.getElem_cons_succ, List.getElem_cons_zero, List.setIfInBounds_toArray, List.set_cons_zero, List.set_cons_succ]
  refine wpAnyH_done (by kernel_rfl) ?_ _
  clear hHeld
  go_wp2
  go_ret
  exact ⟨rfl, HB1.out.drew⟩
set_option maxHeartbeats 4000000 in
set_option maxRecDepth 100000 in
theorem unopened_none (B : Nat) (w : World) (r : Nat) (m : Gm) (h : GS B w r m) (t : Tk.T) (A : Option Addr) (c : Nat) (hk : t.k = 2) (he : m.es = []) :
  Calls Tryz.prog 63 #[.pointer (some ⟨r, 0, none⟩), .agg (tokC5 t A c)] w (RuleP w true) := by
 obtain ⟨W1, hW1⟩ : ∃ W1, W1 = w.alloc (.cells (tokC5 t A c) 76) := ⟨_, rfl⟩
 have hb1 : Below w.heap.size w W1 := by rw [hW1]; exact (Below.refl _ _).alloc (Nat.le_refl _) _
 have hk1 : IsBlk W1 w.heap.size 76 (tokC5 t A c) := by rw [hW1]; exact IsBlk.new _ _ _
 have HB1 := Lib.hid hb1
 have HE1 := Lib.hid hW1
 have HK1 := Lib.hid hk1
 unfold tokC5 at HE1 HK1 ⊢
 obtain ⟨N, hN⟩ : ∃ N : ByteArray, N = ⟨t.nm.toArray⟩ := ⟨_, rfl⟩
 obtain ⟨X, hX⟩ : ∃ N : ByteArray, N = ⟨t.tx.toArray⟩ := ⟨_, rfl⟩
 unfold RuleP
 have HO := Lib.hid (outside_any B W1.drew r m ((h.below hb1).below (Below.refl _ _).drew))
 rw [he] at HO
 clear h he
 rw [← hN, ← hX, hk] at HE1 HK1 ⊢
 have x0 : W1.cell? ⟨w.heap.size, 0, none⟩ = some (.int .u8 2) := HK1.out.at_ 0
 have x1 : W1.cell? ⟨w.heap.size, 1, none⟩ = some (.string N) := HK1.out.at_ 1
 have x2 : W1.cell? ⟨w.heap.size, 2, none⟩ = some (.slice A t.as.length c) := HK1.out.at_ 2
 have x3 : W1.cell? ⟨w.heap.size, 3, none⟩ = some (.string X) := HK1.out.at_ 3
 have x4 : W1.cell? ⟨w.heap.size, 4, none⟩ = some (.int .i64 t.p) := HK1.out.at_ 4
 rw [HE1.out] at x0 x1 x2 x3 x4
 clear hk hN hX hW1 hb1 hk1
 rw [← HE1.out] at x0
 clear x1 x2 x3 x4
 go_enter Tryz.func63, Tryz.ntmps63
 go_wp2_with fail
 rw [← HE1.out]
 refine wp_region_held_drew (S := (fun w' => w'.cell? ⟨w.heap.size, 0, none⟩ = some (.int .u8 2))) (by kernel_rfl) x0 (fun hHeld => ?_)
 refine wpAnyH_take (i := 0) (v := (.pointer (some ⟨w.heap.size,0,none⟩))) rfl (by kernel_rfl) (by kernel_rfl) (by kernel_rfl) (fun _ _ _ h => h) (Or.inl ⟨by rfl, ?_⟩) hHeld ?_
 ·intro w1 hS
  go_simp
 try simp only [Act.put, List.getElem_toArray, List.getElem_cons_zero, List.setIfInBounds_toArray, List.set_cons_zero, List.set_cons_succ]
 refine wpAnyH_take (i := 1) (v := (.int .u8 2)) rfl (by kernel_rfl) (by kernel_rfl) (by kernel_rfl) (fun _ _ _ h => h) (Or.inl ⟨by rfl, ?_⟩) hHeld ?_
 ·intro w1 hS
  try (obtain ⟨s0, s1, s2, s3, s4⟩ := hS)
  go_simp
 try simp only [Act.put, List.getElem_toArray, List.getElem_cons_succ, List.getElem_cons_zero, List.setIfInBounds_toArray, List.set_cons_zero, List.set_cons_succ]
 refine wpAnyH_take (i := 2) (v := (.bool true)) rfl (by kernel_rfl) (by kernel_rfl) (by kernel_rfl) (fun _ _ _ h => h) (Or.inl ⟨by rfl, ?_⟩) hHeld ?_
 ·intro w1 hS
  try (obtain ⟨s0, s1, s2, s3, s4⟩ := hS)
  go_simp
 try simp only [Act.put, List.getElem_toArray, List.getElem_cons_succ, List.getElem_cons_zero, List.setIfInBounds_toArray, List.set_cons_zero, List.set_cons_succ]
 refine wpAnyH_take (i := 3) (v := (.bool true)) rfl (by kernel_rfl) (by kernel_rfl) (by kernel_rfl) (fun _ _ _ h => h) (Or.inl ⟨by rfl, ?_⟩) hHeld ?_
 ·intro w1 hS
  try (obtain ⟨s0, s1, s2, s3, s4⟩ := hS)
  go_simp
 try simp only [Act.put, List.getElem_toArray, List.getElem_cons_succ, List.getElem_cons_zero, List.setIfInBounds_toArray, List.set_cons_zero, List.set_cons_succ]
 refine wpAnyH_take (i := 4) (v := (.pointer (some ⟨r,0,none⟩))) rfl (by kernel_rfl) (by kernel_rfl) (by kernel_rfl) (fun _ _ _ h => h) (Or.inl ⟨by rfl, ?_⟩) hHeld ?_
 ·intro w1 hS
  try (obtain ⟨s0, s1, s2, s3, s4⟩ := hS)
  go_simp
 try simp only [Act.put, List.getElem_toArray, List.getElem_cons_succ, List.getElem_cons_zero, List.setIfInBounds_toArray, List.set_cons_zero, List.set_cons_succ]
 refine wpAnyH_ready (rs := [5]) (by kernel_rfl) (by simp) ?_
 refine AllReadyH.cons rfl (fun K hK => ?_) AllReadyH.nil
 try simp only [List.getElem_toArray, List.getElem_cons_succ, List.getElem_cons_zero]
 go_simp
 refine HO.out.mono ?_
 rintro e w2 ⟨rfl, h2⟩
 have B2 := Lib.hid (HB1.out.drew.trans (h2.mono HB1.out.drew.size))
 have y0 := (h2.cell (p := ⟨w.heap.size, 0, none⟩) HK1.out.lt).trans x0
 clear h2 x0
 refine hK.out _ _ y0 (fun hHeld => ?_)
 clear hK K
 try simp only [Act.put, List.getElem_toArray, List.getElem_cons_succ, List.getElem_cons_zero, List.setIfInBounds_toArray, List.set_cons_zero, List.set_cons_succ]
 refine wpAnyH_take (i := 6) (v := (.bool true)) rfl (by kernel_rfl) (by kernel_rfl) (by kernel_rfl) (fun _ _ _ h => h) (Or.inl ⟨by rfl, ?_⟩) hHeld ?_
 ·intro w1 hS
  try (obtain ⟨s0, s1, s2, s3, s4⟩ := hS)
  go_simp
 try simp only [Act.put, List.getElem_toArray, List.getElem_cons_succ, List.getElem_cons_zero, List.setIfInBounds_toArray, List.set_cons_zero, List.set_cons_succ]
 refine wpAnyH_take (i := 7) (v := undef) rfl (by kernel_rfl) (by kernel_rfl) (by kernel_rfl) (fun _ _ _ h => h) (Or.inr ⟨by first | (simp [Region.wanted, yielded]; done) | (simp [Region.wanted, yielded, undef]; done), rfl⟩) hHeld ?_
 try simp only [Act.put, List.getElem_toArray, List.getElem_cons_succ, List.getElem_cons_zero, List.setIfInBounds_toArray, List.set_cons_zero, List.set_cons_succ]
 refine wpAnyH_take (i := 8) (v := undef) rfl (by kernel_rfl) (by kernel_rfl) (by kernel_rfl) (fun _ _ _ h => h) (Or.inr ⟨by first | (simp [Region.wanted, yielded]; done) | (simp [Region.wanted, yielded, undef]; done), rfl⟩) hHeld ?_
 try simp only [Act.put, List.getElem_toArray, List.getElem_cons_succ, List.getElem_cons_zero, List.setIfInBounds_toArray, List.set_cons_zero, List.set_cons_succ]
 refine wpAnyH_take (i := 9) (v := undef) rfl (by kernel_rfl) (by kernel_rfl) (by kernel_rfl) (fun _ _ _ h => h) (Or.inr ⟨by first | (simp [Region.wanted, yielded]; done) | (simp [Region.wanted, yielded, undef]; done), rfl⟩) hHeld ?_
 try simp only [Act.put, List.getElem_toArray, List.getElem_cons_succ, List.getElem_cons_zero, List.setIfInBounds_toArray, List.set_cons_zero, List.set_cons_succ]
 refine wpAnyH_take (i := 10) (v := undef) rfl (by kernel_rfl) (by kernel_rfl) (by kernel_rfl) (fun _ _ _ h => h) (Or.inr ⟨by first | (simp [Region.wanted, yielded]; done) | (simp [Region.wanted, yielded, undef]; done), rfl⟩) hHeld ?_
 try simp only [Act.put, List.getElem_toArray, List.getElem_cons_succ, List.getElem_cons_zero, List.setIfInBounds_toArray, List.set_cons_zero, List.set_cons_succ]
 refine wpAnyH_take (i := 11) (v := undef) rfl (by kernel_rfl) (by kernel_rfl) (by kernel_rfl) (fun _ _ _ h => h) (Or.inr ⟨by first | (simp [Region.wanted, yielded]; done) | (simp [Region.wanted, yielded, undef]; done), rfl⟩) hHeld ?_
 try simp only [Act.put, List.getElem_toArray, List.getElem_cons_succ, List.getElem_cons_zero, List.setIfInBounds_toArray, List.set_cons_zero, List.set_cons_succ]
 refine wpAnyH_take (i := 12) (v := undef) rfl (by kernel_rfl) (by kernel_rfl) (by kernel_rfl) (fun _ _ _ h => h) (Or.inr ⟨by first | (simp [Region.wanted, yielded]; done) | (simp [Region.wanted, yielded, undef]; done), rfl⟩) hHeld ?_
 try simp only [Act.put, List.getElem_toArray, List.getElem_cons_succ, List.getElem_cons_zero, List.setIfInBounds_toArray, List.set_cons_zero, List.set_cons_succ]
 refine wpAnyH_take (i := 13) (v := undef) rfl (by kernel_rfl) (by kernel_rfl) (by kernel_rfl) (fun _ _ _ h => h) (Or.inr ⟨by first | (simp [Region.wanted, yielded]; done) | (simp [Region.wanted, yielded, undef]; done), rfl⟩) hHeld ?_
 try simp only [Act.put, List.getElem_toArray, List.getElem_cons_succ, List.getElem_cons_zero, List.setIfInBounds_toArray, List.set_cons_zero, List.set_cons_succ]
 refine wpAnyH_take (i := 14) (v := undef) rfl (by kernel_rfl) (by kernel_rfl) (by kernel_rfl) (fun _ _ _ h => h) (Or.inr ⟨by first | (simp [Region.wanted, yielded]; done) | (simp [Region.wanted, yielded, undef]; done), rfl⟩) hHeld ?_
 try simp only [Act.put, List.getElem_toArray, List.getElem_cons_succ, List.getElem_cons_zero, List.setIfInBounds_toArray, List.set_cons_zero, List.set_cons_succ]
 refine wpAnyH_take (i := 15) (v := undef) rfl (by kernel_rfl) (by kernel_rfl) (by kernel_rfl) (fun _ _ _ h => h) (Or.inr ⟨by first | (simp [Region.wanted, yielded]; done) | (simp [Region.wanted, yielded, undef]; done), rfl⟩) hHeld ?_
 try simp only [Act.put, List.getElem_toArray, List.getElem_cons_succ, List.getElem_cons_zero, List.setIfInBounds_toArray, List.set_cons_zero, List.set_cons_succ]
 refine wpAnyH_take (i := 16) (v := undef) rfl (by kernel_rfl) (by kernel_rfl) (by kernel_rfl) (fun _ _ _ h => h) (Or.inr ⟨by first | (simp [Region.wanted, yielded]; done) | (simp [Region.wanted, yielded, undef]; done), rfl⟩) hHeld ?_
 try simp only [Act.put, List.getElem_toArray, List.getElem_cons_succ, List.getElem_cons_zero, List.setIfInBounds_toArray, List.set_cons_zero, List.set_cons_succ]
 refine wpAnyH_take (i := 17) (v := undef) rfl (by kernel_rfl) (by kernel_rfl) (by kernel_rfl) (fun _ _ _ h => h) (Or.inr ⟨by first | (simp [Region.wanted, yielded]; done) | (simp [Region.wanted, yielded, undef]; done), rfl⟩) hHeld ?_
 try simp only [Act.put, List.getElem_toArray, List.getElem_cons_succ, List.getElem_cons_zero, List.setIfInBounds_toArray, List.set_cons_zero, List.set_cons_succ]
 refine wpAnyH_take (i := 18) (v := undef) rfl (by kernel_rfl) (by kernel_rfl) (by kernel_rfl) (fun _ _ _ h => h) (Or.inr ⟨by first | (simp [Region.wanted, yielded]; done) | (simp [Region.wanted, yielded, undef]; done), rfl⟩) hHeld ?_
 try simp only [Act.put, List.getElem_toArray, List.getElem_cons_succ, List.getElem_cons_zero, List.setIfInBounds_toArray, List.set_cons_zero, List.set_cons_succ]
 refine wpAnyH_take (i := 19) (v := undef) rfl (by kernel_rfl) (by kernel_rfl) (by kernel_rfl) (fun _ _ _ h => h) (Or.inr ⟨by first | (simp [Region.wanted, yielded]; done) | (simp [Region.wanted, yielded, undef]; done), rfl⟩) hHeld ?_
 try simp only [Act.put, List.getElem_toArray, List.getElem_cons_succ, List.getElem_cons_zero, List.setIfInBounds_toArray, List.set_cons_zero, List.set_cons_succ]
 refine wpAnyH_take (i := 20) (v := undef) rfl (by kernel_rfl) (by kernel_rfl) (by kernel_rfl) (fun _ _ _ h => h) (Or.inr ⟨by first | (simp [Region.wanted, yielded]; done) | (simp [Region.wanted, yielded, undef]; done), rfl⟩) hHeld ?_
 try simp only [Act.put, List.getElem_toArray, List.getElem_cons_succ, List.getElem_cons_zero, List.setIfInBounds_toArray, List.set_cons_zero, List.set_cons_succ]
 refine wpAnyH_take (i := 21) (v := undef) rfl (by kernel_rfl) (by kernel_rfl) (by kernel_rfl) (fun _ _ _ h => h) (Or.inr ⟨by first | (simp [Region.wanted, yielded]; done) | (simp [Region.wanted, yielded, undef]; done), rfl⟩) hHeld ?_
 try simp only [Act.put, List.getElem_toArray, List.getElem_cons_succ, List.getElem_cons_zero, List.setIfInBounds_toArray, List.set_cons_zero, List.set_cons_succ]
 refine wpAnyH_take (i := 22) (v := undef) rfl (by kernel_rfl) (by kernel_rfl) (by kernel_rfl) (fun _ _ _ h => h) (Or.inr ⟨by first | (simp [Region.wanted, yielded]; done) | (simp [Region.wanted, yielded, undef]; done), rfl⟩) hHeld ?_
 try simp only [Act.put, List.getElem_toArray, List.getElem_cons_succ, List.getElem_cons_zero, List.setIfInBounds_toArray, List.set_cons_zero, List.set_cons_succ]
 refine wpAnyH_take (i := 23) (v := (.bool true)) rfl (by kernel_rfl) (by kernel_rfl) (by kernel_rfl) (fun _ _ _ h => h) (Or.inl ⟨by rfl, ?_⟩) hHeld ?_
 ·intro w1 hS
  try (obtain ⟨s0, s1, s2, s3, s4⟩ := hS)
  go_simp
 try simp only [Act.put, List.getElem_toArray, List.getElem_cons_succ, List.getElem_cons_zero, List.setIfInBounds_toArray, List.set_cons_zero, List.set_cons_succ]
 refine wpAnyH_take (i := 24) (v := (.bool true)) rfl (by kernel_rfl) (by kernel_rfl) (by kernel_rfl) (fun _ _ _ h => h) (Or.inl ⟨by rfl, ?_⟩) hHeld ?_
 ·intro w1 hS
  try (obtain ⟨s0, s1, s2, s3, s4⟩ := hS)
  go_simp
 try simp only [Act.put, List.getElem_toArray, List.getElem_cons_succ, List.getElem_cons_zero, List.setIfInBounds_toArray, List.set_cons_zero, List.set_cons_succ]
 refine wpAnyH_take (i := 25) (v := (.bool true)) rfl (by kernel_rfl) (by kernel_rfl) (by kernel_rfl) (fun _ _ _ h => h) (Or.inl ⟨by rfl, ?_⟩) hHeld ?_
 ·intro w1 hS
  try (obtain ⟨s0, s1, s2, s3, s4⟩ := hS)
  go_simp
 try simp only [Act.put, List.getElem_toArray, List.getElem_cons_succ, List.getElem_cons_zero, List.setIfInBounds_toArray, List.set_cons_zero, List.set_cons_succ]
 refine wpAnyH_done (by kernel_rfl) ?_ _
 clear hHeld
 go_wp2
 go_ret
 exact ⟨rfl, B2.out⟩
set_option maxHeartbeats 4000000 in
set_option maxRecDepth 100000 in
theorem unopened_some (B : Nat) (w : World) (r : Nat) (m : Gm) (h : GS B w r m) (t : Tk.T) (A : Option Addr) (c : Nat) (hk : t.k = 2) {l : List (Tr.E × Value)} {x : Tr.E × Value} (he : m.es = l ++ [x]) :
  Calls Tryz.prog 63 #[.pointer (some ⟨r, 0, none⟩), .agg (tokC5 t A c)] w (RuleP w (Tr.broken m.g t 5)) := by
 obtain ⟨W1, hW1⟩ : ∃ W1, W1 = w.alloc (.cells (tokC5 t A c) 76) := ⟨_, rfl⟩
 have hb1 : Below w.heap.size w W1 := by rw [hW1]; exact (Below.refl _ _).alloc (Nat.le_refl _) _
 have hk1 : IsBlk W1 w.heap.size 76 (tokC5 t A c) := by rw [hW1]; exact IsBlk.new _ _ _
 have HB1 := Lib.hid hb1
 have HE1 := Lib.hid hW1
 have HK1 := Lib.hid hk1
 unfold tokC5 at HE1 HK1 ⊢
 obtain ⟨N, hN⟩ : ∃ N : ByteArray, N = ⟨t.nm.toArray⟩ := ⟨_, rfl⟩
 obtain ⟨X, hX⟩ : ∃ N : ByteArray, N = ⟨t.tx.toArray⟩ := ⟨_, rfl⟩
 obtain ⟨og, n, cap, hv⟩ := h.ovform he
 have hxm : x ∈ m.es := by rw [he]; simp
 have hpl := h.ok.pl x.1 (List.mem_map.2 ⟨x, hxm, rfl⟩)
 obtain ⟨k, hkk⟩ : ∃ k : Nat, x.1.pl = k := ⟨x.1.pl.toNat, by omega⟩
 have hk2 : k < m.ns.length := by have := hpl.2; rw [hkk] at this; simp only [Gm.g, List.length_map] at this; omega
 obtain ⟨An, cn, Ao, co, hgc⟩ := h.cells
 obtain ⟨ng, hng⟩ := hgc.an (by omega)
 subst hng
 have hbr : Tr.broken m.g t 5 = (m.ns[k].n.nm != t.nm) := by
  unfold Tr.broken
  rw [hk, inn_last he, hkk, Int.toNat_natCast]
  have e1 : m.g.ns[k]? = some m.ns[k].n := by unfold Gm.g; simp [hk2]
  have e2 : m.g.op.isEmpty = false := by unfold Gm.g; simp [he]
  rw [e1, e2]
  simp [bne]
 rw [hbr]
 unfold RuleP
 obtain ⟨Y, hY⟩ : ∃ Y : ByteArray, Y = ⟨m.ns[k].n.nm.toArray⟩ := ⟨_, rfl⟩
 have HC := Lib.hid (fun w' (hb : Below w.heap.size w w') => (show w'.cell? ⟨r, 0, none⟩ = some (.slice (some ⟨ng, 0, none⟩) m.ns.length cn) ∧ w'.cell? ⟨og, l.length * 3, none⟩ = some (.int .i64 k) ∧ w'.cell? ⟨ng, k * 7, none⟩ = some (.string Y) from by
  have h' := h.below hb
  refine ⟨(hb.cell (p := ⟨r, 0, none⟩) h.blk.lt).trans hgc.c0, ?_, ?_⟩
  ·have := (h'.elcell he hv 0 (by omega)).1
   rw [Nat.add_zero] at this
   rw [this, ← hkk]; rfl
  ·have h1 := h'.nown
   rw [hgc.nv] at h1
   have h2 := h1.cellAt (k * 7) (by omega)
   have h3 := fl_at ndV_len m.ns k 0 hk2 (by omega)
   rw [Nat.add_zero] at h3
   rw [h2, h3, hY]; rfl))
 have HO := Lib.hid (fun w' (hb : Below w.heap.size w w') => outside_any B w' r m (h.below hb))
 have hnb : (l ++ [x]).isEmpty = false := by simp
 rw [he, hnb] at HO
 have HI := Lib.hid (fun w' (hb : Below w.heap.size w w') => inner_some B w' r m (h.below hb) he hv)
 have hln : (m.ns.length : Int) ≤ (cn : Int) := by have := hgc.ln; omega
 have hk2' : (k : Int) < (m.ns.length : Int) := by omega
 obtain ⟨q, hq⟩ : ∃ q, q = (m.ns[k].n.nm == t.nm) := ⟨_, rfl⟩
 have hne : (Y.toList == N.toList) = q := by rw [toList_of hY, toList_of hN, hq]
 rw [show (m.ns[k].n.nm != t.nm) = !q by rw [hq]; rfl]
 clear h he hxm hpl hkk hgc hbr hY hnb hv hq hk2
 rw [← hN, ← hX, hk] at HE1 HK1 ⊢
 have x0 : W1.cell? ⟨w.heap.size, 0, none⟩ = some (.int .u8 2) := HK1.out.at_ 0
 have x1 : W1.cell? ⟨w.heap.size, 1, none⟩ = some (.string N) := HK1.out.at_ 1
 have x2 : W1.cell? ⟨w.heap.size, 2, none⟩ = some (.slice A t.as.length c) := HK1.out.at_ 2
 have x3 : W1.cell? ⟨w.heap.size, 3, none⟩ = some (.string X) := HK1.out.at_ 3
 have x4 : W1.cell? ⟨w.heap.size, 4, none⟩ = some (.int .i64 t.p) := HK1.out.at_ 4
 rw [HE1.out] at x0 x1 x2 x3 x4
 clear hk hN hX hW1 hb1 hk1
 rw [← HE1.out] at x0 x1
 clear x2 x3 x4
 obtain ⟨c0, c1, c2⟩ := HC.out W1.drew HB1.out.drew
 go_enter Tryz.func63, Tryz.ntmps63
 go_wp2_with fail
 rw [← HE1.out]
 refine wp_region_held_drew (S := (fun w' => w'.cell? ⟨w.heap.size, 0, none⟩ = some (.int .u8 2) ∧ w'.cell? ⟨w.heap.size, 1, none⟩ = some (.string N) ∧ w'.cell? ⟨r, 0, none⟩ = some (.slice (some ⟨ng, 0, none⟩) m.ns.length cn) ∧ w'.cell? ⟨og, l.length * 3, none⟩ = some (.int .i64 k) ∧ w'.cell? ⟨ng, k * 7, none⟩ = some (.string Y))) (by kernel_rfl) ⟨x0, x1, c0, c1, c2⟩ (fun hHeld => ?_)
 refine wpAnyH_take (i := 0) (v := (.pointer (some ⟨w.heap.size,0,none⟩))) rfl (by kernel_rfl) (by kernel_rfl) (by kernel_rfl) (fun _ _ _ h => h) (Or.inl ⟨by rfl, ?_⟩) hHeld ?_
 ·intro w1 hS
  go_simp
 try simp only [Act.put, List.getElem_toArray, List.getElem_cons_zero, List.setIfInBounds_toArray, List.set_cons_zero, List.set_cons_succ]
 refine wpAnyH_take (i := 1) (v := (.int .u8 2)) rfl (by kernel_rfl) (by kernel_rfl) (by kernel_rfl) (fun _ _ _ h => h) (Or.inl ⟨by rfl, ?_⟩) hHeld ?_
 ·intro w1 hS
  try (obtain ⟨s0, s1, s2, s3, s4⟩ := hS)
  go_simp
 try simp only [Act.put, List.getElem_toArray, List.getElem_cons_succ, List.getElem_cons_zero, List.setIfInBounds_toArray, List.set_cons_zero, List.set_cons_succ]
 refine wpAnyH_take (i := 2) (v := (.bool true)) rfl (by kernel_rfl) (by kernel_rfl) (by kernel_rfl) (fun _ _ _ h => h) (Or.inl ⟨by rfl, ?_⟩) hHeld ?_
 ·intro w1 hS
  try (obtain ⟨s0, s1, s2, s3, s4⟩ := hS)
  go_simp
 try simp only [Act.put, List.getElem_toArray, List.getElem_cons_succ, List.getElem_cons_zero, List.setIfInBounds_toArray, List.set_cons_zero, List.set_cons_succ]
 refine wpAnyH_take (i := 3) (v := (.bool true)) rfl (by kernel_rfl) (by kernel_rfl) (by kernel_rfl) (fun _ _ _ h => h) (Or.inl ⟨by rfl, ?_⟩) hHeld ?_
 ·intro w1 hS
  try (obtain ⟨s0, s1, s2, s3, s4⟩ := hS)
  go_simp
 try simp only [Act.put, List.getElem_toArray, List.getElem_cons_succ, List.getElem_cons_zero, List.setIfInBounds_toArray, List.set_cons_zero, List.set_cons_succ]
 refine wpAnyH_take (i := 4) (v := (.pointer (some ⟨r,0,none⟩))) rfl (by kernel_rfl) (by kernel_rfl) (by kernel_rfl) (fun _ _ _ h => h) (Or.inl ⟨by rfl, ?_⟩) hHeld ?_
 ·intro w1 hS
  try (obtain ⟨s0, s1, s2, s3, s4⟩ := hS)
  go_simp
 try simp only [Act.put, List.getElem_toArray, List.getElem_cons_succ, List.getElem_cons_zero, List.setIfInBounds_toArray, List.set_cons_zero, List.set_cons_succ]
 refine wpAnyH_ready (rs := [5]) (by kernel_rfl) (by simp) ?_
 refine AllReadyH.cons rfl (fun K hK => ?_) AllReadyH.nil
 try simp only [List.getElem_toArray, List.getElem_cons_succ, List.getElem_cons_zero]
 go_simp
 refine (HO.out _ HB1.out.drew).mono ?_
 rintro e w2 ⟨rfl, h2⟩
 have B2 := Lib.hid (HB1.out.drew.trans (h2.mono HB1.out.drew.size))
 have y0 := (h2.cell (p := ⟨w.heap.size, 0, none⟩) HK1.out.lt).trans x0
 have y1 := (h2.cell (p := ⟨w.heap.size, 1, none⟩) HK1.out.lt).trans x1
 have hlt2 : w.heap.size < w2.heap.size := Nat.lt_of_lt_of_le HK1.out.lt h2.size
 clear h2 x0 x1 c0 c1 c2
 obtain ⟨c0, c1, c2⟩ := HC.out w2 B2.out
 refine hK.out _ _ ⟨y0, y1, c0, c1, c2⟩ (fun hHeld => ?_)
 clear hK K
 try simp only [Act.put, List.getElem_toArray, List.getElem_cons_succ, List.getElem_cons_zero, List.setIfInBounds_toArray, List.set_cons_zero, List.set_cons_succ]
 refine wpAnyH_take (i := 6) (v := (.bool false)) rfl (by kernel_rfl) (by kernel_rfl) (by kernel_rfl) (fun _ _ _ h => h) (Or.inl ⟨by rfl, ?_⟩) hHeld ?_
 ·intro w1 hS
  try (obtain ⟨s0, s1, s2, s3, s4⟩ := hS)
  go_simp
 try simp only [Act.put, List.getElem_toArray, List.getElem_cons_succ, List.getElem_cons_zero, List.setIfInBounds_toArray, List.set_cons_zero, List.set_cons_succ]
 refine wpAnyH_take (i := 7) (v := (.pointer (some ⟨r,0,none⟩))) rfl (by kernel_rfl) (by kernel_rfl) (by kernel_rfl) (fun _ _ _ h => h) (Or.inl ⟨by rfl, ?_⟩) hHeld ?_
 ·intro w1 hS
  try (obtain ⟨s0, s1, s2, s3, s4⟩ := hS)
  go_simp
 try simp only [Act.put, List.getElem_toArray, List.getElem_cons_succ, List.getElem_cons_zero, List.setIfInBounds_toArray, List.set_cons_zero, List.set_cons_succ]
 refine wpAnyH_take (i := 8) (v := (.pointer (some ⟨r,0,none⟩))) rfl (by kernel_rfl) (by kernel_rfl) (by kernel_rfl) (fun _ _ _ h => h) (Or.inl ⟨by rfl, ?_⟩) hHeld ?_
 ·intro w1 hS
  try (obtain ⟨s0, s1, s2, s3, s4⟩ := hS)
  go_simp
 try simp only [Act.put, List.getElem_toArray, List.getElem_cons_succ, List.getElem_cons_zero, List.setIfInBounds_toArray, List.set_cons_zero, List.set_cons_succ]
 refine wpAnyH_take (i := 9) (v := (.pointer (some ⟨r,0,none⟩))) rfl (by kernel_rfl) (by kernel_rfl) (by kernel_rfl) (fun _ _ _ h => h) (Or.inl ⟨by rfl, ?_⟩) hHeld ?_
 ·intro w1 hS
  try (obtain ⟨s0, s1, s2, s3, s4⟩ := hS)
  go_simp
 try simp only [Act.put, List.getElem_toArray, List.getElem_cons_succ, List.getElem_cons_zero, List.setIfInBounds_toArray, List.set_cons_zero, List.set_cons_succ]
 refine wpAnyH_take (i := 10) (v := (.pointer (some ⟨r,0,none⟩))) rfl (by kernel_rfl) (by kernel_rfl) (by kernel_rfl) (fun _ _ _ h => h) (Or.inl ⟨by rfl, ?_⟩) hHeld ?_
 ·intro w1 hS
  try (obtain ⟨s0, s1, s2, s3, s4⟩ := hS)
  go_simp
 try simp only [Act.put, List.getElem_toArray, List.getElem_cons_succ, List.getElem_cons_zero, List.setIfInBounds_toArray, List.set_cons_zero, List.set_cons_succ]
 refine wpAnyH_take (i := 11) (v := (.slice (some ⟨ng,0,none⟩) m.ns.length cn)) rfl (by kernel_rfl) (by kernel_rfl) (by kernel_rfl) (fun _ _ _ h => h) (Or.inl ⟨by rfl, ?_⟩) hHeld ?_
 ·intro w1 hS
  try (obtain ⟨s0, s1, s2, s3, s4⟩ := hS)
  go_simp
 try simp only [Act.put, List.getElem_toArray, List.getElem_cons_succ, List.getElem_cons_zero, List.setIfInBounds_toArray, List.set_cons_zero, List.set_cons_succ]
 refine wpAnyH_take (i := 12) (v := (.pointer (some ⟨r,0,none⟩))) rfl (by kernel_rfl) (by kernel_rfl) (by kernel_rfl) (fun _ _ _ h => h) (Or.inl ⟨by rfl, ?_⟩) hHeld ?_
 ·intro w1 hS
  try (obtain ⟨s0, s1, s2, s3, s4⟩ := hS)
  go_simp
 try simp only [Act.put, List.getElem_toArray, List.getElem_cons_succ, List.getElem_cons_zero, List.setIfInBounds_toArray, List.set_cons_zero, List.set_cons_succ]
 refine wpAnyH_take (i := 20) (v := (.pointer (some ⟨w.heap.size,1,none⟩))) rfl (by kernel_rfl) (by kernel_rfl) (by kernel_rfl) (fun _ _ _ h => h) (Or.inl ⟨by rfl, ?_⟩) hHeld ?_
 ·intro w1 hS
  try (obtain ⟨s0, s1, s2, s3, s4⟩ := hS)
  go_simp
 try simp only [Act.put, List.getElem_toArray, List.getElem_cons_succ, List.getElem_cons_zero, List.setIfInBounds_toArray, List.set_cons_zero, List.set_cons_succ]
 refine wpAnyH_take (i := 21) (v := (.string N)) rfl (by kernel_rfl) (by kernel_rfl) (by kernel_rfl) (fun _ _ _ h => h) (Or.inl ⟨by rfl, ?_⟩) hHeld ?_
 ·intro w1 hS
  try (obtain ⟨s0, s1, s2, s3, s4⟩ := hS)
  go_simp
 try simp only [Act.put, List.getElem_toArray, List.getElem_cons_succ, List.getElem_cons_zero, List.setIfInBounds_toArray, List.set_cons_zero, List.set_cons_succ]
 refine wpAnyH_ready (rs := [13]) (by kernel_rfl) (by simp) ?_
 refine AllReadyH.cons rfl (fun K hK => ?_) AllReadyH.nil
 try simp only [List.getElem_toArray, List.getElem_cons_succ, List.getElem_cons_zero]
 go_simp
 refine (HI.out _ B2.out).mono ?_
 rintro e w3 ⟨rfl, h3⟩
 have B3 := Lib.hid (B2.out.trans (h3.mono B2.out.size))
 have z0 := (h3.cell (p := ⟨w.heap.size, 0, none⟩) hlt2).trans y0
 have z1 := (h3.cell (p := ⟨w.heap.size, 1, none⟩) hlt2).trans y1
 clear h3 y0 y1 c0 c1 c2
 obtain ⟨c0, c1, c2⟩ := HC.out w3 B3.out
 refine hK.out _ _ ⟨z0, z1, c0, c1, c2⟩ (fun hHeld => ?_)
 clear hK K
 try simp only [Act.put, List.getElem_toArray, List.getElem_cons_succ, List.getElem_cons_zero, List.setIfInBounds_toArray, List.set_cons_zero, List.set_cons_succ]
 refine wpAnyH_take (i := 14) (v := (.pointer (some ⟨og,l.length*3,none⟩))) rfl (by kernel_rfl) (by kernel_rfl) (by kernel_rfl) (fun _ _ _ h => h) (Or.inl ⟨by rfl, ?_⟩) hHeld ?_
 ·intro w1 hS
  try (obtain ⟨s0, s1, s2, s3, s4⟩ := hS)
  go_simp
 try simp only [Act.put, List.getElem_toArray, List.getElem_cons_succ, List.getElem_cons_zero, List.setIfInBounds_toArray, List.set_cons_zero, List.set_cons_succ]
 refine wpAnyH_take (i := 15) (v := (.pointer (some ⟨og,l.length*3,none⟩))) rfl (by kernel_rfl) (by kernel_rfl) (by kernel_rfl) (fun _ _ _ h => h) (Or.inl ⟨by rfl, ?_⟩) hHeld ?_
 ·intro w1 hS
  try (obtain ⟨s0, s1, s2, s3, s4⟩ := hS)
  go_simp
 try simp only [Act.put, List.getElem_toArray, List.getElem_cons_succ, List.getElem_cons_zero, List.setIfInBounds_toArray, List.set_cons_zero, List.set_cons_succ]
 refine wpAnyH_take (i := 16) (v := (.int .i64 k)) rfl (by kernel_rfl) (by kernel_rfl) (by kernel_rfl) (fun _ _ _ h => h) (Or.inl ⟨by rfl, ?_⟩) hHeld ?_
 ·intro w1 hS
  try (obtain ⟨s0, s1, s2, s3, s4⟩ := hS)
  go_simp
 try simp only [Act.put, List.getElem_toArray, List.getElem_cons_succ, List.getElem_cons_zero, List.setIfInBounds_toArray, List.set_cons_zero, List.set_cons_succ]
 refine wpAnyH_take (i := 17) (v := (.pointer (some ⟨ng,k*7,none⟩))) rfl (by kernel_rfl) (by kernel_rfl) (by kernel_rfl) (fun _ _ _ h => h) (Or.inl ⟨by rfl, ?_⟩) hHeld ?_
 ·intro w1 hS
  try (obtain ⟨s0, s1, s2, s3, s4⟩ := hS)
  go_simp
 try simp only [Act.put, List.getElem_toArray, List.getElem_cons_succ, List.getElem_cons_zero, List.setIfInBounds_toArray, List.set_cons_zero, List.set_cons_succ]
 refine wpAnyH_take (i := 18) (v := (.pointer (some ⟨ng,k*7,none⟩))) rfl (by kernel_rfl) (by kernel_rfl) (by kernel_rfl) (fun _ _ _ h => h) (Or.inl ⟨by rfl, ?_⟩) hHeld ?_
 ·intro w1 hS
  try (obtain ⟨s0, s1, s2, s3, s4⟩ := hS)
  go_simp
 try simp only [Act.put, List.getElem_toArray, List.getElem_cons_succ, List.getElem_cons_zero, List.setIfInBounds_toArray, List.set_cons_zero, List.set_cons_succ]
 refine wpAnyH_take (i := 19) (v := (.string Y)) rfl (by kernel_rfl) (by kernel_rfl) (by kernel_rfl) (fun _ _ _ h => h) (Or.inl ⟨by rfl, ?_⟩) hHeld ?_
 ·intro w1 hS
  try (obtain ⟨s0, s1, s2, s3, s4⟩ := hS)
  go_simp
 try simp only [Act.put, List.getElem_toArray, List.getElem_cons_succ, List.getElem_cons_zero, List.setIfInBounds_toArray, List.set_cons_zero, List.set_cons_succ]
 refine wpAnyH_take (i := 22) (v := (.bool (!q))) rfl (by kernel_rfl) (by kernel_rfl) (by kernel_rfl) (fun _ _ _ h => h) (Or.inl ⟨by rfl, ?_⟩) hHeld ?_
 ·intro w1 hS
  try (obtain ⟨s0, s1, s2, s3, s4⟩ := hS)
  go_simp
 try simp only [Act.put, List.getElem_toArray, List.getElem_cons_succ, List.getElem_cons_zero, List.setIfInBounds_toArray, List.set_cons_zero, List.set_cons_succ]
 refine wpAnyH_take (i := 23) (v := (.bool (!q))) rfl (by kernel_rfl) (by kernel_rfl) (by kernel_rfl) (fun _ _ _ h => h) (Or.inl ⟨by rfl, ?_⟩) hHeld ?_
 ·intro w1 hS
  try (obtain ⟨s0, s1, s2, s3, s4⟩ := hS)
  go_simp
 try simp only [Act.put, List.getElem_toArray, List.getElem_cons_succ, List.getElem_cons_zero, List.setIfInBounds_toArray, List.set_cons_zero, List.set_cons_succ]
 refine wpAnyH_take (i := 24) (v := (.bool (!q))) rfl (by kernel_rfl) (by kernel_rfl) (by kernel_rfl) (fun _ _ _ h => h) (Or.inl ⟨by rfl, ?_⟩) hHeld ?_
 ·intro w1 hS
  try (obtain ⟨s0, s1, s2, s3, s4⟩ := hS)
  go_simp
 try simp only [Act.put, List.getElem_toArray, List.getElem_cons_succ, List.getElem_cons_zero, List.setIfInBounds_toArray, List.set_cons_zero, List.set_cons_succ]
 refine wpAnyH_take (i := 25) (v := (.bool (!q))) rfl (by kernel_rfl) (by kernel_rfl) (by kernel_rfl) (fun _ _ _ h => h) (Or.inl ⟨by rfl, ?_⟩) hHeld ?_
 ·intro w1 hS
  try (obtain ⟨s0, s1, s2, s3, s4⟩ := hS)
  go_simp
 try simp only [Act.put, List.getElem_toArray, List.getElem_cons_succ, List.getElem_cons_zero, List.setIfInBounds_toArray, List.set_cons_zero, List.set_cons_succ]
 refine wpAnyH_done (by kernel_rfl) ?_ _
 clear hHeld z0 z1 c0 c1 c2
 go_wp2
 go_ret
 exact ⟨rfl, B3.out⟩
theorem unopened_any (B : Nat) (w : World) (r : Nat) (m : Gm) (h : GS B w r m) (t : Tk.T) (A : Option Addr) (c : Nat) (hk : t.k = 1 ∨ t.k = 2 ∨ t.k = 3 ∨ t.k = 4) :
  Calls Tryz.prog 63 #[.pointer (some ⟨r, 0, none⟩), .agg (tokC5 t A c)] w (RuleP w (Tr.broken m.g t 5)) := by
 by_cases hk2 : t.k = 2
 ·rcases List.eq_nil_or_concat m.es with he | ⟨l, x, he⟩
  ·rw [show Tr.broken m.g t 5 = true from by unfold Tr.broken Gm.g; simp [hk2, he]]
   exact unopened_none B w r m h t A c hk2 he
  ·exact unopened_some B w r m h t A c hk2 (by rw [he, List.concat_eq_append])
 ·rw [show Tr.broken m.g t 5 = false from by unfold Tr.broken; rw [show (t.k == 2) = false from beq_eq_false_iff_ne.2 hk2]; rfl]
  exact unopened_no w r t A c (by omega)
end Go.Proofs.YteadfpkihhaadaaGreatDoor
namespace Go.Proofs.YteadfpkihhaadaaGreatDoor
open Go.RowKit
def okTo (g : Tr.G) (t : Tk.T) (k : Nat) : Prop := ∀ j, j < k → Tr.broken g t j = false
theorem okTo_succ {g : Tr.G} {t : Tk.T} {k : Nat} (h : okTo g t k) (hk : Tr.broken g t k = false) : okTo g t (k + 1) := fun j hj => by
 rcases Nat.lt_or_ge j k with h1 | h1
 ·exact h j h1
 ·rw [show j = k by omega]; exact hk
theorem wrong_at {g : Tr.G} {t : Tk.T} {k : Nat} (h : okTo g t k) (hk : Tr.broken g t k = true) (h6 : k < 6) : Tr.wrongAs g t = Tr.err5 k := by
 unfold Tr.wrongAs
 rcases (by omega : k = 0 ∨ k = 1 ∨ k = 2 ∨ k = 3 ∨ k = 4 ∨ k = 5) with rfl | rfl | rfl | rfl | rfl | rfl
 ·rw [hk]; rfl
 ·rw [h 0 (by omega), hk]; rfl
 ·rw [h 0 (by omega), h 1 (by omega), hk]; rfl
 ·rw [h 0 (by omega), h 1 (by omega), h 2 (by omega), hk]; rfl
 ·rw [h 0 (by omega), h 1 (by omega), h 2 (by omega), h 3 (by omega), hk]; rfl
 ·rw [h 0 (by omega), h 1 (by omega), h 2 (by omega), h 3 (by omega), h 4 (by omega), hk]; rfl
theorem wrong_no {g : Tr.G} {t : Tk.T} (h : okTo g t 6) : Tr.wrongAs g t = 0 := by
 unfold Tr.wrongAs
 rw [h 0 (by omega), h 1 (by omega), h 2 (by omega), h 3 (by omega), h 4 (by omega), h 5 (by omega)]; rfl
set_option maxHeartbeats 4000000 in
set_option maxRecDepth 100000 in
theorem wrong_any (B : Nat) (w : World) (r : Nat) (m : Gm) (h : GS B w r m) (t : Tk.T) (A : Option Addr) (c : Nat) (hk : t.k = 1 ∨ t.k = 2 ∨ t.k = 3 ∨ t.k = 4) (hx : t.tx.length ≤ 140737488355328) (hnd : NdOk w w.heap.size ⟨Tr.nodeAs t, A, c⟩) :
  Calls Tryz.prog 28 #[.pointer (some ⟨r, 0, none⟩), .agg (tokC5 t A c)] w fun e w' => e = .returned (.int .i64 (Tr.wrongAs m.g t)) ∧ Below w.heap.size w w' := by
 obtain ⟨W1, hW1⟩ : ∃ W1, W1 = w.alloc (.cells (tokC5 t A c) 76) := ⟨_, rfl⟩
 have hb1 : Below w.heap.size w W1 := by rw [hW1]; exact (Below.refl _ _).alloc (Nat.le_refl _) _
 have hk1 : IsBlk W1 w.heap.size 76 (tokC5 t A c) := by rw [hW1]; exact IsBlk.new _ _ _
 have HB1 := Lib.hid hb1
 have HE1 := Lib.hid hW1
 have HK1 := Lib.hid hk1
 unfold tokC5 at HE1 HK1 ⊢
 obtain ⟨N, hN⟩ : ∃ N : ByteArray, N = ⟨t.nm.toArray⟩ := ⟨_, rfl⟩
 obtain ⟨X, hX⟩ : ∃ N : ByteArray, N = ⟨t.tx.toArray⟩ := ⟨_, rfl⟩
 have i0 : ∀ w, (Instr.index 118 (.agg #[.func (Fn.func 58) #[] #[], .int .i64 50, .func (Fn.func 59) #[] #[], .int .i64 50, .func (Fn.func 60) #[] #[], .int .i64 50, .func (Fn.func 61) #[] #[], .int .i64 3, .func (Fn.func 62) #[] #[], .int .i64 3, .func (Fn.func 63) #[] #[], .int .i64 50]) (.int .i64 0)).run Tryz.prog w = .ok (.agg #[.func (Fn.func 58) #[] #[], .int .i64 50]) w := fun _ => by kernel_rfl
 have i1 : ∀ w, (Instr.index 118 (.agg #[.func (Fn.func 58) #[] #[], .int .i64 50, .func (Fn.func 59) #[] #[], .int .i64 50, .func (Fn.func 60) #[] #[], .int .i64 50, .func (Fn.func 61) #[] #[], .int .i64 3, .func (Fn.func 62) #[] #[], .int .i64 3, .func (Fn.func 63) #[] #[], .int .i64 50]) (.int .i64 1)).run Tryz.prog w = .ok (.agg #[.func (Fn.func 59) #[] #[], .int .i64 50]) w := fun _ => by kernel_rfl
 have i2 : ∀ w, (Instr.index 118 (.agg #[.func (Fn.func 58) #[] #[], .int .i64 50, .func (Fn.func 59) #[] #[], .int .i64 50, .func (Fn.func 60) #[] #[], .int .i64 50, .func (Fn.func 61) #[] #[], .int .i64 3, .func (Fn.func 62) #[] #[], .int .i64 3, .func (Fn.func 63) #[] #[], .int .i64 50]) (.int .i64 2)).run Tryz.prog w = .ok (.agg #[.func (Fn.func 60) #[] #[], .int .i64 50]) w := fun _ => by kernel_rfl
 have i3 : ∀ w, (Instr.index 118 (.agg #[.func (Fn.func 58) #[] #[], .int .i64 50, .func (Fn.func 59) #[] #[], .int .i64 50, .func (Fn.func 60) #[] #[], .int .i64 50, .func (Fn.func 61) #[] #[], .int .i64 3, .func (Fn.func 62) #[] #[], .int .i64 3, .func (Fn.func 63) #[] #[], .int .i64 50]) (.int .i64 3)).run Tryz.prog w = .ok (.agg #[.func (Fn.func 61) #[] #[], .int .i64 3]) w := fun _ => by kernel_rfl
 have i4 : ∀ w, (Instr.index 118 (.agg #[.func (Fn.func 58) #[] #[], .int .i64 50, .func (Fn.func 59) #[] #[], .int .i64 50, .func (Fn.func 60) #[] #[], .int .i64 50, .func (Fn.func 61) #[] #[], .int .i64 3, .func (Fn.func 62) #[] #[], .int .i64 3, .func (Fn.func 63) #[] #[], .int .i64 50]) (.int .i64 4)).run Tryz.prog w = .ok (.agg #[.func (Fn.func 62) #[] #[], .int .i64 3]) w := fun _ => by kernel_rfl
 have i5 : ∀ w, (Instr.index 118 (.agg #[.func (Fn.func 58) #[] #[], .int .i64 50, .func (Fn.func 59) #[] #[], .int .i64 50, .func (Fn.func 60) #[] #[], .int .i64 50, .func (Fn.func 61) #[] #[], .int .i64 3, .func (Fn.func 62) #[] #[], .int .i64 3, .func (Fn.func 63) #[] #[], .int .i64 50]) (.int .i64 5)).run Tryz.prog w = .ok (.agg #[.func (Fn.func 63) #[] #[], .int .i64 50]) w := fun _ => by kernel_rfl
 have C0 := Lib.hid (fun w' (hb : Below w.heap.size w w') => strayText_any B w' r m (h.below hb) t A c hk hx)
 have C1 := Lib.hid (fun w' (hb : Below w.heap.size w w') => strayTag_any B w' r m (h.below hb) t A c hk)
 have C2 := Lib.hid (fun w' (hb : Below w.heap.size w w') => twice_any w' r m t A c hk ((hnd.below hb).more hb.size))
 have C3 := Lib.hid (fun w' (hb : Below w.heap.size w w') => tooMany_any B w' r m (h.below hb) t A c hk)
 have C4 := Lib.hid (fun w' (hb : Below w.heap.size w w') => tooDeep_any B w' r m (h.below hb) t A c hk)
 have C5 := Lib.hid (fun w' (hb : Below w.heap.size w w') => unopened_any B w' r m (h.below hb) t A c hk)
 unfold tokC5 RuleP at C0 C1 C2 C3 C4 C5
 rw [← hN, ← hX] at HE1 HK1 C0 C1 C2 C3 C4 C5 ⊢
 obtain ⟨p, hp⟩ : ∃ p, p = w.heap.size := ⟨_, rfl⟩
 rw [← hp] at HK1
 have HP := Lib.hid hp
 obtain ⟨R, hR⟩ : ∃ R, R = Tr.wrongAs m.g t := ⟨_, rfl⟩
 have HR := Lib.hid hR
 rw [← hR]
 have HBR := Lib.hid (fun k (h1 : okTo m.g t k) (h2 : Tr.broken m.g t k = true) (h6 : k < 6) => hR.trans (wrong_at h1 h2 h6))
 have HNO := Lib.hid (fun (h1 : okTo m.g t 6) => hR.trans (wrong_no h1))
 have HPC := Lib.hid (fun w' (hb : Below W1.heap.size W1 w') => (show w'.cell? ⟨p, 0, none⟩ = some (.int .u8 t.k) ∧ w'.cell? ⟨p, 1, none⟩ = some (.string N) ∧ w'.cell? ⟨p, 2, none⟩ = some (.slice A t.as.length c) ∧ w'.cell? ⟨p, 3, none⟩ = some (.string X) ∧ w'.cell? ⟨p, 4, none⟩ = some (.int .i64 t.p) from by
  have := HK1.out.below hb HK1.out.lt
  exact ⟨this.at_ 0, this.at_ 1, this.at_ 2, this.at_ 3, this.at_ 4⟩))
 clear h hk hx hnd hN hX hW1 hb1 hk1 hp hR
 go_enter Tryz.func28, Tryz.ntmps28
 go_wp2
 rw [← HE1.out, ← HP.out]
 go_loopw [14] (fun i wr => ∃ k : Nat, i = .int .i64 k ∧ k ≤ 6 ∧ Hid (Below W1.heap.size W1 wr ∧ okTo m.g t k)) (fun i _ => 6 - (intOf i).toNat)
 case atStart => exact ⟨0, rfl, Nat.zero_le _, Lib.hid ⟨Below.refl _ _, fun j hj => by omega⟩⟩
 case round =>
  obtain ⟨k, rfl, hk, HI⟩ := hrel
  obtain ⟨q0, q1, q2, q3, q4⟩ := HPC.out wr HI.out.1
  have hplt : p < wr.heap.size := Nat.lt_of_lt_of_le HK1.out.lt HI.out.1.size
  rcases (by omega : k = 0 ∨ k = 1 ∨ k = 2 ∨ k = 3 ∨ k = 4 ∨ k = 5 ∨ k = 6) with rfl | rfl | rfl | rfl | rfl | rfl | rfl
  ·have hklt : ((0 : Nat) : Int) < 6 := by omega
   obtain ⟨W4, hW4⟩ : ∃ W4, W4 = wr.alloc (.cells #[.func (Fn.func 58) #[] #[], .int .i64 50] 117) := ⟨_, rfl⟩
   have hk4 : IsBlk W4 wr.heap.size 117 #[.func (Fn.func 58) #[] #[], .int .i64 50] := by
    rw [hW4]; exact IsBlk.new wr _ _
   have hb4 : Below wr.heap.size wr W4 := by
    rw [hW4]; exact (Below.refl _ _).alloc (Nat.le_refl _) _
   have B4 := Lib.hid (HI.out.1.trans (hb4.mono HI.out.1.size))
   have HK4 := Lib.hid hk4
   have HW4 := Lib.hid hW4
   clear hW4 hk4 hb4
   go_wp2_with fail
   rw [← HW4.out]
   refine (C0.out W4 (HB1.out.trans (B4.out.mono HB1.out.size))).mono ?_
   clear q0 q1 q2 q3 q4
   obtain ⟨bb, hbb⟩ : ∃ bb, bb = Tr.broken m.g t 0 := ⟨_, rfl⟩
   rw [← hbb]
   have HBB := Lib.hid hbb
   clear hbb
   rintro e w5 ⟨rfl, h5⟩
   have B5 := Lib.hid (B4.out.trans (h5.mono B4.out.size))
   have f1 : w5.cell? ⟨wr.heap.size, 1, none⟩ = some (.int .i64 50) := (HK4.out.below h5 HK4.out.lt).at_ 1
   clear h5
   cases bb with
   | true =>
    have HF := Lib.hid (show R = 50 from HBR.out 0 HI.out.2 HBB.out.symm (by omega))
    go_wp2
    go_ret
    exact ⟨by rw [HF.out]; rfl, HB1.out.trans (B5.out.mono HB1.out.size)⟩
   | false =>
    clear f1
    go_wp2
    go_roundw
    case rel => exact ⟨0 + 1, by go_num, by omega, Lib.hid ⟨B5.out, okTo_succ HI.out.2 HBB.out.symm⟩⟩
    case measure => simp [intOf]
  ·have hklt : ((1 : Nat) : Int) < 6 := by omega
   obtain ⟨W4, hW4⟩ : ∃ W4, W4 = wr.alloc (.cells #[.func (Fn.func 59) #[] #[], .int .i64 50] 117) := ⟨_, rfl⟩
   have hk4 : IsBlk W4 wr.heap.size 117 #[.func (Fn.func 59) #[] #[], .int .i64 50] := by
    rw [hW4]; exact IsBlk.new wr _ _
   have hb4 : Below wr.heap.size wr W4 := by
    rw [hW4]; exact (Below.refl _ _).alloc (Nat.le_refl _) _
   have B4 := Lib.hid (HI.out.1.trans (hb4.mono HI.out.1.size))
   have HK4 := Lib.hid hk4
   have HW4 := Lib.hid hW4
   clear hW4 hk4 hb4
   go_wp2_with fail
   rw [← HW4.out]
   refine (C1.out W4 (HB1.out.trans (B4.out.mono HB1.out.size))).mono ?_
   clear q0 q1 q2 q3 q4
   obtain ⟨bb, hbb⟩ : ∃ bb, bb = Tr.broken m.g t 1 := ⟨_, rfl⟩
   rw [← hbb]
   have HBB := Lib.hid hbb
   clear hbb
   rintro e w5 ⟨rfl, h5⟩
   have B5 := Lib.hid (B4.out.trans (h5.mono B4.out.size))
   have f1 : w5.cell? ⟨wr.heap.size, 1, none⟩ = some (.int .i64 50) := (HK4.out.below h5 HK4.out.lt).at_ 1
   clear h5
   cases bb with
   | true =>
    have HF := Lib.hid (show R = 50 from HBR.out 1 HI.out.2 HBB.out.symm (by omega))
    go_wp2
    go_ret
    exact ⟨by rw [HF.out]; rfl, HB1.out.trans (B5.out.mono HB1.out.size)⟩
   | false =>
    clear f1
    go_wp2
    go_roundw
    case rel => exact ⟨1 + 1, by go_num, by omega, Lib.hid ⟨B5.out, okTo_succ HI.out.2 HBB.out.symm⟩⟩
    case measure => simp [intOf]
  ·have hklt : ((2 : Nat) : Int) < 6 := by omega
   obtain ⟨W4, hW4⟩ : ∃ W4, W4 = wr.alloc (.cells #[.func (Fn.func 60) #[] #[], .int .i64 50] 117) := ⟨_, rfl⟩
   have hk4 : IsBlk W4 wr.heap.size 117 #[.func (Fn.func 60) #[] #[], .int .i64 50] := by
    rw [hW4]; exact IsBlk.new wr _ _
   have hb4 : Below wr.heap.size wr W4 := by
    rw [hW4]; exact (Below.refl _ _).alloc (Nat.le_refl _) _
   have B4 := Lib.hid (HI.out.1.trans (hb4.mono HI.out.1.size))
   have HK4 := Lib.hid hk4
   have HW4 := Lib.hid hW4
   clear hW4 hk4 hb4
   go_wp2_with fail
   rw [← HW4.out]
   refine (C2.out W4 (HB1.out.trans (B4.out.mono HB1.out.size))).mono ?_
   clear q0 q1 q2 q3 q4
   obtain ⟨bb, hbb⟩ : ∃ bb, bb = Tr.broken m.g t 2 := ⟨_, rfl⟩
   rw [← hbb]
   have HBB := Lib.hid hbb
   clear hbb
   rintro e w5 ⟨rfl, h5⟩
   have B5 := Lib.hid (B4.out.trans (h5.mono B4.out.size))
   have f1 : w5.cell? ⟨wr.heap.size, 1, none⟩ = some (.int .i64 50) := (HK4.out.below h5 HK4.out.lt).at_ 1
   clear h5
   cases bb with
   | true =>
    have HF := Lib.hid (show R = 50 from HBR.out 2 HI.out.2 HBB.out.symm (by omega))
    go_wp2
    go_ret
    exact ⟨by rw [HF.out]; rfl, HB1.out.trans (B5.out.mono HB1.out.size)⟩
   | false =>
    clear f1
    go_wp2
    go_roundw
    case rel => exact ⟨2 + 1, by go_num, by omega, Lib.hid ⟨B5.out, okTo_succ HI.out.2 HBB.out.symm⟩⟩
    case measure => simp [intOf]
  ·have hklt : ((3 : Nat) : Int) < 6 := by omega
   obtain ⟨W4, hW4⟩ : ∃ W4, W4 = wr.alloc (.cells #[.func (Fn.func 61) #[] #[], .int .i64 3] 117) := ⟨_, rfl⟩
   have hk4 : IsBlk W4 wr.heap.size 117 #[.func (Fn.func 61) #[] #[], .int .i64 3] := by
    rw [hW4]; exact IsBlk.new wr _ _
   have hb4 : Below wr.heap.size wr W4 := by
    rw [hW4]; exact (Below.refl _ _).alloc (Nat.le_refl _) _
   have B4 := Lib.hid (HI.out.1.trans (hb4.mono HI.out.1.size))
   have HK4 := Lib.hid hk4
   have HW4 := Lib.hid hW4
   clear hW4 hk4 hb4
   go_wp2_with fail
   rw [← HW4.out]
   refine (C3.out W4 (HB1.out.trans (B4.out.mono HB1.out.size))).mono ?_
   clear q0 q1 q2 q3 q4
   obtain ⟨bb, hbb⟩ : ∃ bb, bb = Tr.broken m.g t 3 := ⟨_, rfl⟩
   rw [← hbb]
   have HBB := Lib.hid hbb
   clear hbb
   rintro e w5 ⟨rfl, h5⟩
   have B5 := Lib.hid (B4.out.trans (h5.mono B4.out.size))
   have f1 : w5.cell? ⟨wr.heap.size, 1, none⟩ = some (.int .i64 3) := (HK4.out.below h5 HK4.out.lt).at_ 1
   clear h5
   cases bb with
   | true =>
    have HF := Lib.hid (show R = 3 from HBR.out 3 HI.out.2 HBB.out.symm (by omega))
    go_wp2
    go_ret
    exact ⟨by rw [HF.out]; rfl, HB1.out.trans (B5.out.mono HB1.out.size)⟩
   | false =>
    clear f1
    go_wp2
    go_roundw
    case rel => exact ⟨3 + 1, by go_num, by omega, Lib.hid ⟨B5.out, okTo_succ HI.out.2 HBB.out.symm⟩⟩
    case measure => simp [intOf]
  ·have hklt : ((4 : Nat) : Int) < 6 := by omega
   obtain ⟨W4, hW4⟩ : ∃ W4, W4 = wr.alloc (.cells #[.func (Fn.func 62) #[] #[], .int .i64 3] 117) := ⟨_, rfl⟩
   have hk4 : IsBlk W4 wr.heap.size 117 #[.func (Fn.func 62) #[] #[], .int .i64 3] := by
    rw [hW4]; exact IsBlk.new wr _ _
   have hb4 : Below wr.heap.size wr W4 := by
    rw [hW4]; exact (Below.refl _ _).alloc (Nat.le_refl _) _
   have B4 := Lib.hid (HI.out.1.trans (hb4.mono HI.out.1.size))
   have HK4 := Lib.hid hk4
   have HW4 := Lib.hid hW4
   clear hW4 hk4 hb4
   go_wp2_with fail
   rw [← HW4.out]
   refine (C4.out W4 (HB1.out.trans (B4.out.mono HB1.out.size))).mono ?_
   clear q0 q1 q2 q3 q4
   obtain ⟨bb, hbb⟩ : ∃ bb, bb = Tr.broken m.g t 4 := ⟨_, rfl⟩
   rw [← hbb]
   have HBB := Lib.hid hbb
   clear hbb
   rintro e w5 ⟨rfl, h5⟩
   have B5 := Lib.hid (B4.out.trans (h5.mono B4.out.size))
   have f1 : w5.cell? ⟨wr.heap.size, 1, none⟩ = some (.int .i64 3) := (HK4.out.below h5 HK4.out.lt).at_ 1
   clear h5
   cases bb with
   | true =>
    have HF := Lib.hid (show R = 3 from HBR.out 4 HI.out.2 HBB.out.symm (by omega))
    go_wp2
    go_ret
    exact ⟨by rw [HF.out]; rfl, HB1.out.trans (B5.out.mono HB1.out.size)⟩
   | false =>
    clear f1
    go_wp2
    go_roundw
    case rel => exact ⟨4 + 1, by go_num, by omega, Lib.hid ⟨B5.out, okTo_succ HI.out.2 HBB.out.symm⟩⟩
    case measure => simp [intOf]
  ·have hklt : ((5 : Nat) : Int) < 6 := by omega
   obtain ⟨W4, hW4⟩ : ∃ W4, W4 = wr.alloc (.cells #[.func (Fn.func 63) #[] #[], .int .i64 50] 117) := ⟨_, rfl⟩
   have hk4 : IsBlk W4 wr.heap.size 117 #[.func (Fn.func 63) #[] #[], .int .i64 50] := by
    rw [hW4]; exact IsBlk.new wr _ _
   have hb4 : Below wr.heap.size wr W4 := by
    rw [hW4]; exact (Below.refl _ _).alloc (Nat.le_refl _) _
   have B4 := Lib.hid (HI.out.1.trans (hb4.mono HI.out.1.size))
   have HK4 := Lib.hid hk4
   have HW4 := Lib.hid hW4
   clear hW4 hk4 hb4
   go_wp2_with fail
   rw [← HW4.out]
   refine (C5.out W4 (HB1.out.trans (B4.out.mono HB1.out.size))).mono ?_
   clear q0 q1 q2 q3 q4
   obtain ⟨bb, hbb⟩ : ∃ bb, bb = Tr.broken m.g t 5 := ⟨_, rfl⟩
   rw [← hbb]
   have HBB := Lib.hid hbb
   clear hbb
   rintro e w5 ⟨rfl, h5⟩
   have B5 := Lib.hid (B4.out.trans (h5.mono B4.out.size))
   have f1 : w5.cell? ⟨wr.heap.size, 1, none⟩ = some (.int .i64 50) := (HK4.out.below h5 HK4.out.lt).at_ 1
   clear h5
   cases bb with
   | true =>
    have HF := Lib.hid (show R = 50 from HBR.out 5 HI.out.2 HBB.out.symm (by omega))
    go_wp2
    go_ret
    exact ⟨by rw [HF.out]; rfl, HB1.out.trans (B5.out.mono HB1.out.size)⟩
   | false =>
    clear f1
    go_wp2
    go_roundw
    case rel => exact ⟨5 + 1, by go_num, by omega, Lib.hid ⟨B5.out, okTo_succ HI.out.2 HBB.out.symm⟩⟩
    case measure => simp [intOf]
  ·have HF := Lib.hid (show R = 0 from HNO.out HI.out.2)
   have hklt : ¬ ((6 : Nat) : Int) < 6 := by omega
   go_wp2
   go_ret
   exact ⟨by rw [HF.out]; rfl, HB1.out.trans (HI.out.1.mono HB1.out.size)⟩
end Go.Proofs.YteadfpkihhaadaaGreatDoor
