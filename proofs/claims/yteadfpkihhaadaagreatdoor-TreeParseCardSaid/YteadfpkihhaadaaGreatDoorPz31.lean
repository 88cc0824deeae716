/- Facts and walks for the statement. -/
import Derived.Test.YteadfpkihhaadaaGreatDoorPz30
import Derived.Test.YteadfpkihhaadaaGreatDoorPz14
import Derived.Test.YteadfpkihhaadaaGreatDoorPz12
namespace Go.Proofs.YteadfpkihhaadaaGreatDoor
open Go.RowKit
def RcP (p : Nat) (S : Tk.S) (w : World) (e : Ending) (w' : World) : Prop :=
 (S.e ≠ 0 ∧ e = .returned (.tuple #[.agg zT, .int .i64 0]) ∧ Below w.heap.size w w') ∨
 (S.e = 0 ∧ ∃ t, S.t = some t ∧ Tk.T.as t = [] ∧ e = .returned (.tuple #[.agg #[.int .u8 t.k, .string ⟨t.nm.toArray⟩, .slice none 0 0, .string ⟨t.tx.toArray⟩, .int .i64 p], .int .i64 S.n]) ∧ Below w.heap.size w w')
set_option maxHeartbeats 4000000 in
set_option maxRecDepth 100000 in
theorem rtag_close (s : ByteArray) (p : Nat) (w : World) (hs : s.size ≤ 900000) (hp : p + 2 ≤ s.size) (hyes : Lib.hasPrefix (s.data.toList.drop p) [60, 47] = true) :
  Calls Tryz.prog 49 #[.string s, .int .i64 p] w (RcP p (Tk.cls (s.data.toList.drop p)) w) := by
 have hll : s.data.toList.length = s.size := (Lib.size_eq s).symm
 obtain ⟨l, hl⟩ : ∃ l, l = s.data.toList.drop p := ⟨_, rfl⟩
 have hlen : p + l.length = s.size := by rw [hl, List.length_drop, hll]; omega
 have hdr : ∀ q, s.data.toList.drop (p + q) = l.drop q := fun q => by rw [hl, List.drop_drop]
 obtain ⟨n, hn⟩ : ∃ n, n = Nm.bg (l.drop 2) := ⟨_, rfl⟩
 have hnl := (Nm.bg_le (l.drop 2)).1
 rw [← hn, List.length_drop] at hnl
 obtain ⟨b, hb⟩ : ∃ b, b = Tk.bl (l.drop (2 + n)) := ⟨_, rfl⟩
 have hbl := Tk.bl_le (l.drop (2 + n))
 rw [← hb, List.length_drop] at hbl
 have HH := Lib.hid (fun w0 => hasp_any s ⟨#[60, 47]⟩ p w0 (by omega) (by decide) (by omega))
 rw [show (⟨#[60, 47]⟩ : ByteArray).data.toList = [60, 47] from rfl, hyes] at HH
 have HBG := Lib.hid (fun w0 => NmW.rbegin_any (s.extract (p + 2) s.size) w0 (by have := extract_size s (p + 2) s.size; unfold maxLen; omega))
 rw [drop_ext, hdr, ← hn] at HBG
 have HBL := Lib.hid (fun w0 => rblanks_any s (p + 2 + n) w0 (by omega) (by omega))
 rw [Nat.add_assoc p 2 n, hdr, ← hb, Int.natCast_add, Int.natCast_add] at HBL
 simp only [Int.cast_ofNat_Int, ← Int.add_assoc] at HBL
 have HQ := Lib.hid (fun w0 => hasp_any s ⟨#[62]⟩ (p + 2 + n + b) w0 (by omega) (by decide) (by omega))
 have e2 : s.data.toList.drop (p + 2 + n + b) = l.drop (2 + n + b) := by rw [show p + 2 + n + b = p + (2 + n + b) by omega, hdr]
 rw [show (⟨#[62]⟩ : ByteArray).data.toList = [62] from rfl, e2, Int.natCast_add, Int.natCast_add, Int.natCast_add] at HQ
 simp only [Int.cast_ofNat_Int] at HQ
 obtain ⟨S, hS⟩ : ∃ S, S = Tk.cls l := ⟨_, rfl⟩
 rw [← hl, ← hS]
 unfold Tk.cls at hS
 rw [← hn, ← hb] at hS
 have hs' : (s.size : Int) ≤ 900000 := by omega
 have hp' : (p : Int) + 2 + (n : Int) + (b : Int) ≤ (s.size : Int) := by omega
 have HB0 := Lib.hid (And.intro (IsBlk.new w 64 zT) ((Below.refl w.heap.size w).alloc (Nat.le_refl _) (.cells zT 64)))
 have hx : s.extract (p + 2) (p + 2 + n) = ⟨((l.drop 2).take n).toArray⟩ := ba_eq (by rw [ext_take, hdr])
 have HX := Lib.hid hx
 by_cases hn0 : n = 0
 ·rw [if_pos (Or.inl hn0)] at hS
  have HS := Lib.hid hS
  subst hn0
  clear hS hl hn hb hdr e2 hyes hx
  go_enter Tryz.func49, Tryz.ntmps49
  go_wp2_with fail
  refine (HH.out _).mono ?_
  rintro e w1 ⟨rfl, rfl⟩
  go_wp2_with fail
  refine (HBG.out _).mono ?_
  rintro e w1 ⟨rfl, h1⟩
  go_wp2_with fail
  refine (HBL.out _).mono ?_
  rintro e w2 ⟨rfl, rfl⟩
  have kb := HB0.out.1.below h1 HB0.out.1.lt
  have k0 : w1.cell? ⟨w.heap.size, 0, none⟩ = some (.int .u8 0) := kb.at_ 0
  have k1 : w1.cell? ⟨w.heap.size, 1, none⟩ = some (.string ⟨#[]⟩) := kb.at_ 1
  have k2 : w1.cell? ⟨w.heap.size, 2, none⟩ = some (.slice none 0 0) := kb.at_ 2
  have k3 : w1.cell? ⟨w.heap.size, 3, none⟩ = some (.string ⟨#[]⟩) := kb.at_ 3
  have k4 : w1.cell? ⟨w.heap.size, 4, none⟩ = some (.int .i64 0) := kb.at_ 4
  have f0 := kb.fz 0
  have f1 := kb.fz 1
  have f2 := kb.fz 2
  have f3 := kb.fz 3
  have f4 := kb.fz 4
  clear kb
  go_wp2
  exact bodyPost_ret (v := .tuple #[.agg zT, .int .i64 0]) (by simp [results, Tryz.results49, go_sem, k0, k1, k2, k3, k4]) rfl (Or.inl ⟨by rw [HS.out]; decide, rfl, below_five (HB0.out.2.trans (h1.mono (by simp))) (Nat.le_refl _) _ _ _ _ _⟩)
 have hnz : ((n : Int) == 0) = false := by
  apply beq_eq_false_iff_ne.2
  omega
 by_cases hq : (l.drop (2 + n + b)).head? = some 62
 ·rw [if_neg (by rintro (h | h); exact hn0 h; exact h hq)] at hS
  rw [hp_one.2 hq] at HQ
  have HS := Lib.hid hS
  obtain ⟨N, hN⟩ : ∃ N : ByteArray, N = ⟨((l.drop 2).take n).toArray⟩ := ⟨_, rfl⟩
  rw [← hN] at hx
  have HN := Lib.hid hN
  clear hS hl hn hb hdr e2 hyes hq hN
  go_enter Tryz.func49, Tryz.ntmps49
  go_wp2_with fail
  refine (HH.out _).mono ?_
  rintro e w1 ⟨rfl, rfl⟩
  go_wp2_with fail
  refine (HBG.out _).mono ?_
  rintro e w1 ⟨rfl, h1⟩
  go_wp2_with fail
  refine (HBL.out _).mono ?_
  rintro e w2 ⟨rfl, rfl⟩
  go_wp2_with fail
  refine (HQ.out _).mono ?_
  rintro e w3 ⟨rfl, rfl⟩
  have kb := HB0.out.1.below h1 HB0.out.1.lt
  have k0 : w1.cell? ⟨w.heap.size, 0, none⟩ = some (.int .u8 0) := kb.at_ 0
  have k1 : w1.cell? ⟨w.heap.size, 1, none⟩ = some (.string ⟨#[]⟩) := kb.at_ 1
  have k2 : w1.cell? ⟨w.heap.size, 2, none⟩ = some (.slice none 0 0) := kb.at_ 2
  have k3 : w1.cell? ⟨w.heap.size, 3, none⟩ = some (.string ⟨#[]⟩) := kb.at_ 3
  have k4 : w1.cell? ⟨w.heap.size, 4, none⟩ = some (.int .i64 0) := kb.at_ 4
  have f0 := kb.fz 0
  have f1 := kb.fz 1
  have f2 := kb.fz 2
  have f3 := kb.fz 3
  have f4 := kb.fz 4
  clear kb
  go_wp2
  exact bodyPost_ret (v := .tuple #[.agg #[.int .u8 2, .string N, .slice none 0 0, .string ⟨#[]⟩, .int .i64 p], .int .i64 ((p : Int) + 2 + (n : Int) + (b : Int) + 1 - (p : Int))]) (by simp [results, Tryz.results49, go_sem, k0, k1, k2, k3, k4]) rfl (Or.inr ⟨by rw [HS.out], ⟨2, (l.drop 2).take n, [], [], 0⟩, by rw [HS.out], rfl, by
   rw [HS.out]
   have y1 : (p : Int) + 2 + (n : Int) + (b : Int) + 1 - (p : Int) = ((2 + n + b + 1 : Nat) : Int) := by omega
   rw [y1, HN.out], below_five (HB0.out.2.trans (h1.mono (by simp))) (Nat.le_refl _) _ _ _ _ _⟩)
 ·rw [if_pos (Or.inr hq)] at hS
  rw [hp_one_no hq] at HQ
  have HS := Lib.hid hS
  clear hS hl hn hb hdr e2 hyes hq hx
  go_enter Tryz.func49, Tryz.ntmps49
  go_wp2_with fail
  refine (HH.out _).mono ?_
  rintro e w1 ⟨rfl, rfl⟩
  go_wp2_with fail
  refine (HBG.out _).mono ?_
  rintro e w1 ⟨rfl, h1⟩
  go_wp2_with fail
  refine (HBL.out _).mono ?_
  rintro e w2 ⟨rfl, rfl⟩
  go_wp2_with fail
  refine (HQ.out _).mono ?_
  rintro e w3 ⟨rfl, rfl⟩
  have kb := HB0.out.1.below h1 HB0.out.1.lt
  have k0 : w1.cell? ⟨w.heap.size, 0, none⟩ = some (.int .u8 0) := kb.at_ 0
  have k1 : w1.cell? ⟨w.heap.size, 1, none⟩ = some (.string ⟨#[]⟩) := kb.at_ 1
  have k2 : w1.cell? ⟨w.heap.size, 2, none⟩ = some (.slice none 0 0) := kb.at_ 2
  have k3 : w1.cell? ⟨w.heap.size, 3, none⟩ = some (.string ⟨#[]⟩) := kb.at_ 3
  have k4 : w1.cell? ⟨w.heap.size, 4, none⟩ = some (.int .i64 0) := kb.at_ 4
  have f0 := kb.fz 0
  have f1 := kb.fz 1
  have f2 := kb.fz 2
  have f3 := kb.fz 3
  have f4 := kb.fz 4
  clear kb
  go_wp2
  exact bodyPost_ret (v := .tuple #[.agg zT, .int .i64 0]) (by simp [results, Tryz.results49, go_sem, k0, k1, k2, k3, k4]) rfl (Or.inl ⟨by rw [HS.out]; decide, rfl, below_five (HB0.out.2.trans (h1.mono (by simp))) (Nat.le_refl _) _ _ _ _ _⟩)
end Go.Proofs.YteadfpkihhaadaaGreatDoor
namespace Go.Proofs.YteadfpkihhaadaaGreatDoor
open Go.RowKit
def decA (a : Tk.A) : Tk.A := ⟨a.nm, (En.rep En.dF a.vl).1, a.p⟩
def mix (k : Nat) (acc : List Tk.A) : List Tk.A := (acc.take k).map decA ++ acc.drop k
theorem rowA_len (p : Nat) : ∀ al : List Tk.A, (rowA p al).length = al.length * 3
 | [] => rfl
 | a :: al => by
  have := rowA_len p al
  unfold rowA at *
  rw [List.flatMap_cons, List.length_append, this]
  show 3 + al.length * 3 = (al.length + 1) * 3
  omega
theorem rowA_append (p : Nat) (a b : List Tk.A) : rowA p (a ++ b) = rowA p a ++ rowA p b := by unfold rowA; rw [List.flatMap_append]
theorem mix_set {p k : Nat} {acc : List Tk.A} (hk : k < acc.length) : (rowA p (mix k acc)).set (k * 3 + 1) (.string ⟨(En.rep En.dF acc[k].vl).1.toArray⟩) = rowA p (mix (k + 1) acc) := by
 have hl : (rowA p ((acc.take k).map decA)).length = k * 3 := by rw [rowA_len, List.length_map, List.length_take, Nat.min_eq_left (by omega)]
 have e1 : mix k acc = (acc.take k).map decA ++ (acc[k] :: acc.drop (k + 1)) := by unfold mix; rw [List.drop_eq_getElem_cons hk]
 have e2 : mix (k + 1) acc = (acc.take k).map decA ++ (decA acc[k] :: acc.drop (k + 1)) := by
  unfold mix; rw [List.take_succ_eq_append_getElem hk, List.map_append]; simp
 rw [e1, e2, rowA_append, rowA_append, List.set_append_right _ _ (by rw [hl]; omega), hl, show k * 3 + 1 - k * 3 = 1 by omega]
 rfl
theorem mix_at {p k : Nat} {acc : List Tk.A} (hk : k < acc.length) : (rowA p (mix k acc))[k * 3 + 1]? = some (.string ⟨acc[k].vl.toArray⟩) ∧ (rowA p (mix k acc))[k * 3 + 2]? = some (.int .i64 ((acc[k].p + p : Nat) : Int)) := by
 have hl : (rowA p ((acc.take k).map decA)).length = k * 3 := by rw [rowA_len, List.length_map, List.length_take, Nat.min_eq_left (by omega)]
 have e1 : mix k acc = (acc.take k).map decA ++ (acc[k] :: acc.drop (k + 1)) := by unfold mix; rw [List.drop_eq_getElem_cons hk]
 rw [e1, rowA_append]
 constructor
 ·rw [List.getElem?_append_right (by rw [hl]; omega), hl, show k * 3 + 1 - k * 3 = 1 by omega]; rfl
 ·rw [List.getElem?_append_right (by rw [hl]; omega), hl, show k * 3 + 2 - k * 3 = 2 by omega]; rfl
def rdN (k : Nat) (acc : List Tk.A) : List (List UInt8 × List UInt8) := (acc.take k).map fun a => (a.nm, (En.rep En.dF a.vl).1)
theorem rdN_step {k : Nat} {acc : List Tk.A} (hk : k < acc.length) (h : (En.rep En.dF acc[k].vl).2.2 = 0) : Tk.rdA (acc.drop k) (rdN k acc) = Tk.rdA (acc.drop (k + 1)) (rdN (k + 1) acc) := by
 rw [rdA_step hk, if_neg (by rw [h]; decide)]
 unfold rdN
 rw [List.take_succ_eq_append_getElem hk, List.map_append]
 rfl
def RdP (p : Nat) (K : Int) (N : ByteArray) (v : Value) (acc : List Tk.A) (B : Nat) (w : World) (e : Ending) (w' : World) : Prop :=
 ((Tk.rdA acc []).2.2 ≠ 0 ∧ e = .returned (.tuple #[.agg zT, .int .i64 (((Tk.rdA acc []).2.1 + p : Nat) : Int), .int .i64 (Tk.rdA acc []).2.2]) ∧ w.grownBy w' v.ownBlock) ∨
 ((Tk.rdA acc []).2.2 = 0 ∧ 32 < acc.length ∧ e = .returned (.tuple #[.agg zT, .int .i64 p, .int .i64 3]) ∧ w.grownBy w' v.ownBlock) ∨
 ((Tk.rdA acc []).2.2 = 0 ∧ ¬ 32 < acc.length ∧ e = .returned (.tuple #[.agg #[.int .u8 K, .string N, v, .string ⟨#[]⟩, .int .i64 p], .int .i64 0, .int .i64 0]) ∧ w'.ownsRow B 143 3 v acc.length (rowA p (acc.map decA)) ∧ w.grownBy w' v.ownBlock)
structure RdR (p : Nat) (K : Int) (N : ByteArray) (v : Value) (acc : List Tk.A) (B : Nat) (w wr : World) (k : Nat) : Prop where
 grown : w.grownBy wr v.ownBlock
 box : IsBlk wr w.heap.size 64 #[.int .u8 K, .string N, v, .string ⟨#[]⟩, .int .i64 p]
 res : IsBlk wr (w.heap.size + 1) 64 zT
 own : wr.ownsRow B 143 3 v acc.length (rowA p (mix k acc))
 eq : Tk.rdA acc [] = Tk.rdA (acc.drop k) (rdN k acc)
theorem grown_five {w w' : World} {row : Option Nat} {r : Nat} (h : w.grownBy w' row) (hr : w.heap.size ≤ r) (a b c d e : Value) : w.grownBy (((((w'.setCell ⟨r, 0, none⟩ a).setCell ⟨r, 1, none⟩ b).setCell ⟨r, 2, none⟩ c).setCell ⟨r, 3, none⟩ d).setCell ⟨r, 4, none⟩ e) row :=
 grown_setnew (grown_setnew (grown_setnew (grown_setnew (grown_setnew h hr 0 a) hr 1 b) hr 2 c) hr 3 d) hr 4 e
theorem grown_drew {w w' : World} {r : Option Nat} (h : w.grownBy w' r) : w.grownBy w'.drew r := ⟨h.os, h.tape, h.output, h.size, h.block⟩
theorem rown_apart {w : World} {B : Nat} {e : TypeId} {size n : Nat} {v : Value} {xs : List Value} (h : w.ownsRow B e size v n xs) {r : Nat} (hr : ∀ q, v.ownBlock = some q → q ≠ r) (i : Nat) (a : Value) : (w.setCell ⟨r, i, none⟩ a).ownsRow B e size v n xs :=
 h.kept (grown_set w r i a) (by
  cases hv : v.ownBlock with
  | none => exact Or.inl rfl
  | some q => exact Or.inr (fun h => hr q hv (by injection h)))
theorem own_apart5 {w : World} {B : Nat} {e : TypeId} {size n : Nat} {v : Value} {xs : List Value} (h : w.ownsRow B e size v n xs) {r : Nat} (hr : ∀ q, v.ownBlock = some q → q ≠ r) (a b c d e' : Value) : (((((w.setCell ⟨r, 0, none⟩ a).setCell ⟨r, 1, none⟩ b).setCell ⟨r, 2, none⟩ c).setCell ⟨r, 3, none⟩ d).setCell ⟨r, 4, none⟩ e').ownsRow B e size v n xs :=
 rown_apart (rown_apart (rown_apart (rown_apart (rown_apart h hr 0 a) hr 1 b) hr 2 c) hr 3 d) hr 4 e'
theorem mix_all (acc : List Tk.A) : mix acc.length acc = acc.map decA := by unfold mix; rw [List.take_length, List.drop_length, List.append_nil]
set_option maxHeartbeats 8000000 in
set_option maxRecDepth 100000 in
theorem read_any (p : Nat) (K : Int) (N : ByteArray) (A : Option Addr) (c : Nat) (acc : List Tk.A) (B : Nat) (w : World) (hp : p ≤ 1000000) (hn : acc.length ≤ 1000000) (hall : ∀ a ∈ acc, a.p + a.vl.length ≤ 1000000)
  (hown : w.ownsRow B 143 3 (.slice A acc.length c) acc.length (rowA p acc)) :
  Calls Tryz.prog 50 #[.agg #[.int .u8 K, .string N, .slice A acc.length c, .string ⟨#[]⟩, .int .i64 p]] w (RdP p K N (.slice A acc.length c) acc B w) := by
 have hv := fun q hq => hown.lt q hq
 have HV := Lib.hid hv
 have HAL := Lib.hid hall
 obtain ⟨W0, hW0⟩ : ∃ W0, W0 = (w.alloc (.cells #[.int .u8 K, .string N, .slice A acc.length c, .string ⟨#[]⟩, .int .i64 p] 64)).alloc (.cells zT 64) := ⟨_, rfl⟩
 have hz : (w.alloc (.cells #[.int .u8 K, .string N, .slice A acc.length c, .string ⟨#[]⟩, .int .i64 p] 64)).heap.size = w.heap.size + 1 := by simp
 have H0 := Lib.hid (show RdR p K N (.slice A acc.length c) acc B w W0 0 from by
  rw [hW0]
  exact ⟨grown_alloc (grown_alloc (grown_refl _ _) _) _, (IsBlk.new w _ _).below ((Below.refl _ _).alloc (Nat.le_refl _) _) (by simp), by rw [← hz]; exact IsBlk.new _ _ _, (hown.alloc _).alloc _, rfl⟩)
 have HW := Lib.hid hW0
 have hn' : (acc.length : Int) ≤ 1000000 := by omega
 clear hv hall hown hz hW0
 go_enter Tryz.func50, Tryz.ntmps50
 go_wp2
 rw [← HW.out]
 go_loopw [5] (fun i wr => ∃ k : Nat, k ≤ acc.length ∧ i = .int .i64 k ∧ Hid (RdR p K N (.slice A acc.length c) acc B w wr k)) (fun i _ => acc.length - (intOf i).toNat)
 case atStart => exact ⟨0, Nat.zero_le _, rfl, H0⟩
 case round =>
  obtain ⟨k, hk, rfl, HI⟩ := hrel
  have y2 : wr.cell? ⟨w.heap.size, 2, none⟩ = some (.slice A acc.length c) := HI.out.box.at_ 2
  by_cases hlt : k < acc.length
  ·obtain ⟨g, cap, hA, hBg, hgl⟩ := HI.out.own.form (by omega)
   injection hA with hA _ hcc
   subst hA hcc
   have hgw : g < w.heap.size := (HV.out g rfl).2
   have hm := mix_at (p := p) hlt
   have d1 := own_cell HI.out.own hm.1
   have d2 := own_cell HI.out.own hm.2
   have df := HI.out.own.frozenAt (k * 3 + 1)
   have hfit := HAL.out acc[k] (List.getElem_mem hlt)
   have hplace := Tk.rep_place En.moves_dF acc[k].vl
   have HD := Lib.hid (fun w0 => rdecode_any ⟨acc[k].vl.toArray⟩ (by rw [size_mk]; omega) w0)
   unfold tup3 at HD
   rw [show (⟨acc[k].vl.toArray⟩ : ByteArray).data.toList = acc[k].vl from rfl] at HD
   have HST := Lib.hid (mix_set (p := p) hlt)
   have HRS := Lib.hid (fun h => rdN_step (acc := acc) hlt h)
   have HRE := Lib.hid (rdA_step hlt (rdN k acc))
   have heq := HI.out.eq
   have HEQ := Lib.hid heq
   obtain ⟨V, hV⟩ : ∃ V : ByteArray, V = ⟨acc[k].vl.toArray⟩ := ⟨_, rfl⟩
   rw [← hV] at HD d1
   obtain ⟨Q, hQ⟩ : ∃ Q, Q = acc[k].p := ⟨_, rfl⟩
   rw [← hQ] at d2 hfit HRE
   generalize En.rep En.dF acc[k].vl = X at *
   obtain ⟨x, z, E⟩ := X
   simp only at HD hplace HST HRS HRE
   have hlt' : (k : Int) < (acc.length : Int) := by omega
   clear hm heq hV hQ
   by_cases hE : E = 0
   ·subst hE
    go_wp2_with fail
    refine (HD.out _).mono ?_
    rintro e w1 ⟨rfl, h1⟩
    have b1 := HI.out.box.below h1 HI.out.box.lt
    have z2 : w1.cell? ⟨w.heap.size, 2, none⟩ = some (.slice (some ⟨g, 0, none⟩) acc.length c) := b1.at_ 2
    have own1 := own_below HI.out.own h1
    have e1 := (h1.cell (p := ⟨g, k * 3 + 1, none⟩) hgl).trans d1
    have ef := (h1.frozen (p := ⟨g, k * 3 + 1, none⟩) hgl).trans df
    have HN := Lib.hid (show RdR p K N (.slice (some ⟨g, 0, none⟩) acc.length c) acc B w (w1.setCell ⟨g, k * 3 + 1, none⟩ (.string ⟨x.toArray⟩)) (k + 1) from by
     refine ⟨?_, b1.far (by show w.heap.size ≠ g; omega) _, (HI.out.res.below h1 HI.out.res.lt).far (by show w.heap.size + 1 ≠ g; omega) _, ?_, by rw [HEQ.out]; exact HRS.out trivial⟩
     ·exact grown_trans (grown_trans HI.out.grown (grown_below h1 _)) (grown_set w1 g _ _)
     ·have := (own1.stored (k * 3 + 1) (.string ⟨x.toArray⟩)).1
      rw [HST.out] at this
      exact this)
    clear h1 b1 own1
    go_wp2
    go_roundw
    case rel => exact ⟨k + 1, by omega, by go_num, HN⟩
    case measure => simp [intOf]; omega
   ·have hE' : (E == 0) = false := beq_eq_false_iff_ne.2 hE
    have hE'' : (E != 0) = true := by simp [bne, hE']
    have HER := Lib.hid (show Tk.rdA acc [] = ([], Q + z, E) by rw [HEQ.out, HRE.out, if_pos hE])
    have HEN := Lib.hid hE
    have hzz : ((Q + p : Nat) : Int) + (z : Int) ≤ 4000000 := by omega
    have hw : IntKind.i64.wrap (((Q + p : Nat) : Int) + (z : Int)) = ((Q + p : Nat) : Int) + (z : Int) := IntWalk.i64_in _ (by omega)
    have HWR := Lib.hid hw
    clear hE hw
    go_wp2_with fail
    refine (HD.out _).mono ?_
    rintro e w1 ⟨rfl, h1⟩
    have z2 : w1.cell? ⟨w.heap.size, 2, none⟩ = some (.slice (some ⟨g, 0, none⟩) acc.length c) := (HI.out.box.below h1 HI.out.box.lt).at_ 2
    have e2 := (h1.cell (p := ⟨g, k * 3 + 2, none⟩) hgl).trans d2
    have HG1 := Lib.hid (grown_trans HI.out.grown (grown_below h1 _))
    have kb := HI.out.res.below h1 HI.out.res.lt
    have k0 : w1.cell? ⟨w.heap.size + 1, 0, none⟩ = some (.int .u8 0) := kb.at_ 0
    have k1 : w1.cell? ⟨w.heap.size + 1, 1, none⟩ = some (.string ⟨#[]⟩) := kb.at_ 1
    have k2 : w1.cell? ⟨w.heap.size + 1, 2, none⟩ = some (.slice none 0 0) := kb.at_ 2
    have k3 : w1.cell? ⟨w.heap.size + 1, 3, none⟩ = some (.string ⟨#[]⟩) := kb.at_ 3
    have k4 : w1.cell? ⟨w.heap.size + 1, 4, none⟩ = some (.int .i64 0) := kb.at_ 4
    have f0 := kb.fz 0
    have f1 := kb.fz 1
    have f2 := kb.fz 2
    have f3 := kb.fz 3
    have f4 := kb.fz 4
    clear kb
    clear h1
    generalize hqp : ((Q + p : Nat) : Int) = QP at *
    have hw := HWR.out
    go_wp2_with fail
    go_region
    all_goals
     clear hw
     go_wp2
     exact bodyPost_ret (v := .tuple #[.agg zT, .int .i64 (QP + (z : Int)), .int .i64 E]) (by simp [results, Tryz.results50, go_sem, k0, k1, k2, k3, k4]) rfl (Or.inl ⟨by rw [HER.out]; exact HEN.out, by
      rw [HER.out, ← hqp, show (((Q + p : Nat) : Int) + (z : Int)) = ((Q + z + p : Nat) : Int) by omega], grown_drew (grown_five (r := w.heap.size + 1) HG1.out (Nat.le_succ _) _ _ _ _ _)⟩)
  ·have HE := Lib.hid (show Tk.rdA acc [] = (rdN k acc, 0, 0) by rw [HI.out.eq, rdA_end (by omega)])
   obtain rfl : k = acc.length := by omega
   have y4 : wr.cell? ⟨w.heap.size, 4, none⟩ = some (.int .i64 p) := HI.out.box.at_ 4
   have y0 : wr.cell? ⟨w.heap.size, 0, none⟩ = some (.int .u8 K) := HI.out.box.at_ 0
   have y1 : wr.cell? ⟨w.heap.size, 1, none⟩ = some (.string N) := HI.out.box.at_ 1
   have y3 : wr.cell? ⟨w.heap.size, 3, none⟩ = some (.string ⟨#[]⟩) := HI.out.box.at_ 3
   have kb := HI.out.res
   have k0 : wr.cell? ⟨w.heap.size + 1, 0, none⟩ = some (.int .u8 0) := kb.at_ 0
   have k1 : wr.cell? ⟨w.heap.size + 1, 1, none⟩ = some (.string ⟨#[]⟩) := kb.at_ 1
   have k2 : wr.cell? ⟨w.heap.size + 1, 2, none⟩ = some (.slice none 0 0) := kb.at_ 2
   have k3 : wr.cell? ⟨w.heap.size + 1, 3, none⟩ = some (.string ⟨#[]⟩) := kb.at_ 3
   have k4 : wr.cell? ⟨w.heap.size + 1, 4, none⟩ = some (.int .i64 0) := kb.at_ 4
   have f0 := kb.fz 0
   have f1 := kb.fz 1
   have f2 := kb.fz 2
   have f3 := kb.fz 3
   have f4 := kb.fz 4
   clear kb
   have HG1 := Lib.hid HI.out.grown
   by_cases h32 : 32 < acc.length
   ·have H32 := Lib.hid h32
    have g32 : (acc.length : Int) > 32 := by omega
    clear h32
    go_wp2_with fail
    go_region
    all_goals
     go_wp2
     exact bodyPost_ret (v := .tuple #[.agg zT, .int .i64 p, .int .i64 3]) (by simp [results, Tryz.results50, go_sem, k0, k1, k2, k3, k4]) rfl (Or.inr (Or.inl ⟨by rw [HE.out], H32.out, rfl, grown_drew (grown_five (r := w.heap.size + 1) HG1.out (Nat.le_succ _) _ _ _ _ _)⟩))
   ·have H32 := Lib.hid h32
    have g32 : ¬ (acc.length : Int) > 32 := by omega
    have HOW := Lib.hid (show wr.ownsRow B 143 3 (.slice A acc.length c) acc.length (rowA p (acc.map decA)) by rw [← mix_all]; exact HI.out.own)
    clear h32
    go_wp2_with fail
    exact bodyPost_ret (v := .tuple #[.agg #[.int .u8 K, .string N, .slice A acc.length c, .string ⟨#[]⟩, .int .i64 p], .int .i64 0, .int .i64 0]) (by simp [results, Tryz.results50, go_sem, k0, k1, k2, k3, k4]) rfl (Or.inr (Or.inr ⟨by rw [HE.out], H32.out, rfl, own_apart5 HOW.out (r := w.heap.size + 1) (fun q hq h => by have := (HV.out q hq).2; omega) _ _ _ _ _, grown_five (r := w.heap.size + 1) HG1.out (Nat.le_succ _) _ _ _ _ _⟩))
end Go.Proofs.YteadfpkihhaadaaGreatDoor
namespace Go.Proofs.YteadfpkihhaadaaGreatDoor
open Go.RowKit
structure RTok where
 t : Tk.T
 v : Value
 p : Nat
 al : List Tk.A
def rtokV (x : RTok) : List Value := [.int .u8 x.t.k, .string ⟨x.t.nm.toArray⟩, x.v, .string ⟨x.t.tx.toArray⟩, .int .i64 x.t.p]
theorem rinfoTok : (Tryz.prog.info? 64).map (fun i => (i.zero, i.size, i.bytes)) = some (some (.agg zT), 5, 72) := by kernel_rfl
structure RRow (B : Nat) (w : World) (v : Value) (ps : List RTok) : Prop where
 own : w.ownsRow B 64 5 v ps.length (ps.flatMap rtokV)
 att : ∀ x ∈ ps, OwnR B x.p w x.v x.al
 says : ∀ x ∈ ps, Tk.T.as x.t = x.al.map (fun a => (a.nm, a.vl))
 apart : ps.Pairwise (fun x y => ∀ g h, x.v.ownBlock = some g → y.v.ownBlock = some h → g ≠ h)
theorem RRow.nil (B : Nat) (w : World) : RRow B w (.slice none 0 0) [] := ⟨World.ownsRow_nil _ _ _ _, fun _ h => (by cases h), fun _ h => (by cases h), List.Pairwise.nil⟩
theorem RRow.below {B : Nat} {w w' : World} {v : Value} {ps : List RTok} (h : RRow B w v ps) (hb : Below w.heap.size w w') : RRow B w' v ps :=
 ⟨own_below h.own hb, fun x hx => own_below (h.att x hx) hb, h.says, h.apart⟩
theorem RRow.grown {B : Nat} {w w' : World} {v : Value} {ps : List RTok} {q : Option Nat} (h : RRow B w v ps) (hg : w.grownBy w' q) (hq : ∀ k, q = some k → v.ownBlock ≠ some k ∧ ∀ x ∈ ps, x.v.ownBlock ≠ some k) : RRow B w' v ps := by
 have hk : ∀ u : Value, (∀ k, q = some k → u.ownBlock ≠ some k) → u.ownBlock = none ∨ u.ownBlock ≠ q := fun u hu => by
  cases hb : u.ownBlock with
  | none => exact Or.inl rfl
  | some g => exact Or.inr (fun e => hu g e.symm hb)
 exact ⟨h.own.kept hg (hk _ fun k e => (hq k e).1), fun x hx => World.ownsRow.kept (h.att x hx) hg (hk _ fun k e => (hq k e).2 x hx), h.says, h.apart⟩
theorem RRow.snoc {B : Nat} {w1 w2 : World} {v v' : Value} {ps : List RTok} {x : RTok} (h : RRow B w1 v ps) (hav : OwnR B x.p w1 x.v x.al) (hsay : Tk.T.as x.t = x.al.map (fun a => (a.nm, a.vl)))
  (hsep : ∀ y ∈ ps, ∀ g h, y.v.ownBlock = some g → x.v.ownBlock = some h → g ≠ h) (hgr : w1.grownBy w2 v.ownBlock)
  (hown : w2.ownsRow B 64 5 v' (ps.length + 1) (ps.flatMap rtokV ++ rtokV x)) : RRow B w2 v' (ps ++ [x]) := by
 have hk : ∀ (p : Nat) (u : Value) (al : List Tk.A), OwnR B p w1 u al → OwnR B p w2 u al := fun p u al hx => World.ownsRow.kept hx hgr (own_types hx h.own (by decide))
 refine ⟨?_, ?_, ?_, ?_⟩
 ·rw [List.length_append, List.flatMap_append]
  simpa using hown
 ·intro y hy
  rw [List.mem_append] at hy
  rcases hy with hy | hy
  ·exact hk _ _ _ (h.att y hy)
  ·simp only [List.mem_singleton] at hy
   subst hy
   exact hk _ _ _ hav
 ·intro y hy
  rw [List.mem_append] at hy
  rcases hy with hy | hy
  ·exact h.says y hy
  ·simp only [List.mem_singleton] at hy
   subst hy
   exact hsay
 ·rw [List.pairwise_append]
  refine ⟨h.apart, by simp, fun y hy z hz => ?_⟩
  simp only [List.mem_singleton] at hz
  subst hz
  exact hsep y hy
def RCutP (R : List Tk.T × Nat × Int) (w : World) (e : Ending) (w' : World) : Prop :=
 ∃ v ps, ps.map RTok.t = R.1 ∧ RRow w.heap.size w' v ps ∧ e = .returned (.tuple #[v, .int .i64 R.2.1, .int .i64 R.2.2]) ∧ Below w.heap.size w w'
structure RcR (s : ByteArray) (w : World) (v : Value) (wr : World) (p : Nat) (ps : List RTok) : Prop where
 hp : p ≤ s.size
 hl : ps.length ≤ p
 below : Below w.heap.size w wr
 row : RRow w.heap.size wr v ps
 eq : Tk.cutT s.data.toList = Tk.goT s.data.toList.length (s.data.toList.drop p) p (ps.map RTok.t)
/-! ### the values that are read, and the tag that is told -/
theorem rdA_pairs : ∀ (al : List Tk.A) (acc : List (List UInt8 × List UInt8)), (Tk.rdA al acc).2.2 = 0 → (Tk.rdA al acc).1 = acc ++ (al.map decA).map (fun a => (a.nm, a.vl))
 | [], acc, _ => by simp [Tk.rdA]
 | a :: al, acc, h => by
  unfold Tk.rdA at h ⊢
  split
  ·rename_i hb; rw [if_pos hb] at h; exact absurd h hb
  ·rename_i hb
   rw [if_neg hb] at h
   rw [rdA_pairs al _ h]
   simp [decA]
theorem fnd_upto (l : List UInt8) (p : Nat) : fnd l p [60] = if Lib.indexByte (l.drop p) 60 = -1 then -1 else ((p + Tk.upto (l.drop p) : Nat) : Int) := by
 unfold fnd Tk.upto
 rw [Lib.index_one]
 rcases En.idx_cases (l.drop p) 60 with h | ⟨j, h⟩
 ·rw [h]; rfl
 ·rw [h, if_pos (by omega), if_neg (by omega), if_neg (by omega), Int.toNat_natCast]
  omega
end Go.Proofs.YteadfpkihhaadaaGreatDoor
namespace Go.Proofs.YteadfpkihhaadaaGreatDoor
open Go.RowKit
theorem Tk.ats_many : ∀ (f : Nat) (l : List UInt8) (i : Nat) (acc : List Tk.A) (L : Nat), i + l.length ≤ L → acc.length ≤ i → (Tk.ats f l i acc).1.length ≤ L
 | 0, l, i, acc, L, h, ha => Nat.zero_le _
 | f + 1, l, i, acc, L, h, ha => by
  have h4 := Tk.bl_le l
  have h3 := Tk.at1_le (l.drop (Tk.bl l))
  rw [List.length_drop] at h3
  unfold Tk.ats
  simp only
  split
  ·simp only; omega
  ·split
   ·simp only; omega
   ·split
    ·exact Nat.zero_le _
    ·rename_i h
     have h2 : (Tk.at1 (l.drop (Tk.bl l))).2 ≠ 0 := fun e => h (Or.inr e)
     exact Tk.ats_many f ((l.drop (Tk.bl l)).drop (Tk.at1 (l.drop (Tk.bl l))).2) (i + Tk.bl l + (Tk.at1 (l.drop (Tk.bl l))).2) (acc ++ [Tk.sh (Tk.at1 (l.drop (Tk.bl l))).1 (i + Tk.bl l)]) L (by simp only [List.length_drop]; omega) (by rw [List.length_append]; simp only [List.length_cons, List.length_nil]; omega)
theorem Tk.tagO_many (l : List UInt8) : (Tk.tagO l).1.length ≤ l.length := by
 unfold Tk.tagO
 have h := Nm.bg_le (l.drop 1)
 rw [List.length_drop] at h
 split
 ·exact Nat.zero_le _
 ·exact Tk.ats_many _ _ _ _ _ (by rw [List.length_drop]; omega) (Nat.zero_le _)
def fin3 (K : Int) (N : ByteArray) (acc : List Tk.A) (n : Nat) : Tk.S :=
 if (Tk.rdA acc []).2.2 ≠ 0 then Tk.bad (Tk.rdA acc []).2.1 (Tk.rdA acc []).2.2 else if 32 < acc.length then Tk.bad 0 3 else ⟨some ⟨K, N.data.toList, (Tk.rdA acc []).1, [], 0⟩, n, 0⟩
def RgP (p : Nat) (S : Tk.S) (L : Nat) (w : World) (e : Ending) (w' : World) : Prop :=
 (S = Tk.bad 0 40 ∧ e = .returned (.tuple #[.agg zT, .int .i64 0]) ∧ Below w.heap.size w w') ∨
 (∃ (K : Int) (N : ByteArray) (A : Option Addr) (c : Nat) (acc : List Tk.A) (n : Nat), 0 < n ∧ n ≤ L ∧ (∀ a ∈ acc, a.p + a.vl.length ≤ L) ∧ acc.length ≤ L ∧ S = fin3 K N acc n ∧
  e = .returned (.tuple #[.agg #[.int .u8 K, .string N, .slice A acc.length c, .string ⟨#[]⟩, .int .i64 p], .int .i64 n]) ∧ OwnR w.heap.size p w' (.slice A acc.length c) acc ∧ Below w.heap.size w w')
theorem rtag_any (s : ByteArray) (p : Nat) (w : World) (hs : s.size ≤ 900000) (hp : p < s.size) (hh : (s.data.toList.drop p).head? = some 60) (hr : Tk.rem (s.data.toList.drop p) = 0) :
  Calls Tryz.prog 49 #[.string s, .int .i64 p] w (RgP p (Tk.step (s.data.toList.drop p)) (s.size - p) w) := by
 have hll : s.data.toList.length = s.size := (Lib.size_eq s).symm
 obtain ⟨l, hl⟩ : ∃ l, l = s.data.toList.drop p := ⟨_, rfl⟩
 have hlen : l.length = s.size - p := by rw [hl, List.length_drop, hll]
 by_cases h2 : Lib.hasPrefix (s.data.toList.drop p) [60, 47] = true
 ·have h2l := Tk.hp_len h2
  rw [← hl] at h2l hh hr
  have hst : Tk.step l = Tk.cls l := by unfold Tk.step; rw [if_neg (by rw [hh]; simp), if_neg (by omega), if_pos (by rw [hl]; exact h2)]
  have hle := Tk.step_le (l := l) (by intro e; rw [e] at hh; cases hh)
  rw [hst] at hle
  refine (rtag_close s p w hs (by simp at h2l; omega) h2).mono ?_
  rw [← hl, hst]
  rintro e w' (⟨he, rfl, hb⟩ | ⟨he, t, ht, has, rfl, hb⟩)
  ·refine Or.inl ⟨?_, rfl, hb⟩
   unfold Tk.cls at he ⊢
   split
   ·rfl
   ·rename_i hc; rw [if_neg hc] at he; exact absurd rfl he
  ·refine Or.inr ⟨t.k, ⟨t.nm.toArray⟩, none, 0, [], (Tk.cls l).n, by have := hle he; omega, by have := (hle he).2; omega, (fun a ha => by cases ha), Nat.zero_le _, ?_, ?_, World.ownsRow_nil _ _ _ _, hb⟩
   ·unfold Tk.cls at he ht ⊢
    split
    ·rename_i hc; rw [if_pos hc] at he; exact absurd he (by decide)
    ·rename_i hc
     rw [if_neg hc] at ht
     injection ht with ht
     subst ht
     rfl
   ·have htx : t.tx = [] := by
     unfold Tk.cls at he ht
     split at ht
     ·cases ht
     ·injection ht with ht
      subst ht; rfl
    rw [htx]
    rfl
 ·have h2' : Lib.hasPrefix (s.data.toList.drop p) [60, 47] = false := by simpa using h2
  have hst : Tk.step l = Tk.opn l := by rw [← hl] at hh hr h2'; unfold Tk.step; rw [if_neg (by rw [hh]; simp), if_neg (by omega), if_neg (by rw [h2']; decide)]
  have hle := Tk.tagO_le l
  have hm := Tk.tagO_many l
  have hpl := Tk.tagO_place l
  refine (rtag_open s p w hs hp h2' ⟨((l.drop 1).take (Nm.bg (l.drop 1))).toArray⟩ (by rw [hl])).mono ?_
  rw [← hl, hst]
  obtain ⟨R, hR⟩ : ∃ R, R = Tk.tagO l := ⟨_, rfl⟩
  rw [← hR] at hle hm hpl ⊢
  obtain ⟨acc, i, k⟩ := R
  simp only at hle hm hpl
  rintro e w' (⟨he, rfl, hb⟩ | ⟨he, v, rfl, how, hb⟩)
  ·exact Or.inl ⟨opn_bad (by rw [← hR]; exact he), rfl, hb⟩
  ·simp only at he how
   obtain ⟨A, c, hv, _⟩ := own_slice how
   subst hv
   refine Or.inr ⟨k, _, A, c, acc, i, by have := hle.2 he; omega, by omega, (fun a ha => by have := hpl a ha; omega), by omega, ?_, rfl, how, hb⟩
   unfold Tk.opn fin3
   rw [← hR]
   simp only
   rw [if_neg he]
end Go.Proofs.YteadfpkihhaadaaGreatDoor
