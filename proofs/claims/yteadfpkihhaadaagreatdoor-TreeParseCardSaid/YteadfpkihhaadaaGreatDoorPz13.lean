/- Facts and walks for the statement. -/
import Derived.Test.YteadfpkihhaadaaGreatDoorCards
import Derived.Test.YteadfpkihhaadaaGreatDoorTie
import Derived.Test.YteadfpkihhaadaaGreatDoorPz12
import Derived.Handed
import Derived.Shelf.Vars
import Derived.ProofKit
import Derived.OpenShut
import Derived.Lib.LaidU8
import Derived.PinnedBridge
import Derived.Lay
import Derived.SevenTiedAt
import Derived.Stop.LaidErr
import Derived.Deep.DrawnRows
import Derived.Test.YteadfpkihhaadaaGreatDoorPz02
namespace Go.Proofs.YteadfpkihhaadaaGreatDoor
open Go.RowKit Go.Shelf Go.Lib
open Go.ChangeShapes Go.WideShapes Go.ChangeAt
def laidAllOf : List (String × DataW Unit) := [("math/bits.deBruijn32tab", Rows.laid_math_bits_deBruijn32tab), ("math/bits.deBruijn64tab", Rows.laid_math_bits_deBruijn64tab), ("internal/strconv.uint64pow10", Rows.laid_internal_strconv_uint64pow10), ("unicode/utf8.acceptRanges", Rows.laid_unicode_utf8_acceptRanges), ("strconv.ErrRange", Rows.laid_strconv_ErrRange), ("strconv.ErrSyntax", Rows.laid_strconv_ErrSyntax), ("hopscotch/utf.characters", Rows.laid_hopscotch_utf_characters), ("unicode/utf8.first", Rows.laid_unicode_utf8_first)]
theorem accept_eq : (Rows.laid_unicode_utf8_acceptRanges : DataW Unit) = acceptData := by kernel_rfl
theorem first_eq : Rows.laid_unicode_utf8_first = firstData := Pinned.utf8First_eq
def charL : List (Int × Int) := [(9, 10), (13, 13), (32, 55295), (57344, 65533), (65536, 1114111)]
theorem chars_eq : (Rows.laid_hopscotch_utf_characters : DataW Unit) = .agg (charL.map fun x => .agg ([x.1, x.2].map fun z => .lit (.int .i32 z))) := by kernel_rfl
theorem xU8 : U8Extra Tryz.prog Tryz.lays260_ren := ⟨by kernel_rfl, by kernel_rfl, by kernel_rfl, by kernel_rfl, by kernel_rfl, by kernel_rfl, by kernel_rfl⟩
theorem gChars : Tryz.prog.globalNamed "hopscotch/utf.characters" = some 0 := by kernel_rfl
theorem yChars : (Tryz.prog.globals[0]?).map (·.type) = some 223 := by kernel_rfl
theorem cSpan : Tryz.prog.cellsOf 222 = 2 := by kernel_rfl
theorem cI32 : Tryz.prog.cellsOf 21 = 1 := by kernel_rfl
theorem chars_cells {W : World} (h : VarReads Tryz.prog W "hopscotch/utf.characters" Rows.laid_hopscotch_utf_characters) (i : Nat) (hi : i < 5) (a b : Int) (hab : charL[i]? = some (a, b)) :
  W.cell? ⟨0, 2 * i, none⟩ = some (.int .i32 a) ∧ W.cell? ⟨0, 2 * i + 1, none⟩ = some (.int .i32 b) := by
 obtain ⟨g, t, cs, fuel, p, hg, hty, hvar, hd⟩ := h
 obtain rfl := Option.some.inj (gChars.symm.trans hg)
 obtain rfl := Option.some.inj (yChars.symm.trans hty)
 rw [chars_eq] at hd
 obtain ⟨fuel', d, q, hdi, he⟩ := array_elem Tryz.underlying223 hd i hi
 rw [List.getElem?_map, hab] at hdi
 simp only [Option.map_some, Option.some.injEq] at hdi
 subst hdi
 rw [cSpan] at he
 have hcs := ints_of_struct Tryz.underlying222 (fun j f hj => by
  match j, hj with
  | 0, hj => simp at hj; subst hj; exact ⟨Tryz.underlying21, rfl, cI32⟩
  | 1, hj => simp at hj; subst hj; exact ⟨Tryz.underlying21, rfl, cI32⟩
  | j + 2, hj => simp at hj) (by rw [cSpan]; rfl) he
 have e0 := congrArg (·[0]?) hcs
 have e1 := congrArg (·[1]?) hcs
 simp only [List.getElem?_take, List.getElem?_drop] at e0 e1
 constructor
 ·rw [World.var?_cell hg hvar (2 * i), ← Array.getElem?_toList]
  simpa [Nat.mul_comm] using e0
 ·rw [World.var?_cell hg hvar (2 * i + 1), ← Array.getElem?_toList]
  simpa [Nat.mul_comm] using e1
theorem tabs_of {W : World} (hL : laidMet Tryz.prog laidAllOf W) : Tabs W := by
 have hf : VarReads Tryz.prog W "unicode/utf8.first" firstData := first_eq ▸ laidMet.reads hL (.tail _ (.tail _ (.tail _ (.tail _ (.tail _ (.tail _ (.tail _ (.head _))))))))
 have ha : VarReads Tryz.prog W "unicode/utf8.acceptRanges" acceptData := accept_eq ▸ laidMet.reads hL (.tail _ (.tail _ (.tail _ (.head _))))
 have hc := laidMet.reads hL (.tail _ (.tail _ (.tail _ (.tail _ (.tail _ (.tail _ (.head _)))))))
 have h0 := chars_cells hc 0 (by decide) _ _ rfl
 have h1 := chars_cells hc 1 (by decide) _ _ rfl
 have h2 := chars_cells hc 2 (by decide) _ _ rfl
 have h3 := chars_cells hc 3 (by decide) _ _ rfl
 have h4 := chars_cells hc 4 (by decide) _ _ rfl
 exact ⟨utf8Tabs_of_reads Tryz.lays260 xU8 hf ha, h0.1, h0.2, h1.1, h1.2, h2.1, h2.2, h3.1, h3.2, h4.1, h4.2⟩
theorem gES : Tryz.prog.globalNamed "strconv.ErrSyntax" = some 4 := by kernel_rfl
theorem yES : (Tryz.prog.globals[4]?).map (·.type) = some 129 := by kernel_rfl
theorem cES : Tryz.prog.cellsOf 252 = 1 := by kernel_rfl
theorem cStr : Tryz.prog.cellsOf 9 = 1 := by kernel_rfl
theorem starES : "*" ++ "errors.errorString" = "*errors.errorString" := by decide
theorem rowES (u : TypeId) (h : Tryz.prog.typeName? 3 u = some "*errors.errorString") : u = 250 :=
 typeName_ptr_named (nm := "errors.errorString") (by rw [starES]; kernel_rfl) (by kernel_rfl) (by decide) u (by rw [starES]; exact h)
theorem tb_of {W : World} (hL : laidMet Tryz.prog laidAllOf W) : Tb W := by
 refine ⟨tabs_of hL, ?_⟩
 obtain ⟨a0, _, hv0, -, -, -⟩ := laid_sentinel (laidMet.tail (laidMet.tail (laidMet.tail (laidMet.tail (laidMet.tail hL))))) gES yES Tryz.underlying129 rowES Tryz.underlying250 Tryz.underlying252 rfl rfl Tryz.underlying9 cES cStr
 exact ⟨_, _, by have h0 := World.var?_cell gES hv0 0; simpa using h0⟩
theorem own : ownKnob Tryz.prog.godebug = none := by kernel_rfl
/-! ### a row whose contract is handed the world's shape, too -/
section
variable {H : Type} {enc : TypeId × Value → H}
theorem row_shaped {a : Assume} {C : Checked} {os : Os} {f : FuncId} {fn : Func} {s : ChangeSpec} {conds : List PathCond} {apart fresh handsOn again : Bool} {X : World → Array Value → Prop}
  (hX : ∀ (w w' : World) (args : Array Value), w.heap = w'.heap → X w args → X w' args)
  (own : ownKnob C.prog.godebug = none) (started : os.Started) (noInit : C.prog.inits.idxOf? f = none) (hfn : C.prog.funcs[f]? = some fn)
  (witness : ∃ (w : World) (tape : Tape) (i : Input), w.os = os ∧ (w.forCall tape i).Shaped C.prog ∧ i.vars = [] ∧ Input.okWide C.prog (w.forCall tape i) .any w.heap.size f i ∧
   ((s.pre enc C.prog fn conds apart (w.forCall tape i).memory i.args ∧ X (w.forCall tape i).memory i.args) ∧ sizedMet enc C.prog fn (OpenSpec.ofChange s) apart (w.forCall tape i).memory i.args) ∧ a.holds C.prog (lone (Frame.enter C.prog f i.args .normal) [] (w.forCall tape i)))
  (contract : ∀ (W : World) (base : Nat) (args : Array Value) (ds gs : List (DataW H)) (before : List MemPlace),
   (∀ (j : Nat) t v, fn.params[j]? = some t → args[j]? = some v → Value.okWide C.prog W .any base t v) →
   DataW.Whole enc C.prog fn.params.toList s.vars apart W args.toList ds gs before → X W args → W.ShapedOpen C.prog →
   Calls C.prog f args W fun e W' => ∃ v, e = .returned v ∧ s.post enc C.prog fn apart fresh handsOn again W args v W') :
  ReturnsInHanded a C os f .any (fun w args => (s.pre enc C.prog fn conds apart w args ∧ X w args) ∧ sizedMet enc C.prog fn (OpenSpec.ofChange s) apart w args) (s.post enc C.prog fn apart fresh handsOn again) := by
 refine returnsInHanded_of_calls own started noInit witness ?_
 intro w tape i _ hsh _ hok hpre _
 obtain ⟨_, _, _, g, hg, _, _, _, _, hval⟩ := hok
 obtain rfl := Option.some.inj (hg.symm.trans hfn)
 obtain ⟨⟨⟨ds, gs, before, hw, _⟩, hx⟩, _⟩ := hpre
 refine (contract (w.forCall tape i) w.heap.size i.args ds gs before hval (DataW.Whole.of_heap (w' := w.forCall tape i) (by rfl) hw) (hX _ _ _ (by rfl) hx) hsh).mono ?_
 rintro e W' ⟨v, rfl, hp⟩
 exact ChangeSpec.post_blind hp
end
theorem mx_of {W : World} (h : W.ShapedOpen Tryz.prog) : Mx W := by
 exact Go.Proofs.cell_of_shapedOpen_int (t := 3) (zero := #[.int .i64 0]) (k := .i64) h (of_decide_eq_true (by kernel_rfl)) (by kernel_rfl) rfl (by kernel_rfl) (by kernel_rfl) Tryz.underlying3
end Go.Proofs.YteadfpkihhaadaaGreatDoor
namespace Go.Proofs.YteadfpkihhaadaaGreatDoor
open Go.RowKit
attribute [local go_sem ↓] Go.wp_at_zero Go.wp_at_succ
theorem infoRA : (Tryz.prog.info? 143).map (fun i => (i.zero, i.size, i.bytes)) = some (some (.agg #[.string ⟨#[]⟩, .string ⟨#[]⟩, .int .i64 0]), 3, 40) := by kernel_rfl
theorem take_snoc_ {al : List (List UInt8 × List UInt8)} {m : Nat} (h : m < al.length) : al.take (m + 1) = al.take m ++ [al[m]] := by
 rw [List.take_succ_eq_append_getElem h]
end Go.Proofs.YteadfpkihhaadaaGreatDoor
namespace Go.Proofs.YteadfpkihhaadaaGreatDoor.NmW
open Go.RowKit
set_option maxHeartbeats 1000000 in
theorem letter_any (c : Int) (w : World) (h0 : 0 ≤ c) (h1 : c ≤ 255) :
  Calls Tryz.prog 172 #[.int .u8 c] w fun e w' => e = .returned (.bool (Nm.letZ c)) ∧ w = w' := by
 go_enter Tryz.func172, Tryz.ntmps172
 go_wp2
 all_goals go_ret
 all_goals exact ⟨ret_bool (by rw [Bool.eq_iff_iff, Nm.letZ_iff]; simp; try omega), rfl⟩
set_option maxHeartbeats 1000000 in
theorem may_any (c : Int) (w : World) (h0 : 0 ≤ c) (h1 : c ≤ 255) :
  Calls Tryz.prog 173 #[.int .u8 c] w fun e w' => e = .returned (.bool (Nm.mayZ c)) ∧ w = w' := by
 have HL := Lib.hid (letter_any c w h0 h1)
 cases hl : Nm.letZ c with
 | true =>
  rw [hl] at HL
  rw [Nm.may_of_let hl]
  clear hl
  go_enter Tryz.func173, Tryz.ntmps173
  go_wp2_with fail
  refine HL.out.mono ?_
  rintro e w1 ⟨rfl, rfl⟩
  go_wp2
  go_ret
  exact ⟨rfl, rfl⟩
 | false =>
  rw [hl] at HL
  have hl' : ¬ ((65 ≤ c ∧ c ≤ 90) ∨ (97 ≤ c ∧ c ≤ 122) ∨ c = 95) := fun h => by rw [(Nm.letZ_iff c).2 h] at hl; cases hl
  have HN := Lib.hid hl'
  clear hl hl'
  go_enter Tryz.func173, Tryz.ntmps173
  go_wp2_with fail
  refine HL.out.mono ?_
  rintro e w1 ⟨rfl, rfl⟩
  go_wp2
  all_goals go_ret
  all_goals exact ⟨ret_bool (by have := HN.out; rw [Bool.eq_iff_iff, Nm.mayZ_iff]; simp; try omega), rfl⟩
theorem mays_take {l : List UInt8} {k : Nat} (hk : k < l.length) : Nm.mays (l.take (k + 1)) = (Nm.mays (l.take k) && Nm.mayZ (Nm.z l[k])) := by
 rw [List.take_succ_eq_append_getElem hk]
 unfold Nm.mays
 rw [List.all_append]; simp
theorem head_get {l : List UInt8} (h : 0 < l.length) : ∃ c r, l = c :: r ∧ c = l[0] := by
 cases l with
 | nil => simp at h
 | cons c r => exact ⟨c, r, rfl, rfl⟩
set_option maxHeartbeats 1000000 in
theorem rplain_any (s : ByteArray) (w : World) (hs : s.size ≤ maxLen) :
  Calls Tryz.prog 154 #[.string s] w fun e w' => e = .returned (.bool (Nm.plain s.data.toList)) ∧ w = w' := by
 unfold maxLen at hs
 have hlen : s.data.toList.length = s.size := (Lib.size_eq s).symm
 by_cases h0 : s.size = 0
 ·have h0' : (s.size : Int) = 0 := by omega
  rw [Nm.plain_no (by omega)]
  go_enter Tryz.func154, Tryz.ntmps154
  go_wp2
  go_ret
  exact ⟨rfl, rfl⟩
 ·have hb0 : ((s.size : Int) == 0) = false := beq_eq_false_iff_ne.2 (by omega)
  have hpos : 0 < s.size := by omega
  by_cases h64 : 64 < s.size
  ·have h64' : (64 : Int) < (s.size : Int) := by omega
   rw [Nm.plain_no (by omega)]
   clear hlen
   go_enter Tryz.func154, Tryz.ntmps154
   go_wp2
   go_ret
   exact ⟨rfl, rfl⟩
  ·have h64' : ¬ (64 : Int) < (s.size : Int) := by omega
   have hub := u8_bd s[0]
   have HL := Lib.hid (letter_any (s[0].toNat : Int) w hub.1 hub.2)
   obtain ⟨c, r, hcr, hc⟩ := head_get (l := s.data.toList) (by omega)
   have hc' : c = s[0] := hc
   cases hl : Nm.letZ (s[0].toNat : Int) with
   | false =>
    have hp : Nm.plain s.data.toList = false := by
     cases e : Nm.plain s.data.toList with
     | false => rfl
     | true =>
      obtain ⟨c', r', e1, e2⟩ := (Nm.plain_said.1 e).2.1
      rw [hcr] at e1
      obtain ⟨rfl, _⟩ := List.cons.inj e1
      rw [hc'] at e2
      exact absurd (hl.symm.trans e2) (by decide)
    rw [hp]
    rw [hl] at HL
    clear hp hl hcr hc hc' hlen hub
    go_enter Tryz.func154, Tryz.ntmps154
    go_wp2_with fail
    refine HL.out.mono ?_
    rintro e w1 ⟨rfl, rfl⟩
    go_wp2
    go_ret
    exact ⟨rfl, rfl⟩
   | true =>
    have HPS := Lib.hid (fun hm : Nm.mays s.data.toList = true => Nm.plain_said.2 ⟨by omega, ⟨c, r, hcr, by rw [hc']; exact hl⟩, hm⟩)
    rw [hl] at HL
    have HLEN := Lib.hid hlen
    have HM := Lib.hid (fun c h0 h1 => may_any c w h0 h1)
    clear hl hcr hc hc' hlen hub
    go_enter Tryz.func154, Tryz.ntmps154
    go_wp2_with fail
    refine HL.out.mono ?_
    rintro e w1 ⟨rfl, rfl⟩
    go_wp2
    go_loop [3] (fun v => ∃ k : Nat, v = .int .i64 k ∧ k ≤ s.size ∧ Hid (Nm.mays (s.data.toList.take k) = true)) (fun v => s.size - (intOf v).toNat)
    case atStart => exact ⟨0, rfl, Nat.zero_le _, Lib.hid rfl⟩
    case round =>
     obtain ⟨k, rfl, hk, HS⟩ := hrel
     by_cases hlt : k < s.size
     ·have hub := u8_bd s[k]
      have HC := Lib.hid (HM.out (s[k].toNat : Int) hub.1 hub.2)
      have hkl : k < s.data.toList.length := by rw [HLEN.out]; exact hlt
      have htk := mays_take hkl
      cases hm : Nm.mayZ (s[k].toNat : Int) with
      | false =>
       have hp : Nm.plain s.data.toList = false := by
        cases e : Nm.plain s.data.toList with
        | false => rfl
        | true =>
         have := Nm.plain_may e (k := k) (c := s[k]) (List.getElem?_eq_getElem hkl)
         exact absurd (hm.symm.trans this) (by decide)
       have HF := Lib.hid hp
       rw [hm] at HC
       clear hm hp htk hub
       go_wp2_with fail
       refine HC.out.mono ?_
       rintro e w1 ⟨rfl, rfl⟩
       go_wp2
       go_ret
       exact ⟨by rw [HF.out]; rfl, rfl⟩
      | true =>
       have hf : Nm.mays (s.data.toList.take (k + 1)) = true := by rw [htk, HS.out, Bool.true_and]; exact hm
       have HF := Lib.hid hf
       rw [hm] at HC
       clear hm htk hub hf
       go_wp2_with fail
       refine HC.out.mono ?_
       rintro e w1 ⟨rfl, rfl⟩
       go_wp2
       go_round
       case rel => exact ⟨k + 1, by go_num, by omega, HF⟩
       case measure => simp [intOf]; omega
     ·have hall := HS.out
      rw [List.take_of_length_le (by rw [HLEN.out]; omega)] at hall
      have HF := Lib.hid (HPS.out hall)
      clear hall
      go_wp2
      go_ret
      exact ⟨by rw [HF.out]; rfl, rfl⟩
def Parts (l : List UInt8) (i : Nat) : Prop := l[i]? = some 58 ∧ Nm.plain (l.take i) = true ∧ Nm.plain (l.drop (i + 1)) = true
set_option maxHeartbeats 1000000 in
set_option maxRecDepth 100000 in
theorem rsplit_any (s : ByteArray) (w : World) (hs : s.size ≤ maxLen) :
  Calls Tryz.prog 123 #[.string s] w fun e w' => e = .returned (.tuple #[.string ⟨(Nm.split s.data.toList).1.toArray⟩, .string ⟨(Nm.split s.data.toList).2.1.toArray⟩, .bool (Nm.split s.data.toList).2.2]) ∧ Below w.heap.size w w' := by
 have HP := Lib.hid (rplain_any s w hs)
 have hlen : s.data.toList.length = s.size := (Lib.size_eq s).symm
 cases hp : Nm.plain s.data.toList with
 | true =>
  rw [Nm.split_plain hp]
  simp only
  rw [mk_data]
  rw [hp] at HP
  clear hp hlen
  go_enter Tryz.func123, Tryz.ntmps123
  go_wp2_with fail
  refine HP.out.mono ?_
  rintro e w1 ⟨rfl, rfl⟩
  go_wp2
  go_ret3
  exact ⟨rfl, Below.refl _ _⟩
 | false =>
  rw [hp] at HP
  by_cases h64 : 64 < s.size
  ·have h64' : (64 : Int) < (s.size : Int) := by omega
   rw [Nm.split_long (by omega)]
   simp only
   clear hp hlen
   go_enter Tryz.func123, Tryz.ntmps123
   go_wp2_with fail
   refine HP.out.mono ?_
   rintro e w1 ⟨rfl, rfl⟩
   go_wp2
   go_ret3
   exact ⟨rfl, Below.refl _ _⟩
  ·have h64' : ¬ (64 : Int) < (s.size : Int) := by omega
   have HQ := Lib.hid (fun x h => rplain_any x w h)
   have HH := Lib.hid (fun (i : Nat) (h : Parts s.data.toList i) => Nm.split_hit hp (by omega) h.1 h.2.1 h.2.2)
   have HN := Lib.hid (fun h => Nm.split_miss hp h)
   have HLEN := Lib.hid hlen
   have hse := fun a b => extract_size s a b
   have HSE := Lib.hid hse
   unfold maxLen at hs
   clear hp hlen hse
   generalize hd : Nm.split s.data.toList = d at *
   clear hd
   go_enter Tryz.func123, Tryz.ntmps123
   go_wp2_with fail
   refine HP.out.mono ?_
   rintro e w1 ⟨rfl, rfl⟩
   go_wp2
   go_loop [5] (fun v => ∃ k : Nat, v = .int .i64 k ∧ k ≤ s.size ∧ Hid (∀ j, j < k → ¬ Parts s.data.toList j)) (fun v => s.size - (intOf v).toNat)
   case atStart => exact ⟨0, rfl, Nat.zero_le _, Lib.hid fun j h => by omega⟩
   case round =>
    obtain ⟨k, rfl, hk, HS⟩ := hrel
    by_cases hlt : k < s.size
    ·have hub := u8_bd s[k]
     have hkl : k < s.data.toList.length := by rw [HLEN.out]; exact hlt
     have hget : s.data.toList[k]? = some s[k] := List.getElem?_eq_getElem hkl
     have k1 : (0 : Int) ≤ (k : Int) + 1 := by omega
     have k2 : (k : Int) + 1 ≤ (s.size : Int) := by omega
     have hnext : ¬ Parts s.data.toList k → ∀ j, j < k + 1 → ¬ Parts s.data.toList j := fun h j hj => by
      rcases Nat.lt_or_ge j k with h' | h'
      ·exact HS.out j h'
      ·obtain rfl : j = k := by omega
       exact h
     by_cases hc : s[k] = 58
     ·have hz : ((s[k].toNat : Int) == 58) = true := by rw [hc]; rfl
      have HL := Lib.hid (HQ.out (s.extract 0 k) (by unfold maxLen; have := HSE.out 0 k; omega))
      have HR := Lib.hid (HQ.out (s.extract (k + 1) s.size) (by unfold maxLen; have := HSE.out (k + 1) s.size; omega))
      rw [take_data] at HL
      rw [drop_data] at HR
      cases hl : Nm.plain (s.data.toList.take k) with
      | false =>
       have HX := Lib.hid (hnext fun h => by have := h.2.1; rw [hl] at this; cases this)
       rw [hl] at HL
       clear hl hnext hget hc
       go_wp2_with fail
       refine HL.out.mono ?_
       rintro e w1 ⟨rfl, rfl⟩
       go_wp2
       go_round
       case rel => exact ⟨k + 1, by go_num, by omega, HX⟩
       case measure => simp [intOf]; omega
      | true =>
       rw [hl] at HL
       cases hr : Nm.plain (s.data.toList.drop (k + 1)) with
       | false =>
        have HX := Lib.hid (hnext fun h => by have := h.2.2; rw [hr] at this; cases this)
        rw [hr] at HR
        clear hl hr hnext hget hc
        go_wp2_with fail
        refine HL.out.mono ?_
        rintro e w1 ⟨rfl, rfl⟩
        go_wp2_with fail
        refine HR.out.mono ?_
        rintro e w1 ⟨rfl, rfl⟩
        go_wp2
        go_round
        case rel => exact ⟨k + 1, by go_num, by omega, HX⟩
        case measure => simp [intOf]; omega
       | true =>
        rw [hr] at HR
        have hd := HH.out k ⟨by rw [hget, hc], hl, hr⟩
        have e1 : d.1.toArray = (s.data.toList.take k).toArray := by rw [hd]
        have HD := Lib.hid (show (⟨d.1.toArray⟩ : ByteArray) = s.extract 0 k ∧ (⟨d.2.1.toArray⟩ : ByteArray) = s.extract (k + 1) s.size ∧ d.2.2 = true by
         rw [hd]; exact ⟨ba_eq (by rw [take_data]), ba_eq (by rw [drop_data]), rfl⟩)
        clear hl hr hnext hget hc hd e1
        have k3 : (0 : Int) ≤ (k : Int) := by omega
        have k4 : (k : Int) ≤ (s.size : Int) := by omega
        have k5 : ((k : Int) + 1).toNat = k + 1 := by omega
        go_wp2_with fail
        refine HL.out.mono ?_
        rintro e w1 ⟨rfl, rfl⟩
        go_wp2_with fail
        refine HR.out.mono ?_
        rintro e w1 ⟨rfl, rfl⟩
        have k6 : IntKind.i64.wrap ((k : Int) + 1) = (k : Int) + 1 := IntWalk.i64_in _ (by omega)
        go_wp2_with fail
        go_quiet (fail)
        clear k6
        go_wp2
        go_ret3
        exact ⟨by rw [HD.out.1, HD.out.2.1, HD.out.2.2]; rfl, below_drewN (Below.refl _ _) _⟩
     ·have hz : ((s[k].toNat : Int) == 58) = false := by
       refine beq_eq_false_iff_ne.2 fun e => hc (UInt8.toNat_inj.1 (by show s[k].toNat = 58; omega))
      have HX := Lib.hid (hnext fun h => by have := h.1; rw [hget] at this; exact hc (Option.some.inj this))
      clear hnext hget hc
      go_wp2
      go_round
      case rel => exact ⟨k + 1, by go_num, by omega, HX⟩
      case measure => simp [intOf]; omega
    ·have hd := HN.out fun i hi a b c => HS.out i (by have := HLEN.out; omega) ⟨a, b, c⟩
     have HD := Lib.hid (show (⟨d.1.toArray⟩ : ByteArray) = ⟨#[]⟩ ∧ (⟨d.2.1.toArray⟩ : ByteArray) = ⟨#[]⟩ ∧ d.2.2 = false by rw [hd]; exact ⟨rfl, rfl, rfl⟩)
     clear hd
     go_wp2
     go_ret3
     exact ⟨by rw [HD.out.1, HD.out.2.1, HD.out.2.2]; rfl, Below.refl _ _⟩
set_option maxHeartbeats 1000000 in
theorem rbegin_any (s : ByteArray) (w : World) (hs : s.size ≤ maxLen) :
  Calls Tryz.prog 84 #[.string s] w fun e w' => e = .returned (.int .i64 (Nm.bg s.data.toList)) ∧ Below w.heap.size w w' := by
 have hlen : s.data.toList.length = s.size := (Lib.size_eq s).symm
 obtain ⟨N, hN⟩ : ∃ N : Nat, N = min s.size 64 := ⟨_, rfl⟩
 have hmin : min (s.size : Int) 64 = (N : Int) := by omega
 have hN64 : N ≤ 64 ∧ N ≤ s.size := by omega
 have HQ := Lib.hid (fun (x : ByteArray) (w0 : World) (h : x.size ≤ s.size) => rsplit_any x w0 (Nat.le_trans h hs))
 have HSE := Lib.hid (fun a b => extract_size s a b)
 have HH := Lib.hid (fun n (h1 : n ≤ N) (h2 : Nm.isn (s.data.toList.take n) = true) (h3 : ∀ m, n < m → m ≤ N → Nm.isn (s.data.toList.take m) = false) => Nm.bg_hit (l := s.data.toList) (n := n) (by omega) (by omega) h2 fun m a b c => h3 m a (by omega))
 have HN := Lib.hid (fun (h3 : ∀ m, 0 < m → m ≤ N → Nm.isn (s.data.toList.take m) = false) => Nm.bg_none (l := s.data.toList) fun m a b c => h3 m a (by omega))
 generalize Nm.bg s.data.toList = r at *
 have HM := Lib.hid hmin
 unfold maxLen at hs
 clear hlen hN hmin
 go_enter Tryz.func84, Tryz.ntmps84
 go_wp2
 go_loopw [3] (fun v wr => ∃ n : Nat, v = .int .i64 n ∧ n ≤ N ∧ Below w.heap.size w wr ∧ Hid (∀ m, n < m → m ≤ N → Nm.isn (s.data.toList.take m) = false)) (fun v _ => (intOf v).toNat)
 case atStart => exact ⟨N, by rw [HM.out], Nat.le_refl _, Below.refl _ _, Lib.hid fun m a b => by omega⟩
 case round =>
  obtain ⟨n, rfl, hn, hbw, HS⟩ := hrel
  by_cases h0 : 0 < n
  ·have h0' : (0 : Int) < (n : Int) := by omega
   have hn2 : (n : Int) ≤ (s.size : Int) := by omega
   have HC := Lib.hid (HQ.out (s.extract 0 n) wr (HSE.out 0 n))
   rw [take_data] at HC
   have hi : Nm.isn (s.data.toList.take n) = (Nm.split (s.data.toList.take n)).2.2 := rfl
   generalize Nm.split (s.data.toList.take n) = d at *
   obtain ⟨p, q, b⟩ := d
   simp only at HC hi
   cases b with
   | true =>
    have HF := Lib.hid (HH.out n hn hi HS.out)
    clear hi
    go_wp2_with fail
    refine HC.out.mono ?_
    rintro e w1 ⟨rfl, hb⟩
    have hb2 := hbw.trans (hb.mono hbw.size)
    clear hb hbw
    go_wp2
    go_ret
    exact ⟨by rw [HF.out]; rfl, hb2⟩
   | false =>
    have HX := Lib.hid (fun m (a : n - 1 < m) (b : m ≤ N) => show Nm.isn (s.data.toList.take m) = false by
     rcases Nat.lt_or_ge n m with h | h
     ·exact HS.out m h b
     ·obtain rfl : m = n := by omega
      exact hi)
    clear hi
    go_wp2_with fail
    refine HC.out.mono ?_
    rintro e w1 ⟨rfl, hb⟩
    have hb2 := hbw.trans (hb.mono hbw.size)
    clear hb hbw
    go_wp2
    go_roundw
    case rel => exact ⟨n - 1, by rw [show ((n : Int) - 1) = ((n - 1 : Nat) : Int) by omega], by omega, hb2, HX⟩
    case measure => simp [intOf]; omega
  ·obtain rfl : n = 0 := by omega
   have HF := Lib.hid (HN.out HS.out)
   go_wp2
   go_ret
   exact ⟨by rw [HF.out]; rfl, hbw⟩
end Go.Proofs.YteadfpkihhaadaaGreatDoor.NmW
