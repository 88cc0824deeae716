/- Facts and walks for the statement. -/
import Derived.Test.YteadfpkihhaadaaGreatDoorPz06
import Derived.Test.YteadfpkihhaadaaGreatDoorPz01
import Derived.Shelf.Strconv.ParseUint10
import Derived.Lib.AtoiErrMem
import Derived.Test.YteadfpkihhaadaaGreatDoorPz00
import Derived.Shelf.Strings.BuilderK
import Derived.WalkKit
import Derived.Laws.Externs
import Derived.Lib.Hide
namespace Go.Proofs.YteadfpkihhaadaaGreatDoor
open Go.RowKit
structure Tb (w : World) : Prop where
 t : Tabs w
 e : ∃ tp p, w.cell? ⟨4, 0, none⟩ = some (.iface tp p)
theorem Tb.below {B : Nat} {w w' : World} (h : Tb w) (hb : Below B w w') (hB : w.heap.size ≤ B) : Tb w' :=
 ⟨h.t.below hb hB, h.e.imp fun _ ⟨p, hp⟩ => ⟨p, cell_below hb hB hp⟩⟩
def low (c : Nat) : Int := bits .or .u8 (c : Int) 32
theorem low_all : ∀ c : Fin 256, (0 ≤ low c.1 ∧ low c.1 ≤ 255) ∧ ((97 ≤ c.1 ∧ c.1 ≤ 102 ∨ 65 ≤ c.1 ∧ c.1 ≤ 70) → 97 ≤ low c.1 ∧ low c.1 ≤ 102 ∧ low c.1 - 87 = En.dgN c.1) ∧ (¬ (97 ≤ c.1 ∧ c.1 ≤ 102 ∨ 65 ≤ c.1 ∧ c.1 ≤ 70) → ¬ (48 ≤ c.1 ∧ c.1 ≤ 57) → low c.1 < 97 ∨ 103 ≤ low c.1) := by
 decide +kernel
theorem low_bd {c : Nat} (h : c < 256) : 0 ≤ low c ∧ low c ≤ 255 := (low_all ⟨c, h⟩).1
theorem low_letter {c : Nat} (h : c < 256) (hl : 97 ≤ c ∧ c ≤ 102 ∨ 65 ≤ c ∧ c ≤ 70) : 97 ≤ low c ∧ low c ≤ 102 ∧ low c - 87 = En.dgN c := (low_all ⟨c, h⟩).2.1 hl
theorem low_else {c : Nat} (h : c < 256) (hl : ¬ (97 ≤ c ∧ c ≤ 102 ∨ 65 ≤ c ∧ c ≤ 70)) (hd : ¬ (48 ≤ c ∧ c ≤ 57)) : low c < 97 ∨ 103 ≤ low c := (low_all ⟨c, h⟩).2.2 hl hd
theorem lower_any (c : Nat) (w : World) : Calls Tryz.prog 196 #[.int .u8 c] w fun e w' => e = .returned (.int .u8 (low c)) ∧ w = w' :=
 (Tryz.internal_strconv_lower c w).mono fun _ _ h => ⟨h.1, h.2.symm⟩
theorem dg_digit {c : UInt8} (h : 48 ≤ c.toNat ∧ c.toNat ≤ 57) : En.dg c = (c.toNat : Int) - 48 := by unfold En.dg En.dgN; rw [if_pos h]
theorem dg_else {c : UInt8} (hd : ¬ (48 ≤ c.toNat ∧ c.toNat ≤ 57)) (hl : ¬ (97 ≤ c.toNat ∧ c.toNat ≤ 102 ∨ 65 ≤ c.toNat ∧ c.toNat ≤ 70)) : En.dg c = -1 := by
 unfold En.dg En.dgN; rw [if_neg hd, if_neg (by omega), if_neg (by omega)]
theorem dg_letter {c : UInt8} (hd : ¬ (48 ≤ c.toNat ∧ c.toNat ≤ 57)) (hl : 97 ≤ c.toNat ∧ c.toNat ≤ 102 ∨ 65 ≤ c.toNat ∧ c.toNat ≤ 70) : 10 ≤ En.dg c := by
 unfold En.dg En.dgN; rw [if_neg hd]
 rcases hl with h | h
 ·rw [if_pos h]; omega
 ·rw [if_neg (by omega), if_pos h]; omega
theorem all_no {base : Int} {l : List UInt8} {k : Nat} {c : UInt8} (hc : l[k]? = some c) (h : En.isD base c = false) : l.all (En.isD base) = false := by
 rw [← Bool.not_eq_true]
 intro ha
 have := List.all_eq_true.1 ha c (List.mem_iff_getElem?.2 ⟨k, hc⟩)
 rw [h] at this; cases this
def parsed (base : Int) (l : List UInt8) : Value := if l.all (En.isD base) then .tuple #[.int .u64 (En.val base l), .nilIface] else .tuple #[.int .u64 0, .iface 242 (.int .i64 2)]
set_option maxHeartbeats 8000000 in
set_option maxRecDepth 100000 in
theorem parse_in10 (t : ByteArray) (hne : t.size ≠ 0) (hsz : t.size ≤ 7) (w : World) :
  Calls Tryz.prog 194 #[.string t, .int .i64 10, .int .i64 32] w fun e w' => e = .returned (parsed 10 t.data.toList) ∧ w' = Lib.bytesWorld w 5 t := by
 have hemp : t.toList.isEmpty = false := by
  rw [← decide_eq_emptyBytes]
  exact decide_eq_false (fun h => hne (by rw [h]; rfl))
 have hcv := Lib.run_convert_string_bytes (P := Tryz.prog) w 9 91 5 t (u := .string) Tryz.underlying9 Tryz.underlying91 Tryz.underlying5
 have hB : ∀ j, j < t.size → (Lib.bytesWorld w 5 t).cell? ⟨w.heap.size, j, none⟩ = some (.int .u8 (t.data.toList.getD j 0).toNat) := fun j hj => Lib.bytesWorld_cell w 5 t j hj
 obtain ⟨W1, hW1⟩ : ∃ W1, W1 = Lib.bytesWorld w 5 t := ⟨_, rfl⟩
 rw [← hW1] at hcv hB ⊢
 clear hW1
 obtain ⟨bs, hL⟩ : ∃ bs, bs = t.data.toList := ⟨_, rfl⟩
 have hLn : bs.length = t.size := by rw [hL, Lib.size_eq]
 rw [← hL] at hB ⊢
 clear hL
 obtain ⟨R, hR⟩ : ∃ R, R = parsed 10 bs := ⟨_, rfl⟩
 rw [← hR]
 have HR := Lib.hid hR
 have HL := Lib.hid hLn
 clear hR hLn
 have hmv : IntKind.u64.wrap (IntKind.u64.wrap 4294967296 - 1) = 4294967295 := by
  rw [IntKind.wrap_u64, IntKind.wrap_u64]
  decide
 have HLW := Lib.hid lower_any
 go_enter Tryz.func194, Tryz.ntmps194
 go_wp2
 go_loop [12, 13, 101] (fun vu vn vi => ∃ (k : Nat) (a : Int), vu = .bool false ∧ vn = .int .u64 a ∧ vi = .int .i64 k ∧ k ≤ t.size ∧ Hid (a = En.val 10 (bs.take k) ∧ (bs.take k).all (En.isD 10) = true))
  (fun _ _ vi => t.size - (intOf vi).toNat)
 case atStart => exact ⟨0, 0, rfl, rfl, rfl, by omega, Lib.hid ⟨rfl, rfl⟩⟩
 case round =>
  obtain ⟨k, a, rfl, rfl, rfl, hk, HH⟩ := hrel
  have hab : 0 ≤ a ∧ a < 16777216 := by
   have h := HH.out
   have hl := HL.out
   rw [h.1]
   have := En.val10 h.2 (by rw [List.length_take]; omega)
   omega
  obtain ⟨a0, a1⟩ := hab
  by_cases hkn : k < t.size
  ·have hc := hB k hkn
   have hkl : k < bs.length := by have := HL.out; omega
   have hget : bs.getD k 0 = bs[k] := by simp [List.getD, List.getElem?_eq_getElem hkl]
   have HS := Lib.hid (En.take_snoc hkl)
   have HE := Lib.hid (List.getElem?_eq_getElem hkl)
   rw [hget] at hc
   generalize bs[k] = c at hc HS HE
   have hc256 : c.toNat < 256 := c.toNat_lt
   clear hB hget hkl
   by_cases hdig : 48 ≤ c.toNat ∧ c.toNat ≤ 57
   ·have HD := Lib.hid (dg_digit hdig)
    obtain ⟨hd0, hd1⟩ := hdig
    have HN : Hid (a * 10 + ((c.toNat : Int) - 48) = En.val 10 (bs.take (k + 1)) ∧ (bs.take (k + 1)).all (En.isD 10) = true) := Lib.hid (by
     rw [HS.out, En.val_snoc, ← HH.out.1, HD.out, List.all_append, HH.out.2]
     refine ⟨rfl, ?_⟩
     simp only [List.all_cons, List.all_nil, Bool.and_true, Bool.true_and]
     rw [En.isD_iff, HD.out]; omega)
    clear HD HS HE HH
    go_wp2
    refine ⟨⟨k + 1, a * 10 + ((c.toNat : Int) - 48), rfl, (by first | rfl | (congr 1; omega)), (by first | rfl | (congr 1; omega)), by omega, HN⟩, by simp [intOf]; omega⟩
   ·by_cases hlet : 97 ≤ c.toNat ∧ c.toNat ≤ 102 ∨ 65 ≤ c.toNat ∧ c.toNat ≤ 70
    ·have hq := low_letter hc256 hlet
     have HQ := Lib.hid (HLW.out c.toNat)
     have HD := Lib.hid hq.2.2
     have hge := dg_letter hdig hlet
     have q0 := hq.1
     have q1 := hq.2.1
     have h95 : (((c.toNat : Nat) : Int) == 95) = false := by
      have : ¬ ((c.toNat : Nat) : Int) = 95 := by omega
      simpa using this
     have hdd : ¬ (48 ≤ (c.toNat : Int) ∧ (c.toNat : Int) ≤ 57) := by omega
     generalize low c.toNat = q at *
     clear hq
     have HDQ : Hid (En.dg c = q - 87) := Lib.hid HD.out.symm
     clear HD
     have HF : Hid (R = .tuple #[.int .u64 0, .iface 242 (.int .i64 2)]) := Lib.hid (by
      rw [HR.out]; unfold parsed
      rw [all_no HE.out (by unfold En.isD; rw [HDQ.out] at hge ⊢; exact decide_eq_false (by omega))]; rfl)
     clear HDQ HS HE HH hge hlet
     go_wp2_with (go_at_call 196; refine (HQ.out _).mono ?_; rintro e w' ⟨rfl, rfl⟩)
     all_goals go_ret2
     all_goals exact ⟨by rw [HF.out]; rfl, rfl⟩
    ·have HF : Hid (R = .tuple #[.int .u64 0, .iface 242 (.int .i64 2)]) := Lib.hid (by
      rw [HR.out]; unfold parsed
      rw [all_no HE.out (by unfold En.isD; rw [dg_else hdig hlet]; exact decide_eq_false (by omega))]; rfl)
     have HQ := Lib.hid (HLW.out c.toNat)
     have hq := low_else hc256 hlet hdig
     have hqb := low_bd hc256
     by_cases h95 : c.toNat = 95
     ·have hlow : low 95 = 127 := by decide +kernel
      rw [h95] at HQ
      rw [hlow] at HQ
      have hc' : W1.cell? ⟨w.heap.size, k, none⟩ = some (.int .u8 95) := by rw [hc, h95]; rfl
      clear hc hq hqb h95 hdig hlet hc256 HS HE HH
      go_wp2_with (go_at_call 196; refine (HQ.out _).mono ?_; rintro e w' ⟨rfl, rfl⟩)
      all_goals go_ret2
      all_goals exact ⟨by rw [HF.out]; rfl, rfl⟩
     ·have h95' : (((c.toNat : Nat) : Int) == 95) = false := by
       have : ¬ ((c.toNat : Nat) : Int) = 95 := by omega
       simpa using this
      generalize low c.toNat = q at *
      clear HS HE HH hlet h95
      rcases (show q < 97 ∨ (123 ≤ q) ∨ (103 ≤ q ∧ q ≤ 122) by omega) with g | g | ⟨g, g'⟩
      all_goals
       clear hq
       go_wp2_with (go_at_call 196; refine (HQ.out _).mono ?_; rintro e w' ⟨rfl, rfl⟩)
       all_goals go_ret2
       all_goals exact ⟨by rw [HF.out]; rfl, rfl⟩
  ·have hkk : k = t.size := by omega
   subst hkk
   have HF : Hid (R = .tuple #[.int .u64 a, .nilIface]) := Lib.hid (by
    have h := HH.out
    rw [List.take_of_length_le (by have := HL.out; omega)] at h
    rw [HR.out, parsed, h.2, h.1]; rfl)
   clear HH hB hkn
   go_wp2
   go_ret2
   exact ⟨by rw [HF.out]; rfl, rfl⟩
set_option maxHeartbeats 8000000 in
set_option maxRecDepth 100000 in
theorem parse_in16 (t : ByteArray) (hne : t.size ≠ 0) (hsz : t.size ≤ 6) (w : World) :
  Calls Tryz.prog 194 #[.string t, .int .i64 16, .int .i64 32] w fun e w' => e = .returned (parsed 16 t.data.toList) ∧ w' = Lib.bytesWorld w 5 t := by
 have hemp : t.toList.isEmpty = false := by
  rw [← decide_eq_emptyBytes]
  exact decide_eq_false (fun h => hne (by rw [h]; rfl))
 have hcv := Lib.run_convert_string_bytes (P := Tryz.prog) w 9 91 5 t (u := .string) Tryz.underlying9 Tryz.underlying91 Tryz.underlying5
 have hB : ∀ j, j < t.size → (Lib.bytesWorld w 5 t).cell? ⟨w.heap.size, j, none⟩ = some (.int .u8 (t.data.toList.getD j 0).toNat) := fun j hj => Lib.bytesWorld_cell w 5 t j hj
 obtain ⟨W1, hW1⟩ : ∃ W1, W1 = Lib.bytesWorld w 5 t := ⟨_, rfl⟩
 rw [← hW1] at hcv hB ⊢
 clear hW1
 obtain ⟨bs, hL⟩ : ∃ bs, bs = t.data.toList := ⟨_, rfl⟩
 have hLn : bs.length = t.size := by rw [hL, Lib.size_eq]
 rw [← hL] at hB ⊢
 clear hL
 obtain ⟨R, hR⟩ : ∃ R, R = parsed 16 bs := ⟨_, rfl⟩
 rw [← hR]
 have HR := Lib.hid hR
 have HL := Lib.hid hLn
 clear hR hLn
 have hmv : IntKind.u64.wrap (IntKind.u64.wrap 4294967296 - 1) = 4294967295 := by
  rw [IntKind.wrap_u64, IntKind.wrap_u64]
  decide
 have HLW := Lib.hid lower_any
 go_enter Tryz.func194, Tryz.ntmps194
 go_wp2
 go_loop [12, 13, 101] (fun vu vn vi => ∃ (k : Nat) (a : Int), vu = .bool false ∧ vn = .int .u64 a ∧ vi = .int .i64 k ∧ k ≤ t.size ∧ Hid (a = En.val 16 (bs.take k) ∧ (bs.take k).all (En.isD 16) = true))
  (fun _ _ vi => t.size - (intOf vi).toNat)
 case atStart => exact ⟨0, 0, rfl, rfl, rfl, by omega, Lib.hid ⟨rfl, rfl⟩⟩
 case round =>
  obtain ⟨k, a, rfl, rfl, rfl, hk, HH⟩ := hrel
  have hab : 0 ≤ a ∧ a < 16777216 := by
   have h := HH.out
   have hl := HL.out
   rw [h.1]
   have := En.val16 h.2 (by rw [List.length_take]; omega)
   omega
  obtain ⟨a0, a1⟩ := hab
  by_cases hkn : k < t.size
  ·have hc := hB k hkn
   have hkl : k < bs.length := by have := HL.out; omega
   have hget : bs.getD k 0 = bs[k] := by simp [List.getD, List.getElem?_eq_getElem hkl]
   have HS := Lib.hid (En.take_snoc hkl)
   have HE := Lib.hid (List.getElem?_eq_getElem hkl)
   rw [hget] at hc
   generalize bs[k] = c at hc HS HE
   have hc256 : c.toNat < 256 := c.toNat_lt
   clear hB hget hkl
   by_cases hdig : 48 ≤ c.toNat ∧ c.toNat ≤ 57
   ·have HD := Lib.hid (dg_digit hdig)
    obtain ⟨hd0, hd1⟩ := hdig
    have HN : Hid (a * 16 + ((c.toNat : Int) - 48) = En.val 16 (bs.take (k + 1)) ∧ (bs.take (k + 1)).all (En.isD 16) = true) := Lib.hid (by
     rw [HS.out, En.val_snoc, ← HH.out.1, HD.out, List.all_append, HH.out.2]
     refine ⟨rfl, ?_⟩
     simp only [List.all_cons, List.all_nil, Bool.and_true, Bool.true_and]
     rw [En.isD_iff, HD.out]; omega)
    clear HD HS HE HH
    go_wp2
    refine ⟨⟨k + 1, a * 16 + ((c.toNat : Int) - 48), rfl, (by first | rfl | (congr 1; omega)), (by first | rfl | (congr 1; omega)), by omega, HN⟩, by simp [intOf]; omega⟩
   ·by_cases hlet : 97 ≤ c.toNat ∧ c.toNat ≤ 102 ∨ 65 ≤ c.toNat ∧ c.toNat ≤ 70
    ·have hq := low_letter hc256 hlet
     have HQ := Lib.hid (HLW.out c.toNat)
     have HD := Lib.hid hq.2.2
     have hge := dg_letter hdig hlet
     have q0 := hq.1
     have q1 := hq.2.1
     have h95 : (((c.toNat : Nat) : Int) == 95) = false := by
      have : ¬ ((c.toNat : Nat) : Int) = 95 := by omega
      simpa using this
     have hdd : ¬ (48 ≤ (c.toNat : Int) ∧ (c.toNat : Int) ≤ 57) := by omega
     generalize low c.toNat = q at *
     clear hq
     have HDQ : Hid (En.dg c = q - 87) := Lib.hid HD.out.symm
     clear HD
     have HN : Hid (a * 16 + (q - 87) = En.val 16 (bs.take (k + 1)) ∧ (bs.take (k + 1)).all (En.isD 16) = true) := Lib.hid (by
      rw [HS.out, En.val_snoc, ← HH.out.1, HDQ.out, List.all_append, HH.out.2]
      refine ⟨rfl, ?_⟩
      simp only [List.all_cons, List.all_nil, Bool.and_true, Bool.true_and]
      rw [En.isD_iff, HDQ.out]; omega)
     clear HDQ HS HE HH hge hlet
     go_wp2_with (go_at_call 196; refine (HQ.out _).mono ?_; rintro e w' ⟨rfl, rfl⟩)
     all_goals refine ⟨⟨k + 1, a * 16 + (q - 87), rfl, (by first | rfl | (congr 1; omega)), (by first | rfl | (congr 1; omega)), by omega, HN⟩, by simp [intOf]; omega⟩
    ·have HF : Hid (R = .tuple #[.int .u64 0, .iface 242 (.int .i64 2)]) := Lib.hid (by
      rw [HR.out]; unfold parsed
      rw [all_no HE.out (by unfold En.isD; rw [dg_else hdig hlet]; exact decide_eq_false (by omega))]; rfl)
     have HQ := Lib.hid (HLW.out c.toNat)
     have hq := low_else hc256 hlet hdig
     have hqb := low_bd hc256
     by_cases h95 : c.toNat = 95
     ·have hlow : low 95 = 127 := by decide +kernel
      rw [h95] at HQ
      rw [hlow] at HQ
      have hc' : W1.cell? ⟨w.heap.size, k, none⟩ = some (.int .u8 95) := by rw [hc, h95]; rfl
      clear hc hq hqb h95 hdig hlet hc256 HS HE HH
      go_wp2_with (go_at_call 196; refine (HQ.out _).mono ?_; rintro e w' ⟨rfl, rfl⟩)
      all_goals go_ret2
      all_goals exact ⟨by rw [HF.out]; rfl, rfl⟩
     ·have h95' : (((c.toNat : Nat) : Int) == 95) = false := by
       have : ¬ ((c.toNat : Nat) : Int) = 95 := by omega
       simpa using this
      generalize low c.toNat = q at *
      clear HS HE HH hlet h95
      rcases (show q < 97 ∨ (123 ≤ q) ∨ (103 ≤ q ∧ q ≤ 122) by omega) with g | g | ⟨g, g'⟩
      all_goals
       clear hq
       go_wp2_with (go_at_call 196; refine (HQ.out _).mono ?_; rintro e w' ⟨rfl, rfl⟩)
       all_goals go_ret2
       all_goals exact ⟨by rw [HF.out]; rfl, rfl⟩
  ·have hkk : k = t.size := by omega
   subst hkk
   have HF : Hid (R = .tuple #[.int .u64 a, .nilIface]) := Lib.hid (by
    have h := HH.out
    rw [List.take_of_length_le (by have := HL.out; omega)] at h
    rw [HR.out, parsed, h.2, h.1]; rfl)
   clear HH hB hkn
   go_wp2
   go_ret2
   exact ⟨by rw [HF.out]; rfl, rfl⟩
end Go.Proofs.YteadfpkihhaadaaGreatDoor
namespace Go.Proofs.YteadfpkihhaadaaGreatDoor
open Go.RowKit Go.Shelf
theorem sbInfo : (Tryz.prog.info? 93).map (·.size) = some 2 := by kernel_rfl
theorem sbLies : liesAt Tryz.prog Tryz.prog.depth 93 (2 / Tryz.prog.cellsOf 93) 0 93 1 = true := by kernel_rfl
theorem u8Info : (Tryz.prog.info? 5).map (fun i => (i.zero, i.size, i.bytes)) = some (some (.int .u8 0), 1, 1) := by kernel_rfl
abbrev IsSb (B b : Nat) (l : List UInt8) (w : World) : Prop := Lib.IsBuilderF 93 5 B b (Lib.byteCells l) w
theorem grownBy_of_below {w w' : World} (h : Below w.heap.size w w') : w.grownBy w' none :=
 ⟨h.os, h.tape, h.output, h.size, fun k hk _ => h.block k hk⟩
theorem IsSb.below {B b : Nat} {l : List UInt8} {w w' : World} (h : IsSb B b l w) (hb : Below w.heap.size w w') : IsSb B b l w' := by
 have key : ∀ p, Lib.BuilderAtF 93 5 B b p (Lib.byteCells l) w → Lib.BuilderAtF 93 5 B b p (Lib.byteCells l) w' := by
  intro p hp
  have hlt := hp.lt
  obtain ⟨hB, v, hbk, hown, hne⟩ := hp
  exact ⟨hB, v, (hb.block b hlt).trans hbk, hown.kept (grownBy_of_below hb) (by cases hv : v.ownBlock <;> simp), hne⟩
 exact h.elim (fun x => .inl (key _ x)) (fun x => .inr (key _ x))
theorem IsSb.fresh (w : World) : IsSb w.heap.size w.heap.size [] (w.alloc (.cells #[.pointer none, .slice none 0 0] 93)) :=
 Lib.IsBuilderF.of (Lib.fresh_isBuilder 93 5 w)
set_option maxHeartbeats 1000000 in
set_option maxRecDepth 100000 in
theorem copyCheck_used (b : Nat) (w : World) (h0 : w.cell? ⟨b, 0, none⟩ = some (.pointer (some ⟨b, 0, none⟩))) :
  Calls Tryz.prog 110 #[.pointer (some ⟨b, 0, none⟩)] w fun e w' => e = .returned (.tuple #[]) ∧ w' = w := by
 obtain ⟨j, hj, _⟩ := Option.map_eq_some_iff.1 sbInfo
 go_enter Tryz.func110, Tryz.ntmps110
 go_wp2
 rw [Lib.run_neq_ptr_same w _ Tryz.underlying90 hj]
 go_wp2
 go_end0
 exact ⟨rfl, rfl⟩
set_option maxHeartbeats 1000000 in
set_option maxRecDepth 100000 in
theorem copyCheck_fresh (b : Nat) (w : World) (h0 : w.cell? ⟨b, 0, none⟩ = some (.pointer none)) (hsh : w.shape? b = some (93, 2)) (hfz : w.frozen? ⟨b, 0, none⟩ = false) :
  Calls Tryz.prog 110 #[.pointer (some ⟨b, 0, none⟩)] w fun e w' => e = .returned (.tuple #[]) ∧ w' = w.setCell ⟨b, 0, none⟩ (.pointer (some ⟨b, 0, none⟩)) := by
 obtain ⟨j, hj, hjs⟩ := Option.map_eq_some_iff.1 sbInfo
 go_enter Tryz.func110, Tryz.ntmps110
 go_wp2
 rw [Lib.run_to_unsafe w ⟨b, 0, none⟩ Tryz.underlying90 Tryz.underlying203 hj (by rw [hjs]; decide) hsh (Nat.zero_lt_succ 1)]
 simp only [Result.andThen]
 rw [Oper.upon_value]
 go_wp2
 rw [run_callFunc_extern Tryz.func150 (by kernel_rfl) (by kernel_rfl) (by kernel_rfl) (e := Extern.AbiNoEscape.same) (by kernel_rfl)]
 rw [Lib.run_noEscape]
 simp only [Result.andThen]
 rw [Oper.upon_value]
 go_wp2
 rw [Lib.run_from_unsafe w ⟨b, 0, none⟩ Tryz.underlying203 Tryz.underlying90 hj hsh sbLies]
 simp only [Result.andThen]
 rw [Oper.upon_value]
 go_wp2
 go_end0
 exact ⟨rfl, rfl⟩
theorem copyCheck_any (B b : Nat) (bs : List Value) (w : World) (h : Lib.IsBuilderF 93 5 B b bs w) :
  Calls Tryz.prog 110 #[.pointer (some ⟨b, 0, none⟩)] w fun e w' => e = .returned (.tuple #[]) ∧ (Lib.BuilderAtF 93 5 B b (.pointer (some ⟨b, 0, none⟩)) bs w' ∧ Below B w w') := by
 rcases h with h | h
 ·refine (copyCheck_fresh b w h.cell0 h.shape h.frozen0).mono ?_
  rintro e w' ⟨rfl, rfl⟩
  exact ⟨rfl, h.used _, (Below.refl B w).setCell (p := ⟨b, 0, none⟩) h.1 _⟩
 ·refine (copyCheck_used b w h.cell0).mono ?_
  rintro e w' ⟨rfl, rfl⟩
  exact ⟨rfl, h, Below.refl B _⟩
set_option maxHeartbeats 2000000 in
set_option maxRecDepth 100000 in
theorem writeCells (B b : Nat) (bs : List Value) (s : ByteArray) (w : World) (h : Lib.IsBuilderF 93 5 B b bs w) (hlen : bs.length + s.size ≤ 140737488355328) (hBw : B ≤ w.heap.size) :
  Calls Tryz.prog 76 #[.pointer (some ⟨b, 0, none⟩), .string s] w fun e w' => e = .returned (.tuple #[.int .i64 s.size, .nilIface]) ∧ (Lib.BuilderAtF 93 5 B b (.pointer (some ⟨b, 0, none⟩)) (bs ++ Lib.strCells s) w' ∧ Below B w w') := by
 obtain ⟨i0, hi, hz0, hz1, hz2⟩ := info_parts u8Info
 go_enter Tryz.func76, Tryz.ntmps76
 go_wp2_with (go_at_call 110; refine (copyCheck_any B b bs _ h).mono ?_)
 rintro e w1 ⟨rfl, h1, hb1⟩
 obtain ⟨hB, v, hbk, hown, hne⟩ := h1
 have c0 : w1.cell? ⟨b, 0, none⟩ = some (.pointer (some ⟨b, 0, none⟩)) := by rw [Lib.cell_of_heap hbk]; rfl
 have c1 : w1.cell? ⟨b, 1, none⟩ = some v := by rw [Lib.cell_of_heap hbk]; rfl
 go_wp2_with (at_builtin; refine Lib.wpList_append_own_stringF _ rfl _ _ 91 9 rfl B 5 i0 Tryz.underlying91 Tryz.underlying9 hi hz0 hz1 hz2 _ _ _ rfl hown s rfl ?c3 ?c4 ?c5 ?_)
 case c3 => unfold maxLen; omega
 case c4 => omega
 case c5 => have := hb1.size; omega
 intro v' w2 hown' hgrow _
 have hlt : b < w1.heap.size := by
  rcases Nat.lt_or_ge b w1.heap.size with h' | h'
  ·exact h'
  ·simp [Array.getElem?_eq_none h'] at hbk
 have hb2 : w2.heap[b]? = some (.cells #[.pointer (some ⟨b, 0, none⟩), v] 93 (0, 0)) := by
  rw [hgrow.block b hlt (fun e => hne e.symm)]
  exact hbk
 have d0 : w2.cell? ⟨b, 0, none⟩ = some (.pointer (some ⟨b, 0, none⟩)) := by rw [Lib.cell_of_heap hb2]; rfl
 have d1 : w2.cell? ⟨b, 1, none⟩ = some v := by rw [Lib.cell_of_heap hb2]; rfl
 have f1 : w2.frozen? ⟨b, 1, none⟩ = false := Lib.frozen_of_heap hb2 1
 obtain ⟨ao, n', cap, rfl⟩ : ∃ ao n' cap, v' = .slice ao n' cap := by
  rcases hown'.2 with ⟨hv, _⟩ | ⟨g, cap, cur, fz, hv, _⟩
  ·exact ⟨_, _, _, hv⟩
  ·exact ⟨_, _, _, hv⟩
 go_wp2
 go_ret2
 refine ⟨rfl, ?_, ?_⟩
 ·exact Lib.BuilderAtF.put (T := 93) (e := 5) hB hb2 (bs' := bs ++ Lib.strCells s) (by simpa [Lib.strCells_length] using hown') (by decide)
 ·exact (hb1.grown hgrow (by have := hb1.size; omega) (fun k hk => (hown.lt k hk).1)).setCell (p := ⟨b, 1, none⟩) hB _
theorem write_any (B b : Nat) (l : List UInt8) (s : ByteArray) (w : World) (h : IsSb B b l w) (hlen : l.length + s.size ≤ 140737488355328) (hBw : B ≤ w.heap.size) :
  Calls Tryz.prog 76 #[.pointer (some ⟨b, 0, none⟩), .string s] w fun e w' => e = .returned (.tuple #[.int .i64 s.size, .nilIface]) ∧ IsSb B b (l ++ s.data.toList) w' ∧ Below B w w' := by
 refine (writeCells B b (Lib.byteCells l) s w h (by rw [Lib.byteCells_length]; exact hlen) hBw).mono ?_
 rintro e w' ⟨rfl, h1, h2⟩
 refine ⟨rfl, .inr ?_, h2⟩
 rw [Lib.byteCells_append]
 exact h1
theorem string_any (B b : Nat) (l : List UInt8) (w : World) (h : IsSb B b l w) (hBw : B ≤ w.heap.size) :
  Calls Tryz.prog 39 #[.pointer (some ⟨b, 0, none⟩)] w fun e w' => e = .returned (.string ⟨l.toArray⟩) ∧ Below B w w' :=
 (Tryz.Builder_String_any_f B b l w h hBw).mono fun _ _ h => ⟨h.1, h.2.2⟩
end Go.Proofs.YteadfpkihhaadaaGreatDoor
