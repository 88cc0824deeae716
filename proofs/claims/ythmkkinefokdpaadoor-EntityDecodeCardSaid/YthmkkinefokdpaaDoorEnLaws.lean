/- The chapter's examples of layer 3 (works) and the statements EntityDecode, EntityEncode, EntityBack and EntityPieces, walked: each answers true. Conditions: the tables hold what their texts lay; strconv.ErrSyntax holds an error; a text's length fits. -/
import Derived.Test.YthmkkinefokdpaaDoorEnR5
import Derived.Test.YthmkkinefokdpaaDoorEnDec
namespace Go.Proofs.YthmkkinefokdpaaDoor
open Go.RowKit

theorem dec_lit (s : ByteArray) (c : Array UInt8) (n z : Int) (h : En.rep En.dF s.data.toList = (c.toList, n.toNat, z)) (hn : 0 ≤ n) (hs : s.size ≤ 1000) (w : World) (T : Tb w) :
    Calls Tryd.prog 9 #[.string s] w fun e w' => e = .returned (.tuple #[.string ⟨c⟩, .int .i64 n, .int .i64 z]) ∧ Below w.heap.size w w' := by
  have := decode_ent s (by omega) w T
  rw [h] at this
  unfold tup3 at this
  simp only [Int.toNat_of_nonneg hn, Array.toArray_toList] at this
  exact this
theorem enc_lit (s : ByteArray) (attr : Bool) (c : Array UInt8) (z : Int) (h : (En.rep (En.eF attr) s.data.toList).1 = c.toList ∧ (En.rep (En.eF attr) s.data.toList).2.2 = z) (hs : s.size ≤ 1000) (w : World) (T : Tb w) :
    Calls Tryd.prog 13 #[.string s, .bool attr] w fun e w' => e = .returned (.tuple #[.string ⟨c⟩, .int .i64 z]) ∧ Below w.heap.size w w' := by
  have := encode_ent s attr (by omega) w T
  rw [h.1, h.2] at this
  simp only [Array.toArray_toList] at this
  exact this

set_option maxHeartbeats 2000000 in
set_option maxRecDepth 100000 in
theorem works_any (w : World) (T : Tb w) :
    Calls Tryd.prog 8 #[] w fun e w' => e = .returned (.bool true) ∧ Below w.heap.size w w' := by
  have A1 := Lib.hid (dec_lit ⟨#[97, 38, 108, 116, 59, 98, 38, 35, 54, 53, 59, 38, 35, 120, 50, 48, 65, 67, 59]⟩ #[97, 60, 98, 65, 226, 130, 172] 0 0 (by decide +kernel) (by decide) (by decide))
  have A2 := Lib.hid (dec_lit ⟨#[97, 38, 98, 59]⟩ #[] 1 30 (by decide +kernel) (by decide) (by decide))
  have A3 := Lib.hid (dec_lit ⟨#[38, 35, 48, 59]⟩ #[] 0 30 (by decide +kernel) (by decide) (by decide))
  have A4 := Lib.hid (dec_lit ⟨#[38, 108, 116]⟩ #[] 0 30 (by decide +kernel) (by decide) (by decide))
  have A5 := Lib.hid (enc_lit ⟨#[97, 60, 34, 98]⟩ true #[97, 38, 108, 116, 59, 38, 113, 117, 111, 116, 59, 98] 0 (by decide +kernel) (by decide))
  have A6 := Lib.hid (enc_lit ⟨#[97, 60, 34, 98]⟩ false #[97, 38, 108, 116, 59, 34, 98] 0 (by decide +kernel) (by decide))
  go_enter Tryd.func8, Tryd.ntmps8
  go_wp2_with fail
  refine (A1.out _ T).mono ?_
  rintro e w1 ⟨rfl, h1⟩
  have T1 := T.below h1 (Nat.le_refl _)
  have b1 := h1
  clear h1
  go_wp2_with fail
  refine (A2.out _ T1).mono ?_
  rintro e w2 ⟨rfl, h2⟩
  have T2 := T1.below h2 (Nat.le_refl _)
  have b2 := b1.trans (h2.mono b1.size)
  clear T1 h2 b1
  go_wp2_with fail
  refine (A3.out _ T2).mono ?_
  rintro e w3 ⟨rfl, h3⟩
  have T3 := T2.below h3 (Nat.le_refl _)
  have b3 := b2.trans (h3.mono b2.size)
  clear T2 h3 b2
  go_wp2_with fail
  refine (A4.out _ T3).mono ?_
  rintro e w4 ⟨rfl, h4⟩
  have T4 := T3.below h4 (Nat.le_refl _)
  have b4 := b3.trans (h4.mono b3.size)
  clear T3 h4 b3
  go_wp2_with fail
  refine (A5.out _ T4).mono ?_
  rintro e w5 ⟨rfl, h5⟩
  have T5 := T4.below h5 (Nat.le_refl _)
  have b5 := b4.trans (h5.mono b4.size)
  clear T4 h5 b4
  go_wp2_with fail
  refine (A6.out _ T5).mono ?_
  rintro e w6 ⟨rfl, h6⟩
  have T6 := T5.below h6 (Nat.le_refl _)
  have b6 := b5.trans (h6.mono b5.size)
  clear T5 h6 b5
  go_wp2
  go_ret
  exact ⟨rfl, b6⟩


set_option maxHeartbeats 2000000 in
set_option maxRecDepth 100000 in
theorem lawDecode (s : ByteArray) (w : World) (T : Tb w) (hs : s.size ≤ maxLen) :
    Calls Tryd.prog 3 #[.string s] w fun e w' => e = .returned (.bool true) ∧ Below w.heap.size w w' := by
  have hm := Lib.hid hs
  unfold maxLen at hs
  by_cases hl : s.size ≤ 500
  · have hl' : ¬ (500 : Int) < (s.size : Int) := by omega
    have HD := Lib.hid (fun w0 T0 => decode_ent s (by omega) w0 T0)
    have HE := Lib.hid (fun w0 => rdecode_any s (by omega) w0)
    have HR := Lib.hid (fun w0 T0 => reference_ent s hm.out w0 T0)
    have HS := Lib.hid (fun w0 => rreference_any s hm.out w0)
    have W := Lib.hid works_any
    unfold tup3 at HD HE
    generalize En.rep En.dF s.data.toList = d at *
    obtain ⟨a, n, z⟩ := d
    generalize En.rf s.data.toList = d2 at *
    obtain ⟨c, m⟩ := d2
    simp only at HD HE HR HS
    obtain ⟨A, hA⟩ : ∃ A, A = ByteArray.mk a.toArray := ⟨_, rfl⟩
    obtain ⟨C, hC⟩ : ∃ C, C = ByteArray.mk c.toArray := ⟨_, rfl⟩
    rw [← hA] at HD HE
    rw [← hC] at HR HS
    clear hA hC
    go_enter Tryd.func3, Tryd.ntmps3
    go_wp2_with fail
    refine (HD.out _ T).mono ?_
    rintro e w1 ⟨rfl, h1⟩
    have T1 := T.below h1 (Nat.le_refl _)
    have b1 := h1
    clear h1
    go_wp2_with fail
    refine (HE.out _).mono ?_
    rintro e w2 ⟨rfl, h2⟩
    have T2 := T1.below h2 (Nat.le_refl _)
    have b2 := b1.trans (h2.mono b1.size)
    clear T1 h2 b1
    go_wp2_with fail
    refine (HR.out _ T2).mono ?_
    rintro e w3 ⟨rfl, h3⟩
    have T3 := T2.below h3 (Nat.le_refl _)
    have b3 := b2.trans (h3.mono b2.size)
    clear T2 h3 b2
    go_wp2_with fail
    refine (HS.out _).mono ?_
    rintro e w4 ⟨rfl, h4⟩
    have T4 := T3.below h4 (Nat.le_refl _)
    have b4 := b3.trans (h4.mono b3.size)
    clear T3 h4 b3
    go_wp2_with fail
    refine (W.out _ T4).mono ?_
    rintro e w5 ⟨rfl, h5⟩
    have T5 := T4.below h5 (Nat.le_refl _)
    have b5 := b4.trans (h5.mono b4.size)
    clear T4 h5 b4
    go_wp2
    go_ret
    exact ⟨rfl, b5⟩
  · have hl' : (500 : Int) < (s.size : Int) := by omega
    have W := Lib.hid works_any
    go_enter Tryd.func3, Tryd.ntmps3
    go_wp2_with fail
    refine (W.out _ T).mono ?_
    rintro e w1 ⟨rfl, h1⟩
    have T1 := T.below h1 (Nat.le_refl _)
    have b1 := h1
    clear h1
    go_wp2
    go_ret
    exact ⟨rfl, b1⟩

set_option maxHeartbeats 2000000 in
set_option maxRecDepth 100000 in
theorem lawEncode (s : ByteArray) (attr : Bool) (w : World) (T : Tb w) (hs : s.size ≤ maxLen) :
    Calls Tryd.prog 4 #[.string s, .bool attr] w fun e w' => e = .returned (.bool true) ∧ Below w.heap.size w w' := by
  unfold maxLen at hs
  by_cases hl : s.size ≤ 500
  · have hl' : ¬ (500 : Int) < (s.size : Int) := by omega
    have HD := Lib.hid (fun w0 T0 => encode_ent s attr (by omega) w0 T0)
    have HE := Lib.hid (fun w0 => rencode_any s attr (by omega) w0)
    have W := Lib.hid works_any
    generalize En.rep (En.eF attr) s.data.toList = d at *
    obtain ⟨a, n, z⟩ := d
    simp only at HD HE
    obtain ⟨A, hA⟩ : ∃ A, A = ByteArray.mk a.toArray := ⟨_, rfl⟩
    rw [← hA] at HD HE
    clear hA
    go_enter Tryd.func4, Tryd.ntmps4
    go_wp2_with fail
    refine (HD.out _ T).mono ?_
    rintro e w1 ⟨rfl, h1⟩
    have T1 := T.below h1 (Nat.le_refl _)
    have b1 := h1
    clear h1
    go_wp2_with fail
    refine (HE.out _).mono ?_
    rintro e w2 ⟨rfl, h2⟩
    have T2 := T1.below h2 (Nat.le_refl _)
    have b2 := b1.trans (h2.mono b1.size)
    clear T1 h2 b1
    go_wp2_with fail
    refine (W.out _ T2).mono ?_
    rintro e w3 ⟨rfl, h3⟩
    have T3 := T2.below h3 (Nat.le_refl _)
    have b3 := b2.trans (h3.mono b2.size)
    clear T2 h3 b2
    go_wp2
    go_ret
    exact ⟨rfl, b3⟩
  · have hl' : (500 : Int) < (s.size : Int) := by omega
    have W := Lib.hid works_any
    go_enter Tryd.func4, Tryd.ntmps4
    go_wp2_with fail
    refine (W.out _ T).mono ?_
    rintro e w1 ⟨rfl, h1⟩
    have T1 := T.below h1 (Nat.le_refl _)
    have b1 := h1
    clear h1
    go_wp2
    go_ret
    exact ⟨rfl, b1⟩

theorem rep_long (attr : Bool) (l : List UInt8) : (En.encB attr l).length ≤ 6 * l.length := by
  induction l with
  | nil => simp [En.encB]
  | cons b l ih =>
    rw [En.encB_cons, List.length_append, List.length_cons]
    have : (En.wrB attr b).length ≤ 6 := by unfold En.wrB; repeat' split
                                            all_goals simp
    omega
theorem dec_long : ∀ (l : List UInt8), (En.rep En.dF l).2.2 = 0 → (En.rep En.dF l).1.length ≤ 6 * l.length := by
  intro l h
  refine En.rep_ind En.moves_dF (Q := fun l t => t.length ≤ 6 * l.length) (Nat.zero_le _) ?_ l.length l (Nat.le_refl _) h
  intro l q hne hz _ hq
  have h1 := En.long_dF hne hz
  have h2 := En.moves_dF l hne hz
  rw [List.length_append]
  rw [List.length_drop] at hq
  omega


set_option maxHeartbeats 4000000 in
set_option maxRecDepth 100000 in
theorem lawBack (s : ByteArray) (attr : Bool) (w : World) (T : Tb w) (hs : s.size ≤ maxLen) :
    Calls Tryd.prog 5 #[.string s, .bool attr] w fun e w' => e = .returned (.bool true) ∧ Below w.heap.size w w' := by
  unfold maxLen at hs
  have HL := Lib.hid (Lib.size_eq s)
  have W := Lib.hid works_any
  by_cases hl : s.size ≤ 500
  · have hl' : ¬ (500 : Int) < (s.size : Int) := by omega
    have HA := Lib.hid (fun w0 T0 => encode_ent s attr (by omega) w0 T0)
    by_cases hz : (En.rep (En.eF attr) s.data.toList).2.2 = 0
    · have h2 := (En.rep_eF_ok hz).2
      have hlg := rep_long attr s.data.toList
      have hback := En.dec_enc hz
      have hgood := En.encB_good attr s.data.toList
      rw [h2] at HA hback
      simp only at HA hback
      obtain ⟨V, hV⟩ : ∃ V, V = ByteArray.mk (En.encB attr s.data.toList).toArray := ⟨_, rfl⟩
      have hVl : V.data.toList = En.encB attr s.data.toList := by rw [hV, data_mk]
      have hVs : V.size ≤ 3000 := by rw [hV, size_mk]; have := HL.out; omega
      rw [← hV] at HA
      have HB := Lib.hid (fun w0 T0 => decode_ent V (by omega) w0 T0)
      rw [hVl, hback] at HB
      unfold tup3 at HB
      simp only at HB
      rw [mk_data] at HB
      rw [← hVl] at hgood
      have HG := Lib.hid hgood
      clear hz h2 hlg hback hgood hV hVl
      go_enter Tryd.func5, Tryd.ntmps5
      go_wp2_with fail
      refine (HA.out _ T).mono ?_
      rintro e w1 ⟨rfl, h1⟩
      have T1 := T.below h1 (Nat.le_refl _)
      have b1 := h1
      clear h1
      go_wp2_with fail
      refine (HB.out _ T1).mono ?_
      rintro e w2 ⟨rfl, h2⟩
      have T2 := T1.below h2 (Nat.le_refl _)
      have b2 := b1.trans (h2.mono b1.size)
      clear T1 h2 b1
      go_wp2
      go_loop [10] (fun vi => ∃ k : Nat, vi = .int .i64 k ∧ k ≤ V.size) (fun vi => V.size - (intOf vi).toNat)
      case atStart => exact ⟨0, rfl, Nat.zero_le _⟩
      case round =>
        obtain ⟨k, rfl, hk⟩ := hrel
        by_cases hlt : k < V.size
        · have hlt' : (k : Int) < (V.size : Int) := by omega
          have hg := List.all_eq_true.1 HG.out V[k] (List.mem_iff_getElem?.2 ⟨k, Lib.data_getElem? V k hlt⟩)
          have hc : ∀ n : Nat, n < 256 → V[k] ≠ n.toUInt8 → ((V[k].toNat : Int) == n) = false := fun n hn h => by
            have : ¬ (V[k].toNat : Int) = n := fun e => h (by
              apply UInt8.toNat_inj.1
              simp only [Nat.toUInt8, UInt8.toNat_ofNat']; omega)
            simpa using this
          unfold En.good at hg
          simp only [Bool.not_eq_true', Bool.or_eq_false_iff, Bool.and_eq_false_iff, beq_eq_false_iff_ne, ne_eq] at hg
          obtain ⟨⟨⟨g1, g2⟩, g3⟩, g4⟩ := hg
          have t1 : ((V[k].toNat : Int) == 60) = false := hc 60 (by omega) g1
          have t2 : ((V[k].toNat : Int) == 62) = false := hc 62 (by omega) g2
          have t3 : ((V[k].toNat : Int) == 13) = false := hc 13 (by omega) g3
          cases attr with
          | false =>
            clear hc g1 g2 g3 g4
            go_wp2
            go_round
            case rel => exact ⟨k + 1, by go_num, by omega⟩
            case measure => simp [intOf]; omega
          | true =>
            have g5 := g4.resolve_left (by simp)
            have t4 : ((V[k].toNat : Int) == 34) = false := hc 34 (by omega) g5.1.1
            have t5 : ((V[k].toNat : Int) == 9) = false := hc 9 (by omega) g5.1.2
            have t6 : ((V[k].toNat : Int) == 10) = false := hc 10 (by omega) g5.2
            clear hc g1 g2 g3 g4 g5
            go_wp2
            go_round
            case rel => exact ⟨k + 1, by go_num, by omega⟩
            case measure => simp [intOf]; omega
        · have hlt' : ¬ (k : Int) < (V.size : Int) := by omega
          clear hlt HG
          by_cases hdz : (En.rep En.dF s.data.toList).2.2 = 0
          · have hv := En.dec_valid hdz
            have hdl := dec_long _ hdz
            have HD := Lib.hid (fun w0 T0 => decode_ent s (by omega) w0 T0)
            unfold tup3 at HD
            generalize En.rep En.dF s.data.toList = d at *
            obtain ⟨t, n, z⟩ := d
            simp only at HD hdz hv hdl
            subst hdz
            obtain ⟨Q, hQ⟩ : ∃ Q, Q = ByteArray.mk t.toArray := ⟨_, rfl⟩
            rw [← hQ] at HD
            have hQl : Q.data.toList = t := by rw [hQ, data_mk]
            have HE := Lib.hid (fun w0 T0 => encode_ent Q attr (by rw [hQ, size_mk]; have := HL.out; omega) w0 T0)
            rw [hQl, En.rep_eF_of hv] at HE
            simp only at HE
            clear hv hdl hQ hQl
            go_wp2_with fail
            refine (HD.out _ T2).mono ?_
            rintro e x1 ⟨rfl, h1⟩
            have X1 := (T2).below h1 (Nat.le_refl _)
            have y1 := (b2).trans (h1.mono (b2).size)
            clear h1
            go_wp2_with fail
            refine (HE.out _ X1).mono ?_
            rintro e x2 ⟨rfl, h2⟩
            have X2 := X1.below h2 (Nat.le_refl _)
            have y2 := y1.trans (h2.mono y1.size)
            clear h2
            go_wp2_with fail
            refine (W.out _ X2).mono ?_
            rintro e x3 ⟨rfl, h3⟩
            have y3 := y2.trans (h3.mono y2.size)
            clear h3
            go_wp2
            go_ret
            exact ⟨rfl, y3⟩
          · have hn := En.rep_err En.moves_dF _ _ (Nat.le_refl _) hdz
            have HD := Lib.hid (fun w0 T0 => decode_ent s (by omega) w0 T0)
            unfold tup3 at HD
            generalize En.rep En.dF s.data.toList = d at *
            obtain ⟨t, n, z⟩ := d
            simp only at HD hdz hn
            subst hn
            have z1 : (z == 0) = false := by simpa using hdz
            have z2 : (z != 0) = true := by simpa using hdz
            clear hdz
            go_wp2_with fail
            refine (HD.out _ T2).mono ?_
            rintro e x1 ⟨rfl, h1⟩
            have X1 := (T2).below h1 (Nat.le_refl _)
            have y1 := (b2).trans (h1.mono (b2).size)
            clear h1
            go_wp2_with fail
            refine (W.out _ X1).mono ?_
            rintro e x3 ⟨rfl, h3⟩
            have y3 := y1.trans (h3.mono y1.size)
            clear h3
            go_wp2
            go_ret
            exact ⟨rfl, y3⟩
    · have h10 : (En.rep (En.eF attr) s.data.toList).2.2 = 10 := by
        rcases En.rep_eF attr _ _ (Nat.le_refl s.data.toList.length) with ⟨_, h⟩ | ⟨_, _, h⟩
        · rw [h] at hz; exact absurd rfl hz
        · exact h
      rw [h10] at HA
      clear h10 hz
      generalize (En.rep (En.eF attr) s.data.toList).1 = v at *
      go_enter Tryd.func5, Tryd.ntmps5
      go_wp2_with fail
      refine (HA.out _ T).mono ?_
      rintro e w1 ⟨rfl, h1⟩
      have T1 := T.below h1 (Nat.le_refl _)
      have b1 := h1
      clear h1
      by_cases hdz : (En.rep En.dF s.data.toList).2.2 = 0
      · have hv := En.dec_valid hdz
        have hdl := dec_long _ hdz
        have HD := Lib.hid (fun w0 T0 => decode_ent s (by omega) w0 T0)
        unfold tup3 at HD
        generalize En.rep En.dF s.data.toList = d at *
        obtain ⟨t, n, z⟩ := d
        simp only at HD hdz hv hdl
        subst hdz
        obtain ⟨Q, hQ⟩ : ∃ Q, Q = ByteArray.mk t.toArray := ⟨_, rfl⟩
        rw [← hQ] at HD
        have hQl : Q.data.toList = t := by rw [hQ, data_mk]
        have HE := Lib.hid (fun w0 T0 => encode_ent Q attr (by rw [hQ, size_mk]; have := HL.out; omega) w0 T0)
        rw [hQl, En.rep_eF_of hv] at HE
        simp only at HE
        clear hv hdl hQ hQl
        go_wp2_with fail
        refine (HD.out _ T1).mono ?_
        rintro e x1 ⟨rfl, h1⟩
        have X1 := (T1).below h1 (Nat.le_refl _)
        have y1 := (b1).trans (h1.mono (b1).size)
        clear h1
        go_wp2_with fail
        refine (HE.out _ X1).mono ?_
        rintro e x2 ⟨rfl, h2⟩
        have X2 := X1.below h2 (Nat.le_refl _)
        have y2 := y1.trans (h2.mono y1.size)
        clear h2
        go_wp2_with fail
        refine (W.out _ X2).mono ?_
        rintro e x3 ⟨rfl, h3⟩
        have y3 := y2.trans (h3.mono y2.size)
        clear h3
        go_wp2
        go_ret
        exact ⟨rfl, y3⟩
      · have hn := En.rep_err En.moves_dF _ _ (Nat.le_refl _) hdz
        have HD := Lib.hid (fun w0 T0 => decode_ent s (by omega) w0 T0)
        unfold tup3 at HD
        generalize En.rep En.dF s.data.toList = d at *
        obtain ⟨t, n, z⟩ := d
        simp only at HD hdz hn
        subst hn
        have z1 : (z == 0) = false := by simpa using hdz
        have z2 : (z != 0) = true := by simpa using hdz
        clear hdz
        go_wp2_with fail
        refine (HD.out _ T1).mono ?_
        rintro e x1 ⟨rfl, h1⟩
        have X1 := (T1).below h1 (Nat.le_refl _)
        have y1 := (b1).trans (h1.mono (b1).size)
        clear h1
        go_wp2_with fail
        refine (W.out _ X1).mono ?_
        rintro e x3 ⟨rfl, h3⟩
        have y3 := y1.trans (h3.mono y1.size)
        clear h3
        go_wp2
        go_ret
        exact ⟨rfl, y3⟩
  · have hl' : (500 : Int) < (s.size : Int) := by omega
    have W := Lib.hid works_any
    go_enter Tryd.func5, Tryd.ntmps5
    go_wp2_with fail
    refine (W.out _ T).mono ?_
    rintro e w1 ⟨rfl, h1⟩
    have T1 := T.below h1 (Nat.le_refl _)
    have b1 := h1
    clear h1
    go_wp2
    go_ret
    exact ⟨rfl, b1⟩
end Go.Proofs.YthmkkinefokdpaaDoor
