/- The closed statement TokenKnown, walked: it answers true. Conditions: the tables hold what their texts lay; internal/bytealg.MaxLen holds a number. -/
import Derived.Test.YtpdoegafjfhiiaaGreatDoorTkLawB
import Derived.Test.YtpdoegafjfhiiaaGreatDoorTkLawC
namespace Go.Proofs.YtpdoegafjfhiiaaGreatDoor
open Go.RowKit

/-- A row of short texts. -/
def TextsK (w : World) (b n : Nat) : Prop := ∀ j, j < n → ∃ x : ByteArray, x.size ≤ 100 ∧ w.cell? ⟨b, j, none⟩ = some (.string x)
def BytesK (w : World) (b n : Nat) : Prop := ∀ j, j < n → ∃ x : Int, w.cell? ⟨b, j, none⟩ = some (.int .u8 x)
theorem block_ltK {w : World} {a : Addr} {v : Value} (hc : w.cell? a = some v) : a.block < w.heap.size := by
  rcases Nat.lt_or_ge a.block w.heap.size with h | h
  · exact h
  · simp [World.cell?, Array.getElem?_eq_none h] at hc
theorem cell_belowK {w w' : World} (hb : Below w.heap.size w w') {a : Addr} {v : Value} (hc : w.cell? a = some v) : w'.cell? a = some v := by
  rw [hb.cell (block_ltK hc)]; exact hc
theorem TextsK.below {w w' : World} {b n : Nat} (h : TextsK w b n) (hb : Below w.heap.size w w') : TextsK w' b n := fun j hj => by
  obtain ⟨x, h1, h2⟩ := h j hj
  exact ⟨x, h1, cell_belowK hb h2⟩
theorem BytesK.below {w w' : World} {b n : Nat} (h : BytesK w b n) (hb : Below w.heap.size w w') : BytesK w' b n := fun j hj => by
  obtain ⟨x, h2⟩ := h j hj
  exact ⟨x, cell_belowK hb h2⟩
theorem new_cellK (w : World) (vs : Array Value) (t : TypeId) (j : Nat) {v : Value} (h : vs[j]? = some v) : (w.alloc (.cells vs t)).cell? ⟨w.heap.size, j, none⟩ = some v := by
  rw [World.cell?_alloc_mark w vs t (0, 0) j]
  exact h
theorem textsK_of (w : World) (t : TypeId) (xs : List ByteArray) (h : ∀ x ∈ xs, x.size ≤ 100) : TextsK (w.alloc (.cells (xs.map Value.string).toArray t)) w.heap.size xs.length := fun j hj => by
  refine ⟨xs[j], h _ (List.getElem_mem _), new_cellK _ _ _ j ?_⟩
  rw [List.getElem?_toArray, List.getElem?_map, List.getElem?_eq_getElem hj]; rfl
theorem bytesK_of (w : World) (t : TypeId) (xs : List Int) : BytesK (w.alloc (.cells (xs.map (Value.int .u8)).toArray t)) w.heap.size xs.length := fun j hj => by
  refine ⟨xs[j], new_cellK _ _ _ j ?_⟩
  rw [List.getElem?_toArray, List.getElem?_map, List.getElem?_eq_getElem hj]; rfl
theorem size_k {x : ByteArray} {n : Nat} (h : x.size ≤ n) (hn : n ≤ 1000000) : x.size ≤ maxLen := by unfold maxLen; omega
def strsK : List ByteArray := [⟨#[60, 97, 32, 120, 61, 34, 49, 34, 32, 121, 61, 39, 38, 108, 116, 59, 39, 47, 62, 98]⟩, ⟨#[60, 63, 120, 109, 108, 63, 62, 60, 97, 62, 116, 60, 33, 45, 45, 32, 110, 32, 45, 45, 62, 60, 47, 97, 32, 62]⟩, ⟨#[97, 60, 98, 32, 99, 61, 100, 62]⟩, ⟨#[60, 97, 9, 10, 13, 32, 120, 32, 61, 32, 39, 49, 39, 9, 121, 10, 61, 10, 34, 34, 13, 62]⟩, ⟨#[60, 97, 32, 120, 61, 39, 49, 39, 121, 61, 39, 50, 39, 62]⟩, ⟨#[60, 97, 32, 120, 62]⟩, ⟨#[60, 97, 32, 120, 61, 62]⟩, ⟨#[60, 97, 32, 120, 61, 39, 60, 39, 62]⟩, ⟨#[60, 97, 47, 32, 62]⟩, ⟨#[60, 32, 97, 62]⟩, ⟨#[60, 47, 97, 32, 98, 62]⟩, ⟨#[60, 47, 62]⟩, ⟨#[60, 33, 45, 45, 62, 45, 45, 62]⟩, ⟨#[60, 33, 45, 45, 45, 62]⟩, ⟨#[60, 63, 62, 63, 62]⟩, ⟨#[60, 33, 120, 62]⟩, ⟨#[38, 35, 54, 53, 59, 38]⟩, ⟨#[60, 97, 32, 120, 61, 39, 38, 98, 59, 39, 32, 121, 61, 39, 38, 39, 62]⟩, ⟨#[93, 93, 62]⟩]
theorem strsK_le : ∀ x ∈ strsK, x.size ≤ 100 := by decide
def bytsK : List Int := [32, 60, 62, 47, 61, 34, 39, 38, 97, 33, 63, 45, 0, 255]

theorem conv1d (w : World) (a : Int) : (convert 51 9 (.slice (some ⟨w.heap.size, 0, none⟩) 1 1)).run Tryz.prog (w.alloc (.cells #[.int .u8 a] 5)).drew = .ok (.string ⟨#[U8.toB a]⟩) (w.alloc (.cells #[.int .u8 a] 5)).drew := by
  have h := run_convert_bytes_arg (P := Tryz.prog) (w.alloc (.cells #[.int .u8 a] 5)).drew 51 5 Tryz.underlying51 Tryz.underlying5 w.heap.size 0 1 1 [a] rfl (fun i hi => by
    obtain rfl : i = 0 := by omega
    exact World.cell?_alloc_mark w #[.int .u8 a] 5 (0, 0) 0) 9 Tryz.underlying9
  exact h
theorem infoU8 : (Tryz.prog.info? 5).map (fun i => (i.zero, i.size, i.bytes)) = some (some (.int .u8 0), 1, 1) := by kernel_rfl
theorem made_at (n j : Nat) (h : j < n) : (madeCells (Value.int .u8 0).cells (n * 1)).toList[j]? = some (.int .u8 0) := by
  unfold madeCells
  simp [h, Value.cells, Nat.mod_one]
theorem made_zeros (n : Nat) (hn : n ≤ 16777216) : ∃ Z : ByteArray, Z.size = n ∧ ∀ w : World, ∃ W, (Instr.makeSlice 51 (.int .i64 (n : Int)) (.int .i64 (n : Int))).run Tryz.prog w = .ok (.slice (some ⟨w.heap.size, 0, none⟩) n n) W ∧
    (convert 51 9 (.slice (some ⟨w.heap.size, 0, none⟩) n n)).run Tryz.prog W = .ok (.string Z) W ∧ Below w.heap.size w W := by
  refine ⟨⟨((List.replicate n (0 : Int)).map U8.toB).toArray⟩, ?_, fun w => ?_⟩
  · show (((List.replicate n (0 : Int)).map U8.toB).toArray).size = n
    simp
  · obtain ⟨i0, hi, hz0, hz1, hz2⟩ := info_parts infoU8
    obtain ⟨W, hr, how, hg⟩ := run_makeSlice_full (P := Tryz.prog) w w.heap.size 51 5 i0 _ 1 Tryz.underlying51 hi hz0 hz1 .i64 .i64 n (by omega) (by rw [hz2]; omega) (by unfold maxLen; omega) (Nat.le_refl _)
    refine ⟨W, hr, ?_, below_of_grown hg (Nat.le_refl _) (fun k hk => by cases hk)⟩
    have h := run_convert_bytes_arg (P := Tryz.prog) W 51 5 Tryz.underlying51 Tryz.underlying5 w.heap.size 0 n n (List.replicate n 0) (by simp) (fun i hi => by
      rw [Nat.zero_add, own_cell how (made_at n i hi)]
      simp [hi]) 9 Tryz.underlying9
    exact h
def partsK (b : Nat) : List Pt := [⟨1, ⟨#[97, 58, 98]⟩, some ⟨b, 0, none⟩, 1, [([120], [34, 60, 10])], ⟨#[]⟩, false⟩, ⟨0, ⟨#[]⟩, none, 0, [], ⟨#[97, 60, 38, 62, 13]⟩, false⟩, ⟨0, ⟨#[]⟩, none, 0, [], ⟨#[98]⟩, true⟩, ⟨3, ⟨#[99]⟩, none, 0, [], ⟨#[]⟩, false⟩, ⟨2, ⟨#[97, 58, 98]⟩, none, 0, [], ⟨#[]⟩, true⟩]
def cellsK (b : Nat) : Array Value := #[.int .i64 1, .string ⟨#[97, 58, 98]⟩, .slice (some ⟨b, 0, none⟩) 1 1, .string ⟨#[]⟩, .bool false, .int .i64 0, .string ⟨#[]⟩, .slice none 0 0, .string ⟨#[97, 60, 38, 62, 13]⟩, .bool false,
  .int .i64 0, .string ⟨#[]⟩, .slice none 0 0, .string ⟨#[98]⟩, .bool true, .int .i64 3, .string ⟨#[99]⟩, .slice none 0 0, .string ⟨#[]⟩, .bool false, .int .i64 2, .string ⟨#[97, 58, 98]⟩, .slice none 0 0, .string ⟨#[]⟩, .bool true]
theorem readsK {W : World} {g b : Nat} (hg : g < W.heap.size) (hb : b < W.heap.size) (h : ∀ j u, (cellsK b)[j]? = some u → W.cell? ⟨g, j, none⟩ = some u) (h0 : W.cell? ⟨b, 0, none⟩ = some (.string ⟨#[120]⟩)) (h1 : W.cell? ⟨b, 1, none⟩ = some (.string ⟨#[34, 60, 10]⟩)) :
    ReadsPt W W.heap.size (some ⟨g, 0, none⟩) (partsK b) := by
  have hz : ∀ B A, Reads2o W B A [] := fun _ _ h => absurd h (by simp)
  refine ⟨fun _ => ⟨g, 0, rfl, hg, fun k hk => ?_⟩, fun x hx => ?_⟩
  · simp only [Nat.zero_add]
    match k, hk with
    | 0, _ => exact ⟨h 0 _ rfl, h 1 _ rfl, h 2 _ rfl, h 3 _ rfl, h 4 _ rfl⟩
    | 1, _ => exact ⟨h 5 _ rfl, h 6 _ rfl, h 7 _ rfl, h 8 _ rfl, h 9 _ rfl⟩
    | 2, _ => exact ⟨h 10 _ rfl, h 11 _ rfl, h 12 _ rfl, h 13 _ rfl, h 14 _ rfl⟩
    | 3, _ => exact ⟨h 15 _ rfl, h 16 _ rfl, h 17 _ rfl, h 18 _ rfl, h 19 _ rfl⟩
    | 4, _ => exact ⟨h 20 _ rfl, h 21 _ rfl, h 22 _ rfl, h 23 _ rfl, h 24 _ rfl⟩
    | k + 5, hk => exact absurd hk (by show ¬ k + 5 < 5; omega)
  · simp only [partsK, List.mem_cons, List.not_mem_nil, or_false] at hx
    rcases hx with rfl | rfl | rfl | rfl | rfl
    · refine ⟨fun _ => ⟨b, 0, rfl, hb, fun k hk => ?_⟩, by show (ByteArray.mk #[97, 58, 98]).size ≤ maxLen; decide, by show (ByteArray.mk #[]).size ≤ maxLen; decide, by show 1 ≤ 1; decide, by show 1 ≤ maxLen; decide, fun a ha => by simp at ha; subst ha; decide⟩
      obtain rfl : k = 0 := by simp at hk; exact hk
      exact ⟨h0, h1⟩
    · exact ⟨hz _ _, by decide, by decide, by decide, by decide, fun a ha => by cases ha⟩
    · exact ⟨hz _ _, by decide, by decide, by decide, by decide, fun a ha => by cases ha⟩
    · exact ⟨hz _ _, by decide, by decide, by decide, by decide, fun a ha => by cases ha⟩
    · exact ⟨hz _ _, by decide, by decide, by decide, by decide, fun a ha => by cases ha⟩
set_option maxHeartbeats 8000000 in
set_option maxRecDepth 100000 in
theorem lawKnownT (w : World) (T : Tb w) (hmx : Mx w) :
    Calls Tryz.prog 7 #[] w fun e w' => e = .returned (.bool true) ∧ Below w.heap.size w w' := by
  have HWK := Lib.hid (fun w0 (T0 : Tb w0) (M0 : Mx w0) => works_tk w0 T0 M0)
  have HC := Lib.hid (fun x w0 (T0 : Tb w0) (M0 : Mx w0) h => lawCuts x w0 T0 M0 h)
  have HJ := Lib.hid (fun x y w0 (T0 : Tb w0) (M0 : Mx w0) h h' => lawJoins x y w0 T0 M0 h h')
  have HO := Lib.hid (fun x w0 (T0 : Tb w0) (M0 : Mx w0) h => lawOrder x w0 T0 M0 h)
  have TM := Lib.hid (And.intro T hmx)
  have hA := textsK_of w 9 strsK strsK_le
  have b0 : Below w.heap.size w (w.alloc (.cells (strsK.map Value.string).toArray 9)) := (Below.refl _ _).alloc (Nat.le_refl _) _
  have HA := Lib.hid (And.intro hA b0)
  clear T hmx hA b0
  go_enter Tryz.func7, Tryz.ntmps7
  go_wp2
  go_loopw [10] (fun v wr => ∃ a : Nat, v = .int .i64 a ∧ a ≤ 19 ∧ Hid (Below w.heap.size w wr ∧ TextsK wr w.heap.size 19)) (fun v _ => 19 - (intOf v).toNat)
  case atStart => exact ⟨0, rfl, by omega, Lib.hid ⟨HA.out.2, HA.out.1⟩⟩
  case round =>
    obtain ⟨a, rfl, ha, HR⟩ := hrel
    by_cases hlt : a < 19
    · have hlt' : (a : Int) < 19 := by omega
      obtain ⟨x, hx, hcell⟩ := HR.out.2 a hlt
      have hx' : (x.size : Int) ≤ 100 := by omega
      clear hlt
      go_wp2
      clear hcell
      go_loopw [3] (fun v wr => ∃ i : Nat, v = .int .i64 i ∧ i ≤ x.size + 1 ∧ Hid (Below w.heap.size w wr ∧ TextsK wr w.heap.size 19)) (fun v _ => x.size + 1 - (intOf v).toNat)
      case atStart => exact ⟨0, rfl, by omega, HR⟩
      case round =>
        obtain ⟨i, rfl, hi, HS⟩ := hrel
        by_cases hil : i ≤ x.size
        · have hil' : (i : Int) ≤ (x.size : Int) := by omega
          have TM0 := Lib.hid (And.intro (TM.out.1.below HS.out.1 (Nat.le_refl _)) (TM.out.2.below HS.out.1))
          have B0 := Lib.hid (Below.refl wr.heap.size wr)
          have HSZ := Lib.hid (And.intro (show (x.extract 0 i).size ≤ 100 by have := extract_size x 0 i; omega) (show (x.extract i x.size).size ≤ 100 by have := extract_size x i x.size; omega))
          have HX := Lib.hid hx
          have hap : (x.extract i x.size ++ x).size ≤ 200 := by have := HSZ.out.2; rw [ByteArray.size_append]; omega
          have HAP := Lib.hid hap
          clear hap
          go_wp2_with fail
          refine (HC.out _ _ TM0.out.1 TM0.out.2 (size_k HSZ.out.1 (by omega))).mono ?_
          rintro e w1 ⟨rfl, h1⟩
          have B1 := Lib.hid (B0.out.trans (h1.mono B0.out.size))
          have TM1 := Lib.hid (And.intro (TM0.out.1.below h1 (Nat.le_refl _)) (TM0.out.2.below h1))
          clear h1
          go_wp2_with fail
          refine (HC.out _ _ TM1.out.1 TM1.out.2 (size_k HSZ.out.2 (by omega))).mono ?_
          rintro e w2 ⟨rfl, h2⟩
          have B2 := Lib.hid (B1.out.trans (h2.mono B1.out.size))
          have TM2 := Lib.hid (And.intro (TM1.out.1.below h2 (Nat.le_refl _)) (TM1.out.2.below h2))
          clear h2
          go_wp2_with fail
          refine (HJ.out _ _ _ TM2.out.1 TM2.out.2 (size_k HSZ.out.1 (by omega)) (size_k HX.out (by omega))).mono ?_
          rintro e w3 ⟨rfl, h3⟩
          have B3 := Lib.hid (B2.out.trans (h3.mono B2.out.size))
          have TM3 := Lib.hid (And.intro (TM2.out.1.below h3 (Nat.le_refl _)) (TM2.out.2.below h3))
          clear h3
          go_wp2_with fail
          refine (HJ.out _ _ _ TM3.out.1 TM3.out.2 (size_k HX.out (by omega)) (size_k HSZ.out.2 (by omega))).mono ?_
          rintro e w4 ⟨rfl, h4⟩
          have B4 := Lib.hid (B3.out.trans (h4.mono B3.out.size))
          have TM4 := Lib.hid (And.intro (TM3.out.1.below h4 (Nat.le_refl _)) (TM3.out.2.below h4))
          clear h4
          go_wp2_with fail
          refine (HO.out _ _ TM4.out.1 TM4.out.2 (size_k HAP.out (by omega))).mono ?_
          rintro e w5 ⟨rfl, h5⟩
          have B5 := Lib.hid (B4.out.trans (h5.mono B4.out.size))
          have TM5 := Lib.hid (And.intro (TM4.out.1.below h5 (Nat.le_refl _)) (TM4.out.2.below h5))
          clear h5
          have HT5 := Lib.hid (show Below w.heap.size w w5 ∧ TextsK w5 w.heap.size 19 from ⟨HS.out.1.trans (B5.out.mono HS.out.1.size), HS.out.2.below B5.out⟩)
          obtain ⟨bb, hbb⟩ : ∃ bb, bb = w5.heap.size := ⟨_, rfl⟩
          have HBY := Lib.hid (show Below w.heap.size w (w5.alloc (.cells (bytsK.map (Value.int .u8)).toArray 5)) ∧ TextsK (w5.alloc (.cells (bytsK.map (Value.int .u8)).toArray 5)) w.heap.size 19 ∧ BytesK (w5.alloc (.cells (bytsK.map (Value.int .u8)).toArray 5)) bb 14 from
            ⟨HT5.out.1.alloc HT5.out.1.size _, HT5.out.2.below ((Below.refl _ _).alloc (Nat.le_refl _) _), by rw [hbb]; exact bytesK_of _ _ bytsK⟩)
          have HBB := Lib.hid hbb
          clear hbb
          go_wp2
          rw [← HBB.out]
          go_loopw [59] (fun v wr2 => ∃ c : Nat, v = .int .i64 c ∧ c ≤ 14 ∧ Hid (Below w.heap.size w wr2 ∧ TextsK wr2 w.heap.size 19 ∧ BytesK wr2 bb 14)) (fun v _ => 14 - (intOf v).toNat)
          case atStart => exact ⟨0, rfl, by omega, HBY⟩
          case round =>
            obtain ⟨c, rfl, hc, HD⟩ := hrel
            by_cases hcl : c < 14
            · have hcl' : (c : Int) < 14 := by omega
              obtain ⟨y, hy⟩ := HD.out.2.2 c hcl
              have HCW := Lib.hid (fun (z : ByteArray) (w0 : World) (hb : Below wr.heap.size wr w0) (hz : z.size ≤ 300) => HC.out z w0 (TM.out.1.below (HD.out.1.trans (hb.mono HD.out.1.size)) (Nat.le_refl _)) (TM.out.2.below (HD.out.1.trans (hb.mono HD.out.1.size))) (size_k hz (by omega)))
              have k1d := conv1d
              clear hcl
              by_cases hix : i < x.size
              · have hix' : (i : Int) < (x.size : Int) := by omega
                have HZ := Lib.hid (show ∀ b, (x.extract 0 i ++ ⟨#[b]⟩ ++ x.extract (i + 1) x.size).size ≤ 300 from fun b => by
                  have h1 := extract_size x 0 i
                  have h2 := extract_size x (i + 1) x.size
                  have h3 := HX.out
                  rw [ByteArray.size_append, ByteArray.size_append, show (ByteArray.mk #[b]).size = 1 from rfl]
                  omega)
                have h0i : (x.extract 0 i).size ≤ 100 := HSZ.out.1
                have h1i : (x.extract (i + 1) x.size).size ≤ 100 := by have := extract_size x (i + 1) x.size; omega
                have hiw : IntKind.i64.wrap ((i : Int) + 1) = (i : Int) + 1 := IntWalk.i64_in _ (by omega)
                have hs1 : ¬ ((x.size : Int) < (i : Int) + 1) := by omega
                have hs0 : 0 ≤ (i : Int) + 1 := by omega
                go_wp2_with fail
                refine wp_region_any (by kernel_rfl) ?_
                try (change wpAny _ _ _ _ _ _ _ (World.drew _))
                refine wpAny_take (i := 0) (v := .int .i64 i) rfl (by kernel_rfl) (by kernel_rfl) (by kernel_rfl) (fun _ _ _ h => h) (Or.inl ⟨by rfl, by intro w; go_simp⟩) ?_
                simp only [Act.put, List.getElem_toArray, List.getElem_cons_zero, List.setIfInBounds_toArray, List.set_cons_zero, List.set_cons_succ]
                refine wpAny_take (i := 1) (v := .string x) rfl (by kernel_rfl) (by kernel_rfl) (by kernel_rfl) (fun _ _ _ h => h) (Or.inl ⟨by rfl, by intro w; go_simp⟩) ?_
                simp only [Act.put, List.getElem_toArray, List.getElem_cons_succ, List.getElem_cons_zero, List.setIfInBounds_toArray, List.set_cons_zero, List.set_cons_succ]
                refine wpAny_take (i := 2) (v := .int .i64 x.size) rfl (by kernel_rfl) (by kernel_rfl) (by kernel_rfl) (fun _ _ _ h => h) (Or.inl ⟨by rfl, by intro w; go_simp⟩) ?_
                simp only [Act.put, List.getElem_toArray, List.getElem_cons_succ, List.getElem_cons_zero, List.setIfInBounds_toArray, List.set_cons_zero, List.set_cons_succ]
                refine wpAny_take (i := 3) (v := .bool true) rfl (by kernel_rfl) (by kernel_rfl) (by kernel_rfl) (fun _ _ _ h => h) (Or.inl ⟨by rfl, by intro w; go_simp⟩) ?_
                simp only [Act.put, List.getElem_toArray, List.getElem_cons_succ, List.getElem_cons_zero, List.setIfInBounds_toArray, List.set_cons_zero, List.set_cons_succ]
                refine wpAny_take (i := 4) (v := .bool true) rfl (by kernel_rfl) (by kernel_rfl) (by kernel_rfl) (fun _ _ _ h => h) (Or.inl ⟨by rfl, by intro w; go_simp⟩) ?_
                simp only [Act.put, List.getElem_toArray, List.getElem_cons_succ, List.getElem_cons_zero, List.setIfInBounds_toArray, List.set_cons_zero, List.set_cons_succ]
                refine wpAny_take (i := 5) (v := .string x) rfl (by kernel_rfl) (by kernel_rfl) (by kernel_rfl) (fun _ _ _ h => h) (Or.inl ⟨by rfl, by intro w; go_simp⟩) ?_
                simp only [Act.put, List.getElem_toArray, List.getElem_cons_succ, List.getElem_cons_zero, List.setIfInBounds_toArray, List.set_cons_zero, List.set_cons_succ]
                refine wpAny_take (i := 6) (v := .int .i64 i) rfl (by kernel_rfl) (by kernel_rfl) (by kernel_rfl) (fun _ _ _ h => h) (Or.inl ⟨by rfl, by intro w; go_simp⟩) ?_
                simp only [Act.put, List.getElem_toArray, List.getElem_cons_succ, List.getElem_cons_zero, List.setIfInBounds_toArray, List.set_cons_zero, List.set_cons_succ]
                refine wpAny_take (i := 7) (v := .string (x.extract 0 i)) rfl (by kernel_rfl) (by kernel_rfl) (by kernel_rfl) (fun _ _ _ h => h) (Or.inl ⟨by rfl, by intro w; go_simp⟩) ?_
                simp only [Act.put, List.getElem_toArray, List.getElem_cons_succ, List.getElem_cons_zero, List.setIfInBounds_toArray, List.set_cons_zero, List.set_cons_succ]
                refine wpAny_take (i := 8) (v := .int .u8 y) rfl (by kernel_rfl) (by kernel_rfl) (by kernel_rfl) (fun _ _ _ h => h) (Or.inl ⟨by rfl, by intro w; go_simp⟩) ?_
                simp only [Act.put, List.getElem_toArray, List.getElem_cons_succ, List.getElem_cons_zero, List.setIfInBounds_toArray, List.set_cons_zero, List.set_cons_succ]
                refine wpAny_take (i := 12) (v := .string x) rfl (by kernel_rfl) (by kernel_rfl) (by kernel_rfl) (fun _ _ _ h => h) (Or.inl ⟨by rfl, by intro w; go_simp⟩) ?_
                simp only [Act.put, List.getElem_toArray, List.getElem_cons_succ, List.getElem_cons_zero, List.setIfInBounds_toArray, List.set_cons_zero, List.set_cons_succ]
                refine wpAny_take (i := 13) (v := .int .i64 i) rfl (by kernel_rfl) (by kernel_rfl) (by kernel_rfl) (fun _ _ _ h => h) (Or.inl ⟨by rfl, by intro w; go_simp⟩) ?_
                simp only [Act.put, List.getElem_toArray, List.getElem_cons_succ, List.getElem_cons_zero, List.setIfInBounds_toArray, List.set_cons_zero, List.set_cons_succ]
                refine wpAny_take (i := 14) (v := .int .i64 ((i : Int) + 1)) rfl (by kernel_rfl) (by kernel_rfl) (by kernel_rfl) (fun _ _ _ h => h) (Or.inl ⟨by rfl, by intro w; go_simp⟩) ?_
                simp only [Act.put, List.getElem_toArray, List.getElem_cons_succ, List.getElem_cons_zero, List.setIfInBounds_toArray, List.set_cons_zero, List.set_cons_succ]
                refine wpAny_take (i := 15) (v := .string (x.extract (i + 1) x.size)) rfl (by kernel_rfl) (by kernel_rfl) (by kernel_rfl) (fun _ _ _ h => h) (Or.inl ⟨by rfl, by intro w; go_simp⟩) ?_
                simp only [Act.put, List.getElem_toArray, List.getElem_cons_succ, List.getElem_cons_zero, List.setIfInBounds_toArray, List.set_cons_zero, List.set_cons_succ]
                refine wpAny_ready (rs := [9]) (by kernel_rfl) (by simp) ?_
                refine AllReady.cons rfl (fun K hK => ?_) AllReady.nil
                try simp only [List.getElem_toArray, List.getElem_cons_succ, List.getElem_cons_zero]
                go_simp
                refine hK _ _ ?_
                clear hK K
                try simp only [Act.put, List.getElem_toArray, List.getElem_cons_succ, List.getElem_cons_zero, List.setIfInBounds_toArray, List.set_cons_zero, List.set_cons_succ]
                refine wpAny_ready (rs := [10]) (by kernel_rfl) (by simp) ?_
                refine AllReady.cons rfl (fun K hK => ?_) AllReady.nil
                try simp only [List.getElem_toArray, List.getElem_cons_succ, List.getElem_cons_zero]
                go_simp
                refine hK _ _ ?_
                clear hK K
                try simp only [Act.put, List.getElem_toArray, List.getElem_cons_succ, List.getElem_cons_zero, List.setIfInBounds_toArray, List.set_cons_zero, List.set_cons_succ]
                refine wpAny_take (i := 11) (v := .string (x.extract 0 i ++ ⟨#[U8.toB y]⟩)) rfl (by kernel_rfl) (by kernel_rfl) (by kernel_rfl) (fun _ _ _ h => h) (Or.inl ⟨by rfl, by intro w; go_simp; omega⟩) ?_
                simp only [Act.put, List.getElem_toArray, List.getElem_cons_succ, List.getElem_cons_zero, List.setIfInBounds_toArray, List.set_cons_zero, List.set_cons_succ]
                refine wpAny_take (i := 16) (v := .string (x.extract 0 i ++ ⟨#[U8.toB y]⟩ ++ x.extract (i + 1) x.size)) rfl (by kernel_rfl) (by kernel_rfl) (by kernel_rfl) (fun _ _ _ h => h) (Or.inl ⟨by rfl, by intro w; go_simp; omega⟩) ?_
                simp only [Act.put, List.getElem_toArray, List.getElem_cons_succ, List.getElem_cons_zero, List.setIfInBounds_toArray, List.set_cons_zero, List.set_cons_succ]
                refine wpAny_ready (rs := [17]) (by kernel_rfl) (by simp) ?_
                refine AllReady.cons rfl (fun K hK => ?_) AllReady.nil
                try simp only [List.getElem_toArray, List.getElem_cons_succ, List.getElem_cons_zero]
                go_simp
                refine (HCW.out _ _ (by first | exact ((Below.refl _ _).drew).alloc (by exact Nat.le_refl _) _ | exact ((Below.refl _ _).alloc (Nat.le_refl _) _).drew | exact (Below.refl _ _).alloc (Nat.le_refl _) _) (HZ.out _)).mono ?_
                rintro e w6 ⟨rfl, h6⟩
                refine hK _ _ ?_
                clear hK K
                try simp only [Act.put, List.getElem_toArray, List.getElem_cons_succ, List.getElem_cons_zero, List.setIfInBounds_toArray, List.set_cons_zero, List.set_cons_succ]
                refine wpAny_take (i := 18) (v := .bool false) rfl (by kernel_rfl) (by kernel_rfl) (by kernel_rfl) (fun _ _ _ h => h) (Or.inl ⟨by rfl, by intro w; go_simp⟩) ?_
                simp only [Act.put, List.getElem_toArray, List.getElem_cons_succ, List.getElem_cons_zero, List.setIfInBounds_toArray, List.set_cons_zero, List.set_cons_succ]
                refine wpAny_take (i := 19) (v := .bool false) rfl (by kernel_rfl) (by kernel_rfl) (by kernel_rfl) (fun _ _ _ h => h) (Or.inl ⟨by rfl, by intro w; go_simp⟩) ?_
                simp only [Act.put, List.getElem_toArray, List.getElem_cons_succ, List.getElem_cons_zero, List.setIfInBounds_toArray, List.set_cons_zero, List.set_cons_succ]
                refine wpAny_done (by kernel_rfl) ?_ _
                have b6 : Below wr.heap.size wr w6 := (((Below.refl wr.heap.size wr).alloc (Nat.le_refl _) (.cells #[.int .u8 y] 5)).drew).trans (h6.mono (by show wr.heap.size ≤ (wr.alloc (.cells #[.int .u8 y] 5)).heap.size; simp))
                have HN := Lib.hid (show Below w.heap.size w w6 ∧ TextsK w6 w.heap.size 19 ∧ BytesK w6 bb 14 from ⟨HD.out.1.trans (b6.mono HD.out.1.size), HD.out.2.1.below b6, HD.out.2.2.below b6⟩)
                clear b6 h6
                go_wp2
                go_roundw
                case rel => exact ⟨c + 1, by go_num, by omega, HN⟩
                case measure => simp [intOf]; omega
              · have hix' : ¬ (i : Int) < (x.size : Int) := by omega
                go_wp2_with fail
                refine wp_region_any (by kernel_rfl) ?_
                try (change wpAny _ _ _ _ _ _ _ (World.drew _))
                refine wpAny_take (i := 0) (v := .int .i64 i) rfl (by kernel_rfl) (by kernel_rfl) (by kernel_rfl) (fun _ _ _ h => h) (Or.inl ⟨by rfl, by intro w; go_simp⟩) ?_
                simp only [Act.put, List.getElem_toArray, List.getElem_cons_zero, List.setIfInBounds_toArray, List.set_cons_zero, List.set_cons_succ]
                refine wpAny_take (i := 1) (v := .string x) rfl (by kernel_rfl) (by kernel_rfl) (by kernel_rfl) (fun _ _ _ h => h) (Or.inl ⟨by rfl, by intro w; go_simp⟩) ?_
                simp only [Act.put, List.getElem_toArray, List.getElem_cons_succ, List.getElem_cons_zero, List.setIfInBounds_toArray, List.set_cons_zero, List.set_cons_succ]
                refine wpAny_take (i := 2) (v := .int .i64 x.size) rfl (by kernel_rfl) (by kernel_rfl) (by kernel_rfl) (fun _ _ _ h => h) (Or.inl ⟨by rfl, by intro w; go_simp⟩) ?_
                simp only [Act.put, List.getElem_toArray, List.getElem_cons_succ, List.getElem_cons_zero, List.setIfInBounds_toArray, List.set_cons_zero, List.set_cons_succ]
                refine wpAny_take (i := 3) (v := .bool false) rfl (by kernel_rfl) (by kernel_rfl) (by kernel_rfl) (fun _ _ _ h => h) (Or.inl ⟨by rfl, by intro w; go_simp⟩) ?_
                simp only [Act.put, List.getElem_toArray, List.getElem_cons_succ, List.getElem_cons_zero, List.setIfInBounds_toArray, List.set_cons_zero, List.set_cons_succ]
                refine wpAny_take (i := 4) (v := .bool false) rfl (by kernel_rfl) (by kernel_rfl) (by kernel_rfl) (fun _ _ _ h => h) (Or.inl ⟨by rfl, by intro w; go_simp⟩) ?_
                simp only [Act.put, List.getElem_toArray, List.getElem_cons_succ, List.getElem_cons_zero, List.setIfInBounds_toArray, List.set_cons_zero, List.set_cons_succ]
                refine wpAny_take (i := 5) (v := undef) rfl (by kernel_rfl) (by kernel_rfl) (by kernel_rfl) (fun _ _ _ h => h) (Or.inr ⟨by simp [Region.wanted, yielded], rfl⟩) ?_
                simp only [Act.put, List.getElem_toArray, List.getElem_cons_succ, List.getElem_cons_zero, List.setIfInBounds_toArray, List.set_cons_zero, List.set_cons_succ]
                refine wpAny_take (i := 6) (v := undef) rfl (by kernel_rfl) (by kernel_rfl) (by kernel_rfl) (fun _ _ _ h => h) (Or.inr ⟨by simp [Region.wanted, yielded], rfl⟩) ?_
                simp only [Act.put, List.getElem_toArray, List.getElem_cons_succ, List.getElem_cons_zero, List.setIfInBounds_toArray, List.set_cons_zero, List.set_cons_succ]
                refine wpAny_take (i := 7) (v := undef) rfl (by kernel_rfl) (by kernel_rfl) (by kernel_rfl) (fun _ _ _ h => h) (Or.inr ⟨by simp [Region.wanted, yielded], rfl⟩) ?_
                simp only [Act.put, List.getElem_toArray, List.getElem_cons_succ, List.getElem_cons_zero, List.setIfInBounds_toArray, List.set_cons_zero, List.set_cons_succ]
                refine wpAny_take (i := 8) (v := undef) rfl (by kernel_rfl) (by kernel_rfl) (by kernel_rfl) (fun _ _ _ h => h) (Or.inr ⟨by simp [Region.wanted, yielded], rfl⟩) ?_
                simp only [Act.put, List.getElem_toArray, List.getElem_cons_succ, List.getElem_cons_zero, List.setIfInBounds_toArray, List.set_cons_zero, List.set_cons_succ]
                refine wpAny_take (i := 9) (v := undef) rfl (by kernel_rfl) (by kernel_rfl) (by kernel_rfl) (fun _ _ _ h => h) (Or.inr ⟨by simp [Region.wanted, yielded], rfl⟩) ?_
                simp only [Act.put, List.getElem_toArray, List.getElem_cons_succ, List.getElem_cons_zero, List.setIfInBounds_toArray, List.set_cons_zero, List.set_cons_succ]
                refine wpAny_take (i := 10) (v := undef) rfl (by kernel_rfl) (by kernel_rfl) (by kernel_rfl) (fun _ _ _ h => h) (Or.inr ⟨by simp [Region.wanted, yielded], rfl⟩) ?_
                simp only [Act.put, List.getElem_toArray, List.getElem_cons_succ, List.getElem_cons_zero, List.setIfInBounds_toArray, List.set_cons_zero, List.set_cons_succ]
                refine wpAny_take (i := 11) (v := undef) rfl (by kernel_rfl) (by kernel_rfl) (by kernel_rfl) (fun _ _ _ h => h) (Or.inr ⟨by simp [Region.wanted, yielded], rfl⟩) ?_
                simp only [Act.put, List.getElem_toArray, List.getElem_cons_succ, List.getElem_cons_zero, List.setIfInBounds_toArray, List.set_cons_zero, List.set_cons_succ]
                refine wpAny_take (i := 12) (v := undef) rfl (by kernel_rfl) (by kernel_rfl) (by kernel_rfl) (fun _ _ _ h => h) (Or.inr ⟨by simp [Region.wanted, yielded], rfl⟩) ?_
                simp only [Act.put, List.getElem_toArray, List.getElem_cons_succ, List.getElem_cons_zero, List.setIfInBounds_toArray, List.set_cons_zero, List.set_cons_succ]
                refine wpAny_take (i := 13) (v := undef) rfl (by kernel_rfl) (by kernel_rfl) (by kernel_rfl) (fun _ _ _ h => h) (Or.inr ⟨by simp [Region.wanted, yielded], rfl⟩) ?_
                simp only [Act.put, List.getElem_toArray, List.getElem_cons_succ, List.getElem_cons_zero, List.setIfInBounds_toArray, List.set_cons_zero, List.set_cons_succ]
                refine wpAny_take (i := 14) (v := undef) rfl (by kernel_rfl) (by kernel_rfl) (by kernel_rfl) (fun _ _ _ h => h) (Or.inr ⟨by simp [Region.wanted, yielded], rfl⟩) ?_
                simp only [Act.put, List.getElem_toArray, List.getElem_cons_succ, List.getElem_cons_zero, List.setIfInBounds_toArray, List.set_cons_zero, List.set_cons_succ]
                refine wpAny_take (i := 15) (v := undef) rfl (by kernel_rfl) (by kernel_rfl) (by kernel_rfl) (fun _ _ _ h => h) (Or.inr ⟨by simp [Region.wanted, yielded], rfl⟩) ?_
                simp only [Act.put, List.getElem_toArray, List.getElem_cons_succ, List.getElem_cons_zero, List.setIfInBounds_toArray, List.set_cons_zero, List.set_cons_succ]
                refine wpAny_take (i := 16) (v := undef) rfl (by kernel_rfl) (by kernel_rfl) (by kernel_rfl) (fun _ _ _ h => h) (Or.inr ⟨by simp [Region.wanted, yielded], rfl⟩) ?_
                simp only [Act.put, List.getElem_toArray, List.getElem_cons_succ, List.getElem_cons_zero, List.setIfInBounds_toArray, List.set_cons_zero, List.set_cons_succ]
                refine wpAny_take (i := 17) (v := undef) rfl (by kernel_rfl) (by kernel_rfl) (by kernel_rfl) (fun _ _ _ h => h) (Or.inr ⟨by simp [Region.wanted, yielded], rfl⟩) ?_
                simp only [Act.put, List.getElem_toArray, List.getElem_cons_succ, List.getElem_cons_zero, List.setIfInBounds_toArray, List.set_cons_zero, List.set_cons_succ]
                refine wpAny_take (i := 18) (v := undef) rfl (by kernel_rfl) (by kernel_rfl) (by kernel_rfl) (fun _ _ _ h => h) (Or.inr ⟨by simp [Region.wanted, yielded], rfl⟩) ?_
                simp only [Act.put, List.getElem_toArray, List.getElem_cons_succ, List.getElem_cons_zero, List.setIfInBounds_toArray, List.set_cons_zero, List.set_cons_succ]
                refine wpAny_take (i := 19) (v := .bool false) rfl (by kernel_rfl) (by kernel_rfl) (by kernel_rfl) (fun _ _ _ h => h) (Or.inl ⟨by rfl, by intro w; go_simp⟩) ?_
                simp only [Act.put, List.getElem_toArray, List.getElem_cons_succ, List.getElem_cons_zero, List.setIfInBounds_toArray, List.set_cons_zero, List.set_cons_succ]
                refine wpAny_done (by kernel_rfl) ?_ _
                have HN := Lib.hid (show Below w.heap.size w wr.drew ∧ TextsK wr.drew w.heap.size 19 ∧ BytesK wr.drew bb 14 from ⟨HD.out.1.drew, HD.out.2.1.below (Below.refl _ _).drew, HD.out.2.2.below (Below.refl _ _).drew⟩)
                go_wp2
                go_roundw
                case rel => exact ⟨c + 1, by go_num, by omega, HN⟩
                case measure => simp [intOf]; omega
            · have hcl' : ¬ (c : Int) < 14 := by omega
              have HN := Lib.hid (And.intro HD.out.1 HD.out.2.1)
              go_wp2
              go_roundw
              case rel => exact ⟨i + 1, by go_num, by omega, HN⟩
              case measure => simp [intOf]; omega
        · have hil' : ¬ (i : Int) ≤ (x.size : Int) := by omega
          go_wp2
          go_roundw
          case rel => exact ⟨a + 1, by go_num, by omega, HS⟩
          case measure => simp [intOf]; omega
    · have hlt' : ¬ (a : Int) < 19 := by omega
      have HR2 := Lib.hid HR.out.1
      go_wp2
      obtain ⟨wo, rfl⟩ : ∃ wo : World, wo = wr := ⟨_, rfl⟩
      go_loopw [6, 7] (fun u v wr => ∃ (L : ByteArray) (n : Nat), u = .string L ∧ v = .int .i64 n ∧ n ≤ 34 ∧ Hid (L.size ≤ 2 + 6 * n ∧ Below w.heap.size w wr)) (fun _ v _ => 34 - (intOf v).toNat)
      case atStart => exact ⟨_, 0, rfl, rfl, by omega, Lib.hid ⟨by decide, HR2.out⟩⟩
      case round =>
        obtain ⟨L, n, rfl, rfl, hn, HL⟩ := hrel
        by_cases hln : n < 34
        · have hln' : (n : Int) < 34 := by omega
          have TM0 := Lib.hid (And.intro (TM.out.1.below HL.out.2 (Nat.le_refl _)) (TM.out.2.below HL.out.2))
          have B0 := Lib.hid (Below.refl wr.heap.size wr)
          have hL : L.size ≤ 300 := by have := HL.out.1; omega
          have HX := Lib.hid (show (L ++ ⟨#[62]⟩).size ≤ 400 ∧ (L ++ ⟨#[32, 122, 61, 39, 38, 39, 47, 62]⟩).size ≤ 400 ∧ ∀ b, (L ++ ⟨#[32, 98, 61, 39]⟩ ++ ⟨#[b]⟩ ++ ⟨#[39]⟩).size ≤ 2 + 6 * (n + 1) from by
            have := HL.out.1
            refine ⟨?_, ?_, fun b => ?_⟩
            · rw [ByteArray.size_append, show (ByteArray.mk #[62]).size = 1 from rfl]; omega
            · rw [ByteArray.size_append, show (ByteArray.mk #[32, 122, 61, 39, 38, 39, 47, 62]).size = 8 from rfl]; omega
            · rw [ByteArray.size_append, ByteArray.size_append, ByteArray.size_append, show (ByteArray.mk #[32, 98, 61, 39]).size = 4 from rfl, show (ByteArray.mk #[b]).size = 1 from rfl, show (ByteArray.mk #[39]).size = 1 from rfl]; omega)
          have k1 := conv1
          go_wp2_with fail
          refine (HC.out _ _ TM0.out.1 TM0.out.2 (size_k HX.out.1 (by omega))).mono ?_
          rintro e w1 ⟨rfl, h1⟩
          have B1 := Lib.hid (B0.out.trans (h1.mono B0.out.size))
          have TM1 := Lib.hid (And.intro (TM0.out.1.below h1 (Nat.le_refl _)) (TM0.out.2.below h1))
          clear h1
          go_wp2_with fail
          refine (HC.out _ _ TM1.out.1 TM1.out.2 (size_k HX.out.2.1 (by omega))).mono ?_
          rintro e w2 ⟨rfl, h2⟩
          have B2 := Lib.hid (B1.out.trans (h2.mono B1.out.size))
          have TM2 := Lib.hid (And.intro (TM1.out.1.below h2 (Nat.le_refl _)) (TM1.out.2.below h2))
          clear h2
          go_wp2
          refine ⟨⟨_, n + 1, rfl, by go_num, by omega, Lib.hid ⟨HX.out.2.2 _, (HL.out.2.trans (B2.out.mono HL.out.2.size)).alloc (HL.out.2.trans (B2.out.mono HL.out.2.size)).size _⟩⟩, ?_⟩
          simp [intOf]
          omega
        · have hln' : ¬ (n : Int) < 34 := by omega
          have TM0 := Lib.hid (And.intro (TM.out.1.below HL.out.2 (Nat.le_refl _)) (TM.out.2.below HL.out.2))
          obtain ⟨Z, hZ, kz⟩ := made_zeros 65537 (by decide)
          obtain ⟨Wz, m1, m2, m3⟩ := kz wr
          have m1' : (Instr.makeSlice 51 (.int .i64 65537) (.int .i64 65537)).run Tryz.prog wr = .ok (.slice (some ⟨wr.heap.size, 0, none⟩) 65537 65537) Wz := m1
          have HZ := Lib.hid hZ
          have B0 := Lib.hid (HL.out.2.trans (m3.mono HL.out.2.size))
          have TM0 := Lib.hid (And.intro (TM.out.1.below B0.out (Nat.le_refl _)) (TM.out.2.below B0.out))
          clear hZ kz m1 m3
          go_wp2_with fail
          refine (HC.out Z _ TM0.out.1 TM0.out.2 (size_k (n := 65537) (Nat.le_of_eq HZ.out) (by omega))).mono ?_
          rintro e w1 ⟨rfl, h1⟩
          have B1 := Lib.hid (B0.out.trans (h1.mono B0.out.size))
          obtain ⟨W2, hW2⟩ : ∃ W2, W2 = (w1.alloc (.cells #[.string ⟨#[120]⟩, .string ⟨#[34, 60, 10]⟩] 38)).alloc (.cells (cellsK w1.heap.size) 42) := ⟨_, rfl⟩
          have hs1 : (w1.alloc (.cells #[.string ⟨#[120]⟩, .string ⟨#[34, 60, 10]⟩] 38)).heap.size = w1.heap.size + 1 := by simp
          have B2 := Lib.hid (show Below w.heap.size w W2 from by rw [hW2]; exact (B1.out.alloc B1.out.size _).alloc (by have := B1.out.size; omega) _)
          have HRD := Lib.hid (show ReadsPt W2 W2.heap.size (some ⟨w1.heap.size + 1, 0, none⟩) (partsK w1.heap.size) from by
            refine readsK (by rw [hW2]; simp <;> omega) (by rw [hW2]; simp <;> omega) (fun j u hu => ?_) ?_ ?_
            · rw [hW2, ← hs1]; exact new_cellK _ _ _ j hu
            · rw [hW2]; exact (World.cell?_alloc_lt _ _ _ (by simp)).trans (new_cellK _ _ _ 0 rfl)
            · rw [hW2]; exact (World.cell?_alloc_lt _ _ _ (by simp)).trans (new_cellK _ _ _ 1 rfl))
          have HW2 := Lib.hid hW2
          have TM2 := Lib.hid (And.intro (TM.out.1.below B2.out (Nat.le_refl _)) (TM.out.2.below B2.out))
          clear hW2 h1 hs1 m1' m2
          unfold cellsK at HW2
          go_wp2_with fail
          try rw [← HW2.out]
          refine (lawBack (some ⟨w1.heap.size + 1, 0, none⟩) 5 (partsK w1.heap.size) W2 TM2.out.1 TM2.out.2 HRD.out).mono ?_
          rintro e w3 ⟨rfl, h3⟩
          have B3 := Lib.hid (B2.out.trans (h3.mono B2.out.size))
          clear h3
          go_wp2_with fail
          refine (HWK.out _ (TM.out.1.below B3.out (Nat.le_refl _)) (TM.out.2.below B3.out)).mono ?_
          rintro e w9 ⟨rfl, h9⟩
          have B9 := Lib.hid (B3.out.trans (h9.mono B3.out.size))
          clear h9
          go_wp2
          go_ret
          exact ⟨rfl, B9.out⟩
end Go.Proofs.YtpdoegafjfhiiaaGreatDoor
