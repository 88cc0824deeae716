/- The closed statement LexKnown, walked: it answers true. Condition: the table of signs holds what its text lays. -/
import Derived.Test.YtbihkigpmgipcaaDoorLxIs
import Derived.Test.YtbihkigpmgipcaaDoorLxFrame2
import Derived.Test.YtbihkigpmgipcaaDoorLxPlaces
import Derived.Laws.BytesArg
namespace Go.Proofs.YtbihkigpmgipcaaDoor
open Go.RowKit

def partsB : List ByteArray := [⟨#[97]⟩, ⟨#[49]⟩, ⟨#[95]⟩, ⟨#[58]⟩, ⟨#[61]⟩, ⟨#[60]⟩, ⟨#[62]⟩, ⟨#[45]⟩, ⟨#[45, 45]⟩, ⟨#[10]⟩, ⟨#[32]⟩, ⟨#[105, 102]⟩, ⟨#[101, 109, 105, 116]⟩, ⟨#[59]⟩, ⟨#[33]⟩, ⟨#[90, 57]⟩, ⟨#[13]⟩]
theorem parts_le : ∀ x ∈ partsB, x.size ≤ 4 := by decide
structure Kx (w x : World) : Prop where
  below : Below w.heap.size w x
  sg : Sg x
  st : ∀ j, j < 17 → ∃ s : ByteArray, x.cell? ⟨w.heap.size, j, none⟩ = some (.string s) ∧ s.size ≤ 4
theorem Kx.step {w x y : World} (h : Kx w x) (hb : Below x.heap.size x y) : Kx w y := ⟨h.below.trans (hb.mono h.below.size), h.sg.below hb (Nat.le_refl _), fun j hj => by
  obtain ⟨s, h1, h2⟩ := h.st j hj
  exact ⟨s, cell_below hb (Nat.le_refl _) h1, h2⟩⟩
theorem Kx.new (w : World) (h : Sg w) : Kx w (w.alloc (.cells (partsB.map Value.string).toArray 9)) :=
  ⟨(Below.refl _ _).alloc (Nat.le_refl _) _, h.below ((Below.refl w.heap.size w).alloc (Nat.le_refl _) _) (Nat.le_refl _), fun j hj => by
    have hl : j < partsB.length := hj
    refine ⟨partsB[j], ?_, parts_le _ (List.getElem_mem hl)⟩
    rw [World.cell?_alloc_mark w _ 9 (0, 0) j, List.getElem?_toArray, List.getElem?_map, List.getElem?_eq_getElem hl]; rfl⟩
theorem sz_any (s : ByteArray) (h : s.size ≤ 100000) : s.size ≤ maxLen := by unfold maxLen; omega
theorem size_append (a b : ByteArray) : (a ++ b).size = a.size + b.size := ByteArray.size_append
def lxB (x : Int) : UInt8 := x.toNat.toUInt8
/-- string([]byte{..}) of a row that was just made. -/
theorem conv_new (w : World) (xs : List Int) (cap : Nat) :
    (convert 42 9 (.slice (some ⟨w.heap.size, 0, none⟩) xs.length cap)).run Tryd.prog (w.alloc (.cells (xs.map (Value.int .u8)).toArray 5)) = .ok (.string ⟨(xs.map lxB).toArray⟩) (w.alloc (.cells (xs.map (Value.int .u8)).toArray 5)) := by
  have h := run_convert_bytes_arg (P := Tryd.prog) (w.alloc (.cells (xs.map (Value.int .u8)).toArray 5)) 42 5 Tryd.underlying42 Tryd.underlying5 w.heap.size 0 xs.length cap xs rfl (fun i hi => by
    have := World.cell?_alloc_mark w (xs.map (Value.int .u8)).toArray 5 (0, 0) (0 + i)
    rw [this]
    simp [hi]) 9 Tryd.underlying9
  exact h
theorem conv1 (w : World) (a : Int) : (convert 42 9 (.slice (some ⟨w.heap.size, 0, none⟩) 1 1)).run Tryd.prog (w.alloc (.cells #[.int .u8 a] 5)) = .ok (.string ⟨#[lxB a]⟩) (w.alloc (.cells #[.int .u8 a] 5)) := conv_new w [a] 1
theorem below_of_grown {B : Nat} {w w' : World} {r : Option Nat} (h : w.grownBy w' r) (hB : B ≤ w.heap.size) (hr : ∀ k, r = some k → B ≤ k) : Below B w w' := (Below.refl B w).grown h hB hr
theorem own_cell {w : World} {B : Nat} {e : TypeId} {size g n cap : Nat} {xs : List Value} (h : w.ownsRow B e size (.slice (some ⟨g, 0, none⟩) n cap) n xs) {j : Nat} {u : Value} (hu : xs[j]? = some u) : w.cell? ⟨g, j, none⟩ = some u := by
  have := h.cells (g := g) rfl j u hu
  have hadd : (⟨g, 0, none⟩ : Addr).add j = ⟨g, j, none⟩ := by unfold Addr.add; split <;> simp_all
  rwa [hadd] at this
theorem infoU8 : (Tryd.prog.info? 5).map (fun i => (i.zero, i.size, i.bytes)) = some (some (.int .u8 0), 1, 1) := by kernel_rfl
theorem made_at (n j : Nat) (h : j < n) : (madeCells (Value.int .u8 0).cells (n * 1)).toList[j]? = some (.int .u8 0) := by
  unfold madeCells
  simp [h, Value.cells, Nat.mod_one]
theorem made_zeros (n : Nat) (hn : n ≤ 16777216) : ∃ Z : ByteArray, Z.size = n ∧ ∀ w : World, ∃ W, (Instr.makeSlice 42 (.int .i64 (n : Int)) (.int .i64 (n : Int))).run Tryd.prog w = .ok (.slice (some ⟨w.heap.size, 0, none⟩) n n) W ∧
    (convert 42 9 (.slice (some ⟨w.heap.size, 0, none⟩) n n)).run Tryd.prog W = .ok (.string Z) W ∧ Below w.heap.size w W := by
  refine ⟨⟨((List.replicate n (0 : Int)).map lxB).toArray⟩, ?_, fun w => ?_⟩
  · show (((List.replicate n (0 : Int)).map lxB).toArray).size = n
    simp
  · obtain ⟨i0, hi, hz0, hz1, hz2⟩ := info_parts infoU8
    obtain ⟨W, hr, how, hg⟩ := run_makeSlice_full (P := Tryd.prog) w w.heap.size 42 5 i0 _ 1 Tryd.underlying42 hi hz0 hz1 .i64 .i64 n (by omega) (by rw [hz2]; omega) (by unfold maxLen; omega) (Nat.le_refl _)
    refine ⟨W, hr, ?_, below_of_grown hg (Nat.le_refl _) (fun k hk => by cases hk)⟩
    have h := run_convert_bytes_arg (P := Tryd.prog) W 42 5 Tryd.underlying42 Tryd.underlying5 w.heap.size 0 n n (List.replicate n 0) (by simp) (fun i hi => by
      rw [Nat.zero_add, own_cell how (made_at n i hi)]
      simp [hi]) 9 Tryd.underlying9
    exact h
theorem is_one (s : ByteArray) (K P : Int) (T : ByteArray) (w : World) (h : Sg w) : Calls Tryd.prog 4 #[.string s, .slice (some ⟨w.heap.size, 0, none⟩) 1 1] (w.alloc (.cells #[.int .u8 K, .string T, .int .i64 P] 32)) fun e w' => e = .returned (.bool true) ∧ Below w.heap.size w w' := by
  have hb : Below w.heap.size w (w.alloc (.cells #[.int .u8 K, .string T, .int .i64 P] 32)) := (Below.refl _ _).alloc (Nat.le_refl _) _
  refine (lexIs_any s (some ⟨w.heap.size, 0, none⟩) 1 [⟨K, T, P⟩] _ (h.below hb (Nat.le_refl _)) (fun _ => ⟨w.heap.size, 0, rfl, by simp, fun j hj => ?_⟩) (Nat.le_refl _)).mono fun e w' q => ⟨q.1, hb.trans (q.2.mono hb.size)⟩
  obtain rfl : j = 0 := by simp at hj; omega
  exact ⟨cells_new _ [_, _, _] _ 0 _ rfl, cells_new _ [_, _, _] _ 1 _ rfl, cells_new _ [_, _, _] _ 2 _ rfl⟩
theorem is_nil (s : ByteArray) (w : World) (h : Sg w) : Calls Tryd.prog 4 #[.string s, .slice none 0 0] w fun e w' => e = .returned (.bool true) ∧ Below w.heap.size w w' :=
  lexIs_any s none 0 [] w h (fun h => absurd h (by simp)) (Nat.le_refl _)
set_option maxHeartbeats 8000000 in
set_option maxRecDepth 100000 in
theorem known_any (w : World) (hI : Sg w) :
    Calls Tryd.prog 8 #[] w fun e w' => e = .returned (.bool true) ∧ Below w.heap.size w w' := by
  have HC := Lib.hid (fun s w0 (h0 : Sg w0) (hs : s.size ≤ 100000) => cuts_any kind7 s w0 (sz_any s hs) h0)
  have HP := Lib.hid (fun s w0 (h0 : Sg w0) (hs : s.size ≤ 100000) => places_any kind7 s w0 (sz_any s hs) h0)
  have HB := Lib.hid (fun s w0 (h0 : Sg w0) (hs : s.size ≤ 100000) => back_any kind7 showC s w0 (sz_any s hs) h0)
  have HQ := Lib.hid (fun s t w0 (h0 : Sg w0) (hs : s.size ≤ 100000) (ht : t.size ≤ 100000) => pieces_any kind7 s t w0 (sz_any s hs) (sz_any t ht) h0)
  have HK0 := Lib.hid (Kx.new w hI)
  clear hI
  go_enter Tryd.func8, Tryd.ntmps8
  go_wp2
  go_loopw [2] (fun v wr => ∃ i : Nat, v = .int .i64 i ∧ i ≤ 17 ∧ Hid (Kx w wr)) (fun v _ => 17 - (intOf v).toNat)
  case atStart => exact ⟨0, rfl, by omega, HK0⟩
  case round =>
    obtain ⟨i, rfl, hi, HI⟩ := hrel
    clear HK0
    by_cases hlt : i < 17
    · have hlt' : (i : Int) < 17 := by omega
      go_wp2
      go_loopw [3] (fun v wr => ∃ j : Nat, v = .int .i64 j ∧ j ≤ 17 ∧ Hid (Kx w wr)) (fun v _ => 17 - (intOf v).toNat)
      case atStart => exact ⟨0, rfl, by omega, HI⟩
      case round =>
        obtain ⟨j, rfl, hj, HJ⟩ := hrel
        clear HI
        by_cases hjt : j < 17
        · have hjt' : (j : Int) < 17 := by omega
          go_wp2
          go_loopw [4] (fun v wr => ∃ k : Nat, v = .int .i64 k ∧ k ≤ 17 ∧ Hid (Kx w wr)) (fun v _ => 17 - (intOf v).toNat)
          case atStart => exact ⟨0, rfl, by omega, HJ⟩
          case round =>
            obtain ⟨k, rfl, hk, HK⟩ := hrel
            clear HJ
            by_cases hkt : k < 17
            · have hkt' : (k : Int) < 17 := by omega
              obtain ⟨X, hX, hXs⟩ := HK.out.st i hlt
              obtain ⟨Y, hY, hYs⟩ := HK.out.st j hjt
              obtain ⟨Z, hZ, hZs⟩ := HK.out.st k hkt
              have n1 : X.size + Y.size ≤ 9223372036854775807 := by omega
              have n2 : (X ++ Y).size + Z.size ≤ 9223372036854775807 := by rw [size_append]; omega
              have HS := Lib.hid (show (X ++ Y ++ Z).size ≤ 100000 by rw [size_append, size_append]; omega)
              by_cases h3 : k % 3 = 0
              · have h3a : ((k : Int).tmod 3 == 0) = true := by rw [Int.tmod_eq_emod_of_nonneg (by omega)]; simp; omega
                go_wp2_with fail
                go_quiet (fail)
                go_wp2_with fail
                have HKd := Lib.hid (HK.out.step (lx_drewN (Below.refl wr.heap.size wr) nq))
                clear HK
                have HK := HKd
                clear HKd hX hY hZ
                refine (HC.out _ _ HK.out.sg HS.out).mono ?_
                rintro e wn ⟨rfl, h1⟩
                have HKn := Lib.hid (HK.out.step h1)
                clear h1 HK
                have HK := HKn
                clear HKn
                go_wp2_with fail
                refine (HP.out _ _ HK.out.sg HS.out).mono ?_
                rintro e wn ⟨rfl, h1⟩
                have HKn := Lib.hid (HK.out.step h1)
                clear h1 HK
                have HK := HKn
                clear HKn
                go_wp2_with fail
                refine (HB.out _ _ HK.out.sg HS.out).mono ?_
                rintro e wn ⟨rfl, h1⟩
                have HKn := Lib.hid (HK.out.step h1)
                clear h1 HK
                have HK := HKn
                clear HKn
                obtain ⟨Y2, hY2, hY2s⟩ := HK.out.st j hjt
                go_wp2_with fail
                refine (HQ.out _ _ _ HK.out.sg HS.out (by omega)).mono ?_
                rintro e wn ⟨rfl, h1⟩
                have HKn := Lib.hid (HK.out.step h1)
                clear h1 HK
                have HK := HKn
                clear HKn
                go_wp2
                refine ⟨⟨k + 1, by go_num, by omega, HK⟩, ?_⟩
                simp [intOf]; omega
              · have h3a : ((k : Int).tmod 3 == 0) = false := by rw [Int.tmod_eq_emod_of_nonneg (by omega)]; simp; omega
                go_wp2_with fail
                go_quiet (fail)
                go_wp2_with fail
                have HKd := Lib.hid (HK.out.step (lx_drewN (Below.refl wr.heap.size wr) nq))
                clear HK
                have HK := HKd
                clear HKd hX hY hZ
                refine (HC.out _ _ HK.out.sg HS.out).mono ?_
                rintro e wn ⟨rfl, h1⟩
                have HKn := Lib.hid (HK.out.step h1)
                clear h1 HK
                have HK := HKn
                clear HKn
                go_wp2_with fail
                refine (HP.out _ _ HK.out.sg HS.out).mono ?_
                rintro e wn ⟨rfl, h1⟩
                have HKn := Lib.hid (HK.out.step h1)
                clear h1 HK
                have HK := HKn
                clear HKn
                go_wp2
                refine ⟨⟨k + 1, by go_num, by omega, HK⟩, ?_⟩
                simp [intOf]; omega
            · have hkt' : ¬ (k : Int) < 17 := by omega
              go_wp2
              go_roundw
              case rel => exact ⟨j + 1, by go_num, by omega, HK⟩
              case measure => simp [intOf]; omega
        · have hjt' : ¬ (j : Int) < 17 := by omega
          go_wp2
          go_roundw
          case rel => exact ⟨i + 1, by go_num, by omega, HJ⟩
          case measure => simp [intOf]; omega
    · have hlt' : ¬ (i : Int) < 17 := by omega
      clear HP HB HQ
      have HI1 := Lib.hid is_one
      have HI2 := Lib.hid is_nil
      go_wp2
      go_loopw [6] (fun v wr => ∃ a : Nat, v = .int .i64 a ∧ a ≤ 256 ∧ Hid (Kx w wr)) (fun v _ => 256 - (intOf v).toNat)
      case atStart => exact ⟨0, rfl, by omega, HI⟩
      case round =>
        obtain ⟨a, rfl, ha, HK⟩ := hrel
        clear HI
        by_cases hat : a < 256
        · have hat' : (a : Int) < 256 := by omega
          obtain ⟨W2, hW2⟩ : ∃ W2, W2 = wr.alloc (.cells #[.int .u8 (a : Int)] 5) := ⟨_, rfl⟩
          have HKd := Lib.hid (show Kx w W2 from hW2 ▸ HK.out.step ((Below.refl _ _).alloc (Nat.le_refl _) _))
          have k1 := conv1 wr (a : Int)
          rw [← hW2] at k1
          obtain ⟨T, hT⟩ : ∃ T : ByteArray, T = ⟨#[lxB (a : Int)]⟩ := ⟨_, rfl⟩
          rw [← hT] at k1
          have hTs : T.size = 1 := by rw [hT]; rfl
          have hz6 : 0 ≤ (a : Int) % 6 ∧ (a : Int) % 6 < 6 := by omega
          have HTS := Lib.hid hTs
          clear HK hT
          have HK := HKd
          clear HKd
          go_wp2_with fail
          rw [← hW2, k1]
          simp only [Result.andThen]
          rw [Oper.upon_value]
          have hsa : (⟨#[97]⟩ ++ T : ByteArray).size ≤ 9223372036854775807 := by rw [size_append, hTs]; decide
          go_wp2_with fail
          rw [← hW2]
          refine (HC.out _ _ HK.out.sg (by rw [size_append, size_append, hTs]; decide)).mono ?_
          rintro e wn ⟨rfl, h1⟩
          have HKn := Lib.hid (HK.out.step h1)
          clear h1 HK
          have HK := HKn
          clear HKn
          clear hW2 k1
          go_wp2_with fail
          refine (HI1.out _ _ _ _ _ HK.out.sg).mono ?_
          rintro e wn ⟨rfl, h1⟩
          have HKn := Lib.hid (HK.out.step h1)
          clear h1 HK
          have HK := HKn
          clear HKn
          go_wp2_with fail
          refine (HI2.out _ _ HK.out.sg).mono ?_
          rintro e wn ⟨rfl, h1⟩
          have HKn := Lib.hid (HK.out.step h1)
          clear h1 HK
          have HK := HKn
          clear HKn
          go_wp2
          go_roundw
          case rel => exact ⟨a + 1, by go_num, by omega, HK⟩
          case measure => simp [intOf]; omega
        · have hat' : ¬ (a : Int) < 256 := by omega
          clear hat
          go_wp2
          go_loopw [8, 9] (fun u v wr => ∃ (n : Nat) (X : ByteArray), u = .string X ∧ v = .int .i64 n ∧ n ≤ 66 ∧ X.size = n ∧ Hid (Kx w wr)) (fun _ v _ => 66 - (intOf v).toNat)
          case atStart => exact ⟨0, ⟨#[]⟩, rfl, rfl, by omega, rfl, HK⟩
          case round =>
            clear HK
            obtain ⟨n, X, rfl, rfl, hn, hX, HK⟩ := hrel
            by_cases hnt : n < 66
            · have hnt' : (n : Int) < 66 := by omega
              have hYs : (X ++ ⟨#[120]⟩ : ByteArray).size = n + 1 := by rw [size_append, hX]; rfl
              have hs0 : X.size + 1 ≤ 9223372036854775807 := by omega
              have hs1 : (X ++ ⟨#[120]⟩ : ByteArray).size + 2 ≤ 9223372036854775807 := by omega
              have hs2 : 1 + (X ++ ⟨#[120]⟩ : ByteArray).size ≤ 9223372036854775807 := by omega
              have HYS := Lib.hid hYs
              clear hYs
              by_cases h60 : n > 60
              · have h60' : (n : Int) > 60 := by omega
                go_wp2_with fail
                refine (HC.out _ _ HK.out.sg (by rw [size_append, HYS.out]; have h32 : (ByteArray.mk #[32, 49]).size = 2 := rfl; omega)).mono ?_
                rintro e wn ⟨rfl, h1⟩
                have HKn := Lib.hid (HK.out.step h1)
                clear h1 HK
                have HK := HKn
                clear HKn
                go_wp2_with fail
                refine (HC.out _ _ HK.out.sg (by rw [size_append, HYS.out]; have h32 : (ByteArray.mk #[49]).size = 1 := rfl; omega)).mono ?_
                rintro e wn ⟨rfl, h1⟩
                have HKn := Lib.hid (HK.out.step h1)
                clear h1 HK
                have HK := HKn
                clear HKn
                go_wp2_with fail
                refine (HI1.out _ _ _ _ _ HK.out.sg).mono ?_
                rintro e wn ⟨rfl, h1⟩
                have HKn := Lib.hid (HK.out.step h1)
                clear h1 HK
                have HK := HKn
                clear HKn
                go_wp2
                refine ⟨⟨n + 1, _, rfl, by go_num, by omega, HYS.out, HK⟩, ?_⟩
                simp [intOf]; omega
              · have h60' : ¬ (n : Int) > 60 := by omega
                go_wp2
                refine ⟨⟨n + 1, _, rfl, by go_num, by omega, HYS.out, HK⟩, ?_⟩
                simp [intOf]; omega
            · have hnt' : ¬ (n : Int) < 66 := by omega
              obtain ⟨Z, hZ, kz⟩ := made_zeros 65537 (by decide)
              obtain ⟨Wz, m1, m2, m3⟩ := kz wr
              have m1' : (Instr.makeSlice 42 (.int .i64 65537) (.int .i64 65537)).run Tryd.prog wr = .ok (.slice (some ⟨wr.heap.size, 0, none⟩) 65537 65537) Wz := m1
              have HZ := Lib.hid hZ
              have HKn := Lib.hid (HK.out.step m3)
              have HWK := Lib.hid (fun w0 (h0 : Sg w0) => works_any kind7 w0 h0)
              clear hZ kz m1 m3 HK hnt hX
              have HK := HKn
              clear HKn
              go_wp2_with fail
              refine (HC.out Z _ HK.out.sg (by rw [HZ.out]; decide)).mono ?_
              rintro e wn ⟨rfl, h1⟩
              have HKn := Lib.hid (HK.out.step h1)
              clear h1 HK
              have HK := HKn
              clear HKn
              clear m1' m2
              go_wp2_with fail
              refine (HC.out _ _ HK.out.sg (by decide)).mono ?_
              rintro e wn ⟨rfl, h1⟩
              have HKn := Lib.hid (HK.out.step h1)
              clear h1 HK
              have HK := HKn
              clear HKn
              go_wp2_with fail
              refine (HI1.out _ _ _ _ _ HK.out.sg).mono ?_
              rintro e wn ⟨rfl, h1⟩
              have HKn := Lib.hid (HK.out.step h1)
              clear h1 HK
              have HK := HKn
              clear HKn
              go_wp2_with fail
              refine (HWK.out _ HK.out.sg).mono ?_
              rintro e wn ⟨rfl, h1⟩
              have HKn := Lib.hid (HK.out.step h1)
              clear h1 HK
              have HK := HKn
              clear HKn
              go_wp2
              go_ret
              exact ⟨rfl, HK.out.below⟩
end Go.Proofs.YtbihkigpmgipcaaDoor
