/- The closed statement NumKnown, walked: it answers true. Conditions: the listed table and the sentinel hold what their texts lay. -/
import Derived.Test.YtbeoobgnpcbnnaaDoorNuLaw
import Derived.Test.YtbeoobgnpcbnnaaDoorNuBack
import Derived.Deep.RegionHeld3
namespace Go.Proofs.YtbeoobgnpcbnnaaDoor
open Go.RowKit

def knl : List Int := [-9223372036854775808, -9223372036854775807, -4611686018427387904, -3037000500, -3037000499, -4294967296, -10, -7, -2, -1, 0, 1, 2, 3, 7, 10, 4294967295, 4294967296, 3037000499, 3037000500, 4611686018427387904, 9223372036854775806, 9223372036854775807]
theorem knl_fits : ∀ a ∈ knl, Nu.fits a := by decide
structure Kn (w x : World) : Prop where
  below : Below w.heap.size w x
  tb : Tb x
  rz : RzI x (some ⟨w.heap.size, 0, none⟩) knl
theorem Kn.step {w x y : World} (h : Kn w x) (hb : Below x.heap.size x y) : Kn w y := ⟨h.below.trans (hb.mono h.below.size), h.tb.below hb (Nat.le_refl _), h.rz.below hb⟩
theorem Kn.drew {w x : World} (h : Kn w x) : Kn w x.drew := h.step (Below.refl _ _).drew
theorem Kn.alloc {w x : World} (h : Kn w x) (o : Obj) : Kn w (x.alloc o) := h.step ((Below.refl _ _).alloc (Nat.le_refl _) o)
theorem Kn.cell {w x : World} (h : Kn w x) {i : Nat} {a : Int} (ha : knl[i]? = some a) : x.cell? ⟨w.heap.size, i, none⟩ = some (.int .i64 a) := by
  obtain ⟨hj, e⟩ := List.getElem?_eq_some_iff.1 ha
  obtain ⟨g, o, h1, _, h3⟩ := h.rz i hj
  injection h1 with h1
  injection h1 with h1 h2
  subst h1 h2
  rw [Nat.zero_add, e] at h3
  exact h3
theorem kn_fits {i : Nat} {a : Int} (ha : knl[i]? = some a) : Nu.fits a := knl_fits a (List.mem_of_getElem? ha)
def KnT (w : World) (v : Value) (e : Ending) (w' : World) : Prop := e = .returned v ∧ Kn w w'
theorem kn_reckons {w w0 : World} (h : Kn w w0) {a b : Int} (ha : Nu.fits a) (hb : Nu.fits b) : Calls Tryd.prog 3 #[.int .i64 a, .int .i64 b] w0 (KnT w (.bool true)) := (lawReckons a b w0 h.tb ha hb).mono fun _ _ q => ⟨q.1, h.step q.2⟩
theorem kn_back {w w0 : World} (h : Kn w w0) {a b : Int} {s : ByteArray} (ha : Nu.fits a) (hb : Nu.fits b) : Calls Tryd.prog 6 #[.int .i64 a, .int .i64 b, .string s] w0 (KnT w (.bool true)) := (lawBack a b s w0 h.tb ha hb).mono fun _ _ q => ⟨q.1, h.step q.2⟩
theorem kn_texts {w w0 : World} (h : Kn w w0) {a : Int} {s : ByteArray} (ha : Nu.fits a) : Calls Tryd.prog 5 #[.string s, .int .i64 a] w0 (KnT w (.bool true)) := (lawTexts s a w0 h.tb ha).mono fun _ _ q => ⟨q.1, h.step q.2⟩
theorem kn_put {w w0 : World} (h : Kn w w0) {a : Int} (ha : Nu.fits a) : Calls Tryd.prog 25 #[.int .i64 a] w0 (KnT w (.string ⟨(Lib.itoa a).toArray⟩)) := (put_any a w0 h.tb ha).mono fun _ _ q => ⟨q.1, h.step q.2⟩
theorem kn_sums {w w0 : World} (h : Kn w w0) {a b : Int} (ha : Nu.fits a) (hb : Nu.fits b) : Calls Tryd.prog 4 #[.slice (some ⟨w0.heap.size, 0, none⟩) 3 3] (w0.alloc (.cells #[.int .i64 a, .int .i64 b, .int .i64 a] 2)) (KnT w (.bool true)) :=
  (lawSums (some ⟨w0.heap.size, 0, none⟩) 3 [a, b, a] (w0.alloc (.cells #[.int .i64 a, .int .i64 b, .int .i64 a] 2)) (h.alloc _).tb (Nat.le_refl _) (by decide) (fun h => (by cases h)) (rz_new w0 2 [a, b, a]) (fun x hx => by
    simp at hx
    rcases hx with rfl | rfl | rfl
    · exact ha
    · exact hb
    · exact ha)).mono fun _ _ q => ⟨q.1, (h.alloc _).step q.2⟩
def strN : List ByteArray := [⟨#[]⟩, ⟨#[45]⟩, ⟨#[48]⟩, ⟨#[45, 48]⟩, ⟨#[48, 48]⟩, ⟨#[48, 48, 55]⟩, ⟨#[45, 48, 55]⟩, ⟨#[49, 32]⟩, ⟨#[32, 49]⟩, ⟨#[43, 49]⟩, ⟨#[49, 101, 51]⟩, ⟨#[49, 50, 97]⟩, ⟨#[45, 45, 49]⟩, ⟨#[57, 50, 50, 51, 51, 55, 50, 48, 51, 54, 56, 53, 52, 55, 55, 53, 56, 48, 55]⟩, ⟨#[57, 50, 50, 51, 51, 55, 50, 48, 51, 54, 56, 53, 52, 55, 55, 53, 56, 48, 56]⟩, ⟨#[45, 57, 50, 50, 51, 51, 55, 50, 48, 51, 54, 56, 53, 52, 55, 55, 53, 56, 48, 56]⟩, ⟨#[45, 57, 50, 50, 51, 51, 55, 50, 48, 51, 54, 56, 53, 52, 55, 55, 53, 56, 48, 57]⟩, ⟨#[49, 56, 52, 52, 54, 55, 52, 52, 48, 55, 51, 55, 48, 57, 53, 53, 49, 54, 49, 54]⟩, ⟨#[57, 57, 57, 57, 57, 57, 57, 57, 57, 57, 57, 57, 57, 57, 57, 57, 57, 57, 57, 57, 57, 57, 57, 57, 57, 57]⟩]
/-- A row of texts lies in memory, besides. -/
structure Kn2 (w : World) (b : Nat) (x : World) : Prop where
  kn : Kn w x
  st : ∀ i, i < 19 → ∃ s : ByteArray, b < x.heap.size ∧ x.cell? ⟨b, i, none⟩ = some (.string s)
theorem Kn2.step {w x y : World} {b : Nat} (h : Kn2 w b x) (k : Kn w y) (hb : Below x.heap.size x y) : Kn2 w b y := ⟨k, fun i hi => by
  obtain ⟨s, h1, h2⟩ := h.st i hi
  exact ⟨s, Nat.lt_of_lt_of_le h1 hb.size, (hb.cell (p := ⟨b, i, none⟩) h1).trans h2⟩⟩
theorem Kn2.new {w x : World} (h : Kn w x) : Kn2 w x.heap.size (x.alloc (.cells (strN.map Value.string).toArray 9)) := ⟨h.alloc _, fun i hi => by
  have hl : i < strN.length := hi
  refine ⟨strN[i], by simp, ?_⟩
  rw [World.cell?_alloc_mark x _ 9 (0, 0) i, List.getElem?_toArray, List.getElem?_map, List.getElem?_eq_getElem hl]; rfl⟩
theorem kn2_texts {w w0 : World} {b : Nat} (h : Kn2 w b w0) {a : Int} {s : ByteArray} (ha : Nu.fits a) : Calls Tryd.prog 5 #[.string s, .int .i64 a] w0 (fun e w' => e = .returned (.bool true) ∧ Kn2 w b w') := (lawTexts s a w0 h.kn.tb ha).mono fun _ _ q => ⟨q.1, h.step (h.kn.step q.2) q.2⟩
theorem kn2_back {w w0 : World} {b : Nat} (h : Kn2 w b w0) {a c : Int} {s : ByteArray} (ha : Nu.fits a) (hc : Nu.fits c) : Calls Tryd.prog 6 #[.int .i64 a, .int .i64 c, .string s] w0 (fun e w' => e = .returned (.bool true) ∧ Kn2 w b w') := (lawBack a c s w0 h.kn.tb ha hc).mono fun _ _ q => ⟨q.1, h.step (h.kn.step q.2) q.2⟩
set_option maxHeartbeats 8000000 in
set_option maxRecDepth 100000 in
theorem lawKnown (w : World) (T : Tb w) :
    Calls Tryd.prog 7 #[] w fun e w' => e = .returned (.bool true) ∧ Below w.heap.size w w' := by
  have HK0 := Lib.hid (show Kn w (w.alloc (.cells (knl.map (Value.int .i64)).toArray 2)) from ⟨(Below.refl _ _).alloc (Nat.le_refl _) _, T.below ((Below.refl _ _).alloc (Nat.le_refl _) _) (Nat.le_refl _), rz_new w _ knl⟩)
  clear T
  go_enter Tryd.func7, Tryd.ntmps7
  go_wp2
  go_loopw [2] (fun v wr => ∃ i : Nat, v = .int .i64 i ∧ i ≤ 23 ∧ Hid (Kn w wr)) (fun v _ => 23 - (intOf v).toNat)
  case atStart => exact ⟨0, rfl, by omega, HK0⟩
  case round =>
    obtain ⟨i, rfl, hi, HI⟩ := hrel
    by_cases hlt : i < 23
    · have hlt' : (i : Int) < 23 := by omega
      obtain ⟨a, ha⟩ : ∃ a, knl[i]? = some a := ⟨_, List.getElem?_eq_getElem (show i < knl.length from hlt)⟩
      have HA := Lib.hid ha
      have HFA := Lib.hid (kn_fits ha)
      clear ha
      go_wp2
      go_loopw [3] (fun v wr => ∃ k : Nat, v = .int .i64 k ∧ k ≤ 23 ∧ Hid (Kn w wr)) (fun v _ => 23 - (intOf v).toNat)
      case atStart => exact ⟨0, rfl, by omega, HI⟩
      case round =>
        obtain ⟨k, rfl, hk, HK⟩ := hrel
        by_cases hkl : k < 23
        · have hkl' : (k : Int) < 23 := by omega
          obtain ⟨b, hb⟩ : ∃ b, knl[k]? = some b := ⟨_, List.getElem?_eq_getElem (show k < knl.length from hkl)⟩
          have HB := Lib.hid hb
          have HFB := Lib.hid (kn_fits hb)
          clear hb
          have hi0 : (0 : Int) ≤ (i : Int) := by omega
          have hk0 : (0 : Int) ≤ (k : Int) := by omega
          go_wp2_with fail
          go_region_held3 (fun w' => w'.cell? ⟨w.heap.size, i, none⟩ = some (.int .i64 a) ∧ w'.cell? ⟨w.heap.size, k, none⟩ = some (.int .i64 b))
            (first | exact ⟨HK.out.cell HA.out, HK.out.cell HB.out⟩ | exact ⟨(HK.out.alloc _).cell HA.out, (HK.out.alloc _).cell HB.out⟩)
            (first | (go_at_call 3; refine (kn_reckons (w := w) (by first | exact HK.out | exact HK.out.drew) HFA.out HFB.out).mono ?_; rintro e w3 ⟨rfl, h3⟩; replace HK := Lib.hid h3; clear h3) | (go_at_call 6; refine (kn_back (w := w) (by first | exact HK.out | exact HK.out.drew) HFA.out HFB.out).mono ?_; rintro e w3 ⟨rfl, h3⟩; replace HK := Lib.hid h3; clear h3) | (go_at_call 4; refine (kn_sums (w := w) (by first | exact HK.out | exact HK.out.drew) HFA.out HFB.out).mono ?_; rintro e w3 ⟨rfl, h3⟩; replace HK := Lib.hid h3; clear h3))
          go_wp2
          go_roundw
          case rel => exact ⟨k + 1, by go_num, hkl, HK⟩
          case measure => simp [intOf]; omega
        · have hkl' : ¬ (k : Int) < 23 := by omega
          have hi0 : (0 : Int) ≤ (i : Int) := by omega
          have HPU := Lib.hid (fun (w0 : World) (h : Kn w w0) => kn_put h HFA.out)
          have HLN := itoa_len HFA.out
          obtain ⟨P, hP⟩ : ∃ P : ByteArray, P = ⟨(Lib.itoa a).toArray⟩ := ⟨_, rfl⟩
          have hPs : P.size ≤ 20 := by rw [hP, size_mk]; exact HLN
          rw [← hP] at HPU
          clear hP HLN
          have hq1 : P.size + 1 ≤ 9223372036854775807 := by omega
          have hq2 : 1 + P.size ≤ 9223372036854775807 := by omega
          have hq3 : ¬ 9223372036854775807 < P.size + 1 := by omega
          have hq4 : ¬ 9223372036854775807 < 1 + P.size := by omega
          go_wp2_with fail
          go_region_held3 (fun w' => w'.cell? ⟨w.heap.size, i, none⟩ = some (.int .i64 a))
            (first | exact HK.out.cell HA.out | exact (HK.out.alloc _).cell HA.out)
            (first | (go_at_call 25; refine (HPU.out _ (by first | exact HK.out | exact HK.out.drew)).mono ?_; rintro e w3 ⟨rfl, h3⟩; replace HK := Lib.hid h3; clear h3) | (go_at_call 5; refine (kn_texts (w := w) (by first | exact HK.out | exact HK.out.drew) HFA.out).mono ?_; rintro e w3 ⟨rfl, h3⟩; replace HK := Lib.hid h3; clear h3))
          go_wp2
          go_roundw
          case rel => exact ⟨i + 1, by go_num, hlt, HK⟩
          case measure => simp [intOf]; omega
    · have hlt' : ¬ (i : Int) < 23 := by omega
      have HK2 := Lib.hid (Kn2.new HI.out)
      obtain ⟨bb, hbb⟩ : ∃ bb, bb = wr.heap.size := ⟨_, rfl⟩
      rw [← hbb] at HK2
      have HBB := Lib.hid hbb
      clear hbb
      go_wp2
      rw [← HBB.out]
      go_loopw [5] (fun v wr2 => ∃ i : Nat, v = .int .i64 i ∧ i ≤ 19 ∧ Hid (Kn2 w bb wr2)) (fun v _ => 19 - (intOf v).toNat)
      case atStart => exact ⟨0, rfl, by omega, HK2⟩
      case round =>
        obtain ⟨k, rfl, hk, HJ⟩ := hrel
        by_cases hkl : k < 19
        · have hkl' : (k : Int) < 19 := by omega
          obtain ⟨s, _, hc⟩ := HJ.out.st k hkl
          have HFK := Lib.hid (show Nu.fits (k : Int) by unfold Nu.fits; omega)
          have HF3 := Lib.hid (show Nu.fits (-3) by decide)
          go_wp2_with fail
          refine (kn2_texts HJ.out HFK.out).mono ?_
          rintro e w3 ⟨rfl, h3⟩
          have HJ3 := Lib.hid h3
          obtain ⟨s2, _, hc2⟩ := HJ3.out.st k hkl
          clear h3
          go_wp2_with fail
          refine (kn2_back HJ3.out HFK.out HF3.out).mono ?_
          rintro e w4 ⟨rfl, h4⟩
          have HJ4 := Lib.hid h4
          clear h4
          go_wp2
          go_roundw
          case rel => exact ⟨k + 1, by go_num, hkl, HJ4⟩
          case measure => simp [intOf]; omega
        · have hkl' : ¬ (k : Int) < 19 := by omega
          have HKN := Lib.hid HJ.out.kn
          go_wp2_with fail
          refine (lawSums none 0 [] wr HKN.out.tb (Nat.le_refl _) (by decide) (fun _ => rfl) (fun j hj => absurd hj (by simp)) (fun x hx => by cases hx)).mono ?_
          rintro e w5 ⟨rfl, h5⟩
          have HK5 := Lib.hid (HKN.out.step h5)
          clear h5
          go_wp2_with fail
          refine (works_nu _ HK5.out.tb).mono ?_
          rintro e w6 ⟨rfl, h6⟩
          have HK6 := Lib.hid (HK5.out.step h6)
          clear h6
          go_wp2
          go_ret
          exact ⟨by rfl, HK6.out.below⟩
end Go.Proofs.YtbeoobgnpcbnnaaDoor
