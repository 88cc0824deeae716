/- The statements' is of layer 4, walked: of two tokens that are the same it answers true. Condition: both rows of attributes read as told. -/
import Derived.Test.YthncfhakbobkkaaGreatDoorTkWorks
namespace Go.Proofs.YthncfhakbobkkaaGreatDoor
open Go.RowKit

/-- A row of attributes reads so; three: with a third cell each, of which nothing is asked. -/
def Reads2 (w : World) (B : Nat) (A : Option Addr) (al : List (List UInt8 × List UInt8)) : Prop := 0 < al.length → ∃ g, A = some ⟨g, 0, none⟩ ∧ g < B ∧ ∀ (k : Nat) (hk : k < al.length), w.cell? ⟨g, k * 2, none⟩ = some (.string ⟨al[k].1.toArray⟩) ∧ w.cell? ⟨g, k * 2 + 1, none⟩ = some (.string ⟨al[k].2.toArray⟩)
def Reads3 (w : World) (B : Nat) (A : Option Addr) (al : List (List UInt8 × List UInt8)) : Prop := 0 < al.length → ∃ g, A = some ⟨g, 0, none⟩ ∧ g < B ∧ ∀ (k : Nat) (hk : k < al.length), w.cell? ⟨g, k * 3, none⟩ = some (.string ⟨al[k].1.toArray⟩) ∧ w.cell? ⟨g, k * 3 + 1, none⟩ = some (.string ⟨al[k].2.toArray⟩)
theorem Reads2.below {w w' : World} {B : Nat} {A : Option Addr} {al : List (List UInt8 × List UInt8)} (h : Reads2 w B A al) (hb : Below B w w') : Reads2 w' B A al := fun h0 => by
  obtain ⟨g, e, hg, hc⟩ := h h0
  exact ⟨g, e, hg, fun k hk => ⟨(hb.cell (p := ⟨g, _, none⟩) hg).trans (hc k hk).1, (hb.cell (p := ⟨g, _, none⟩) hg).trans (hc k hk).2⟩⟩
theorem Reads3.below {w w' : World} {B : Nat} {A : Option Addr} {al : List (List UInt8 × List UInt8)} (h : Reads3 w B A al) (hb : Below B w w') : Reads3 w' B A al := fun h0 => by
  obtain ⟨g, e, hg, hc⟩ := h h0
  exact ⟨g, e, hg, fun k hk => ⟨(hb.cell (p := ⟨g, _, none⟩) hg).trans (hc k hk).1, (hb.cell (p := ⟨g, _, none⟩) hg).trans (hc k hk).2⟩⟩
abbrev tkA (K P : Int) (N X : ByteArray) (v : Value) : Value := .agg #[.int .u8 K, .string N, v, .string X, .int .i64 P]

set_option maxHeartbeats 8000000 in
set_option maxRecDepth 100000 in
theorem is_yes (w : World) (K P : Int) (N X : ByteArray) (A A2 : Option Addr) (cap cap2 : Nat) (al : List (List UInt8 × List UInt8)) (hn : al.length ≤ 100000) (h1 : Reads2 w w.heap.size A al) (h2 : Reads3 w w.heap.size A2 al) :
    Calls Tryz.prog 11 #[tkA K P N X (.slice A al.length cap), tkA K P N X (.slice A2 al.length cap2)] w fun e w' => e = .returned (.bool true) ∧ Below w.heap.size w w' := by
  have H1 := Lib.hid h1
  have H2 := Lib.hid h2
  clear h1 h2
  have hn' : (al.length : Int) ≤ 100000 := by omega
  obtain ⟨W0, hW0⟩ : ∃ W0, W0 = (w.alloc (.cells #[.int .u8 K, .string N, .slice A al.length cap, .string X, .int .i64 P] 33)).alloc (.cells #[.int .u8 K, .string N, .slice A2 al.length cap2, .string X, .int .i64 P] 36) := ⟨_, rfl⟩
  have hz : (w.alloc (.cells #[.int .u8 K, .string N, .slice A al.length cap, .string X, .int .i64 P] 33)).heap.size = w.heap.size + 1 := by simp
  have hb1 : IsBlk W0 w.heap.size 33 #[.int .u8 K, .string N, .slice A al.length cap, .string X, .int .i64 P] := by
    rw [hW0]
    exact (IsBlk.new w _ _).below ((Below.refl _ _).alloc (Nat.le_refl _) _) (by simp)
  have hb2 : IsBlk W0 (w.heap.size + 1) 36 #[.int .u8 K, .string N, .slice A2 al.length cap2, .string X, .int .i64 P] := by
    rw [hW0, ← hz]
    exact IsBlk.new _ _ _
  have hbw : Below w.heap.size w W0 := by
    rw [hW0]
    exact ((Below.refl _ _).alloc (Nat.le_refl _) _).alloc (by simp) _
  have HB := Lib.hid (And.intro hb1 (And.intro hb2 hbw))
  have HW := Lib.hid hW0
  clear hb1 hb2 hbw hW0 hz
  go_enter Tryz.func11, Tryz.ntmps11
  go_wp2
  rw [← HW.out]
  go_loopw [5] (fun i wr => ∃ k : Nat, k ≤ al.length ∧ i = .int .i64 k ∧ Hid (Below W0.heap.size W0 wr)) (fun i _ => al.length - (intOf i).toNat)
  case atStart => exact ⟨0, Nat.zero_le _, rfl, Lib.hid (Below.refl _ _)⟩
  case round =>
    obtain ⟨k, hk, rfl, HR⟩ := hrel
    have b1 := HB.out.1.below HR.out HB.out.1.lt
    have b2 := HB.out.2.1.below HR.out HB.out.2.1.lt
    have k2 : wr.cell? ⟨w.heap.size, 2, none⟩ = some (.slice A al.length cap) := b1.at_ 2
    have m2 : wr.cell? ⟨w.heap.size + 1, 2, none⟩ = some (.slice A2 al.length cap2) := b2.at_ 2
    clear b1 b2
    by_cases hlt : k < al.length
    · have hbr := HB.out.2.2.trans (HR.out.mono HB.out.2.2.size)
      obtain ⟨g, hA, _, hc⟩ := H1.out.below hbr (by omega)
      obtain ⟨g2, hA2, _, hc2⟩ := H2.out.below hbr (by omega)
      subst hA hA2
      obtain ⟨c0, c1⟩ := hc k hlt
      obtain ⟨d0, d1⟩ := hc2 k hlt
      have hlt' : (k : Int) < (al.length : Int) := by omega
      clear hc hc2 hbr
      generalize (⟨al[k].1.toArray⟩ : ByteArray) = U at *
      generalize (⟨al[k].2.toArray⟩ : ByteArray) = V at *
      go_wp2_with fail
      go_quiet (fail)
      go_wp2
      go_roundw
      case rel => exact ⟨k + 1, by omega, by go_num, Lib.hid (below_drewN HR.out _)⟩
      case measure => simp [intOf]; omega
    · go_wp2
      go_ret
      exact ⟨rfl, HB.out.2.2.trans (HR.out.mono HB.out.2.2.size)⟩
end Go.Proofs.YthncfhakbobkkaaGreatDoor
