/- The statements' same of layer 4, walked: of two rows of tokens that are the same but for a shift it answers true. Condition: the rows read as told; their sizes fit. -/
import Derived.Test.YtgidpcfaeekjhaaGreatDoorTkIs
import Derived.Deep.DrawnRows
namespace Go.Proofs.YtgidpcfaeekjhaaGreatDoor
open Go.RowKit
attribute [local go_sem ↓] Go.wp_at_zero Go.wp_at_succ

/-- A row of tokens reads so, from a place in a block on. -/
def ReadsT (w : World) (B : Nat) (A : Option Addr) (ps : List (Tk.T × Value)) : Prop := 0 < ps.length → ∃ g o, A = some ⟨g, o, none⟩ ∧ g < B ∧ ∀ j u, (ps.flatMap tokV)[j]? = some u → w.cell? ⟨g, o + j, none⟩ = some u
def AttsT (w : World) (B : Nat) (ps : List (Tk.T × Value)) : Prop := ∀ x ∈ ps, ∃ A cap, x.2 = .slice A (Tk.T.as x.1).length cap ∧ Reads2 w B A (Tk.T.as x.1) ∧ (Tk.T.as x.1).length ≤ 100000 ∧ (A = none → cap = 0) ∧ (Tk.T.as x.1).length ≤ cap ∧ cap ≤ maxLen
theorem ReadsT.below {w w' : World} {B : Nat} {A : Option Addr} {ps : List (Tk.T × Value)} (h : ReadsT w B A ps) (hb : Below B w w') : ReadsT w' B A ps := fun h0 => by
  obtain ⟨g, o, e, hg, hc⟩ := h h0
  exact ⟨g, o, e, hg, fun j u hu => (hb.cell (p := ⟨g, _, none⟩) hg).trans (hc j u hu)⟩
theorem AttsT.below {w w' : World} {B : Nat} {ps : List (Tk.T × Value)} (h : AttsT w B ps) (hb : Below B w w') : AttsT w' B ps := fun x hx => by
  obtain ⟨A, cap, e, hr, hl⟩ := h x hx
  exact ⟨A, cap, e, hr.below hb, hl⟩
def rowR (al : List (List UInt8 × List UInt8)) : List Value := al.flatMap fun a => [.string ⟨a.1.toArray⟩, .string ⟨a.2.toArray⟩, .int .i64 0]
theorem rowR_snoc (al : List (List UInt8 × List UInt8)) (a : List UInt8 × List UInt8) : rowR (al ++ [a]) = rowR al ++ [.string ⟨a.1.toArray⟩, .string ⟨a.2.toArray⟩, .int .i64 0] := by
  unfold rowR; rw [List.flatMap_append]; simp
theorem infoRA : (Tryz.prog.info? 143).map (fun i => (i.zero, i.size, i.bytes)) = some (some (.agg #[.string ⟨#[]⟩, .string ⟨#[]⟩, .int .i64 0]), 3, 40) := by kernel_rfl

theorem Reads2.more {w : World} {B B' : Nat} {A : Option Addr} {al : List (List UInt8 × List UInt8)} (h : Reads2 w B A al) (hB : B ≤ B') : Reads2 w B' A al := fun h0 => by
  obtain ⟨g, e, hg, hc⟩ := h h0
  exact ⟨g, e, by omega, hc⟩
theorem reads3_of {w : World} {B cap : Nat} {A : Option Addr} {al : List (List UInt8 × List UInt8)} (h : w.ownsRow B 143 3 (.slice A al.length cap) al.length (rowR al)) : Reads3 w w.heap.size A al := fun h0 => by
  obtain ⟨A3, c3, hv, hc, _⟩ := own_slice h
  injection hv with e1 _ _
  subst e1
  obtain ⟨g, rfl, hg, _, hcc⟩ := hc h0
  have hf := fun k hk j hj => flat_at (fun a : List UInt8 × List UInt8 => [Value.string ⟨a.1.toArray⟩, .string ⟨a.2.toArray⟩, .int .i64 0]) 3 (fun _ => rfl) al k j hk hj
  exact ⟨g, rfl, hg, fun k hk => ⟨hcc _ _ (hf k hk 0 (by omega)), hcc _ _ (hf k hk 1 (by omega))⟩⟩
structure SamR (w : World) (r : Nat) (K P : Int) (N X : ByteArray) (al : List (List UInt8 × List UInt8)) (wr : World) (m : Nat) (v : Value) : Prop where
  below : Below w.heap.size w wr
  blk : IsBlk wr r 64 #[.int .u8 K, .string N, v, .string X, .int .i64 P]
  own : wr.ownsRow (r + 1) 143 3 v m (rowR (al.take m))
theorem take_snoc_ {al : List (List UInt8 × List UInt8)} {m : Nat} (h : m < al.length) : al.take (m + 1) = al.take m ++ [al[m]] := by
  rw [List.take_succ_eq_append_getElem h]
end Go.Proofs.YtgidpcfaeekjhaaGreatDoor
