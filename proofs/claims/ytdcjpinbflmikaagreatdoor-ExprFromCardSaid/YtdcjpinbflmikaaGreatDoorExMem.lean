/- Layer 8's program: its rows in memory, and put. Conditions stand at each. -/
import Derived.Test.YtdcjpinbflmikaaGreatDoorMem
import Derived.Test.YtdcjpinbflmikaaGreatDoorExMach
import Derived.Test.YtdcjpinbflmikaaGreatDoorExRow
import Derived.Test.YtdcjpinbflmikaaGreatDoorLxWalk6
import Derived.Test.YtdcjpinbflmikaaGreatDoorNuText
import Derived.Deep.RegionLaw
namespace Go.Proofs.YtdcjpinbflmikaaGreatDoor
open Go.RowKit

def ndV (n : Ex.Nd) : List Value := [.int .u8 n.op, .int .i64 n.num, .string ⟨n.nm.toArray⟩, .int .i64 n.a, .int .i64 n.b, .int .i64 n.c]
def loV (p : Nat × Nat) : List Value := [.int .i64 p.1, .int .i64 p.2]
theorem infoNd : (Tryz.prog.info? 34).map (fun i => (i.zero, i.size, i.bytes)) = some (some (.agg #[.int .u8 0, .int .i64 0, .string ⟨#[]⟩, .int .i64 0, .int .i64 0, .int .i64 0]), 6, 56) := by kernel_rfl
theorem infoPart : (Tryz.prog.info? 226).map (fun i => (i.zero, i.size, i.bytes)) = some (some (.agg #[.int .i64 0, .int .i64 0]), 2, 16) := by kernel_rfl
/-- A row of nodes, and its loose parts, in block b, whose cells are cs. -/
structure RowS (B b : Nat) (t : TypeId) (cs : Array Value) (w : World) (nv lv : Value) (ns : List Ex.Nd) (ls : List (Nat × Nat)) : Prop where
  base : B ≤ b
  blk : IsBlk w b t cs
  c0 : cs[0]? = some nv
  c1 : cs[1]? = some lv
  nown : w.ownsRow B 34 6 nv ns.length (ns.flatMap ndV)
  lown : w.ownsRow B 226 2 lv ls.length (ls.flatMap loV)
theorem RowS.below {B b : Nat} {t : TypeId} {cs : Array Value} {w w' : World} {nv lv : Value} {ns : List Ex.Nd} {ls : List (Nat × Nat)} (h : RowS B b t cs w nv lv ns ls) (hb : Below w.heap.size w w') : RowS B b t cs w' nv lv ns ls :=
  ⟨h.base, h.blk.below hb h.blk.lt, h.c0, h.c1, own_below h.nown hb, own_below h.lown hb⟩
/-- Parts as a call takes them. -/
def Parts (w : World) (Bx : Nat) (A : Option Addr) (c : Nat) (ps : List (Nat × Nat)) : Prop := ps.length ≤ c ∧ ∀ j (hj : j < ps.length), ∃ g o, A = some ⟨g, o, none⟩ ∧ g < Bx ∧ w.cell? ⟨g, o + j * 2, none⟩ = some (.int .i64 (ps[j].1 : Int)) ∧ w.cell? ⟨g, o + j * 2 + 1, none⟩ = some (.int .i64 (ps[j].2 : Int))
def plc (ps : List (Nat × Nat)) (i j : Nat) : Int := if j < i then ((ps[j]?).map (fun p => (p.1 : Int))).getD (-1) else -1
def dmx (ps : List (Nat × Nat)) (i : Nat) : Nat := (ps.take i).foldl (fun d p => max d p.2) 0
theorem dmx_succ {ps : List (Nat × Nat)} {i : Nat} (h : i < ps.length) : dmx ps (i + 1) = max (dmx ps i) ps[i].2 := by
  unfold dmx
  rw [List.take_succ_eq_append_getElem h, List.foldl_append]; rfl
theorem plc_succ {ps : List (Nat × Nat)} {i : Nat} (h : i < ps.length) (j : Nat) : plc ps (i + 1) j = if j = i then (ps[i].1 : Int) else plc ps i j := by
  unfold plc
  by_cases hj : j = i
  · subst hj; rw [if_pos (Nat.lt_succ_self _), if_pos rfl, List.getElem?_eq_getElem h]; rfl
  · rw [if_neg hj]
    by_cases hl : j < i
    · rw [if_pos (by omega), if_pos hl]
    · rw [if_neg (by omega), if_neg hl]
/-- The node with its parts' places. -/
def put1 (n : Ex.Nd) (ps : List (Nat × Nat)) : Ex.Nd := { n with a := plc ps ps.length 0, b := plc ps ps.length 1, c := plc ps ps.length 2 }
structure PuI (w0 : World) (n : Nat) (nc : List Value) (ps : List (Nat × Nat)) (wr : World) (i : Nat) : Prop where
  below : Below n w0 wr
  node : IsBlk wr n 34 nc.toArray
  arr : IsBlk wr (n + 1) 224 #[.int .i64 (plc ps i 0), .int .i64 (plc ps i 1), .int .i64 (plc ps i 2)]
theorem PuI.cell {w0 : World} {n : Nat} {nc : List Value} {ps : List (Nat × Nat)} {wr : World} {i : Nat} (h : PuI w0 n nc ps wr i) (hi : i < 3) : wr.cell? ⟨n + 1, i, none⟩ = some (.int .i64 (plc ps i i)) ∧ wr.frozen? ⟨n + 1, i, none⟩ = false := by
  refine ⟨?_, h.arr.fz i⟩
  rw [h.arr.at_ i]
  match i, hi with
  | 0, _ => rfl
  | 1, _ => rfl
  | 2, _ => rfl
theorem PuI.put {w0 : World} {n : Nat} {nc : List Value} {ps : List (Nat × Nat)} {wr : World} {i : Nat} (h : PuI w0 n nc ps wr i) (hi : i < ps.length) (h3 : i < 3) (o : Obj) : PuI w0 n nc ps ((wr.setCell ⟨n + 1, i, none⟩ (.int .i64 (ps[i].1 : Int))).alloc o) (i + 1) := by
  have hs : ∀ u : Value, (wr.setCell ⟨n + 1, i, none⟩ u).heap.size = wr.heap.size := fun u => by simp [World.setCell]
  have hlt := h.arr.lt
  have q : Below (wr.setCell ⟨n + 1, i, none⟩ (.int .i64 (ps[i].1 : Int))).heap.size (wr.setCell ⟨n + 1, i, none⟩ (.int .i64 (ps[i].1 : Int))) ((wr.setCell ⟨n + 1, i, none⟩ (.int .i64 (ps[i].1 : Int))).alloc o) := (Below.refl _ _).alloc (Nat.le_refl _) _
  refine ⟨(h.below.setCell (p := ⟨n + 1, i, none⟩) (Nat.le_succ n) _).alloc (by rw [hs]; omega) _, ?_, ?_⟩
  · exact (h.node.far (p := ⟨n + 1, i, none⟩) (by simp) _).below q (by rw [hs]; omega)
  · have h2 := (h.arr.set i (.int .i64 (ps[i].1 : Int))).below q (by rw [hs]; omega)
    rw [plc_succ hi, plc_succ hi, plc_succ hi]
    match i, h3 with
    | 0, _ => exact h2
    | 1, _ => exact h2
    | 2, _ => exact h2
theorem dmx_le {ps : List (Nat × Nat)} {D : Nat} (h : ∀ p ∈ ps, p.2 ≤ D) (i : Nat) : dmx ps i ≤ D := by
  have q : ∀ (l : List (Nat × Nat)) (d : Nat), (∀ p ∈ l, p.2 ≤ D) → d ≤ D → l.foldl (fun d p => max d p.2) d ≤ D := by
    intro l
    induction l with
    | nil => intro d _ hd; exact hd
    | cons p l ih =>
      intro d hl hd
      exact ih _ (fun q hq => hl q (List.mem_cons_of_mem _ hq)) (Nat.max_le.2 ⟨hd, hl p List.mem_cons_self⟩)
  exact q _ 0 (fun p hp => h p (List.mem_of_mem_take hp)) (Nat.zero_le _)
theorem set_get {cs : Array Value} {i : Nat} {v u : Value} (h : cs[i]? = some v) : (cs.setIfInBounds i u)[i]? = some u := by
  obtain ⟨hi, _⟩ := Array.getElem?_eq_some_iff.1 h
  rw [Array.getElem?_setIfInBounds_self, if_pos hi]
theorem set_far {cs : Array Value} {i j : Nat} {v u : Value} (h : cs[i]? = some v) (hij : j ≠ i) : (cs.setIfInBounds j u)[i]? = some v := by
  rw [Array.getElem?_setIfInBounds_ne hij]; exact h
/-- The loose parts' row grew, and is stored. -/
theorem RowS.setl {B b : Nat} {t : TypeId} {cs : Array Value} {w w9 : World} {nv lv v' : Value} {ns : List Ex.Nd} {ls ls' : List (Nat × Nat)} (h : RowS B b t cs w nv lv ns ls) (ht : t ∉ [226]) (ht2 : t ≠ 34) (k : Kt [226] w w9) (ho : w9.ownsRow B 226 2 v' ls'.length (ls'.flatMap loV)) : RowS B b t (cs.setIfInBounds 1 v') (w9.setCell ⟨b, 1, none⟩ v') nv v' ns ls' := by
  have hb := k.blk h.blk ht
  exact ⟨h.base, hb.set 1 _, set_far h.c0 (by decide), set_get h.c1, own_set (k.own h.nown (by decide)) hb ht2 1 _, own_set ho hb (by simpa using ht) 1 _⟩
theorem RowS.setn {B b : Nat} {t : TypeId} {cs : Array Value} {w w9 : World} {nv lv v' : Value} {ns ns' : List Ex.Nd} {ls : List (Nat × Nat)} (h : RowS B b t cs w nv lv ns ls) (ht : t ∉ [34]) (ht2 : t ≠ 226) (k : Kt [34] w w9) (ho : w9.ownsRow B 34 6 v' ns'.length (ns'.flatMap ndV)) : RowS B b t (cs.setIfInBounds 0 v') (w9.setCell ⟨b, 0, none⟩ v') v' lv ns' ls := by
  have hb := k.blk h.blk ht
  exact ⟨h.base, hb.set 0 _, set_get h.c0, set_far h.c1 (by decide), own_set ho hb (by simpa using ht) 0 _, own_set (k.own h.lown (by decide)) hb ht2 0 _⟩
def LRow : List TypeId := [125, 121, 34, 226]
end Go.Proofs.YtdcjpinbflmikaaGreatDoor
