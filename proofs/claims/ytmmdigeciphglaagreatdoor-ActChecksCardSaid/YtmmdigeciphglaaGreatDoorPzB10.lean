/- Facts and walks for the statement. -/
import Derived.Test.YtmmdigeciphglaaGreatDoorPzB09
import Derived.Deep.CutRange
import Derived.StillTailTactics
import Derived.Test.YtmmdigeciphglaaGreatDoorPzB01
namespace Go.Proofs.YtmmdigeciphglaaGreatDoor
open Go.RowKit Ex
def frOp : Fr → Nat
  | .un op => op
  | .bin op _ => op
  | .par => 0
  | _ => 22
def frW (x : Fr × Nat) : Value := match x.1 with
  | .un _ => .slice none 0 0
  | .bin _ _ => .slice none 0 0
  | .par => .slice (some ⟨x.2, 0, none⟩) 1 1
  | .if0 => .slice (some ⟨x.2, 0, none⟩) 3 3
  | .if1 _ => .slice (some ⟨x.2, 1, none⟩) 2 2
  | .if2 _ _ => .slice (some ⟨x.2, 2, none⟩) 1 1
def frV (x : Fr × Nat) : List Value := [.int .u8 (frOp x.1 : Nat), frW x]
def bPar : Array Value := #[.string ⟨#[41]⟩]
def bIf : Array Value := #[.string ⟨#[116, 104, 101, 110]⟩, .string ⟨#[101, 108, 115, 101]⟩, .string ⟨#[101, 110, 100, 105, 102]⟩]
def frOk (B : Nat) (w : World) (x : Fr × Nat) : Prop := match x.1 with
  | .un _ => True
  | .bin _ _ => True
  | .par => IsBlk w x.2 9 bPar ∧ B ≤ x.2
  | _ => IsBlk w x.2 9 bIf ∧ B ≤ x.2
theorem frOk.kt {B : Nat} {w w' : World} {x : Fr × Nat} {L : List TypeId} (h : frOk B w x) (hk : Kt L w w') (hL : 9 ∉ L) : frOk B w' x := by
  obtain ⟨f, g⟩ := x
  cases f <;> simp only [frOk] at h ⊢ <;> exact ⟨hk.blk h.1 hL, h.2⟩
theorem frOk.below {B : Nat} {w w' : World} {x : Fr × Nat} (h : frOk B w x) (hb : Below w.heap.size w w') : frOk B w' x := h.kt (L := []) (Kt.of_below hb) (by simp)
def wts (K : List (Fr × Nat)) : List Value := K.reverse.flatMap frV
theorem wts_cons (x : Fr × Nat) (K : List (Fr × Nat)) : wts (x :: K) = wts K ++ frV x := by unfold wts; rw [List.reverse_cons, List.flatMap_append]; simp
theorem infoWait : (Tryz.prog.info? 294).map (fun i => (i.zero, i.size, i.bytes)) = some (some (.agg #[.int .u8 0, .slice none 0 0]), 2, 32) := by kernel_rfl
def rdF (r : Nat) (b : Bool) : Value := .func (.func (if b then 197 else 174)) #[.pointer (some ⟨r, 0, none⟩)] #[]
structure RdM (B r : Nat) (w : World) (K : List (Fr × Nat)) (ns : List Nd) (ls : List (Nat × Nat)) (b : Bool) (nv lv wv : Value) : Prop where
  row : RowS B r 254 #[nv, lv, wv, rdF r b] w nv lv ns ls
  wown : w.ownsRow B 294 2 wv K.length (wts K)
  ok : ∀ x ∈ K, frOk B w x
theorem RdM.below {B r : Nat} {w w' : World} {K : List (Fr × Nat)} {ns : List Nd} {ls : List (Nat × Nat)} {b : Bool} {nv lv wv : Value} (h : RdM B r w K ns ls b nv lv wv) (hb : Below w.heap.size w w') : RdM B r w' K ns ls b nv lv wv :=
  ⟨h.row.below hb, own_below h.wown hb, fun x hx => (h.ok x hx).below hb⟩
theorem RdM.cells {B r : Nat} {w : World} {K : List (Fr × Nat)} {ns : List Nd} {ls : List (Nat × Nat)} {b : Bool} {nv lv wv : Value} (h : RdM B r w K ns ls b nv lv wv) :
    w.cell? ⟨r, 0, none⟩ = some nv ∧ w.cell? ⟨r, 1, none⟩ = some lv ∧ w.cell? ⟨r, 2, none⟩ = some wv ∧ w.cell? ⟨r, 3, none⟩ = some (rdF r b) :=
  ⟨h.row.blk.at_ 0, h.row.blk.at_ 1, h.row.blk.at_ 2, h.row.blk.at_ 3⟩
def RdP (B r : Nat) (w : World) (K : List (Fr × Nat)) (ns : List Nd) (ls : List (Nat × Nat)) (b : Bool) (w' : World) : Prop := (∃ nv lv wv, RdM B r w' K ns ls b nv lv wv) ∧ Below B w w'
theorem RdM.setf {B r : Nat} {w : World} {K : List (Fr × Nat)} {ns : List Nd} {ls : List (Nat × Nat)} {b : Bool} {nv lv wv : Value} (h : RdM B r w K ns ls b nv lv wv) (b' : Bool) : RdM B r (w.setCell ⟨r, 3, none⟩ (rdF r b')) K ns ls b' nv lv wv := by
  have hk : Kt [254] w (w.setCell ⟨r, 3, none⟩ (rdF r b')) := Kt.set (p := ⟨r, 3, none⟩) h.row.blk (by simp) _
  exact ⟨⟨h.row.base, h.row.blk.set 3 _, rfl, rfl, hk.own h.row.nown (by decide), hk.own h.row.lown (by decide)⟩, hk.own h.wown (by decide), fun x hx => (h.ok x hx).kt hk (by decide)⟩
set_option maxHeartbeats 2000000 in
set_option maxRecDepth 100000 in
theorem newReader_any (w : World) : Calls Tryz.prog 158 #[] w fun e w' => e = .returned (.pointer (some ⟨w.heap.size, 0, none⟩)) ∧ RdP w.heap.size w.heap.size w [] [] [] false w' := by
  go_enter Tryz.func158, Tryz.ntmps158
  go_wp2
  go_ret
  refine ⟨rfl, ⟨.slice none 0 0, .slice none 0 0, .slice none 0 0, ⟨⟨Nat.le_refl _, ?_, rfl, rfl, World.ownsRow_nil _ _ _ _, World.ownsRow_nil _ _ _ _⟩, World.ownsRow_nil _ _ _ _, by simp⟩⟩, ?_⟩
  · exact IsBlk.new w 254 #[.slice none 0 0, .slice none 0 0, .slice none 0 0, rdF w.heap.size false]
  · exact (Below.refl _ _).alloc (Nat.le_refl _) _
set_option maxHeartbeats 4000000 in
set_option maxRecDepth 100000 in
theorem wait_any (B r : Nat) (w : World) (K : List (Fr × Nat)) (ns : List Nd) (ls : List (Nat × Nat)) (b : Bool) (nv lv wv : Value) (h : RdM B r w K ns ls b nv lv wv) (f : Fr) (g : Nat) (hf : frOk B w (f, g)) (hK : K.length ≤ 1000000) :
    Calls Tryz.prog 186 #[.pointer (some ⟨r, 0, none⟩), .int .u8 (frOp f : Nat), frW (f, g)] w fun e w' => e = .returned (.tuple #[]) ∧ RdP B r w ((f, g) :: K) ns ls false w' := by
  obtain ⟨Aw, cw, rfl, hw1, hw2, hw3⟩ := own_sliced h.wown
  have HH := Lib.hid h
  obtain ⟨c0, c1, c2, c3⟩ := h.cells
  have hrl := h.row.blk.lt
  obtain ⟨i0, hi0, hz0, hz1, hz2⟩ := info_parts infoWait
  have hbig : K.length + 1 ≤ maxLen := by unfold maxLen; omega
  have hB : B ≤ w.heap.size := by have := h.row.base; omega
  obtain ⟨op, hop⟩ : ∃ op : Int, op = (frOp f : Nat) := ⟨_, rfl⟩
  obtain ⟨wd, hwd⟩ : ∃ wd, wd = frW (f, g) := ⟨_, rfl⟩
  obtain ⟨Ad, nd, cd, hwd'⟩ : ∃ A n c, wd = .slice A n c := by rw [hwd]; cases f <;> exact ⟨_, _, _, rfl⟩
  have HV := Lib.hid (show frV (f, g) = [.int .u8 op, wd] from by rw [hop, hwd]; rfl)
  have HF := Lib.hid hf
  rw [← hop, ← hwd]
  clear hop hwd h hf c0 c1 c3
  subst hwd'
  have HAPP := Lib.hid (fun (W' w9 : World) (v9 : Value) (hb : Below w.heap.size w W') (hgr : W'.grownBy w9 (Value.slice Aw K.length cw).ownBlock) (hown9 : w9.ownsRow B 294 2 v9 (K.length + 1) (wts K ++ [.int .u8 op, .slice Ad nd cd])) => (show w9.cell? ⟨r, 2, none⟩ = some (.slice Aw K.length cw) ∧ w9.frozen? ⟨r, 2, none⟩ = false ∧ (∀ u, (w9.setCell ⟨r, 2, none⟩ u).cell? ⟨r, 3, none⟩ = some (rdF r b) ∧ (w9.setCell ⟨r, 2, none⟩ u).frozen? ⟨r, 3, none⟩ = false) ∧ RdP B r w ((f, g) :: K) ns ls false ((w9.setCell ⟨r, 2, none⟩ v9).setCell ⟨r, 3, none⟩ (rdF r false)) from by
    have k : Kt [294] w w9 := (Kt.of_below hb).trans (Kt.grown hgr (own_below HH.out.wown hb) (by simp))
    have q := k.blk HH.out.row.blk (by decide)
    have bl : Below B w w9 := Below.grown (hb.mono hB) hgr (Nat.le_trans hB hb.size) (fun k hk => (HH.out.wown.lt k hk).1)
    have k2 : Kt [254] w9 (w9.setCell ⟨r, 2, none⟩ v9) := Kt.set (p := ⟨r, 2, none⟩) q (by simp) _
    have r2 : RdM B r (w9.setCell ⟨r, 2, none⟩ v9) ((f, g) :: K) ns ls b nv lv v9 := by
      refine ⟨⟨HH.out.row.base, q.set 2 _, rfl, rfl, k2.own (k.own HH.out.row.nown (by decide)) (by decide), k2.own (k.own HH.out.row.lown (by decide)) (by decide)⟩, ?_, ?_⟩
      · rw [wts_cons, HV.out]; exact k2.own hown9 (by decide)
      · intro x hx
        rcases List.mem_cons.1 hx with rfl | hx
        · exact (HF.out.kt k (by decide)).kt k2 (by decide)
        · exact ((HH.out.ok x hx).kt k (by decide)).kt k2 (by decide)
    exact ⟨q.at_ 2, q.fz 2, fun u => ⟨(q.set 2 u).at_ 3, (q.set 2 u).fz 3⟩, ⟨_, _, _, r2.setf false⟩, (bl.setCell (p := ⟨r, 2, none⟩) HH.out.row.base _).setCell (p := ⟨r, 3, none⟩) HH.out.row.base _⟩))
  go_enter Tryz.func186, Tryz.ntmps186
  go_wp2_with (at_builtin; (refine wpList_append_own _ rfl _ _ _ rfl B 294 i0 _ 2 32 Tryz.underlying251 hi0 hz0 hz1 hz2 rfl (by omega) (.slice Aw K.length cw) K.length (wts K) (by rfl) (by exact HH.out.wown.alloc _) _ 1 _ [.int .u8 op, .slice Ad nd cd] (by rfl) rfl (by intro j u hu; exact news_at _ _ _ _ (by simp) j u hu) (by intro u hu; simp at hu; rcases hu with rfl | rfl <;> rfl) hbig (by omega) (by simp; omega) ?_); intro v3 w3 hown3 hgr3 _; obtain ⟨A3, c3, hv3, _, _, _⟩ := own_sliced hown3; subst hv3; have HA := Lib.hid (HAPP.out _ w3 _ ((Below.refl _ _).alloc (Nat.le_refl _) _) hgr3 hown3); have y1 := HA.out.1; have y2 := HA.out.2.1; have y3 := (HA.out.2.2.1 (.slice A3 (K.length + 1) c3)).1; have y4 := (HA.out.2.2.1 (.slice A3 (K.length + 1) c3)).2)
  go_end0
  exact ⟨rfl, HA.out.2.2.2⟩
end Go.Proofs.YtmmdigeciphglaaGreatDoor
namespace Go.Proofs.YtmmdigeciphglaaGreatDoor
open Go.RowKit Ex
def fW (op : Nat) : List UInt8 := if op = 3 then [116, 114, 117, 101] else if op = 4 then [102, 97, 108, 115, 101] else if op = 22 then [105, 102] else opS op
def fL (op : Nat) : Nat := if op = 0 then 0 else lvl op
def fP (op : Nat) : Nat := if op ≤ 4 then 0 else if op ≤ 6 then 1 else if op ≤ 21 then 2 else 3
def Fm (w : World) : Prop := ∀ op, op < 23 → w.cell? ⟨1, op * 3, none⟩ = some (.string ⟨(fW op).toArray⟩) ∧ w.cell? ⟨1, op * 3 + 1, none⟩ = some (.int .u8 (fL op : Nat)) ∧ w.cell? ⟨1, op * 3 + 2, none⟩ = some (.int .i64 (fP op : Nat))
theorem Fm.below {B : Nat} {w w' : World} (h : Fm w) (hb : Below B w w') (hB : w.heap.size ≤ B) : Fm w' := fun op hop =>
  ⟨cell_below hb hB (h op hop).1, cell_below hb hB (h op hop).2.1, cell_below hb hB (h op hop).2.2⟩
structure Tx (w : World) : Prop where
  sg : Sg w
  tb : Tb w
  fm : Fm w
theorem Tx.below {w w' : World} (h : Tx w) (hb : Below w.heap.size w w') : Tx w' := ⟨h.sg.below hb (Nat.le_refl _), h.tb.below hb (Nat.le_refl _), h.fm.below hb (Nat.le_refl _)⟩
def TxO (B : Nat) (w : World) : Prop := ∀ w', Below B w w' → Tx w'
theorem TxO.on {B : Nat} {w w1 : World} (h : TxO B w) (hb : Below B w w1) : TxO B w1 := fun _ h2 => h _ (hb.trans h2)
theorem TxO.here {B : Nat} {w : World} (h : TxO B w) : Tx w := h w (Below.refl _ _)
theorem Tx.old {w : World} (h : Tx w) : TxO w.heap.size w := fun _ hb => h.below hb
set_option maxHeartbeats 2000000 in
set_option maxRecDepth 100000 in
theorem last_any (B b : Nat) (t : TypeId) (cs : Array Value) (w : World) (nv lv : Value) (ns : List Nd) (ls : List (Nat × Nat)) (h : RowS B b t cs w nv lv ns ls) (T : Fm w) (op : Nat) (hop : op < 23) (hk : fP op ≤ ls.length) (hl : ls.length ≤ 1000000) :
    Calls Tryz.prog 142 #[.pointer (some ⟨b, 0, none⟩), .int .u8 (op : Nat)] w fun e w' => ∃ A c, e = .returned (.slice A (fP op) c) ∧ (fP op ≤ c ∧ Parts w' w'.heap.size A c (ls.drop (ls.length - fP op))) ∧ Below w.heap.size w w' := by
  obtain ⟨Al, cl, rfl, hl1, hl2, hl3⟩ := own_sliced h.lown
  have b1 : w.cell? ⟨b, 1, none⟩ = some (.slice Al ls.length cl) := (h.blk.at_ 1).trans h.c1
  have t2 := (T op hop).2.2
  have HO := Lib.hid h.lown
  have hop' : (op : Int) < 23 := by omega
  obtain ⟨k, hkk⟩ : ∃ k, k = fP op := ⟨_, rfl⟩
  rw [← hkk] at t2 hk ⊢
  obtain ⟨m, hm⟩ : ∃ m, m = ls.length - k := ⟨_, rfl⟩
  rw [← hm]
  have s1 : IntKind.i64.wrap ((ls.length : Int) - (k : Int)) = (m : Int) := by rw [IntWalk.i64_in _ (by omega)]; omega
  have s3 : (0 : Int) ≤ (m : Int) := by omega
  have s4 : (m : Int) ≤ (ls.length : Int) := by omega
  have s5 : (ls.length : Int) ≤ (cl : Int) := by omega
  have HKE := Lib.hid (show ls.length - m = k ∧ (cl = m → k = 0) from by omega)
  have HPT := Lib.hid (show cl ≠ m → ∀ W, Below w.heap.size w W → k ≤ cl - m ∧ Parts W W.heap.size (Option.map (fun x => x.add (m * 2)) Al) (cl - m) (ls.drop m) from by
    intro hc W hb
    have hdl : (ls.drop m).length = k := by rw [List.length_drop]; omega
    refine ⟨by omega, by omega, fun j hj => ?_⟩
    obtain ⟨g, rfl, _, hg⟩ := hl3 (by omega)
    have hml : m + j < ls.length := by omega
    have e : (ls.drop m)[j] = ls[m + j] := by rw [List.getElem_drop]
    have q0 := own_cell HO.out ((fl_at (f := loV) (k := 2) (fun _ => rfl) ls (m + j) 0 hml (by omega)).trans rfl)
    have q1 := own_cell HO.out ((fl_at (f := loV) (k := 2) (fun _ => rfl) ls (m + j) 1 hml (by omega)).trans rfl)
    rw [e]
    refine ⟨g, m * 2, by simp [Addr.add]; omega, Nat.lt_of_lt_of_le hg hb.size, ?_, ?_⟩
    · rw [hb.cell (p := ⟨g, _, none⟩) hg, show m * 2 + j * 2 = (m + j) * 2 + 0 by omega]; exact q0
    · rw [hb.cell (p := ⟨g, _, none⟩) hg, show m * 2 + j * 2 + 1 = (m + j) * 2 + 1 by omega]; exact q1)
  clear h T hkk hm hl3
  by_cases hc : cl = m
  · have hk0 := Lib.hid (HKE.out.2 hc)
    go_enter Tryz.func142, Tryz.ntmps142
    go_wp2
    go_quiet (fail)
    go_wp2
    go_ret
    refine ⟨Al, 0, by rw [HKE.out.1]; rfl, ⟨by rw [hk0.out]; exact Nat.zero_le _, ?_, ?_⟩, below_drewN (Below.refl _ _) _⟩
    · rw [List.length_drop, HKE.out.1, hk0.out]; exact Nat.le_refl _
    · intro j hj; rw [List.length_drop, HKE.out.1, hk0.out] at hj; omega
  · have HC := Lib.hid hc
    go_enter Tryz.func142, Tryz.ntmps142
    go_wp2
    go_quiet (fail)
    go_wp2
    go_ret
    exact ⟨_, _, by rw [HKE.out.1]; rfl, HPT.out HC.out _ (below_drewN (Below.refl _ _) _), below_drewN (Below.refl _ _) _⟩
def dpo (ls : List (Nat × Nat)) : Nat := match ls with
  | [p] => p.2
  | _ => 0
set_option maxHeartbeats 2000000 in
set_option maxRecDepth 100000 in
theorem rdepth_any (B b : Nat) (t : TypeId) (cs : Array Value) (w : World) (nv lv : Value) (ns : List Nd) (ls : List (Nat × Nat)) (h : RowS B b t cs w nv lv ns ls) (hl : ls.length ≤ 1000000) :
    Calls Tryz.prog 143 #[.pointer (some ⟨b, 0, none⟩)] w fun e w' => e = .returned (.int .i64 (dpo ls : Nat)) ∧ Below w.heap.size w w' := by
  obtain ⟨Al, cl, rfl, hl1, hl2, hl3⟩ := own_sliced h.lown
  have b1 : w.cell? ⟨b, 1, none⟩ = some (.slice Al ls.length cl) := (h.blk.at_ 1).trans h.c1
  have HO := Lib.hid h.lown
  by_cases h1 : ls.length = 1
  · obtain ⟨p, rfl⟩ := List.length_eq_one_iff.1 h1
    obtain ⟨g, rfl, _, hg⟩ := hl3 (by omega)
    have q : w.cell? ⟨g, 1, none⟩ = some (.int .i64 (p.2 : Int)) := own_cell HO.out (fl_at (f := loV) (k := 2) (fun _ => rfl) [p] 0 1 (by simp) (by omega))
    have hc : (1 : Int) ≤ (cl : Int) := by simp at hl1; omega
    clear h hl3
    go_enter Tryz.func143, Tryz.ntmps143
    go_wp2
    go_ret
    exact ⟨rfl, Below.refl _ _⟩
  · have hne : ((ls.length : Int) == 1) = false := beq_eq_false_iff_ne.2 (by omega)
    have hne' : ((ls.length : Int) != 1) = true := by simp [bne, hne]
    have HD := Lib.hid (show dpo ls = 0 from by
      unfold dpo
      split
      · simp at h1
      · rfl)
    clear h hl3 h1
    go_enter Tryz.func143, Tryz.ntmps143
    go_wp2
    go_ret
    exact ⟨by rw [HD.out]; rfl, Below.refl _ _⟩
set_option maxHeartbeats 2000000 in
set_option maxRecDepth 100000 in
theorem rddepth_any (B r : Nat) (w : World) (K : List (Fr × Nat)) (ns : List Nd) (ls : List (Nat × Nat)) (b : Bool) (nv lv wv : Value) (h : RdM B r w K ns ls b nv lv wv) (hK : K.length ≤ 1000000) (hl : ls.length ≤ 1000000) :
    Calls Tryz.prog 160 #[.pointer (some ⟨r, 0, none⟩)] w fun e w' => e = .returned (.int .i64 ((if K = [] then dpo ls else 0 : Nat) : Nat)) ∧ Below w.heap.size w w' := by
  obtain ⟨Aw, cw, rfl, hw1, hw2, hw3⟩ := own_sliced h.wown
  have c2 := h.cells.2.2.1
  have HD := Lib.hid (rdepth_any B r _ _ w nv lv ns ls h.row hl)
  clear h hw3
  cases K with
  | nil =>
    rw [if_pos rfl]
    have h0 : ¬ ((0 : Int) > 0) := by omega
    go_enter Tryz.func160, Tryz.ntmps160
    go_wp2_with fail
    refine HD.out.mono ?_
    rintro e w' ⟨rfl, hb⟩
    go_wp2
    go_ret
    exact ⟨rfl, hb⟩
  | cons x K =>
    rw [if_neg (by simp)]
    obtain ⟨n, hn⟩ : ∃ n, n = (x :: K).length := ⟨_, rfl⟩
    have h0 : (n : Int) > 0 := by rw [hn, List.length_cons]; omega
    rw [← hn] at c2 hw1
    clear hn
    go_enter Tryz.func160, Tryz.ntmps160
    go_wp2
    go_ret
    exact ⟨rfl, Below.refl _ _⟩
end Go.Proofs.YtmmdigeciphglaaGreatDoor
namespace Go.Proofs.YtmmdigeciphglaaGreatDoor
open Go.RowKit Ex
theorem RdM.put {B r : Nat} {w : World} {K : List (Fr × Nat)} {ns : List Nd} {ls : List (Nat × Nat)} {b : Bool} {nv lv wv : Value} (h : RdM B r w K ns ls b nv lv wv) {w' : World} {ns' : List Nd} {ls' : List (Nat × Nat)}
    (hp : ∃ nv' lv', RowS B r 254 (((#[nv, lv, wv, rdF r b] : Array Value).setIfInBounds 0 nv').setIfInBounds 1 lv') w' nv' lv' ns' ls') (hk : Kt LRow w w') : ∃ nv' lv', RdM B r w' K ns' ls' b nv' lv' wv := by
  obtain ⟨nv', lv', h1⟩ := hp
  exact ⟨nv', lv', h1, hk.own h.wown (by decide), fun x hx => (h.ok x hx).kt hk (by decide)⟩
theorem parts_nil (w : World) (n : Nat) : Parts w n none 0 [] := ⟨Nat.le_refl _, fun _ hj => absurd hj (Nat.not_lt_zero _)⟩
set_option maxHeartbeats 4000000 in
set_option maxRecDepth 100000 in
theorem leaf_any (B r : Nat) (w : World) (K : List (Fr × Nat)) (ns : List Nd) (ls : List (Nat × Nat)) (b : Bool) (nv lv wv : Value) (h : RdM B r w K ns ls b nv lv wv) (n : Nd) (hn : ns.length ≤ 1000000) (hl : ls.length ≤ 1000000) :
    Calls Tryz.prog 185 #[.pointer (some ⟨r, 0, none⟩), .agg #[.int .u8 n.op, .int .i64 n.num, .string ⟨n.nm.toArray⟩, .int .i64 n.a, .int .i64 n.b, .int .i64 n.c]] w fun e w' => e = .returned (.tuple #[]) ∧ RdP B r w K (ns ++ [{ n with a := -1, b := -1, c := -1 }]) (ls ++ [(ns.length, 1)]) true w' := by
  obtain ⟨W0, hW0⟩ : ∃ W0, W0 = w.alloc (.cells #[.int .u8 n.op, .int .i64 n.num, .string ⟨n.nm.toArray⟩, .int .i64 n.a, .int .i64 n.b, .int .i64 n.c] 105) := ⟨_, rfl⟩
  obtain ⟨W1, hW1⟩ : ∃ W1, W1 = W0.drew := ⟨_, rfl⟩
  have hb1 : Below w.heap.size w W1 := by rw [hW1, hW0]; exact ((Below.refl _ _).alloc (Nat.le_refl _) _).drew
  have hk0 : IsBlk W0 w.heap.size 105 #[.int .u8 n.op, .int .i64 n.num, .string ⟨n.nm.toArray⟩, .int .i64 n.a, .int .i64 n.b, .int .i64 n.c] := by rw [hW0]; exact IsBlk.new _ _ _
  have y0 : W0.cell? ⟨w.heap.size, 0, none⟩ = some (.int .u8 n.op) := hk0.at_ 0
  have y1 : W0.cell? ⟨w.heap.size, 1, none⟩ = some (.int .i64 n.num) := hk0.at_ 1
  have y2 : W0.cell? ⟨w.heap.size, 2, none⟩ = some (.string ⟨n.nm.toArray⟩) := hk0.at_ 2
  have y3 : W0.cell? ⟨w.heap.size, 3, none⟩ = some (.int .i64 n.a) := hk0.at_ 3
  have y4 : W0.cell? ⟨w.heap.size, 4, none⟩ = some (.int .i64 n.b) := hk0.at_ 4
  have y5 : W0.cell? ⟨w.heap.size, 5, none⟩ = some (.int .i64 n.c) := hk0.at_ 5
  have HW0 := Lib.hid hW0
  have h1 := h.below hb1
  have HB := Lib.hid (hb1.mono (Nat.le_trans h.row.base (Nat.le_of_lt h.row.blk.lt)))
  have HPU := Lib.hid (put_any_ B r _ _ W1 nv lv ns ls h1.row (Or.inl rfl) n none 0 [] (parts_nil _ _) (by decide) (Nat.zero_le _) hn hl (by simp))
  have H1 := Lib.hid h1
  have HW1 := Lib.hid hW1
  obtain ⟨op, num, nm, na, nb, nc⟩ := n
  simp only at HPU y0 y1 y2 y3 y4 y5 HW0 ⊢
  clear h hW1 hb1 h1 hW0 hk0
  go_enter Tryz.func185, Tryz.ntmps185
  go_wp2
  rw [← HW0.out]
  go_still_tail 4, (by kernel_rfl)
  change wpList _ _ _ _ _ W0.drew
  rw [← HW1.out]
  go_wp2_with fail
  refine HPU.out.mono ?_
  rintro e w2 ⟨rfl, nv1, lv1, hp, hk, hb⟩
  have HQ := Lib.hid (H1.out.put ⟨nv1, lv1, hp⟩ hk)
  have HB2 := Lib.hid (HB.out.trans hb)
  clear hp hk hb
  obtain ⟨nv', lv', h2⟩ := HQ.out
  have y := h2.cells.2.2.2
  have yf : w2.frozen? ⟨r, 3, none⟩ = false := h2.row.blk.fz 3
  have HF := Lib.hid (show RdP B r w K (ns ++ [put1 ⟨op, num, nm, na, nb, nc⟩ []]) (ls.take (ls.length - ([] : List (Nat × Nat)).length) ++ [(ns.length, dmx [] ([] : List (Nat × Nat)).length + 1)]) true (w2.setCell ⟨r, 3, none⟩ (rdF r true)) from
    ⟨⟨_, _, _, h2.setf true⟩, HB2.out.setCell (p := ⟨r, 3, none⟩) h2.row.base _⟩)
  rw [List.length_nil, Nat.sub_zero, List.take_length] at HF
  clear HQ h2
  go_wp2
  go_end0
  exact ⟨rfl, HF.out⟩
end Go.Proofs.YtmmdigeciphglaaGreatDoor
namespace Go.Proofs.YtmmdigeciphglaaGreatDoor
open Ex
namespace Ex
def flats : List E → Nat → List Nd
  | [], _ => []
  | x :: l, p => flat x p ++ flats l (p + sz x)
def loo : List E → Nat → List (Nat × Nat)
  | [], _ => []
  | x :: l, p => (p + sz x - 1, dp x) :: loo l (p + sz x)
def szs : List E → Nat
  | [] => 0
  | x :: l => sz x + szs l
theorem flats_app : ∀ (A B : List E) (p : Nat), flats (A ++ B) p = flats A p ++ flats B (p + szs A)
  | [], _, _ => rfl
  | x :: A, B, p => by simp only [List.cons_append, flats, szs, flats_app A B, List.append_assoc, Nat.add_assoc]
theorem loo_app : ∀ (A B : List E) (p : Nat), loo (A ++ B) p = loo A p ++ loo B (p + szs A)
  | [], _, _ => rfl
  | x :: A, B, p => by simp only [List.cons_append, loo, szs, loo_app A B, Nat.add_assoc]
theorem szs_app : ∀ (A B : List E), szs (A ++ B) = szs A + szs B
  | [], B => by simp [szs]
  | x :: A, B => by simp only [List.cons_append, szs, szs_app A B, Nat.add_assoc]
theorem flats_len : ∀ (A : List E) (p : Nat), (flats A p).length = szs A
  | [], _ => rfl
  | x :: A, p => by simp only [flats, List.length_append, flat_len, flats_len A, szs]
theorem loo_len : ∀ (A : List E) (p : Nat), (loo A p).length = A.length
  | [], _ => rfl
  | x :: A, p => by simp only [loo, List.length_cons, loo_len A]
theorem len_szs : ∀ A : List E, A.length ≤ szs A
  | [] => Nat.le_refl _
  | x :: A => by have := len_szs A; have := sz_pos x; simp only [List.length_cons, szs]; omega
theorem dp_sz : ∀ x : E, dp x ≤ sz x
  | .num _ => Nat.le_refl _
  | .name _ => Nat.le_refl _
  | .tt => Nat.le_refl _
  | .ff => Nat.le_refl _
  | .un _ a => by have := dp_sz a; simp only [dp, sz]; omega
  | .bin _ a b => by have := dp_sz a; have := dp_sz b; simp only [dp, sz]; omega
  | .ite a b c => by have := dp_sz a; have := dp_sz b; have := dp_sz c; simp only [dp, sz]; omega
theorem loo_deep : ∀ (A : List E) (p : Nat), ∀ q ∈ loo A p, q.2 ≤ szs A
  | [], _, q, h => by cases h
  | x :: A, p, q, h => by
    rcases List.mem_cons.1 h with rfl | h
    · have := dp_sz x; simp only [szs]; omega
    · have := loo_deep A _ q h; simp only [szs]; omega
inductive Cmb : Nat → List E → E → Prop where
  | un (op : Nat) (a : E) (h : op = 5 ∨ op = 6) : Cmb op [a] (.un op a)
  | bin (op : Nat) (a b : E) (h : 7 ≤ op ∧ op ≤ 21) : Cmb op [a, b] (.bin op a b)
  | ite (a b c : E) : Cmb 22 [a, b, c] (.ite a b c)
theorem Cmb.parts {op : Nat} {l : List E} {x : E} (h : Cmb op l x) : l.length = fP op ∧ op < 23 ∧ fP op ≤ 3 := by
  cases h with
  | un op a h => rcases h with rfl | rfl <;> exact ⟨rfl, by omega, by decide⟩
  | bin op a b h => unfold fP; rw [if_neg (by omega), if_neg (by omega), if_pos (by omega)]; exact ⟨rfl, by omega, by omega⟩
  | ite a b c => exact ⟨rfl, by omega, by decide⟩
theorem nd_eq {a b : Nd} (h1 : a.op = b.op) (h2 : a.num = b.num) (h3 : a.nm = b.nm) (h4 : a.a = b.a) (h5 : a.b = b.b) (h6 : a.c = b.c) : a = b := by cases a; cases b; simp_all
theorem comb {op : Nat} {l : List E} {x : E} (h : Cmb op l x) (A : List E) :
    flats (A ++ [x]) 0 = flats (A ++ l) 0 ++ [put1 ⟨(op : Int), 0, [], 0, 0, 0⟩ ((loo (A ++ l) 0).drop ((loo (A ++ l) 0).length - fP op))] ∧
    loo (A ++ [x]) 0 = (loo (A ++ l) 0).take ((loo (A ++ l) 0).length - fP op) ++ [((flats (A ++ l) 0).length, dmx ((loo (A ++ l) 0).drop ((loo (A ++ l) 0).length - fP op)) (fP op) + 1)] := by
  have hlen : (loo (A ++ l) 0).length - fP op = (loo A 0).length := by
    rw [loo_len, loo_len, List.length_append, h.parts.1]; omega
  rw [hlen, flats_len, szs_app]
  rw [loo_app A l, loo_app A [x], flats_app A l, flats_app A [x], List.drop_left, List.take_left, Nat.zero_add]
  have hs := fun y => sz_pos y
  cases h with
  | un op a h =>
    have e1 : fP op = 1 := by rcases h with rfl | rfl <;> rfl
    refine ⟨?_, ?_⟩
    · simp only [flats, flat, List.append_nil, List.append_assoc]
      congr 2
      congr 1
      have := hs a
      refine nd_eq rfl rfl rfl ?_ rfl rfl
      show ((szs A + sz a : Nat) : Int) - 1 = ((szs A + sz a - 1 : Nat) : Int)
      omega
    · rw [e1]
      congr 1
  | bin op a b h =>
    have e1 : fP op = 2 := by unfold fP; rw [if_neg (by omega), if_neg (by omega), if_pos (by omega)]
    have := hs a
    have := hs b
    refine ⟨?_, ?_⟩
    · simp only [flats, flat, List.append_nil, List.append_assoc]
      congr 3
      congr 1
      refine nd_eq rfl rfl rfl ?_ ?_ rfl
      · show ((szs A + sz a : Nat) : Int) - 1 = ((szs A + sz a - 1 : Nat) : Int)
        omega
      · show ((szs A + sz a + sz b : Nat) : Int) - 1 = ((szs A + sz a + sz b - 1 : Nat) : Int)
        omega
    · rw [e1]
      congr 1
  | ite a b c =>
    have := hs a
    have := hs b
    have := hs c
    refine ⟨?_, ?_⟩
    · simp only [flats, flat, List.append_nil, List.append_assoc]
      congr 4
      congr 1
      refine nd_eq rfl rfl rfl ?_ ?_ ?_
      · show ((szs A + sz a : Nat) : Int) - 1 = ((szs A + sz a - 1 : Nat) : Int)
        omega
      · show ((szs A + sz a + sz b : Nat) : Int) - 1 = ((szs A + sz a + sz b - 1 : Nat) : Int)
        omega
      · show ((szs A + sz a + sz b + sz c : Nat) : Int) - 1 = ((szs A + sz a + sz b + sz c - 1 : Nat) : Int)
        omega
    · show _ ++ _ = _ ++ [(_, dmx _ 3 + 1)]
      congr 1
      simp only [loo, szs, sz, dp]
      congr 2
      · omega
      · show max (dp a) (max (dp b) (dp c)) + 1 = max (max (max 0 (dp a)) (dp b)) (dp c) + 1
        omega
def trs : List Fr → List E
  | [] => []
  | .un _ :: K => trs K
  | .bin _ a :: K => trs K ++ [a]
  | .par :: K => trs K
  | .if0 :: K => trs K
  | .if1 a :: K => trs K ++ [a]
  | .if2 a b :: K => trs K ++ [a, b]
def cur : Option E → List E
  | none => []
  | some x => [x]
def all (K : List (Fr × Nat)) (c : Option E) : List E := trs (K.map (·.1)) ++ cur c
end Ex
end Go.Proofs.YtmmdigeciphglaaGreatDoor
