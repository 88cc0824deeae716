/- Facts and walks for the statement. -/
import Derived.Test.YtmmdigeciphglaaGreatDoorPzB02
import Derived.Test.YtmmdigeciphglaaGreatDoorPzB03
import Derived.Test.YtmmdigeciphglaaGreatDoorPzB10
import Derived.Shelf.Strings.BuilderK
import Derived.Laws.Externs
import Derived.Lib.FrozenHead2
import Derived.Lib.UnsafeStr
import Derived.Test.YtmmdigeciphglaaGreatDoorPzB13
import Derived.Test.YtmmdigeciphglaaGreatDoorPzB11
namespace Go.Proofs.YtmmdigeciphglaaGreatDoor
namespace Ex
theorem pr_mem : ∀ {x : E}, wf x → ∀ (L : Nat) (t : Tk), t ∈ pr x L → Lx.is t.2 = t.1 ∧ t.1 ≠ 0
  | .num n, h, L, t, ht => by
    obtain rfl := List.mem_singleton.1 ht
    exact ⟨h.2, by show (1 : Int) ≠ 0; decide⟩
  | .name s, h, L, t, ht => by
    obtain rfl := List.mem_singleton.1 ht
    exact ⟨h, by show (2 : Int) ≠ 0; decide⟩
  | .tt, _, L, t, ht => by
    obtain rfl := List.mem_singleton.1 ht
    exact ⟨by decide, by decide⟩
  | .ff, _, L, t, ht => by
    obtain rfl := List.mem_singleton.1 ht
    exact ⟨by decide, by decide⟩
  | .un op a, h, L, t, ht => by
    have ho : Lx.is (tok op).2 = (tok op).1 ∧ (tok op).1 ≠ 0 := by rcases h.1 with e | e <;> subst e <;> decide
    have ih := pr_mem h.2 9 t
    unfold pr at ht
    split at ht
    · simp only [List.cons_append, List.mem_cons, List.mem_append, List.not_mem_nil, or_false] at ht
      rcases ht with rfl | rfl | ht | rfl
      · exact ⟨by decide, by decide⟩
      · exact ho
      · exact ih ht
      · exact ⟨by decide, by decide⟩
    · rcases List.mem_cons.1 ht with rfl | ht
      · exact ho
      · exact ih ht
  | .bin op a b, h, L, t, ht => by
    obtain ⟨h7, h21, wa, wb⟩ := h
    have hall : ∀ op : Fin 22, 7 ≤ op.1 → (tok op.1).1 ≠ 0 := by decide
    have ho : Lx.is (tok op).2 = (tok op).1 ∧ (tok op).1 ≠ 0 := ⟨rfl, hall ⟨op, by omega⟩ h7⟩
    have ia := pr_mem wa (lvl op) t
    have ib := pr_mem wb (lvl op + 1) t
    unfold pr at ht
    split at ht
    · simp only [List.cons_append, List.mem_cons, List.mem_append, List.not_mem_nil, or_false] at ht
      rcases ht with rfl | (ht | rfl | ht) | rfl
      · exact ⟨by decide, by decide⟩
      · exact ia ht
      · exact ho
      · exact ib ht
      · exact ⟨by decide, by decide⟩
    · rcases List.mem_append.1 ht with ht | ht
      · exact ia ht
      · rcases List.mem_cons.1 ht with rfl | ht
        · exact ho
        · exact ib ht
  | .ite a b c, h, L, t, ht => by
    have ia := pr_mem h.1 0 t
    have ib := pr_mem h.2.1 0 t
    have ic := pr_mem h.2.2 0 t
    unfold pr at ht
    simp only [List.cons_append, List.mem_cons, List.mem_append, List.not_mem_nil, or_false, or_assoc] at ht
    rcases ht with rfl | ht | rfl | ht | rfl | ht | rfl
    · exact ⟨by decide, by decide⟩
    · exact ia ht
    · exact ⟨by decide, by decide⟩
    · exact ib ht
    · exact ⟨by decide, by decide⟩
    · exact ic ht
    · exact ⟨by decide, by decide⟩
def tT (t : Tk) : Lx.T := ⟨t.1, t.2, 0⟩
theorem sh_jn : ∀ l : List Tk, Lx.sh (l.map tT) = jn l
  | [] => rfl
  | [t] => by simp [Lx.sh, jn, tT]
  | t :: u :: r => by
    have ih := sh_jn (u :: r)
    show (if (u :: r).map tT = [] then t.2 else t.2 ++ 32 :: Lx.sh ((u :: r).map tT)) = (if u :: r = [] then t.2 else t.2 ++ 32 :: jn (u :: r))
    rw [if_neg (by simp), if_neg (by simp), ih]
theorem good_tT {t : Tk} (h : Lx.is t.2 = t.1 ∧ t.1 ≠ 0) : Lx.Good (tT t) := by
  have h64 : t.2.length ≤ 64 := by
    rcases Nat.lt_or_ge 64 t.2.length with hl | hl
    · exact absurd (by rw [← h.1]; unfold Lx.is; rw [if_pos hl]) h.2
    · exact hl
  refine ⟨?_, h.2, h64⟩
  show Lx.whole t.2 = t.1
  rw [← h.1]
  unfold Lx.is
  rw [if_neg (by omega)]
end Ex
end Go.Proofs.YtmmdigeciphglaaGreatDoor
namespace Go.Proofs.YtmmdigeciphglaaGreatDoor
open Go.RowKit Go.Shelf Ex
theorem wbInfo : (Tryz.prog.info? 154).map (·.size) = some 2 := by kernel_rfl
theorem wbLies : liesAt Tryz.prog Tryz.prog.depth 195 (3 / Tryz.prog.cellsOf 195) 1 154 1 = true := by kernel_rfl
theorem w8Info : (Tryz.prog.info? 5).map (fun i => (i.zero, i.size, i.bytes)) = some (some (.int .u8 0), 1, 1) := by kernel_rfl
theorem w8Cells : Tryz.prog.cellsOf 5 = 1 := by kernel_rfl
structure WrC (B b : Nat) (nv p v : Value) (l : List UInt8) (w : World) : Prop where
  base : B ≤ b
  blk : IsBlk w b 195 #[nv, p, v]
  own : w.ownsRowF B 5 1 v l.length (Lib.byteCells l)
def WrS (B b : Nat) (nv : Value) (l : List UInt8) (w : World) : Prop := ∃ p v, (p = .pointer none ∨ p = .pointer (some ⟨b, 1, none⟩)) ∧ WrC B b nv p v l w
theorem ownF_kept {w w' : World} {B : Nat} {e : TypeId} {size n : Nat} {v : Value} {xs : List Value} (h : w.ownsRowF B e size v n xs) (hb : ∀ g, v.ownBlock = some g → w'.heap[g]? = w.heap[g]?) : w'.ownsRowF B e size v n xs := by
  refine ⟨h.1, ?_⟩
  rcases h.2 with h2 | ⟨g, cap, cur, fz, e1, e2, e3, e4⟩
  · exact Or.inl h2
  · exact Or.inr ⟨g, cap, cur, fz, e1, e2, (hb g (by rw [e1]; rfl)).trans e3, e4⟩
theorem WrC.below {B b : Nat} {nv p v : Value} {l : List UInt8} {w w' : World} (h : WrC B b nv p v l w) (hb : Below w.heap.size w w') : WrC B b nv p v l w' :=
  ⟨h.base, h.blk.below hb h.blk.lt, ownF_kept h.own (fun g hg => hb.block g (h.own.lt g hg).2)⟩
theorem WrS.below {B b : Nat} {nv : Value} {l : List UInt8} {w w' : World} (h : WrS B b nv l w) (hb : Below w.heap.size w w') : WrS B b nv l w' := by
  obtain ⟨p, v, hp, h⟩ := h; exact ⟨p, v, hp, h.below hb⟩
def LWr : List TypeId := [195, 5]
theorem WrC.apart {B b : Nat} {nv p v : Value} {l : List UInt8} {w : World} (h : WrC B b nv p v l w) : v.ownBlock ≠ some b := fun e => by
  have hb := h.blk
  rcases h.own.2 with ⟨e1, _⟩ | ⟨g, cap, cur, fz, e1, _, e3, _⟩
  · rw [e1] at e; cases e
  · rw [e1] at e
    injection e with e
    simp only at e
    subst e
    unfold IsBlk at hb
    rw [e3] at hb
    injection hb with hb
    injection hb with _ hb
    exact absurd hb (by decide)
set_option maxHeartbeats 1000000 in
set_option maxRecDepth 100000 in
theorem wcheck_any (B b : Nat) (nv : Value) (l : List UInt8) (w : World) (h : WrS B b nv l w) :
    Calls Tryz.prog 106 #[.pointer (some ⟨b, 1, none⟩)] w fun e w' => e = .returned (.tuple #[]) ∧ (∃ v, WrC B b nv (.pointer (some ⟨b, 1, none⟩)) v l w') ∧ Below B w w' ∧ Kt LWr w w' := by
  obtain ⟨p, v, hp, hc⟩ := h
  obtain ⟨j, hj, hjs⟩ := Option.map_eq_some_iff.1 wbInfo
  have c1 : w.cell? ⟨b, 1, none⟩ = some p := hc.blk.at_ 1
  have f1 : w.frozen? ⟨b, 1, none⟩ = false := hc.blk.fz 1
  rcases hp with rfl | rfl
  · have hsh : w.shape? b = some (195, 3) := by
      have := hc.blk; unfold IsBlk at this; simp [World.shape?, this]
    have HF := Lib.hid (show (∃ v, WrC B b nv (.pointer (some ⟨b, 1, none⟩)) v l (w.setCell ⟨b, 1, none⟩ (.pointer (some ⟨b, 1, none⟩)))) ∧ Below B w (w.setCell ⟨b, 1, none⟩ (.pointer (some ⟨b, 1, none⟩))) ∧ Kt LWr w (w.setCell ⟨b, 1, none⟩ (.pointer (some ⟨b, 1, none⟩))) from
      ⟨⟨v, hc.base, hc.blk.set 1 _, ownF_kept hc.own (fun g hg => Below.heap_setCell _ _ _ _ (fun e => hc.apart (by rw [hg]; exact congrArg some e)))⟩, (Below.refl _ _).setCell (p := ⟨b, 1, none⟩) hc.base _, Kt.set (p := ⟨b, 1, none⟩) hc.blk (by decide) _⟩)
    clear hc
    go_enter Tryz.func106, Tryz.ntmps106
    go_wp2
    rw [Lib.run_to_unsafe w ⟨b, 1, none⟩ Tryz.underlying151 Tryz.underlying228 hj (by rw [hjs]; decide) hsh (show 1 < 3 by decide)]
    simp only [Result.andThen]
    rw [Oper.upon_value]
    go_wp2
    rw [run_callFunc_extern Tryz.func135 (by kernel_rfl) (by kernel_rfl) (by kernel_rfl) (e := Extern.AbiNoEscape.same) (by kernel_rfl)]
    rw [Lib.run_noEscape]
    simp only [Result.andThen]
    rw [Oper.upon_value]
    go_wp2
    rw [Lib.run_from_unsafe w ⟨b, 1, none⟩ Tryz.underlying228 Tryz.underlying151 hj hsh wbLies]
    simp only [Result.andThen]
    rw [Oper.upon_value]
    go_wp2
    go_end0
    exact ⟨rfl, HF.out⟩
  · have HC := Lib.hid hc
    clear hc
    go_enter Tryz.func106, Tryz.ntmps106
    go_wp2
    rw [Lib.run_neq_ptr_same w _ Tryz.underlying151 hj]
    go_wp2
    go_end0
    exact ⟨rfl, ⟨v, HC.out⟩, Below.refl _ _, Kt.refl _ _⟩
theorem KtF.grown {w w' : World} {B n : Nat} {v : Value} {xs : List Value} (h : w.grownBy w' v.ownBlock) (ho : w.ownsRowF B 5 1 v n xs) : Kt LWr w w' :=
  ⟨h.os, h.tape, h.output, h.size, fun k cs t f hk a => by
    rw [h.block k (heap_lt hk) (fun e => by
      rcases ho.2 with ⟨e1, _⟩ | ⟨g, cap, cur, fz, e1, _, e3, _⟩
      · rw [e1] at e; cases e
      · rw [e1] at e
        injection e with e
        simp only at e
        subst e
        rw [hk] at e3
        injection e3 with e3
        injection e3 with _ e3
        exact a (by rw [e3]; decide))]
    exact hk⟩
theorem WrC.put {B b : Nat} {nv v v' : Value} {l l' : List UInt8} {w1 w2 : World} (h : WrC B b nv (.pointer (some ⟨b, 1, none⟩)) v l w1) (hg : w1.grownBy w2 v.ownBlock) (ho : w2.ownsRowF B 5 1 v' l'.length (Lib.byteCells l')) :
    w2.cell? ⟨b, 1, none⟩ = some (.pointer (some ⟨b, 1, none⟩)) ∧ w2.cell? ⟨b, 2, none⟩ = some v ∧ w2.frozen? ⟨b, 2, none⟩ = false ∧ WrS B b nv l' (w2.setCell ⟨b, 2, none⟩ v') ∧ Kt LWr w1 (w2.setCell ⟨b, 2, none⟩ v') := by
  have hb : IsBlk w2 b 195 #[nv, .pointer (some ⟨b, 1, none⟩), v] := h.blk.grown hg (fun e => h.apart e.symm)
  refine ⟨hb.at_ 1, hb.at_ 2, hb.fz 2, ⟨_, v', Or.inr rfl, h.base, hb.set 2 _, ?_⟩, (KtF.grown hg h.own).trans (Kt.set (p := ⟨b, 2, none⟩) hb (by decide) _)⟩
  have hap : v'.ownBlock ≠ some b := fun e => by
    rcases ho.2 with ⟨e1, _⟩ | ⟨g, cap, cur, fz, e1, _, e3, _⟩
    · rw [e1] at e; cases e
    · rw [e1] at e
      injection e with e
      simp only at e
      subst e
      unfold IsBlk at hb
      rw [e3] at hb
      injection hb with hb
      injection hb with _ hb
      exact absurd hb (by decide)
  exact ownF_kept ho (fun g hg => Below.heap_setCell _ _ _ _ (fun e => hap (by rw [hg]; exact congrArg some e)))
set_option maxHeartbeats 2000000 in
set_option maxRecDepth 100000 in
theorem wstr_any (B b : Nat) (nv : Value) (l : List UInt8) (s : ByteArray) (w : World) (h : WrS B b nv l w) (hlen : l.length + s.size ≤ 140737488355328) (hBw : B ≤ w.heap.size) :
    Calls Tryz.prog 76 #[.pointer (some ⟨b, 1, none⟩), .string s] w fun e w' => e = .returned (.tuple #[.int .i64 s.size, .nilIface]) ∧ WrS B b nv (l ++ s.data.toList) w' ∧ Below B w w' ∧ Kt LWr w w' := by
  obtain ⟨i0, hi, hz0, hz1, hz2⟩ := info_parts w8Info
  go_enter Tryz.func76, Tryz.ntmps76
  go_wp2_with (go_at_call 106; refine (wcheck_any B b nv l _ h).mono ?_)
  rintro e w1 ⟨rfl, ⟨v, h1⟩, hb1, hk1⟩
  have HC := Lib.hid h1
  have HB := Lib.hid (And.intro hb1 hk1)
  have c0 : w1.cell? ⟨b, 1, none⟩ = some (.pointer (some ⟨b, 1, none⟩)) := h1.blk.at_ 1
  have c1 : w1.cell? ⟨b, 2, none⟩ = some v := h1.blk.at_ 2
  have hown := h1.own
  have hbs := hb1.size
  clear h1 hb1 hk1
  go_wp2_with (at_builtin; refine Lib.wpList_append_own_stringF _ rfl _ _ 152 9 rfl B 5 i0 Tryz.underlying152 Tryz.underlying9 hi hz0 hz1 hz2 _ _ _ rfl hown s rfl ?c3 ?c4 ?c5 ?_)
  case c3 => unfold maxLen; omega
  case c4 => omega
  case c5 => omega
  intro v' w2 hown' hgrow _
  have HP := Lib.hid (HC.out.put (l' := l ++ s.data.toList) hgrow (by rw [Lib.byteCells_append, List.length_append, ← Lib.size_eq]; exact hown'))
  have HBB := Lib.hid ((HB.out.1.grown hgrow (by omega) (fun k hk => (hown.lt k hk).1)))
  have d0 := HP.out.1
  have d1 := HP.out.2.1
  have f1 := HP.out.2.2.1
  obtain ⟨ao, n', cap, rfl⟩ : ∃ ao n' cap, v' = .slice ao n' cap := by
    rcases hown'.2 with ⟨hv, _⟩ | ⟨g, cap, cur, fz, hv, _⟩
    · exact ⟨_, _, _, hv⟩
    · exact ⟨_, _, _, hv⟩
  go_wp2
  go_ret2
  exact ⟨rfl, HP.out.2.2.2.1, HBB.out.setCell (p := ⟨b, 2, none⟩) HC.out.base _, HB.out.2.trans HP.out.2.2.2.2⟩
set_option maxHeartbeats 2000000 in
set_option maxRecDepth 100000 in
theorem wbyte_any (B b : Nat) (nv : Value) (l : List UInt8) (c : UInt8) (w : World) (h : WrS B b nv l w) (hlen : l.length + 1 ≤ 140737488355328) (hBw : B ≤ w.heap.size) :
    Calls Tryz.prog 162 #[.pointer (some ⟨b, 1, none⟩), .int .u8 (c.toNat : Int)] w fun e w' => e = .returned .nilIface ∧ WrS B b nv (l ++ [c]) w' ∧ Below B w w' ∧ Kt LWr w w' := by
  obtain ⟨i0, hi, hz0, hz1, hz2⟩ := info_parts w8Info
  go_enter Tryz.func162, Tryz.ntmps162
  go_wp2_with (go_at_call 106; refine (wcheck_any B b nv l _ h).mono ?_)
  rintro e w1 ⟨rfl, ⟨v, h1⟩, hb1, hk1⟩
  have HC := Lib.hid (h1.below ((Below.refl _ _).alloc (Nat.le_refl _) (.cells #[.int .u8 (c.toNat : Int)] 5)))
  have HB := Lib.hid (And.intro (hb1.alloc (Nat.le_trans hBw hb1.size) (.cells #[.int .u8 (c.toNat : Int)] 5)) (hk1.on ((Below.refl _ _).alloc (Nat.le_refl _) (.cells #[.int .u8 (c.toNat : Int)] 5))))
  have c0 : w1.cell? ⟨b, 1, none⟩ = some (.pointer (some ⟨b, 1, none⟩)) := h1.blk.at_ 1
  have c1 : w1.cell? ⟨b, 2, none⟩ = some v := h1.blk.at_ 2
  have hown := h1.own
  have hbs := hb1.size
  clear h1 hb1 hk1
  go_wp2_with (at_builtin; refine wpList_append_ownF _ rfl _ _ 152 rfl B 5 i0 (.int .u8 0) 1 1 Tryz.underlying152 hi hz0 hz1 hz2 rfl (by decide) _ _ _ rfl (hown.alloc _) ⟨w1.heap.size, 0, none⟩ 1 1 [.int .u8 (c.toNat : Int)] rfl rfl ?c1 ?c2 ?c3 ?c4 ?c5 ?_)
  case c1 =>
    intro j u hj
    match j, hj with
    | 0, hj => simp at hj; subst hj; simp [Addr.add]
  case c2 => intro u hu; simp at hu; subst hu; rfl
  case c3 => unfold maxLen; omega
  case c4 => omega
  case c5 => simp; omega
  intro v' w2 hown' hgrow _
  have HP := Lib.hid (HC.out.put (l' := l ++ [c]) hgrow (by rw [Lib.byteCells_append, List.length_append]; exact hown'))
  have HBB := Lib.hid ((HB.out.1.grown hgrow (by simp; omega) (fun k hk => (hown.lt k hk).1)))
  have d0 := HP.out.1
  have d1 := HP.out.2.1
  have f1 := HP.out.2.2.1
  obtain ⟨g, cap, rfl⟩ : ∃ g cap, v' = .slice (some ⟨g, 0, none⟩) (l.length + 1) cap := by
    rcases hown'.2 with ⟨_, h0⟩ | ⟨g, cap, cur, fz, hv, _⟩
    · omega
    · exact ⟨g, cap, hv⟩
  go_wp2
  go_ret
  exact ⟨rfl, HP.out.2.2.2.1, HBB.out.setCell (p := ⟨b, 2, none⟩) HC.out.base _, HB.out.2.trans HP.out.2.2.2.2⟩
end Go.Proofs.YtmmdigeciphglaaGreatDoor
namespace Go.Proofs.YtmmdigeciphglaaGreatDoor
open Go.RowKit Ex
def jnw (l t : List UInt8) : List UInt8 := if l = [] then t else l ++ 32 :: t
theorem jnw_jnw {l a b : List UInt8} (h : a ≠ []) : jnw (jnw l a) b = jnw l (a ++ 32 :: b) := by
  unfold jnw
  by_cases hl : l = []
  · rw [if_pos hl, if_neg h, if_pos hl]
  · rw [if_neg hl, if_neg (by simp), if_neg hl]; simp
theorem jnw_len (l t : List UInt8) : (jnw l t).length ≤ l.length + t.length + 1 := by
  unfold jnw; split
  · omega
  · simp; omega
set_option maxHeartbeats 2000000 in
set_option maxRecDepth 100000 in
theorem wlen_any (B b : Nat) (nv : Value) (l : List UInt8) (w : World) (h : WrS B b nv l w) :
    Calls Tryz.prog 161 #[.pointer (some ⟨b, 1, none⟩)] w fun e w' => e = .returned (.int .i64 (l.length : Nat)) ∧ w = w' := by
  obtain ⟨p, v, _, hc⟩ := h
  have c2 : w.cell? ⟨b, 2, none⟩ = some v := hc.blk.at_ 2
  obtain ⟨A, n, hv⟩ : ∃ A n, v = .slice A l.length n := by
    rcases hc.own.2 with ⟨e1, e2⟩ | ⟨g, cap, cur, fz, e1, _⟩
    · exact ⟨none, 0, by rw [e1, e2]⟩
    · exact ⟨_, _, e1⟩
  subst hv
  clear hc
  go_enter Tryz.func161, Tryz.ntmps161
  go_wp2
  go_ret
  exact ⟨rfl, rfl⟩
set_option maxHeartbeats 2000000 in
set_option maxRecDepth 100000 in
theorem wr_any (B b : Nat) (nv : Value) (l : List UInt8) (s : ByteArray) (w : World) (h : WrS B b nv l w) (hlen : l.length + s.size + 1 ≤ 140737488355328) :
    Calls Tryz.prog 132 #[.pointer (some ⟨b, 0, none⟩), .string s] w fun e w' => e = .returned (.tuple #[]) ∧ WrS B b nv (jnw l s.data.toList) w' ∧ Below B w w' ∧ Kt LWr w w' := by
  have hBw : B ≤ w.heap.size := by obtain ⟨p, v, _, hc⟩ := h; exact Nat.le_trans hc.base (Nat.le_of_lt hc.blk.lt)
  have HL := Lib.hid (wlen_any B b nv l w h)
  have HH := Lib.hid h
  have HBB := Lib.hid hBw
  clear h hBw
  by_cases hl : l = []
  · have HJ := Lib.hid (show jnw l s.data.toList = l ++ s.data.toList from by unfold jnw; rw [if_pos hl, hl]; rfl)
    have h0 : ¬ ((l.length : Int) > 0) := by rw [hl]; simp
    have HW := Lib.hid (wstr_any B b nv l s w HH.out (by omega) HBB.out)
    rw [HJ.out]
    clear hl
    go_enter Tryz.func132, Tryz.ntmps132
    go_wp2_with fail
    refine HL.out.mono ?_
    rintro e w0 ⟨rfl, rfl⟩
    go_wp2_with fail
    refine HW.out.mono ?_
    rintro e w2 ⟨rfl, h2, h3, h4⟩
    have HF := Lib.hid (And.intro h2 (And.intro h3 h4))
    clear h2 h3 h4
    go_wp2
    go_end0
    exact ⟨rfl, HF.out⟩
  · have HJ := Lib.hid (show jnw l s.data.toList = (l ++ [32]) ++ s.data.toList from by unfold jnw; rw [if_neg hl]; simp)
    have h0 : (l.length : Int) > 0 := by
      cases l with
      | nil => exact absurd rfl hl
      | cons a r => rw [List.length_cons]; omega
    have HY := Lib.hid (wbyte_any B b nv l 32 w HH.out (by omega) HBB.out)
    have HW := Lib.hid (fun w2 h (hb : B ≤ w2.heap.size) => wstr_any B b nv (l ++ [32]) s w2 h (by rw [List.length_append]; simp; omega) hb)
    rw [HJ.out]
    clear hl
    go_enter Tryz.func132, Tryz.ntmps132
    go_wp2_with fail
    refine HL.out.mono ?_
    rintro e w0 ⟨rfl, rfl⟩
    go_wp2_with fail
    refine HY.out.mono ?_
    rintro e w1 ⟨rfl, h1, b1, k1⟩
    have HC := Lib.hid (HW.out w1 h1 (Nat.le_trans HBB.out b1.size))
    have HB1 := Lib.hid (And.intro b1 k1)
    clear h1 b1 k1
    go_wp2_with fail
    refine HC.out.mono ?_
    rintro e w2 ⟨rfl, h2, h3, h4⟩
    have HF := Lib.hid (And.intro h2 (And.intro (HB1.out.1.trans h3) (HB1.out.2.trans h4)))
    clear h2 h3 h4
    go_wp2
    go_end0
    exact ⟨rfl, HF.out⟩
end Go.Proofs.YtmmdigeciphglaaGreatDoor
namespace Go.Proofs.YtmmdigeciphglaaGreatDoor
open Go.RowKit Ex
def PaP (B b : Nat) (nv : Value) (l t : List UInt8) (w : World) (e : Ending) (w' : World) : Prop := e = .returned (.tuple #[]) ∧ WrS B b nv (jnw l t) w' ∧ Below B w w' ∧ Kt LWr w w'
def PaC (B b : Nat) (A : Option Addr) (c : Nat) (row : List Nd) (x : E) (L : Nat) : Prop := ∀ (s : Nat) (w : World) (l : List UInt8), At row s x → WrS B b (.slice A row.length c) l w → NdR w B A row → TxO B w → l.length + (Ex.prs x L).length + 2 ≤ 140737488355328 →
  Calls Tryz.prog 105 #[.pointer (some ⟨b, 0, none⟩), .int .i64 (((s + sz x : Nat) : Int) - 1), .int .u8 (L : Nat)] w (PaP B b (.slice A row.length c) l (Ex.prs x L) w)
structure PaI (B b : Nat) (nv : Value) (w : World) (o : Nat) (nd : Nd) (w1 : World) (l : List UInt8) : Prop where
  wr : WrS B b nv l w1
  below : Below B w w1
  kt : Kt LWr w w1
  node : IsBlk w1 w.heap.size 105 #[.int .u8 nd.op, .int .i64 nd.num, .string ⟨nd.nm.toArray⟩, .int .i64 nd.a, .int .i64 nd.b, .int .i64 nd.c]
  form : IsBlk w1 (w.heap.size + 1) 224 #[.string ⟨(fW o).toArray⟩, .int .u8 (fL o : Nat), .int .i64 (fP o : Nat)]
theorem PaI.on {B b : Nat} {nv : Value} {w : World} {o : Nat} {nd : Nd} {w1 w2 : World} {l t : List UInt8} (h : PaI B b nv w o nd w1 l) {e : Ending} (hp : PaP B b nv l t w1 e w2) : PaI B b nv w o nd w2 (jnw l t) :=
  ⟨hp.2.1, h.below.trans hp.2.2.1, h.kt.trans hp.2.2.2, hp.2.2.2.blk h.node (by decide), hp.2.2.2.blk h.form (by decide)⟩
theorem PaI.fin {B b : Nat} {nv : Value} {w : World} {o : Nat} {nd : Nd} {w1 : World} {l l' t : List UInt8} (h : PaI B b nv w o nd w1 l') (hl : l' = jnw l t) : PaP B b nv l t w (.returned (.tuple #[])) w1 :=
  ⟨rfl, hl ▸ h.wr, h.below, h.kt⟩
theorem PaI.drop {B b : Nat} {nv : Value} {w : World} {o : Nat} {nd : Nd} {w1 w2 : World} {l : List UInt8} (h : PaI B b nv w o nd w1 l) (hb : Below w1.heap.size w1 w2) (hB : B ≤ w1.heap.size) : PaI B b nv w o nd w2 l :=
  ⟨h.wr.below hb, h.below.trans (hb.mono hB), h.kt.on hb, h.node.below hb h.node.lt, h.form.below hb h.form.lt⟩
set_option maxHeartbeats 4000000 in
set_option maxRecDepth 100000 in
theorem part_par (B b : Nat) (A : Option Addr) (c : Nat) (row : List Nd) (hc : row.length ≤ c) (pl o : Nat) (num na nb nc : Int) (nm : List UInt8) (L : Nat) (ho : o < 23) (w : World) (l : List UInt8) (hpl : pl < row.length) (hnode : row[pl] = ⟨(o : Int), num, nm, na, nb, nc⟩) (hL : fL o < L)
    (hw : WrS B b (.slice A row.length c) l w) (hnd : NdR w B A row) (HT : TxO B w) (t : List UInt8) (hlen : l.length + t.length + 6 ≤ 140737488355328)
    (H0 : ∀ w1 l1, Below B w w1 → WrS B b (.slice A row.length c) l1 w1 → l1.length + t.length + 2 ≤ 140737488355328 → Calls Tryz.prog 105 #[.pointer (some ⟨b, 0, none⟩), .int .i64 (pl : Int), .int .u8 0] w1 (PaP B b (.slice A row.length c) l1 t w1)) :
    Calls Tryz.prog 105 #[.pointer (some ⟨b, 0, none⟩), .int .i64 (pl : Int), .int .u8 (L : Nat)] w (PaP B b (.slice A row.length c) l ([40, 32] ++ t ++ [32, 41]) w) := by
  obtain ⟨N, hN⟩ : ∃ N : ByteArray, N = ⟨nm.toArray⟩ := ⟨_, rfl⟩
  obtain ⟨g, og, hA, hg, q0, q1, q2, q3, q4, q5⟩ := hnd pl hpl
  subst hA
  rw [hnode] at q0 q1 q2 q3 q4 q5
  simp only at q0 q1 q2 q3 q4 q5
  have hBw : B ≤ w.heap.size := by obtain ⟨p, v, _, hc⟩ := hw; exact Nat.le_trans hc.base (Nat.le_of_lt hc.blk.lt)
  have b0 : w.cell? ⟨b, 0, none⟩ = some (.slice (some ⟨g, og, none⟩) row.length c) := by obtain ⟨p, v, _, hc⟩ := hw; exact hc.blk.at_ 0
  have hbl : b < w.heap.size := by obtain ⟨p, v, _, hc⟩ := hw; exact hc.blk.lt
  obtain ⟨t0, t1, t2⟩ := HT.here.fm o (by omega)
  have hg0 : 1 < w.heap.size := block_lt t0
  have i1 : (pl : Int) < (row.length : Int) := by omega
  have i2 : (row.length : Int) ≤ (c : Int) := by omega
  obtain ⟨W1, hW1⟩ : ∃ W1, W1 = (w.alloc (.cells #[.int .u8 (o : Int), .int .i64 num, .string ⟨nm.toArray⟩, .int .i64 na, .int .i64 nb, .int .i64 nc] 105)).alloc (.cells #[.string ⟨(fW o).toArray⟩, .int .u8 (fL o : Nat), .int .i64 (fP o : Nat)] 224) := ⟨_, rfl⟩
  have hz1 : (w.alloc (.cells #[.int .u8 (o : Int), .int .i64 num, .string ⟨nm.toArray⟩, .int .i64 na, .int .i64 nb, .int .i64 nc] 105)).heap.size = w.heap.size + 1 := by simp
  have hb1 : Below w.heap.size w W1 := by rw [hW1]; exact ((Below.refl _ _).alloc (Nat.le_refl _) _).alloc (by simp) _
  have HI0 := Lib.hid (show PaI B b (.slice (some ⟨g, og, none⟩) row.length c) w o ⟨(o : Int), num, nm, na, nb, nc⟩ W1 l from ⟨hw.below hb1, hb1.mono hBw, Kt.of_below hb1, by rw [hW1]; exact (IsBlk.new w _ _).below ((Below.refl _ _).alloc (Nat.le_refl _) _) (by simp), by rw [hW1, ← hz1]; exact IsBlk.new _ _ _⟩)
  have HW1 := Lib.hid hW1
  have HTT := Lib.hid HT
  have HND := Lib.hid hnd
  clear hW1 hz1 hb1 hw HT hnd
  rw [← hN] at q2 HW1
  have hL' : (fL o : Int) < (L : Int) := by omega
  have HC1 := Lib.hid (show Calls Tryz.prog 132 #[.pointer (some ⟨b, 0, none⟩), .string ⟨#[40]⟩] W1 (PaP B b (.slice (some ⟨g, og, none⟩) row.length c) l [40] W1) from wr_any B b _ l ⟨#[40]⟩ W1 HI0.out.wr (by show l.length + 1 + 1 ≤ _; omega))
  have HC2 := Lib.hid (fun w2 (hp : PaI B b (.slice (some ⟨g, og, none⟩) row.length c) w o ⟨(o : Int), num, nm, na, nb, nc⟩ w2 (jnw l [40])) => H0 w2 (jnw l [40]) hp.below hp.wr (by have := jnw_len l [40]; simp at this; omega))
  have HC3 := Lib.hid (fun w3 (hp : PaI B b (.slice (some ⟨g, og, none⟩) row.length c) w o ⟨(o : Int), num, nm, na, nb, nc⟩ w3 (jnw (jnw l [40]) t)) => (show Calls Tryz.prog 132 #[.pointer (some ⟨b, 0, none⟩), .string ⟨#[41]⟩] w3 (PaP B b (.slice (some ⟨g, og, none⟩) row.length c) (jnw (jnw l [40]) t) [41] w3) from wr_any B b _ _ ⟨#[41]⟩ w3 hp.wr (by have := jnw_len (jnw l [40]) t; have := jnw_len l [40]; show _ + 1 + 1 ≤ _; simp at *; omega)))
  obtain ⟨TT, hTT⟩ : ∃ TT, TT = [40, 32] ++ t ++ [32, 41] := ⟨_, rfl⟩
  have HJ := Lib.hid (show jnw (jnw (jnw l [40]) t) [41] = jnw l TT from by
    rw [jnw_jnw (a := [40]) (by simp), jnw_jnw (by simp), hTT]; simp)
  rw [← hTT]
  clear H0 hlen hN hTT
  go_enter Tryz.func105, Tryz.ntmps105
  go_wp2_with fail
  rw [← HW1.out]
  go_wp2_with fail
  refine HC1.out.mono ?_
  intro e w2 hp
  have HI1 := Lib.hid (HI0.out.on hp)
  have he := hp.1
  clear hp
  subst he
  have HC2' := Lib.hid (HC2.out w2 HI1.out)
  go_wp2_with fail
  refine HC2'.out.mono ?_
  intro e w3 hp
  have HI2 := Lib.hid (HI1.out.on hp)
  have he := hp.1
  clear hp
  subst he
  have HC3' := Lib.hid (HC3.out w3 HI2.out)
  go_wp2_with fail
  refine HC3'.out.mono ?_
  intro e w4 hp
  have HI3 := Lib.hid (HI2.out.on hp)
  have he := hp.1
  clear hp
  subst he
  have HF := Lib.hid (HI3.out.fin HJ.out)
  go_wp2
  refine bodyPost_ret (results_none (fn := Tryz.f105) rfl _ _ _) rfl ?_
  exact HF.out
end Go.Proofs.YtmmdigeciphglaaGreatDoor
namespace Go.Proofs.YtmmdigeciphglaaGreatDoor
open Go.RowKit Ex
set_option maxHeartbeats 4000000 in
set_option maxRecDepth 100000 in
theorem part_word (B b : Nat) (A : Option Addr) (c : Nat) (row : List Nd) (hc : row.length ≤ c) (pl o : Nat) (L : Nat) (ho : o = 3 ∨ o = 4) (w : World) (l : List UInt8) (hpl : pl < row.length) (hnode : row[pl] = ⟨(o : Int), 0, [], -1, -1, -1⟩) (hL : ¬ fL o < L)
    (hw : WrS B b (.slice A row.length c) l w) (hnd : NdR w B A row) (HT : TxO B w) (hlen : l.length + (fW o).length + 2 ≤ 140737488355328) :
    Calls Tryz.prog 105 #[.pointer (some ⟨b, 0, none⟩), .int .i64 (pl : Int), .int .u8 (L : Nat)] w (PaP B b (.slice A row.length c) l (fW o) w) := by
  obtain ⟨g, og, hA, hg, q0, q1, q2, q3, q4, q5⟩ := hnd pl hpl
  subst hA
  rw [hnode] at q0 q1 q2 q3 q4 q5
  simp only at q0 q1 q2 q3 q4 q5
  have hBw : B ≤ w.heap.size := by obtain ⟨p, v, _, hc⟩ := hw; exact Nat.le_trans hc.base (Nat.le_of_lt hc.blk.lt)
  have b0 : w.cell? ⟨b, 0, none⟩ = some (.slice (some ⟨g, og, none⟩) row.length c) := by obtain ⟨p, v, _, hc⟩ := hw; exact hc.blk.at_ 0
  have hbl : b < w.heap.size := by obtain ⟨p, v, _, hc⟩ := hw; exact hc.blk.lt
  obtain ⟨t0, t1, t2⟩ := HT.here.fm o (by omega)
  have hg0 : 1 < w.heap.size := block_lt t0
  have ho23 : ((o : Nat) : Int) < 23 := by omega
  have i1 : (pl : Int) < (row.length : Int) := by omega
  have i2 : (row.length : Int) ≤ (c : Int) := by omega
  obtain ⟨W1, hW1⟩ : ∃ W1, W1 = (w.alloc (.cells #[.int .u8 (o : Int), .int .i64 0, .string ⟨#[]⟩, .int .i64 (-1), .int .i64 (-1), .int .i64 (-1)] 105)).alloc (.cells #[.string ⟨(fW o).toArray⟩, .int .u8 (fL o : Nat), .int .i64 (fP o : Nat)] 224) := ⟨_, rfl⟩
  have hz1 : (w.alloc (.cells #[.int .u8 (o : Int), .int .i64 0, .string ⟨#[]⟩, .int .i64 (-1), .int .i64 (-1), .int .i64 (-1)] 105)).heap.size = w.heap.size + 1 := by simp
  have hb1 : Below w.heap.size w W1 := by rw [hW1]; exact ((Below.refl _ _).alloc (Nat.le_refl _) _).alloc (by simp) _
  have HI0 := Lib.hid (show PaI B b (.slice (some ⟨g, og, none⟩) row.length c) w o ⟨(o : Int), 0, [], (-1), (-1), (-1)⟩ W1 l from ⟨hw.below hb1, hb1.mono hBw, Kt.of_below hb1, by rw [hW1]; exact (IsBlk.new w _ _).below ((Below.refl _ _).alloc (Nat.le_refl _) _) (by simp), by rw [hW1, ← hz1]; exact IsBlk.new _ _ _⟩)
  have HW1 := Lib.hid hW1
  have HTT := Lib.hid HT
  have HND := Lib.hid hnd
  clear hW1 hz1 hb1 hw HT hnd
  have hL' : ¬ (fL o : Int) < (L : Int) := by omega
  have k1 : ((o : Int) == 1) = false := beq_eq_false_iff_ne.2 (by omega)
  have k2 : ((o : Int) == 2) = false := beq_eq_false_iff_ne.2 (by omega)
  have k22 : ((o : Int) == 22) = false := beq_eq_false_iff_ne.2 (by omega)
  have hfp : fP o = 0 := by rcases ho with rfl | rfl <;> rfl
  have p2 : (((fP o : Nat) : Int) == 2) = false := by rw [hfp]; rfl
  have p1 : (((fP o : Nat) : Int) == 1) = false := by rw [hfp]; rfl
  have HC1 := Lib.hid (show Calls Tryz.prog 132 #[.pointer (some ⟨b, 0, none⟩), .string ⟨(fW o).toArray⟩] W1 (PaP B b (.slice (some ⟨g, og, none⟩) row.length c) l (fW o) W1) from wr_any B b _ l ⟨(fW o).toArray⟩ W1 HI0.out.wr (by show l.length + (fW o).toArray.size + 1 ≤ _; simp; omega))
  clear hfp ho
  go_enter Tryz.func105, Tryz.ntmps105
  go_wp2_with fail
  rw [← HW1.out]
  go_wp2_with fail
  refine HC1.out.mono ?_
  intro e w2 hp
  have HI1 := Lib.hid (HI0.out.on hp)
  have he := hp.1
  clear hp
  subst he
  have HF := Lib.hid (HI1.out.fin rfl)
  go_wp2
  first
    | (go_end0; exact HF.out)
    | (refine bodyPost_ret (results_none (fn := Tryz.f105) rfl _ _ _) rfl ?_; exact HF.out)
set_option maxHeartbeats 4000000 in
set_option maxRecDepth 100000 in
theorem part_name (B b : Nat) (A : Option Addr) (c : Nat) (row : List Nd) (hc : row.length ≤ c) (pl : Nat) (nm : List UInt8) (L : Nat) (w : World) (l : List UInt8) (hpl : pl < row.length) (hnode : row[pl] = ⟨2, 0, nm, -1, -1, -1⟩) (hL : ¬ fL 2 < L)
    (hw : WrS B b (.slice A row.length c) l w) (hnd : NdR w B A row) (HT : TxO B w) (hlen : l.length + nm.length + 2 ≤ 140737488355328) :
    Calls Tryz.prog 105 #[.pointer (some ⟨b, 0, none⟩), .int .i64 (pl : Int), .int .u8 (L : Nat)] w (PaP B b (.slice A row.length c) l nm w) := by
  obtain ⟨g, og, hA, hg, q0, q1, q2, q3, q4, q5⟩ := hnd pl hpl
  subst hA
  rw [hnode] at q0 q1 q2 q3 q4 q5
  simp only at q0 q1 q2 q3 q4 q5
  have hBw : B ≤ w.heap.size := by obtain ⟨p, v, _, hc⟩ := hw; exact Nat.le_trans hc.base (Nat.le_of_lt hc.blk.lt)
  have b0 : w.cell? ⟨b, 0, none⟩ = some (.slice (some ⟨g, og, none⟩) row.length c) := by obtain ⟨p, v, _, hc⟩ := hw; exact hc.blk.at_ 0
  have hbl : b < w.heap.size := by obtain ⟨p, v, _, hc⟩ := hw; exact hc.blk.lt
  obtain ⟨t0, t1, t2⟩ := HT.here.fm 2 (by omega)
  have hg0 : 1 < w.heap.size := block_lt t0
  have ho23 : ((2 : Nat) : Int) < 23 := by omega
  have i1 : (pl : Int) < (row.length : Int) := by omega
  have i2 : (row.length : Int) ≤ (c : Int) := by omega
  obtain ⟨W1, hW1⟩ : ∃ W1, W1 = (w.alloc (.cells #[.int .u8 (2 : Int), .int .i64 0, .string ⟨nm.toArray⟩, .int .i64 (-1), .int .i64 (-1), .int .i64 (-1)] 105)).alloc (.cells #[.string ⟨(fW 2).toArray⟩, .int .u8 (fL 2 : Nat), .int .i64 (fP 2 : Nat)] 224) := ⟨_, rfl⟩
  have hz1 : (w.alloc (.cells #[.int .u8 (2 : Int), .int .i64 0, .string ⟨nm.toArray⟩, .int .i64 (-1), .int .i64 (-1), .int .i64 (-1)] 105)).heap.size = w.heap.size + 1 := by simp
  have hb1 : Below w.heap.size w W1 := by rw [hW1]; exact ((Below.refl _ _).alloc (Nat.le_refl _) _).alloc (by simp) _
  have HI0 := Lib.hid (show PaI B b (.slice (some ⟨g, og, none⟩) row.length c) w 2 ⟨(2 : Int), 0, nm, (-1), (-1), (-1)⟩ W1 l from ⟨hw.below hb1, hb1.mono hBw, Kt.of_below hb1, by rw [hW1]; exact (IsBlk.new w _ _).below ((Below.refl _ _).alloc (Nat.le_refl _) _) (by simp), by rw [hW1, ← hz1]; exact IsBlk.new _ _ _⟩)
  have HW1 := Lib.hid hW1
  have HTT := Lib.hid HT
  have HND := Lib.hid hnd
  clear hW1 hz1 hb1 hw HT hnd
  have hL' : ¬ (fL 2 : Int) < (L : Int) := by omega
  have HC1 := Lib.hid (show Calls Tryz.prog 132 #[.pointer (some ⟨b, 0, none⟩), .string ⟨nm.toArray⟩] W1 (PaP B b (.slice (some ⟨g, og, none⟩) row.length c) l nm W1) from wr_any B b _ l ⟨nm.toArray⟩ W1 HI0.out.wr (by show l.length + nm.toArray.size + 1 ≤ _; simp; omega))
  go_enter Tryz.func105, Tryz.ntmps105
  go_wp2_with fail
  rw [← HW1.out]
  go_wp2_with fail
  refine HC1.out.mono ?_
  intro e w2 hp
  have HI1 := Lib.hid (HI0.out.on hp)
  have he := hp.1
  clear hp
  subst he
  have HF := Lib.hid (HI1.out.fin rfl)
  go_wp2
  first
    | (go_end0; exact HF.out)
    | (refine bodyPost_ret (results_none (fn := Tryz.f105) rfl _ _ _) rfl ?_; exact HF.out)
set_option maxHeartbeats 4000000 in
set_option maxRecDepth 100000 in
theorem part_num (B b : Nat) (A : Option Addr) (c : Nat) (row : List Nd) (hc : row.length ≤ c) (pl n : Nat) (hn : n ≤ 9223372036854775807) (L : Nat) (w : World) (l : List UInt8) (hpl : pl < row.length) (hnode : row[pl] = ⟨1, (n : Int), [], -1, -1, -1⟩) (hL : ¬ fL 1 < L)
    (hw : WrS B b (.slice A row.length c) l w) (hnd : NdR w B A row) (HT : TxO B w) (hlen : l.length + (dg n).length + 2 ≤ 140737488355328) :
    Calls Tryz.prog 105 #[.pointer (some ⟨b, 0, none⟩), .int .i64 (pl : Int), .int .u8 (L : Nat)] w (PaP B b (.slice A row.length c) l (dg n) w) := by
  obtain ⟨g, og, hA, hg, q0, q1, q2, q3, q4, q5⟩ := hnd pl hpl
  subst hA
  rw [hnode] at q0 q1 q2 q3 q4 q5
  simp only at q0 q1 q2 q3 q4 q5
  have hBw : B ≤ w.heap.size := by obtain ⟨p, v, _, hc⟩ := hw; exact Nat.le_trans hc.base (Nat.le_of_lt hc.blk.lt)
  have b0 : w.cell? ⟨b, 0, none⟩ = some (.slice (some ⟨g, og, none⟩) row.length c) := by obtain ⟨p, v, _, hc⟩ := hw; exact hc.blk.at_ 0
  have hbl : b < w.heap.size := by obtain ⟨p, v, _, hc⟩ := hw; exact hc.blk.lt
  obtain ⟨t0, t1, t2⟩ := HT.here.fm 1 (by omega)
  have hg0 : 1 < w.heap.size := block_lt t0
  have ho23 : ((1 : Nat) : Int) < 23 := by omega
  have i1 : (pl : Int) < (row.length : Int) := by omega
  have i2 : (row.length : Int) ≤ (c : Int) := by omega
  obtain ⟨W1, hW1⟩ : ∃ W1, W1 = (w.alloc (.cells #[.int .u8 (1 : Int), .int .i64 (n : Int), .string ⟨#[]⟩, .int .i64 (-1), .int .i64 (-1), .int .i64 (-1)] 105)).alloc (.cells #[.string ⟨(fW 1).toArray⟩, .int .u8 (fL 1 : Nat), .int .i64 (fP 1 : Nat)] 224) := ⟨_, rfl⟩
  have hz1 : (w.alloc (.cells #[.int .u8 (1 : Int), .int .i64 (n : Int), .string ⟨#[]⟩, .int .i64 (-1), .int .i64 (-1), .int .i64 (-1)] 105)).heap.size = w.heap.size + 1 := by simp
  have hb1 : Below w.heap.size w W1 := by rw [hW1]; exact ((Below.refl _ _).alloc (Nat.le_refl _) _).alloc (by simp) _
  have HI0 := Lib.hid (show PaI B b (.slice (some ⟨g, og, none⟩) row.length c) w 1 ⟨(1 : Int), (n : Int), [], (-1), (-1), (-1)⟩ W1 l from ⟨hw.below hb1, hb1.mono hBw, Kt.of_below hb1, by rw [hW1]; exact (IsBlk.new w _ _).below ((Below.refl _ _).alloc (Nat.le_refl _) _) (by simp), by rw [hW1, ← hz1]; exact IsBlk.new _ _ _⟩)
  have HW1 := Lib.hid hW1
  have HTT := Lib.hid HT
  have HND := Lib.hid hnd
  clear hW1 hz1 hb1 hw HT hnd
  have hL' : ¬ (fL 1 : Int) < (L : Int) := by omega
  have hit : Lib.itoa (n : Int) = dg n := by unfold Lib.itoa dg; rw [if_neg (by omega), Int.toNat_natCast]
  have hput := put_any (n : Int) W1 (HTT.out.on HI0.out.below).here.tb ⟨by omega, by omega⟩
  rw [hit] at hput
  have HPT := Lib.hid hput
  have HC1 := Lib.hid (fun w2 (hp : PaI B b (.slice (some ⟨g, og, none⟩) row.length c) w 1 ⟨1, (n : Int), [], -1, -1, -1⟩ w2 l) => (show Calls Tryz.prog 132 #[.pointer (some ⟨b, 0, none⟩), .string ⟨(dg n).toArray⟩] w2 (PaP B b (.slice (some ⟨g, og, none⟩) row.length c) l (dg n) w2) from wr_any B b _ l ⟨(dg n).toArray⟩ w2 hp.wr (by show l.length + (dg n).toArray.size + 1 ≤ _; simp; omega)))
  clear hit hput hn
  go_enter Tryz.func105, Tryz.ntmps105
  go_wp2_with fail
  rw [← HW1.out]
  refine HPT.out.mono ?_
  rintro e w2 ⟨rfl, hb2⟩
  have HI1 := Lib.hid (HI0.out.drop hb2 (Nat.le_trans hBw HI0.out.below.size))
  have HC2 := Lib.hid (HC1.out w2 HI1.out)
  clear hb2
  go_wp2_with fail
  refine HC2.out.mono ?_
  intro e w3 hp
  have HI2 := Lib.hid (HI1.out.on hp)
  have he := hp.1
  clear hp
  subst he
  have HF := Lib.hid (HI2.out.fin rfl)
  go_wp2
  first
    | (go_end0; exact HF.out)
    | (refine bodyPost_ret (results_none (fn := Tryz.f105) rfl _ _ _) rfl ?_; exact HF.out)
set_option maxHeartbeats 4000000 in
set_option maxRecDepth 100000 in
theorem part_un (B b : Nat) (A : Option Addr) (c : Nat) (row : List Nd) (hc : row.length ≤ c) (pl o : Nat) (na : Int) (L : Nat) (ho : o = 5 ∨ o = 6) (w : World) (l : List UInt8) (hpl : pl < row.length) (hnode : row[pl] = ⟨(o : Int), 0, [], na, -1, -1⟩) (hL : ¬ fL o < L)
    (hw : WrS B b (.slice A row.length c) l w) (hnd : NdR w B A row) (HT : TxO B w) (t : List UInt8) (hlen : l.length + (fW o).length + t.length + 3 ≤ 140737488355328)
    (H1 : ∀ w1 l1, Below B w w1 → WrS B b (.slice A row.length c) l1 w1 → l1.length + t.length + 2 ≤ 140737488355328 → Calls Tryz.prog 105 #[.pointer (some ⟨b, 0, none⟩), .int .i64 na, .int .u8 (fL o : Nat)] w1 (PaP B b (.slice A row.length c) l1 t w1)) :
    Calls Tryz.prog 105 #[.pointer (some ⟨b, 0, none⟩), .int .i64 (pl : Int), .int .u8 (L : Nat)] w (PaP B b (.slice A row.length c) l (fW o ++ 32 :: t) w) := by
  obtain ⟨nb, hnb⟩ : ∃ nb : Int, nb = -1 := ⟨_, rfl⟩
  rw [show ((⟨(o : Int), 0, [], na, -1, -1⟩ : Nd)) = ⟨(o : Int), 0, [], na, nb, -1⟩ by rw [hnb]] at hnode
  obtain ⟨g, og, hA, hg, q0, q1, q2, q3, q4, q5⟩ := hnd pl hpl
  subst hA
  rw [hnode] at q0 q1 q2 q3 q4 q5
  simp only at q0 q1 q2 q3 q4 q5
  have hBw : B ≤ w.heap.size := by obtain ⟨p, v, _, hc⟩ := hw; exact Nat.le_trans hc.base (Nat.le_of_lt hc.blk.lt)
  have b0 : w.cell? ⟨b, 0, none⟩ = some (.slice (some ⟨g, og, none⟩) row.length c) := by obtain ⟨p, v, _, hc⟩ := hw; exact hc.blk.at_ 0
  have hbl : b < w.heap.size := by obtain ⟨p, v, _, hc⟩ := hw; exact hc.blk.lt
  obtain ⟨t0, t1, t2⟩ := HT.here.fm o (by omega)
  have hg0 : 1 < w.heap.size := block_lt t0
  have ho23 : ((o : Nat) : Int) < 23 := by omega
  have i1 : (pl : Int) < (row.length : Int) := by omega
  have i2 : (row.length : Int) ≤ (c : Int) := by omega
  obtain ⟨W1, hW1⟩ : ∃ W1, W1 = (w.alloc (.cells #[.int .u8 (o : Int), .int .i64 0, .string ⟨#[]⟩, .int .i64 na, .int .i64 nb, .int .i64 (-1)] 105)).alloc (.cells #[.string ⟨(fW o).toArray⟩, .int .u8 (fL o : Nat), .int .i64 (fP o : Nat)] 224) := ⟨_, rfl⟩
  have hz1 : (w.alloc (.cells #[.int .u8 (o : Int), .int .i64 0, .string ⟨#[]⟩, .int .i64 na, .int .i64 nb, .int .i64 (-1)] 105)).heap.size = w.heap.size + 1 := by simp
  have hb1 : Below w.heap.size w W1 := by rw [hW1]; exact ((Below.refl _ _).alloc (Nat.le_refl _) _).alloc (by simp) _
  have HI0 := Lib.hid (show PaI B b (.slice (some ⟨g, og, none⟩) row.length c) w o ⟨(o : Int), 0, [], na, nb, (-1)⟩ W1 l from ⟨hw.below hb1, hb1.mono hBw, Kt.of_below hb1, by rw [hW1]; exact (IsBlk.new w _ _).below ((Below.refl _ _).alloc (Nat.le_refl _) _) (by simp), by rw [hW1, ← hz1]; exact IsBlk.new _ _ _⟩)
  have HW1 := Lib.hid hW1
  have HTT := Lib.hid HT
  have HND := Lib.hid hnd
  clear hW1 hz1 hb1 hw HT hnd
  have hL' : ¬ (fL o : Int) < (L : Int) := by omega
  have k1 : ((o : Int) == 1) = false := beq_eq_false_iff_ne.2 (by omega)
  have k2 : ((o : Int) == 2) = false := beq_eq_false_iff_ne.2 (by omega)
  have k22 : ((o : Int) == 22) = false := beq_eq_false_iff_ne.2 (by omega)
  have hfp : fP o = 1 := by rcases ho with rfl | rfl <;> rfl
  have p2 : (((fP o : Nat) : Int) == 2) = false := by rw [hfp]; rfl
  have p1 : (((fP o : Nat) : Int) == 1) = true := by rw [hfp]; rfl
  have hfn : fW o ≠ [] := by rcases ho with rfl | rfl <;> decide
  have HC1 := Lib.hid (show Calls Tryz.prog 132 #[.pointer (some ⟨b, 0, none⟩), .string ⟨(fW o).toArray⟩] W1 (PaP B b (.slice (some ⟨g, og, none⟩) row.length c) l (fW o) W1) from wr_any B b _ l ⟨(fW o).toArray⟩ W1 HI0.out.wr (by show l.length + (fW o).toArray.size + 1 ≤ _; simp; omega))
  have HC2 := Lib.hid (fun w2 (hp : PaI B b (.slice (some ⟨g, og, none⟩) row.length c) w o ⟨(o : Int), 0, [], na, nb, -1⟩ w2 (jnw l (fW o))) => H1 w2 _ hp.below hp.wr (by have := jnw_len l (fW o); omega))
  have HJ := Lib.hid (show jnw (jnw l (fW o)) t = jnw l (fW o ++ 32 :: t) from jnw_jnw hfn)
  obtain ⟨TT, hTT⟩ : ∃ TT, TT = fW o ++ 32 :: t := ⟨_, rfl⟩
  rw [← hTT] at HJ ⊢
  clear hfp ho hfn H1 hTT hnb
  go_enter Tryz.func105, Tryz.ntmps105
  go_wp2_with fail
  rw [← HW1.out]
  go_wp2_with fail
  refine HC1.out.mono ?_
  intro e w2 hp
  have HI1 := Lib.hid (HI0.out.on hp)
  have he := hp.1
  clear hp
  subst he
  have HC3 := Lib.hid (HC2.out w2 HI1.out)
  have y0 : w2.cell? ⟨w.heap.size, 0, none⟩ = some (.int .u8 (o : Int)) := HI1.out.node.at_ 0
  have y3 : w2.cell? ⟨w.heap.size, 3, none⟩ = some (.int .i64 na) := HI1.out.node.at_ 3
  have y4 : w2.cell? ⟨w.heap.size, 4, none⟩ = some (.int .i64 nb) := HI1.out.node.at_ 4
  have f0 : w2.cell? ⟨w.heap.size + 1, 0, none⟩ = some (.string ⟨(fW o).toArray⟩) := HI1.out.form.at_ 0
  have f1 : w2.cell? ⟨w.heap.size + 1, 1, none⟩ = some (.int .u8 (fL o : Nat)) := HI1.out.form.at_ 1
  go_wp2_with fail
  refine HC3.out.mono ?_
  intro e w3 hp
  have HI2 := Lib.hid (HI1.out.on hp)
  have he := hp.1
  clear hp
  subst he
  have HF := Lib.hid (HI2.out.fin HJ.out)
  go_wp2
  first
    | (go_end0; exact HF.out)
    | (refine bodyPost_ret (results_none (fn := Tryz.f105) rfl _ _ _) rfl ?_; exact HF.out)
set_option maxHeartbeats 4000000 in
set_option maxRecDepth 100000 in
theorem part_bin (B b : Nat) (A : Option Addr) (c : Nat) (row : List Nd) (hc : row.length ≤ c) (pl o : Nat) (na nb : Int) (L : Nat) (ho : 7 ≤ o ∧ o ≤ 21) (w : World) (l : List UInt8) (hpl : pl < row.length) (hnode : row[pl] = ⟨(o : Int), 0, [], na, nb, -1⟩) (hL : ¬ fL o < L)
    (hw : WrS B b (.slice A row.length c) l w) (hnd : NdR w B A row) (HT : TxO B w) (t u : List UInt8) (ht : t ≠ []) (hlen : l.length + (fW o).length + t.length + u.length + 4 ≤ 140737488355328)
    (H1 : ∀ w1 l1, Below B w w1 → WrS B b (.slice A row.length c) l1 w1 → l1.length + t.length + 2 ≤ 140737488355328 → Calls Tryz.prog 105 #[.pointer (some ⟨b, 0, none⟩), .int .i64 na, .int .u8 (fL o : Nat)] w1 (PaP B b (.slice A row.length c) l1 t w1))
    (H2 : ∀ w1 l1, Below B w w1 → WrS B b (.slice A row.length c) l1 w1 → l1.length + u.length + 2 ≤ 140737488355328 → Calls Tryz.prog 105 #[.pointer (some ⟨b, 0, none⟩), .int .i64 nb, .int .u8 ((fL o : Nat) + 1 : Int)] w1 (PaP B b (.slice A row.length c) l1 u w1)) :
    Calls Tryz.prog 105 #[.pointer (some ⟨b, 0, none⟩), .int .i64 (pl : Int), .int .u8 (L : Nat)] w (PaP B b (.slice A row.length c) l (t ++ 32 :: (fW o ++ 32 :: u)) w) := by
  obtain ⟨g, og, hA, hg, q0, q1, q2, q3, q4, q5⟩ := hnd pl hpl
  subst hA
  rw [hnode] at q0 q1 q2 q3 q4 q5
  simp only at q0 q1 q2 q3 q4 q5
  have hBw : B ≤ w.heap.size := by obtain ⟨p, v, _, hc⟩ := hw; exact Nat.le_trans hc.base (Nat.le_of_lt hc.blk.lt)
  have b0 : w.cell? ⟨b, 0, none⟩ = some (.slice (some ⟨g, og, none⟩) row.length c) := by obtain ⟨p, v, _, hc⟩ := hw; exact hc.blk.at_ 0
  have hbl : b < w.heap.size := by obtain ⟨p, v, _, hc⟩ := hw; exact hc.blk.lt
  obtain ⟨t0, t1, t2⟩ := HT.here.fm o (by omega)
  have hg0 : 1 < w.heap.size := block_lt t0
  have ho23 : ((o : Nat) : Int) < 23 := by omega
  have i1 : (pl : Int) < (row.length : Int) := by omega
  have i2 : (row.length : Int) ≤ (c : Int) := by omega
  obtain ⟨W1, hW1⟩ : ∃ W1, W1 = (w.alloc (.cells #[.int .u8 (o : Int), .int .i64 0, .string ⟨#[]⟩, .int .i64 na, .int .i64 nb, .int .i64 (-1)] 105)).alloc (.cells #[.string ⟨(fW o).toArray⟩, .int .u8 (fL o : Nat), .int .i64 (fP o : Nat)] 224) := ⟨_, rfl⟩
  have hz1 : (w.alloc (.cells #[.int .u8 (o : Int), .int .i64 0, .string ⟨#[]⟩, .int .i64 na, .int .i64 nb, .int .i64 (-1)] 105)).heap.size = w.heap.size + 1 := by simp
  have hb1 : Below w.heap.size w W1 := by rw [hW1]; exact ((Below.refl _ _).alloc (Nat.le_refl _) _).alloc (by simp) _
  have HI0 := Lib.hid (show PaI B b (.slice (some ⟨g, og, none⟩) row.length c) w o ⟨(o : Int), 0, [], na, nb, (-1)⟩ W1 l from ⟨hw.below hb1, hb1.mono hBw, Kt.of_below hb1, by rw [hW1]; exact (IsBlk.new w _ _).below ((Below.refl _ _).alloc (Nat.le_refl _) _) (by simp), by rw [hW1, ← hz1]; exact IsBlk.new _ _ _⟩)
  have HW1 := Lib.hid hW1
  have HTT := Lib.hid HT
  have HND := Lib.hid hnd
  clear hW1 hz1 hb1 hw HT hnd
  have hL' : ¬ (fL o : Int) < (L : Int) := by omega
  have k1 : ((o : Int) == 1) = false := beq_eq_false_iff_ne.2 (by omega)
  have k2 : ((o : Int) == 2) = false := beq_eq_false_iff_ne.2 (by omega)
  have k22 : ((o : Int) == 22) = false := beq_eq_false_iff_ne.2 (by omega)
  have hfp : fP o = 2 := by unfold fP; rw [if_neg (by omega), if_neg (by omega), if_pos (by omega)]
  have p2 : (((fP o : Nat) : Int) == 2) = true := by rw [hfp]; rfl
  have hfl : fL o ≤ 8 := by unfold fL; rw [if_neg (by omega)]; exact (lvl_bin ho).2
  have s1 : IntKind.u8.wrap ((fL o : Int) + 1) = (fL o : Int) + 1 := IntWalk.u8_in _ (by omega)
  have hfn : fW o ≠ [] := by rw [fW_op ho]; have := ops_all ⟨o, by omega⟩ ho.1; intro e; simp only at this; rw [e] at this; have h3 := this.1; revert h3; generalize lvl o = k; intro h3; exact absurd (of2_nx (n := k) (s := []) (by rw [h3]; omega)) (by simp)
  have HC1 := Lib.hid (H1 W1 l HI0.out.below HI0.out.wr (by omega))
  have HC2 := Lib.hid (fun w2 (hp : PaI B b (.slice (some ⟨g, og, none⟩) row.length c) w o ⟨(o : Int), 0, [], na, nb, -1⟩ w2 (jnw l t)) => (show Calls Tryz.prog 132 #[.pointer (some ⟨b, 0, none⟩), .string ⟨(fW o).toArray⟩] w2 (PaP B b (.slice (some ⟨g, og, none⟩) row.length c) (jnw l t) (fW o) w2) from wr_any B b _ _ ⟨(fW o).toArray⟩ w2 hp.wr (by have := jnw_len l t; show _ + (fW o).toArray.size + 1 ≤ _; simp; omega)))
  have HC3 := Lib.hid (fun w3 (hp : PaI B b (.slice (some ⟨g, og, none⟩) row.length c) w o ⟨(o : Int), 0, [], na, nb, -1⟩ w3 (jnw (jnw l t) (fW o))) => H2 w3 _ hp.below hp.wr (by have := jnw_len l t; have := jnw_len (jnw l t) (fW o); omega))
  have HJ := Lib.hid (show jnw (jnw (jnw l t) (fW o)) u = jnw l (t ++ 32 :: (fW o ++ 32 :: u)) from by rw [jnw_jnw hfn, jnw_jnw ht])
  obtain ⟨TT, hTT⟩ : ∃ TT, TT = t ++ 32 :: (fW o ++ 32 :: u) := ⟨_, rfl⟩
  rw [← hTT] at HJ ⊢
  clear hfp ho hfn H1 H2 hTT hfl
  go_enter Tryz.func105, Tryz.ntmps105
  go_wp2_with fail
  rw [← HW1.out]
  go_wp2_with fail
  refine HC1.out.mono ?_
  intro e w2 hp
  have HI1 := Lib.hid (HI0.out.on hp)
  have he := hp.1
  clear hp
  subst he
  have HC2' := Lib.hid (HC2.out w2 HI1.out)
  have y0 : w2.cell? ⟨w.heap.size, 0, none⟩ = some (.int .u8 (o : Int)) := HI1.out.node.at_ 0
  have y3 : w2.cell? ⟨w.heap.size, 3, none⟩ = some (.int .i64 na) := HI1.out.node.at_ 3
  have y4 : w2.cell? ⟨w.heap.size, 4, none⟩ = some (.int .i64 nb) := HI1.out.node.at_ 4
  have f0 : w2.cell? ⟨w.heap.size + 1, 0, none⟩ = some (.string ⟨(fW o).toArray⟩) := HI1.out.form.at_ 0
  have f1 : w2.cell? ⟨w.heap.size + 1, 1, none⟩ = some (.int .u8 (fL o : Nat)) := HI1.out.form.at_ 1
  go_wp2_with fail
  refine HC2'.out.mono ?_
  intro e w3 hp
  have HI2 := Lib.hid (HI1.out.on hp)
  have he := hp.1
  clear hp
  subst he
  have HC3' := Lib.hid (HC3.out w3 HI2.out)
  clear y0 y3 y4 f0 f1
  have y0 : w3.cell? ⟨w.heap.size, 0, none⟩ = some (.int .u8 (o : Int)) := HI2.out.node.at_ 0
  have y3 : w3.cell? ⟨w.heap.size, 3, none⟩ = some (.int .i64 na) := HI2.out.node.at_ 3
  have y4 : w3.cell? ⟨w.heap.size, 4, none⟩ = some (.int .i64 nb) := HI2.out.node.at_ 4
  have f0 : w3.cell? ⟨w.heap.size + 1, 0, none⟩ = some (.string ⟨(fW o).toArray⟩) := HI2.out.form.at_ 0
  have f1 : w3.cell? ⟨w.heap.size + 1, 1, none⟩ = some (.int .u8 (fL o : Nat)) := HI2.out.form.at_ 1
  go_wp2_with fail
  refine HC3'.out.mono ?_
  intro e w4 hp
  have HI3 := Lib.hid (HI2.out.on hp)
  have he := hp.1
  clear hp
  subst he
  have HF := Lib.hid (HI3.out.fin HJ.out)
  go_wp2
  first
    | (go_end0; exact HF.out)
    | (refine bodyPost_ret (results_none (fn := Tryz.f105) rfl _ _ _) rfl ?_; exact HF.out)
end Go.Proofs.YtmmdigeciphglaaGreatDoor
namespace Go.Proofs.YtmmdigeciphglaaGreatDoor
open Go.RowKit Ex
structure BrI (B b : Nat) (nv : Value) (w : World) (na nb nc : Int) (w1 : World) (l : List UInt8) : Prop where
  wr : WrS B b nv l w1
  below : Below B w w1
  kt : Kt LWr w w1
  node : IsBlk w1 w.heap.size 105 #[.int .u8 22, .int .i64 0, .string ⟨#[]⟩, .int .i64 na, .int .i64 nb, .int .i64 nc]
theorem BrI.on {B b : Nat} {nv : Value} {w : World} {na nb nc : Int} {w1 w2 : World} {l t : List UInt8} (h : BrI B b nv w na nb nc w1 l) {e : Ending} (hp : PaP B b nv l t w1 e w2) : BrI B b nv w na nb nc w2 (jnw l t) :=
  ⟨hp.2.1, h.below.trans hp.2.2.1, h.kt.trans hp.2.2.2, hp.2.2.2.blk h.node (by decide)⟩
theorem BrI.fin {B b : Nat} {nv : Value} {w : World} {na nb nc : Int} {w1 : World} {l l' t : List UInt8} (h : BrI B b nv w na nb nc w1 l') (hl : l' = jnw l t) : PaP B b nv l t w (.returned (.tuple #[])) w1 :=
  ⟨rfl, hl ▸ h.wr, h.below, h.kt⟩
abbrev wIf : List UInt8 := [105, 102]
def ifT (t u v : List UInt8) : List UInt8 := wIf ++ 32 :: (t ++ 32 :: (tThen ++ 32 :: (u ++ 32 :: (tElse ++ 32 :: (v ++ 32 :: tEnd)))))
theorem jnw_if {l t u v : List UInt8} (ht : t ≠ []) (hu : u ≠ []) (hv : v ≠ []) : jnw (jnw (jnw (jnw (jnw (jnw (jnw l wIf) t) tThen) u) tElse) v) tEnd = jnw l (ifT t u v) := by
  rw [jnw_jnw hv, jnw_jnw (by simp), jnw_jnw hu, jnw_jnw (by simp), jnw_jnw ht, jnw_jnw (by simp)]
  rfl
def SubC (B b : Nat) (nv : Value) (w : World) (n : Int) (t : List UInt8) : Prop := ∀ w1 l1, Below B w w1 → WrS B b nv l1 w1 → l1.length + t.length + 2 ≤ 140737488355328 → Calls Tryz.prog 105 #[.pointer (some ⟨b, 0, none⟩), .int .i64 n, .int .u8 0] w1 (PaP B b nv l1 t w1)
set_option maxHeartbeats 4000000 in
set_option maxRecDepth 100000 in
theorem branches_any (B b : Nat) (nv : Value) (na nb nc : Int) (w : World) (l t u v : List UInt8) (ht : t ≠ []) (hu : u ≠ []) (hv : v ≠ []) (hw : WrS B b nv l w) (hlen : l.length + t.length + u.length + v.length + 23 ≤ 140737488355328)
    (H1 : SubC B b nv w na t) (H2 : SubC B b nv w nb u) (H3 : SubC B b nv w nc v) :
    Calls Tryz.prog 134 #[.pointer (some ⟨b, 0, none⟩), .agg #[.int .u8 22, .int .i64 0, .string ⟨#[]⟩, .int .i64 na, .int .i64 nb, .int .i64 nc]] w (PaP B b nv l (ifT t u v) w) := by
  have hBw : B ≤ w.heap.size := by obtain ⟨p, v, _, hc⟩ := hw; exact Nat.le_trans hc.base (Nat.le_of_lt hc.blk.lt)
  obtain ⟨W1, hW1⟩ : ∃ W1, W1 = w.alloc (.cells #[.int .u8 22, .int .i64 0, .string ⟨#[]⟩, .int .i64 na, .int .i64 nb, .int .i64 nc] 105) := ⟨_, rfl⟩
  have hb1 : Below w.heap.size w W1 := by rw [hW1]; exact (Below.refl _ _).alloc (Nat.le_refl _) _
  have HI0 := Lib.hid (show BrI B b nv w na nb nc W1 l from ⟨hw.below hb1, hb1.mono hBw, Kt.of_below hb1, by rw [hW1]; exact IsBlk.new _ _ _⟩)
  have HW1 := Lib.hid hW1
  have HJ := Lib.hid (jnw_if (l := l) ht hu hv)
  obtain ⟨TT, hTT⟩ : ∃ TT, TT = ifT t u v := ⟨_, rfl⟩
  rw [← hTT] at HJ ⊢
  have HC1 := Lib.hid (show Calls Tryz.prog 132 #[.pointer (some ⟨b, 0, none⟩), .string ⟨#[105, 102]⟩] W1 (PaP B b nv l [105, 102] W1) from wr_any B b nv _ ⟨#[105, 102]⟩ W1 HI0.out.wr (by show _ + 2 + 1 ≤ _; have := jnw_len l [105, 102]; have := jnw_len (jnw l [105, 102]) t; have := jnw_len (jnw (jnw l [105, 102]) t) [116, 104, 101, 110]; have := jnw_len (jnw (jnw (jnw l [105, 102]) t) [116, 104, 101, 110]) u; have := jnw_len (jnw (jnw (jnw (jnw l [105, 102]) t) [116, 104, 101, 110]) u) [101, 108, 115, 101]; have := jnw_len (jnw (jnw (jnw (jnw (jnw l [105, 102]) t) [116, 104, 101, 110]) u) [101, 108, 115, 101]) v; simp only [List.length_cons, List.length_nil] at *; omega))
  clear hW1 hb1 hTT hw ht hu hv
  go_enter Tryz.func134, Tryz.ntmps134
  go_wp2_with fail
  rw [← HW1.out]
  go_wp2_with fail
  refine HC1.out.mono ?_
  intro e w2 hp
  have HI1 := Lib.hid (HI0.out.on hp)
  have he := hp.1
  clear hp
  subst he
  have HC2 := Lib.hid (H1 w2 _ HI1.out.below HI1.out.wr (by have := jnw_len l [105, 102]; have := jnw_len (jnw l [105, 102]) t; have := jnw_len (jnw (jnw l [105, 102]) t) [116, 104, 101, 110]; have := jnw_len (jnw (jnw (jnw l [105, 102]) t) [116, 104, 101, 110]) u; have := jnw_len (jnw (jnw (jnw (jnw l [105, 102]) t) [116, 104, 101, 110]) u) [101, 108, 115, 101]; simp only [List.length_cons, List.length_nil] at *; omega))
  have y3 : w2.cell? ⟨w.heap.size, 3, none⟩ = some (.int .i64 na) := HI1.out.node.at_ 3
  go_wp2_with fail
  refine HC2.out.mono ?_
  intro e w3 hp
  have HI2 := Lib.hid (HI1.out.on hp)
  have he := hp.1
  clear hp
  subst he
  have HC3 := Lib.hid (show Calls Tryz.prog 132 #[.pointer (some ⟨b, 0, none⟩), .string ⟨#[116, 104, 101, 110]⟩] w3 (PaP B b nv _ [116, 104, 101, 110] w3) from wr_any B b nv _ ⟨#[116, 104, 101, 110]⟩ w3 HI2.out.wr (by show _ + 4 + 1 ≤ _; have := jnw_len l [105, 102]; have := jnw_len (jnw l [105, 102]) t; have := jnw_len (jnw (jnw l [105, 102]) t) [116, 104, 101, 110]; have := jnw_len (jnw (jnw (jnw l [105, 102]) t) [116, 104, 101, 110]) u; have := jnw_len (jnw (jnw (jnw (jnw l [105, 102]) t) [116, 104, 101, 110]) u) [101, 108, 115, 101]; have := jnw_len (jnw (jnw (jnw (jnw (jnw l [105, 102]) t) [116, 104, 101, 110]) u) [101, 108, 115, 101]) v; simp only [List.length_cons, List.length_nil] at *; omega))
  clear y3
  go_wp2_with fail
  refine HC3.out.mono ?_
  intro e w4 hp
  have HI3 := Lib.hid (HI2.out.on hp)
  have he := hp.1
  clear hp
  subst he
  have HC4 := Lib.hid (H2 w4 _ HI3.out.below HI3.out.wr (by have := jnw_len l [105, 102]; have := jnw_len (jnw l [105, 102]) t; have := jnw_len (jnw (jnw l [105, 102]) t) [116, 104, 101, 110]; have := jnw_len (jnw (jnw (jnw l [105, 102]) t) [116, 104, 101, 110]) u; have := jnw_len (jnw (jnw (jnw (jnw l [105, 102]) t) [116, 104, 101, 110]) u) [101, 108, 115, 101]; simp only [List.length_cons, List.length_nil] at *; omega))
  have y4 : w4.cell? ⟨w.heap.size, 4, none⟩ = some (.int .i64 nb) := HI3.out.node.at_ 4
  go_wp2_with fail
  refine HC4.out.mono ?_
  intro e w5 hp
  have HI4 := Lib.hid (HI3.out.on hp)
  have he := hp.1
  clear hp
  subst he
  have HC5 := Lib.hid (show Calls Tryz.prog 132 #[.pointer (some ⟨b, 0, none⟩), .string ⟨#[101, 108, 115, 101]⟩] w5 (PaP B b nv _ [101, 108, 115, 101] w5) from wr_any B b nv _ ⟨#[101, 108, 115, 101]⟩ w5 HI4.out.wr (by show _ + 4 + 1 ≤ _; have := jnw_len l [105, 102]; have := jnw_len (jnw l [105, 102]) t; have := jnw_len (jnw (jnw l [105, 102]) t) [116, 104, 101, 110]; have := jnw_len (jnw (jnw (jnw l [105, 102]) t) [116, 104, 101, 110]) u; have := jnw_len (jnw (jnw (jnw (jnw l [105, 102]) t) [116, 104, 101, 110]) u) [101, 108, 115, 101]; have := jnw_len (jnw (jnw (jnw (jnw (jnw l [105, 102]) t) [116, 104, 101, 110]) u) [101, 108, 115, 101]) v; simp only [List.length_cons, List.length_nil] at *; omega))
  clear y4
  go_wp2_with fail
  refine HC5.out.mono ?_
  intro e w6 hp
  have HI5 := Lib.hid (HI4.out.on hp)
  have he := hp.1
  clear hp
  subst he
  have HC6 := Lib.hid (H3 w6 _ HI5.out.below HI5.out.wr (by have := jnw_len l [105, 102]; have := jnw_len (jnw l [105, 102]) t; have := jnw_len (jnw (jnw l [105, 102]) t) [116, 104, 101, 110]; have := jnw_len (jnw (jnw (jnw l [105, 102]) t) [116, 104, 101, 110]) u; have := jnw_len (jnw (jnw (jnw (jnw l [105, 102]) t) [116, 104, 101, 110]) u) [101, 108, 115, 101]; simp only [List.length_cons, List.length_nil] at *; omega))
  have y5 : w6.cell? ⟨w.heap.size, 5, none⟩ = some (.int .i64 nc) := HI5.out.node.at_ 5
  go_wp2_with fail
  refine HC6.out.mono ?_
  intro e w7 hp
  have HI6 := Lib.hid (HI5.out.on hp)
  have he := hp.1
  clear hp
  subst he
  have HC7 := Lib.hid (show Calls Tryz.prog 132 #[.pointer (some ⟨b, 0, none⟩), .string ⟨#[101, 110, 100, 105, 102]⟩] w7 (PaP B b nv _ [101, 110, 100, 105, 102] w7) from wr_any B b nv _ ⟨#[101, 110, 100, 105, 102]⟩ w7 HI6.out.wr (by show _ + 5 + 1 ≤ _; have := jnw_len l [105, 102]; have := jnw_len (jnw l [105, 102]) t; have := jnw_len (jnw (jnw l [105, 102]) t) [116, 104, 101, 110]; have := jnw_len (jnw (jnw (jnw l [105, 102]) t) [116, 104, 101, 110]) u; have := jnw_len (jnw (jnw (jnw (jnw l [105, 102]) t) [116, 104, 101, 110]) u) [101, 108, 115, 101]; have := jnw_len (jnw (jnw (jnw (jnw (jnw l [105, 102]) t) [116, 104, 101, 110]) u) [101, 108, 115, 101]) v; simp only [List.length_cons, List.length_nil] at *; omega))
  clear y5
  go_wp2_with fail
  refine HC7.out.mono ?_
  intro e w8 hp
  have HI7 := Lib.hid (HI6.out.on hp)
  have he := hp.1
  clear hp
  subst he
  have HF := Lib.hid (HI7.out.fin HJ.out)
  go_wp2
  first
    | (go_end0; exact HF.out)
    | (refine bodyPost_ret (results_none (fn := Tryz.f134) rfl _ _ _) rfl ?_; exact HF.out)
set_option maxHeartbeats 4000000 in
set_option maxRecDepth 100000 in
theorem part_ite (B b : Nat) (A : Option Addr) (c : Nat) (row : List Nd) (hc : row.length ≤ c) (pl : Nat) (na nb nc : Int) (L : Nat) (w : World) (l : List UInt8) (hpl : pl < row.length) (hnode : row[pl] = ⟨22, 0, [], na, nb, nc⟩) (hL : ¬ fL 22 < L)
    (hw : WrS B b (.slice A row.length c) l w) (hnd : NdR w B A row) (HT : TxO B w) (t u v : List UInt8) (ht : t ≠ []) (hu : u ≠ []) (hv : v ≠ []) (hlen : l.length + t.length + u.length + v.length + 23 ≤ 140737488355328)
    (H1 : SubC B b (.slice A row.length c) w na t) (H2 : SubC B b (.slice A row.length c) w nb u) (H3 : SubC B b (.slice A row.length c) w nc v) :
    Calls Tryz.prog 105 #[.pointer (some ⟨b, 0, none⟩), .int .i64 (pl : Int), .int .u8 (L : Nat)] w (PaP B b (.slice A row.length c) l (ifT t u v) w) := by
  obtain ⟨g, og, hA, hg, q0, q1, q2, q3, q4, q5⟩ := hnd pl hpl
  subst hA
  rw [hnode] at q0 q1 q2 q3 q4 q5
  simp only at q0 q1 q2 q3 q4 q5
  have hBw : B ≤ w.heap.size := by obtain ⟨p, v, _, hc⟩ := hw; exact Nat.le_trans hc.base (Nat.le_of_lt hc.blk.lt)
  have b0 : w.cell? ⟨b, 0, none⟩ = some (.slice (some ⟨g, og, none⟩) row.length c) := by obtain ⟨p, v, _, hc⟩ := hw; exact hc.blk.at_ 0
  have hbl : b < w.heap.size := by obtain ⟨p, v, _, hc⟩ := hw; exact hc.blk.lt
  obtain ⟨t0, t1, t2⟩ := HT.here.fm 22 (by omega)
  have hg0 : 1 < w.heap.size := block_lt t0
  have ho23 : ((22 : Nat) : Int) < 23 := by omega
  have i1 : (pl : Int) < (row.length : Int) := by omega
  have i2 : (row.length : Int) ≤ (c : Int) := by omega
  obtain ⟨W1, hW1⟩ : ∃ W1, W1 = (w.alloc (.cells #[.int .u8 (22 : Int), .int .i64 0, .string ⟨#[]⟩, .int .i64 na, .int .i64 nb, .int .i64 nc] 105)).alloc (.cells #[.string ⟨(fW 22).toArray⟩, .int .u8 (fL 22 : Nat), .int .i64 (fP 22 : Nat)] 224) := ⟨_, rfl⟩
  have hz1 : (w.alloc (.cells #[.int .u8 (22 : Int), .int .i64 0, .string ⟨#[]⟩, .int .i64 na, .int .i64 nb, .int .i64 nc] 105)).heap.size = w.heap.size + 1 := by simp
  have hb1 : Below w.heap.size w W1 := by rw [hW1]; exact ((Below.refl _ _).alloc (Nat.le_refl _) _).alloc (by simp) _
  have HI0 := Lib.hid (show PaI B b (.slice (some ⟨g, og, none⟩) row.length c) w 22 ⟨(22 : Int), 0, [], na, nb, nc⟩ W1 l from ⟨hw.below hb1, hb1.mono hBw, Kt.of_below hb1, by rw [hW1]; exact (IsBlk.new w _ _).below ((Below.refl _ _).alloc (Nat.le_refl _) _) (by simp), by rw [hW1, ← hz1]; exact IsBlk.new _ _ _⟩)
  have HW1 := Lib.hid hW1
  have HTT := Lib.hid HT
  have HND := Lib.hid hnd
  clear hW1 hz1 hb1 hw HT hnd
  have hL' : ¬ (fL 22 : Int) < (L : Int) := by omega
  have HC1 := Lib.hid (branches_any B b _ na nb nc W1 l t u v ht hu hv HI0.out.wr hlen (fun w1 l1 hb => H1 w1 l1 (HI0.out.below.trans hb)) (fun w1 l1 hb => H2 w1 l1 (HI0.out.below.trans hb)) (fun w1 l1 hb => H3 w1 l1 (HI0.out.below.trans hb)))
  obtain ⟨TT, hTT⟩ : ∃ TT, TT = ifT t u v := ⟨_, rfl⟩
  rw [← hTT] at HC1 ⊢
  clear H1 H2 H3 hTT
  go_enter Tryz.func105, Tryz.ntmps105
  go_wp2_with fail
  rw [← HW1.out]
  go_wp2_with fail
  refine HC1.out.mono ?_
  intro e w2 hp
  have HI1 := Lib.hid (HI0.out.on hp)
  have he := hp.1
  clear hp
  subst he
  have HF := Lib.hid (HI1.out.fin rfl)
  go_wp2
  first
    | (go_end0; exact HF.out)
    | (refine bodyPost_ret (results_none (fn := Tryz.f105) rfl _ _ _) rfl ?_; exact HF.out)
/-! ### all parts -/
theorem place_eq {s n : Nat} (h : 1 ≤ n) : ((s + n : Nat) : Int) - 1 = ((s + n - 1 : Nat) : Int) := by omega
theorem fL_lvl {o : Nat} (h : o ≠ 0) : fL o = lvl o := if_neg h
theorem row_at {row : List Nd} {i : Nat} {n : Nd} (h : row[i]? = some n) : ∃ hi : i < row.length, row[i] = n := List.getElem?_eq_some_iff.1 h
theorem prs_ne (x : E) (L : Nat) (h : wf x) : Ex.prs x L ≠ [] := by
  intro e
  have h1 := prs_jn x L
  rw [e] at h1
  have h2 := pr_mem h L
  cases hp : pr x L with
  | nil => exact pr_ne x L hp
  | cons t r =>
    have h3 := h2 t (by rw [hp]; exact List.mem_cons_self)
    rw [hp] at h1
    have h4 : t.2 = [] := by
      unfold Ex.jn at h1
      split at h1
      · exact h1.symm
      · simp at h1
    rw [h4] at h3
    exact h3.2 (h3.1.symm.trans (by decide))
theorem PaC.of_open {B b : Nat} {A : Option Addr} {c : Nat} {row : List Nd} (hc : row.length ≤ c) {x : E} {o : Nat} (ho : o < 23) (hlv : fL o ≤ 10)
    (hat : ∀ s, At row s x → ∃ (num : Int) (nm : List UInt8) (na nb nc : Int), row[s + sz x - 1]? = some ⟨(o : Int), num, nm, na, nb, nc⟩) (hop : ∀ L, L ≤ fL o → Ex.prs x L = Ex.prs x 0) (hcl : ∀ L, fL o < L → Ex.prs x L = [40, 32] ++ Ex.prs x 0 ++ [32, 41])
    (h : ∀ (pl L : Nat) (s : Nat) (w : World) (l : List UInt8), s + sz x - 1 = pl → ¬ fL o < L → At row s x → WrS B b (.slice A row.length c) l w → NdR w B A row → TxO B w → l.length + (Ex.prs x 0).length + 2 ≤ 140737488355328 → Calls Tryz.prog 105 #[.pointer (some ⟨b, 0, none⟩), .int .i64 (pl : Int), .int .u8 (L : Nat)] w (PaP B b (.slice A row.length c) l (Ex.prs x 0) w)) :
    ∀ L, PaC B b A c row x L := fun L s w l h1 h2 h3 h4 h5 => by
  have hs := sz_pos x
  obtain ⟨num, nm, na, nb, nc, hat1⟩ := hat s h1
  obtain ⟨hpl, hnode⟩ := row_at hat1
  rw [place_eq (by omega)]
  by_cases hL : fL o < L
  · rw [hcl L hL] at h5 ⊢
    simp only [List.length_append, List.length_cons, List.length_nil] at h5
    exact part_par B b A c row hc (s + sz x - 1) o num na nb nc nm L ho w l hpl hnode hL h2 h3 h4 _ (by omega) (fun w1 l1 hb hw1 hl1 => h _ 0 s w1 l1 rfl (by omega) h1 hw1 (h3.below hb) (h4.on hb) hl1)
  · rw [hop L (by omega)] at h5 ⊢
    exact h _ L s w l rfl hL h1 h2 h3 h4 h5
theorem part_any (B b : Nat) (A : Option Addr) (c : Nat) (row : List Nd) (hc : row.length ≤ c) : ∀ x : E, wf x → ∀ L, L ≤ 10 → PaC B b A c row x L
  | .num n, hw, L, hL => fun s w l h1 h2 h3 h4 h5 => by
    obtain ⟨hpl, hnode⟩ := row_at (at_one.1 (show (row.drop s).take 1 = [_] from h1.1))
    rw [show (((s + sz (.num n) : Nat) : Int) - 1) = (s : Int) by simp only [sz]; omega]
    exact part_num B b A c row hc s n (numv_le hw.1) L w l hpl hnode (by show ¬ 10 < L; omega) h2 h3 h4 h5
  | .name t, hw, L, hL => fun s w l h1 h2 h3 h4 h5 => by
    obtain ⟨hpl, hnode⟩ := row_at (at_one.1 (show (row.drop s).take 1 = [_] from h1.1))
    rw [show (((s + sz (.name t) : Nat) : Int) - 1) = (s : Int) by simp only [sz]; omega]
    exact part_name B b A c row hc s t L w l hpl hnode (by show ¬ 10 < L; omega) h2 h3 h4 h5
  | .tt, hw, L, hL => fun s w l h1 h2 h3 h4 h5 => by
    obtain ⟨hpl, hnode⟩ := row_at (at_one.1 (show (row.drop s).take 1 = [_] from h1.1))
    rw [show (((s + sz .tt : Nat) : Int) - 1) = (s : Int) by simp only [sz]; omega]
    exact part_word B b A c row hc s 3 L (Or.inl rfl) w l hpl hnode (by show ¬ 10 < L; omega) h2 h3 h4 h5
  | .ff, hw, L, hL => fun s w l h1 h2 h3 h4 h5 => by
    obtain ⟨hpl, hnode⟩ := row_at (at_one.1 (show (row.drop s).take 1 = [_] from h1.1))
    rw [show (((s + sz .ff : Nat) : Int) - 1) = (s : Int) by simp only [sz]; omega]
    exact part_word B b A c row hc s 4 L (Or.inr rfl) w l hpl hnode (by show ¬ 10 < L; omega) h2 h3 h4 h5
  | .un op a, hw, L, _ => by
    have ih := part_any B b A c row hc a hw.2
    have hop : op = 5 ∨ op = 6 := hw.1
    have hlv : lvl op = 9 := lvl_un hop
    have hfl : fL op = 9 := by rw [fL_lvl (by omega), hlv]
    have hfw : fW op = opS op := by rcases hop with rfl | rfl <;> rfl
    have hp0 : Ex.prs (.un op a) 0 = fW op ++ 32 :: Ex.prs a 9 := by
      rw [hfw]; show (if lvl op < 0 then _ else _) = _; rw [if_neg (by omega)]; simp
    refine PaC.of_open hc (o := op) (by omega) (by omega) (fun s h => by rw [show s + sz (.un op a) - 1 = s + sz a by simp only [sz]; omega]; exact ⟨_, _, _, _, _, (at_un h).2⟩) (fun L hL => ?_) (fun L hL => ?_) (fun pl L s w l hpl0 hL h1 h2 h3 h4 h5 => ?_) L
    · show (if lvl op < L then _ else _) = (if lvl op < 0 then _ else _); rw [if_neg (by omega), if_neg (by omega)]
    · show (if lvl op < L then _ else _) = _; rw [if_pos (by omega)]; show _ = [40, 32] ++ (if lvl op < 0 then _ else _) ++ [32, 41]; rw [if_neg (by omega)]
    · rw [hp0] at h5 ⊢
      have hsz : ((s + sz a : Nat) : Int) - 1 = ((s + sz a : Nat) : Int) - 1 := rfl
      obtain ⟨ha, hna⟩ := at_un h1
      have hpe : pl = s + sz a := by rw [← hpl0]; simp only [sz]; omega
      subst hpe
      obtain ⟨hpl', hn'⟩ := row_at hna
      exact part_un B b A c row hc _ op _ L hop w l hpl' hn' hL h2 h3 h4 (Ex.prs a 9) (by rw [List.length_append, List.length_cons] at h5; omega) (fun w1 l1 hb hw1 hl1 => by rw [hfl]; exact ih 9 (by omega) s w1 l1 ha hw1 (h3.below hb) (h4.on hb) hl1)
  | .bin op a b', hw, L, _ => by
    have iha := part_any B b A c row hc a hw.2.2.1
    have ihb := part_any B b A c row hc b' hw.2.2.2
    have hop : 7 ≤ op ∧ op ≤ 21 := ⟨hw.1, hw.2.1⟩
    have hlv := lvl_bin hop
    have hfl : fL op = lvl op := fL_lvl (by omega)
    have hfw : fW op = opS op := fW_op hop
    have hp0 : Ex.prs (.bin op a b') 0 = Ex.prs a (lvl op) ++ 32 :: (fW op ++ 32 :: Ex.prs b' (lvl op + 1)) := by
      rw [hfw]; show (if lvl op < 0 then _ else _) = _; rw [if_neg (by omega)]; simp
    refine PaC.of_open hc (o := op) (by omega) (by omega) (fun s h => by rw [show s + sz (.bin op a b') - 1 = s + sz a + sz b' by simp only [sz]; omega]; exact ⟨_, _, _, _, _, (at_bin h).2.2⟩) (fun L hL => ?_) (fun L hL => ?_) (fun pl L s w l hpl0 hL h1 h2 h3 h4 h5 => ?_) L
    · show (if lvl op < L then _ else _) = (if lvl op < 0 then _ else _); rw [if_neg (by omega), if_neg (by omega)]
    · show (if lvl op < L then _ else _) = _; rw [if_pos (by omega)]; show _ = [40, 32] ++ (if lvl op < 0 then _ else _) ++ [32, 41]; rw [if_neg (by omega)]
    · rw [hp0] at h5 ⊢
      obtain ⟨ha, hb', hna⟩ := at_bin h1
      have hpe : pl = s + sz a + sz b' := by rw [← hpl0]; simp only [sz]; omega
      subst hpe
      obtain ⟨hpl', hn'⟩ := row_at hna
      exact part_bin B b A c row hc _ op _ _ L hop w l hpl' hn' hL h2 h3 h4 (Ex.prs a (lvl op)) (Ex.prs b' (lvl op + 1)) (prs_ne a _ hw.2.2.1) (by simp only [List.length_append, List.length_cons] at h5; omega) (fun w1 l1 hb hw1 hl1 => by rw [hfl]; exact iha (lvl op) (by omega) s w1 l1 ha hw1 (h3.below hb) (h4.on hb) hl1) (fun w1 l1 hb hw1 hl1 => by rw [hfl]; exact ihb (lvl op + 1) (by omega) (s + sz a) w1 l1 hb' hw1 (h3.below hb) (h4.on hb) hl1)
  | .ite a b' d, hw, L, hL10 => fun s w l h1 h2 h3 h4 h5 => by
    have iha := part_any B b A c row hc a hw.1
    have ihb := part_any B b A c row hc b' hw.2.1
    have ihd := part_any B b A c row hc d hw.2.2
    have hp0 : Ex.prs (.ite a b' d) L = ifT (Ex.prs a 0) (Ex.prs b' 0) (Ex.prs d 0) := by
      show [105, 102, 32] ++ Ex.prs a 0 ++ [32, 116, 104, 101, 110, 32] ++ Ex.prs b' 0 ++ [32, 101, 108, 115, 101, 32] ++ Ex.prs d 0 ++ [32, 101, 110, 100, 105, 102] = _
      unfold ifT; simp
    rw [hp0] at h5 ⊢
    obtain ⟨ha, hb', hd, hna⟩ := at_ite h1
    obtain ⟨hpl, hnode⟩ := row_at hna
    rw [show (((s + sz (.ite a b' d) : Nat) : Int) - 1) = ((s + sz a + sz b' + sz d : Nat) : Int) by simp only [sz]; omega]
    have hlen : (ifT (Ex.prs a 0) (Ex.prs b' 0) (Ex.prs d 0)).length = (Ex.prs a 0).length + (Ex.prs b' 0).length + (Ex.prs d 0).length + 21 := by unfold ifT; simp; omega
    exact part_ite B b A c row hc _ _ _ _ L w l hpl hnode (by show ¬ 10 < L; omega) h2 h3 h4 _ _ _ (prs_ne a _ hw.1) (prs_ne b' _ hw.2.1) (prs_ne d _ hw.2.2) (by rw [hlen] at h5; omega) (fun w1 l1 hb hw1 hl1 => iha 0 (by omega) s w1 l1 ha hw1 (h3.below hb) (h4.on hb) hl1) (fun w1 l1 hb hw1 hl1 => ihb 0 (by omega) (s + sz a) w1 l1 hb' hw1 (h3.below hb) (h4.on hb) hl1) (fun w1 l1 hb hw1 hl1 => ihd 0 (by omega) (s + sz a + sz b') w1 l1 hd hw1 (h3.below hb) (h4.on hb) hl1)
end Go.Proofs.YtmmdigeciphglaaGreatDoor
namespace Go.Proofs.YtmmdigeciphglaaGreatDoor
open Go.RowKit Ex
theorem opS_len : ∀ o : Fin 23, (opS o.1).length ≤ 7 := by decide
theorem row_small (M : Nat) : ∀ (x : E) (p L : Nat), wr x → (∀ n ∈ flat x p, n.nm.length ≤ M ∧ n.num ≤ 9223372036854775807) → small x ∧ (Ex.prs x L).length + 30 ≤ (M + 60) * sz x
  | .num n, p, L, _, h => by
    have h1 := (h _ (List.mem_singleton.2 rfl)).2
    have h2 : n ≤ 9223372036854775807 := by simp only at h1; omega
    have h3 := dg_len h2
    exact ⟨h2, by show (dg n).length + 30 ≤ (M + 60) * 1; omega⟩
  | .name s, p, L, _, h => by
    have h1 := (h _ (List.mem_singleton.2 rfl)).1
    exact ⟨True.intro, by show s.length + 30 ≤ (M + 60) * 1; simp only at h1; omega⟩
  | .tt, p, L, _, h => ⟨True.intro, by show 4 + 30 ≤ (M + 60) * 1; omega⟩
  | .ff, p, L, _, h => ⟨True.intro, by show 5 + 30 ≤ (M + 60) * 1; omega⟩
  | .un op a, p, L, hw, h => by
    obtain ⟨s1, l1⟩ := row_small M a p 9 hw.2 (fun n hn => h n (List.mem_append_left _ hn))
    have ho := opS_len ⟨op, by have := hw.1; omega⟩
    refine ⟨s1, ?_⟩
    have e : (M + 60) * sz (.un op a) = (M + 60) * sz a + (M + 60) := by show (M + 60) * (sz a + 1) = _; rw [Nat.mul_succ]
    rw [e]
    show (if lvl op < L then [40, 32] ++ (opS op ++ [32] ++ Ex.prs a 9) ++ [32, 41] else opS op ++ [32] ++ Ex.prs a 9).length + 30 ≤ _
    simp only at ho
    split <;> simp only [List.length_append, List.length_cons, List.length_nil] <;> omega
  | .bin op a b, p, L, hw, h => by
    obtain ⟨s1, l1⟩ := row_small M a p (lvl op) hw.2.2.1 (fun n hn => h n (List.mem_append_left _ (List.mem_append_left _ hn)))
    obtain ⟨s2, l2⟩ := row_small M b (p + sz a) (lvl op + 1) hw.2.2.2 (fun n hn => h n (List.mem_append_left _ (List.mem_append_right _ hn)))
    have ho := opS_len ⟨op, by have := hw.2.1; omega⟩
    refine ⟨⟨s1, s2⟩, ?_⟩
    have e : (M + 60) * sz (.bin op a b) = (M + 60) * sz a + (M + 60) * sz b + (M + 60) := by show (M + 60) * (sz a + sz b + 1) = _; rw [Nat.mul_succ, Nat.mul_add]
    rw [e]
    show (if lvl op < L then [40, 32] ++ (Ex.prs a (lvl op) ++ [32] ++ opS op ++ [32] ++ Ex.prs b (lvl op + 1)) ++ [32, 41] else Ex.prs a (lvl op) ++ [32] ++ opS op ++ [32] ++ Ex.prs b (lvl op + 1)).length + 30 ≤ _
    simp only at ho
    split <;> simp only [List.length_append, List.length_cons, List.length_nil] <;> omega
  | .ite a b c, p, L, hw, h => by
    obtain ⟨s1, l1⟩ := row_small M a p 0 hw.1 (fun n hn => h n (List.mem_append_left _ (List.mem_append_left _ (List.mem_append_left _ hn))))
    obtain ⟨s2, l2⟩ := row_small M b (p + sz a) 0 hw.2.1 (fun n hn => h n (List.mem_append_left _ (List.mem_append_left _ (List.mem_append_right _ hn))))
    obtain ⟨s3, l3⟩ := row_small M c (p + sz a + sz b) 0 hw.2.2 (fun n hn => h n (List.mem_append_left _ (List.mem_append_right _ hn)))
    refine ⟨⟨s1, s2, s3⟩, ?_⟩
    have e : (M + 60) * sz (.ite a b c) = (M + 60) * sz a + (M + 60) * sz b + (M + 60) * sz c + (M + 60) := by show (M + 60) * (sz a + sz b + sz c + 1) = _; rw [Nat.mul_succ, Nat.mul_add, Nat.mul_add]
    rw [e]
    show ([105, 102, 32] ++ Ex.prs a 0 ++ [32, 116, 104, 101, 110, 32] ++ Ex.prs b 0 ++ [32, 101, 108, 115, 101, 32] ++ Ex.prs c 0 ++ [32, 101, 110, 100, 105, 102] : List UInt8).length + 30 ≤ _
    simp only [List.length_append, List.length_cons, List.length_nil]; omega
def Prnt (l : List Nd) (t : List UInt8) (e : Int) : Prop := (chk l ≠ 0 ∧ t = [] ∧ e = chk l) ∨ (e = 0 ∧ ∃ x, wf x ∧ wr x ∧ dp x ≤ 64 ∧ l = flat x 0 ∧ t = Ex.prs x 0)
theorem chk_row {l : List Nd} (h : chk l = 0) : ∃ x, wr x ∧ dp x ≤ 64 ∧ l = flat x 0 := by
  unfold chk at h
  split at h
  · cases h
  · rename_i h0
    split at h
    · cases h
    · rename_i h1
      obtain ⟨x, h2, h3, h4⟩ := dep_row h0
      exact ⟨x, h2, by omega, h3⟩
theorem ptr8 : Tryz.prog.underlying 197 = some (.pointer 5) := by kernel_rfl
set_option maxHeartbeats 2000000 in
set_option maxRecDepth 100000 in
theorem wstring_any (B b : Nat) (nv : Value) (l : List UInt8) (w : World) (h : WrS B b nv l w) (h0 : l ≠ []) :
    Calls Tryz.prog 77 #[.pointer (some ⟨b, 1, none⟩)] w fun e w' => e = .returned (.string ⟨l.toArray⟩) ∧ Below B w w' := by
  obtain ⟨p, v, _, hc⟩ := h
  have hl0 : l.length ≠ 0 := by simpa using h0
  obtain ⟨g, cap, cur, fz, rfl, hbg, hg, hfz, hnc, hcm, hcs, htake⟩ : ∃ g cap cur fz, v = .slice (some ⟨g, 0, none⟩) l.length cap ∧ B ≤ g ∧ w.heap[g]? = some (.cells cur 5 fz) ∧ fz.2 ≤ l.length * 1 ∧ l.length ≤ cap ∧ cap ≤ maxLen ∧ cur.size = cap * 1 ∧ cur.toList.take (l.length * 1) = Lib.byteCells l := by
    rcases hc.own.2 with ⟨_, hz⟩ | ⟨g, cap, cur, fz, hv, r⟩
    · exact absurd hz hl0
    · exact ⟨g, cap, cur, fz, hv, r⟩
  have c1 : w.drew.cell? ⟨b, 2, none⟩ = some (.slice (some ⟨g, 0, none⟩) l.length cap) := hc.blk.at_ 2
  have hSD : (Builtin.unsafeSliceData_ #[152] 197 #[.slice (some ⟨g, 0, none⟩) l.length cap]).run Tryz.prog w.drew = .ok (.pointer (some ⟨g, 0, none⟩)) w.drew :=
    Lib.run_unsafeSliceData_row _ _ _ _ _ _ (by omega)
  have hUS : (Builtin.unsafeString_ #[197, 3] 9 #[.pointer (some ⟨g, 0, none⟩), .int .i64 l.length]).run Tryz.prog w.drew = .ok (.string ⟨l.toArray⟩) (w.drew.freeze ⟨g, 0, none⟩ l.length) := by
    refine Lib.run_unsafeString_row w.drew 197 3 9 5 ptr8 w8Cells g cur.size (by have hg' : w.drew.heap[g]? = some (.cells cur 5 fz) := hg; simp [World.shape?, hg']) l h0 (by omega) (by unfold maxLen at hcm; omega) ?_
    intro j x hx
    exact hc.own.cells (g := g) rfl j (.int .u8 x.toNat) (by simp [Lib.byteCells, hx])
  have HF := Lib.hid (Lib.below_freeze (Below.drew (Below.refl B w)) (p := ⟨g, 0, none⟩) hbg l.length)
  have i1 : (l.length : Int) ≤ (cap : Int) := by omega
  clear hg hfz hcs htake hc hbg
  go_enter Tryz.func77, Tryz.ntmps77
  go_wp2
  go_region
  all_goals (go_wp2; go_ret; exact ⟨rfl, HF.out⟩)
theorem at_all (x : E) : At (flat x 0) 0 x := by
  refine ⟨?_, by rw [flat_len]; omega⟩
  rw [List.drop_zero, ← flat_len x 0, List.take_length]
def Fitn (l : List Nd) : Prop := Fit l ∧ ∀ n ∈ l, n.num ≤ 9223372036854775807
set_option maxHeartbeats 4000000 in
set_option maxRecDepth 100000 in
theorem print_any (w : World) (T : Tx w) (A : Option Addr) (c : Nat) (l : List Nd) (hl : NdR w w.heap.size A l) (hc : l.length ≤ c) (hf : Fitn l) :
    Calls Tryz.prog 74 #[.agg #[.slice A l.length c]] w fun e w' => ∃ t er, Prnt l t er ∧ e = .returned (.tuple #[.string ⟨t.toArray⟩, .int .i64 er]) ∧ Below w.heap.size w w' := by
  obtain ⟨W1, hW1⟩ : ∃ W1, W1 = w.alloc (.cells #[.slice A l.length c] 78) := ⟨_, rfl⟩
  have hb1 : Below w.heap.size w W1 := by rw [hW1]; exact (Below.refl _ _).alloc (Nat.le_refl _) _
  have hk1 : IsBlk W1 w.heap.size 78 #[.slice A l.length c] := by rw [hW1]; exact IsBlk.new _ _ _
  have HCK := Lib.hid (check_any W1 (T.below hb1) A c l ((hl.below hb1).more hb1.size) hc hf.1)
  have HB1 := Lib.hid hb1
  have HK1 := Lib.hid hk1
  have HW1 := Lib.hid hW1
  obtain ⟨ck, hck⟩ : ∃ ck, ck = chk l := ⟨_, rfl⟩
  rw [← hck] at HCK
  have HCH := Lib.hid hck
  by_cases h0 : ck = 0
  · subst h0
    obtain ⟨x, hx1, hx2, rfl⟩ := chk_row hck.symm
    have hsm := row_small 1000000 x 0 0 hx1 (fun n hn => ⟨(hf.1.2 n hn).1, hf.2 n hn⟩)
    have hwf := wf_of hx1 hsm.1
    have hlen : sz x ≤ 800000 := by have := hf.1.1; rwa [flat_len] at this
    have hpl : (Ex.prs x 0).length + 30 ≤ 900000000000 := Nat.le_trans hsm.2 (Nat.le_trans (Nat.mul_le_mul_left _ hlen) (by decide))
    have hsz := sz_pos x
    have HPR := Lib.hid (fun w3 (hb : Below W1.heap.size W1 w3) => (show Calls Tryz.prog 105 #[.pointer (some ⟨w3.heap.size, 0, none⟩), .int .i64 (((flat x 0).length : Int) - 1), .int .u8 0] (w3.alloc (.cells #[.slice A (flat x 0).length c, .pointer none, .slice none 0 0] 195)) (PaP w3.heap.size w3.heap.size (.slice A (flat x 0).length c) [] (Ex.prs x 0) (w3.alloc (.cells #[.slice A (flat x 0).length c, .pointer none, .slice none 0 0] 195))) from by
      have hb3 : Below w3.heap.size w3 (w3.alloc (.cells #[.slice A (flat x 0).length c, .pointer none, .slice none 0 0] 195)) := (Below.refl _ _).alloc (Nat.le_refl _) _
      have q := part_any w3.heap.size w3.heap.size A c (flat x 0) hc x hwf 0 (by omega) 0 (w3.alloc (.cells #[.slice A (flat x 0).length c, .pointer none, .slice none 0 0] 195)) [] (at_all x) ⟨_, _, Or.inl rfl, Nat.le_refl _, IsBlk.new _ _ _, ⟨by simp [Lib.byteCells], Or.inl ⟨rfl, rfl⟩⟩⟩ (((hl.below (hb1.trans (hb.mono hb1.size))).more (Nat.le_trans hb1.size hb.size)).below hb3) (fun w' hb' => ((T.below hb1).below hb).below (hb3.trans hb')) (by simp; omega)
      rw [show (((0 + sz x : Nat) : Int) - 1) = ((flat x 0).length : Int) - 1 by rw [flat_len]; omega] at q
      exact q))
    obtain ⟨n, hn⟩ : ∃ n, n = (flat x 0).length := ⟨_, rfl⟩
    have hnz : n = sz x := by rw [hn, flat_len]
    have hn1 : 0 < n := by omega
    have hn2 : n ≤ 800000 := by omega
    have hcn : (n : Int) ≤ (c : Int) := by omega
    rw [← hn] at HCK HK1 HW1 HPR
    have HEND := Lib.hid (show Prnt (flat x 0) (Ex.prs x 0) 0 from Or.inr ⟨rfl, x, hwf, hx1, hx2, rfl, rfl⟩)
    have HNE := Lib.hid (prs_ne x 0 hwf)
    rw [← hn]
    generalize Ex.prs x 0 = t at *
    generalize flat x 0 = l at *
    clear hW1 hb1 hk1 hck hl hc hf hsm hwf hlen hpl hsz T hn hnz hx1 hx2 HCH
    go_enter Tryz.func74, Tryz.ntmps74
    go_wp2_with fail
    rw [← HW1.out]
    refine HCK.out.mono ?_
    rintro e w2 ⟨rfl, hb2⟩
    have HB2 := Lib.hid (HB1.out.trans (hb2.mono HB1.out.size))
    have HC2 := Lib.hid hb2
    have q0 : w2.cell? ⟨w.heap.size, 0, none⟩ = some (.slice A n c) := (HK1.out.below hb2 HK1.out.lt).at_ 0
    have hlt2 : w.heap.size < w2.heap.size := (HK1.out.below hb2 HK1.out.lt).lt
    clear hb2
    go_wp2_with fail
    refine (HPR.out w2 HC2.out).mono ?_
    rintro e w3 ⟨rfl, hs3, hb3, _⟩
    have HJ := Lib.hid (show jnw [] t = t from rfl)
    have HS := Lib.hid (wstring_any w2.heap.size w2.heap.size (.slice A n c) t w3 (by rw [← HJ.out]; exact hs3) HNE.out)
    have HB3 := Lib.hid (HB2.out.trans (((Below.refl w2.heap.size w2).alloc (Nat.le_refl _) _).trans hb3 |>.mono (Nat.le_of_lt hlt2)))
    clear hs3 hb3
    go_wp2_with fail
    refine HS.out.mono ?_
    rintro e w4 ⟨rfl, hb4⟩
    have HB4 := Lib.hid (HB3.out.trans (hb4.mono (Nat.le_of_lt hlt2)))
    clear hb4
    go_wp2
    go_ret2
    exact ⟨_, _, HEND.out, rfl, HB4.out⟩
  · have h0' : (ck != 0) = true := bne_iff_ne.2 h0
    have HEND := Lib.hid (show Prnt l [] ck from Or.inl ⟨by rw [← hck]; exact h0, rfl, hck⟩)
    clear hW1 hb1 hk1 hl hf T hck HCH
    go_enter Tryz.func74, Tryz.ntmps74
    go_wp2_with fail
    rw [← HW1.out]
    refine HCK.out.mono ?_
    rintro e w2 ⟨rfl, hb2⟩
    have HB2 := Lib.hid (HB1.out.trans (hb2.mono HB1.out.size))
    clear hb2
    go_wp2
    go_ret2
    exact ⟨_, _, HEND.out, rfl, HB2.out⟩
end Go.Proofs.YtmmdigeciphglaaGreatDoor
