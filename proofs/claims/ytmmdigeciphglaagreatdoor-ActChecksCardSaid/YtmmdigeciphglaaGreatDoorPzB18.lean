/- Facts and walks for the statement. -/
import Derived.Test.YtmmdigeciphglaaGreatDoorPzB17
import Derived.Test.YtmmdigeciphglaaGreatDoorPzB16
namespace Go.Proofs.YtmmdigeciphglaaGreatDoor
open Go.RowKit Ex
set_option maxHeartbeats 8000000 in
set_option maxRecDepth 100000 in
theorem astmt_any (B r : Nat) (w : World) (A : Option Addr) (c : Nat) (ls : List Lx.T) (i : Nat) (sv : Value) (h : CuR B r w A c ls i sv) (T : TxO B w) (hn : ls.length ≤ 140000) (hc : c ≤ maxLen) (hx : ∀ t ∈ ls, t.tx.length ≤ 64) :
    Calls Tryz.prog 71 #[.pointer (some ⟨r, 0, none⟩)] w (AsP B r w A c ls sv (Ac.stm ((kxs ls).drop i))) := by
  obtain ⟨W1, hW1⟩ : ∃ W1, W1 = w.alloc (.cells #[.int .u8 0, .string ⟨#[]⟩, .slice none 0 0] 80) := ⟨_, rfl⟩
  have hb1 : Below w.heap.size w W1 := by rw [hW1]; exact (Below.refl _ _).alloc (Nat.le_refl _) _
  obtain ⟨W2, hW2⟩ : ∃ W2, W2 = W1.alloc (.cells #[.string ⟨#[101, 109, 105, 116]⟩] 9) := ⟨_, rfl⟩
  have hb2 : Below W1.heap.size W1 W2 := by rw [hW2]; exact (Below.refl _ _).alloc (Nat.le_refl _) _
  have K1 : IsBlk W1 w.heap.size 80 #[.int .u8 0, .string ⟨#[]⟩, .slice none 0 0] := by rw [hW1]; exact IsBlk.new _ _ _
  have K2 := Lib.hid (K1.below hb2 K1.lt)
  have S2 := Lib.hid (((CuS.of h).on hb1).on hb2)
  have HN := Lib.hid hn
  have HXS := Lib.hid hx
  have HCX := Lib.hid hc
  have HR := Lib.hid h.blk.lt
  have HT := Lib.hid T
  have HCM := Lib.hid (show Calls Tryz.prog 103 #[.pointer (some ⟨r, 0, none⟩), .slice (some ⟨W1.heap.size, 0, none⟩) 1 1] W2 (CmP B r W2 A c ls sv (Ac.come [Ac.emW] ((kxs ls).drop i))) from acome_any B r W2 A c ls i sv S2.out.1 (by omega) W1.heap.size [Ac.emW] (by rw [hW2]; exact IsBlk.new _ _ _) (by decide) (by simp))
  have hz : W1.heap.size = w.heap.size + 1 := by rw [hW1]; simp
  rw [hz] at HCM
  obtain ⟨X, hX⟩ : ∃ X, X = Ac.stm ((kxs ls).drop i) := ⟨_, rfl⟩
  rw [← hX]
  have HW2 := Lib.hid (And.intro hW1 hW2)
  have HX := Lib.hid hX
  clear hX hW1 hW2 hb1 hb2 K1 h T hn hc hx hz
  by_cases he : Ac.tx0 ((kxs ls).drop i) = Ac.emW
  · have e1 : Ac.come [Ac.emW] ((kxs ls).drop i) = (((kxs ls).drop i).tail, true) := if_pos he
    rw [e1, kxs_tail] at HCM
    have HX := Lib.hid (HX.out.trans (if_pos he))
    rw [kxs_tail] at HX
    clear e1 he
    go_enter Tryz.func71, Tryz.ntmps71
    go_wp2_with fail
    rw [← HW2.out.1, ← HW2.out.2]
    refine HCM.out.mono ?_
    rintro e w3 ⟨rfl, i3, hm3, hs3⟩
    simp only at hm3
    rw [hm3] at HX
    have S3 := Lib.hid (S2.out.trans hs3)
    have K3 := Lib.hid (hs3.2.2.blk K2.out (by decide))
    clear hs3 hm3 HCM S2 K2
    simp only
    obtain ⟨W4, hW4⟩ : ∃ W4, W4 = w3.alloc (.cells #[.string ⟨#[41]⟩, .string ⟨#[59]⟩] 9) := ⟨_, rfl⟩
    have hb4 : Below w3.heap.size w3 W4 := by rw [hW4]; exact (Below.refl _ _).alloc (Nat.le_refl _) _
    have S4 := Lib.hid (S3.out.on hb4)
    have K4 := Lib.hid (K3.out.below hb4 K3.out.lt)
    have HPT := Lib.hid (show Calls Tryz.prog 104 #[.pointer (some ⟨r, 0, none⟩), .int .u8 2, .string ⟨#[40]⟩, .slice (some ⟨w3.heap.size, 0, none⟩) 2 2] W4 (AsP B r W4 A c ls sv X) from by
      rw [HX.out]
      exact aparts_any B r W4 A c ls i3 sv S4.out.1 (HT.out.on S4.out.2.1) HN.out HCX.out HXS.out 2 (by decide) [40] (by decide) w3.heap.size [41] [[59]] (by rw [hW4]; exact IsBlk.new _ _ _) (by decide) (by decide))
    have HW4 := Lib.hid hW4
    clear hW4 hb4 S3 K3 HX
    go_wp2_with fail
    rw [← HW4.out]
    refine HPT.out.mono ?_
    clear HPT
    cases X with
    | bad left er =>
      rintro e w5 ⟨rfl, i5, hl5, hs5⟩
      have S5 := Lib.hid (S4.out.trans hs5)
      have HL := Lib.hid hl5
      have K5 := hs5.2.2.blk K4.out (by decide)
      have x0 : w5.cell? ⟨w.heap.size, 0, none⟩ = some (.int .u8 0) := K5.at_ 0
      have x1 : w5.cell? ⟨w.heap.size, 1, none⟩ = some (.string ⟨#[]⟩) := K5.at_ 1
      have x2 : w5.cell? ⟨w.heap.size, 2, none⟩ = some (.slice none 0 0) := K5.at_ 2
      have xf := fun j => K5.fz j
      clear hs5 hl5 K5 S4 K4
      go_wp2
      refine bodyPost_ret (v := .tuple #[.agg #[.int .u8 0, .string ⟨#[]⟩, .slice none 0 0], .int .i64 er]) (by simp [results, Tryz.results71, go_sem, x0, x1, x2]) rfl ?_
      exact ⟨rfl, i5, HL.out, (((S5.out.far HR.out ⟨w.heap.size, 0, none⟩ (Nat.le_refl _) _).far HR.out ⟨w.heap.size, 1, none⟩ (Nat.le_refl _) _).far HR.out ⟨w.heap.size, 2, none⟩ (Nat.le_refl _) _)⟩
    | ok rest s =>
      obtain ⟨k, nm, xs⟩ := s
      rintro e w5 ⟨An, cn, i5, rfl, hr5, hs5, ho5⟩
      have S5 := Lib.hid (S4.out.trans hs5)
      have HRS := Lib.hid hr5
      have K5 := hs5.2.2.blk K4.out (by decide)
      have KK := Lib.hid K5
      have HO := Lib.hid (show w5.ownsRow w.heap.size 105 6 (.slice An xs.length cn) xs.length (xs.flatMap ndV) from own_less ho5 S4.out.2.2.size)
      have x0 : w5.cell? ⟨w.heap.size, 0, none⟩ = some (.int .u8 0) := K5.at_ 0
      have x1 : w5.cell? ⟨w.heap.size, 1, none⟩ = some (.string ⟨#[]⟩) := K5.at_ 1
      have x2 : w5.cell? ⟨w.heap.size, 2, none⟩ = some (.slice none 0 0) := K5.at_ 2
      have xf := fun j => K5.fz j
      clear hs5 hr5 ho5 K5 S4 K4
      simp only
      obtain ⟨N, hN⟩ : ∃ N : ByteArray, N = ⟨nm.toArray⟩ := ⟨_, rfl⟩
      rw [← hN]
      have HNN := Lib.hid hN
      clear hN
      go_wp2
      refine bodyPost_ret (v := .tuple #[.agg #[.int .u8 k, .string N, .slice An xs.length cn], .int .i64 0]) (by simp [results, Tryz.results71, go_sem, x0, x1, x2]) rfl ?_
      refine ⟨An, cn, i5, by rw [HNN.out], HRS.out, (((S5.out.far HR.out ⟨w.heap.size, 0, none⟩ (Nat.le_refl _) _).far HR.out ⟨w.heap.size, 1, none⟩ (Nat.le_refl _) _).far HR.out ⟨w.heap.size, 2, none⟩ (Nat.le_refl _) _), ?_⟩
      have b0 := KK.out
      have b1 := b0.set 0 (.int .u8 k)
      have b2 := b1.set 1 (.string N)
      exact own_set (own_set (own_set HO.out b0 (by decide) 0 _) b1 (by decide) 1 _) b2 (by decide) 2 _
  · have e1 : Ac.come [Ac.emW] ((kxs ls).drop i) = ((kxs ls).drop i, false) := if_neg he
    rw [e1] at HCM
    have HX := Lib.hid (HX.out.trans (if_neg he))
    clear e1 he
    go_enter Tryz.func71, Tryz.ntmps71
    go_wp2_with fail
    rw [← HW2.out.1, ← HW2.out.2]
    refine HCM.out.mono ?_
    rintro e w3 ⟨rfl, i3, hm3, hs3⟩
    simp only at hm3
    rw [hm3] at HX
    have S3 := Lib.hid (S2.out.trans hs3)
    have K3 := Lib.hid (hs3.2.2.blk K2.out (by decide))
    clear hs3 hm3 HCM S2 K2
    simp only
    obtain ⟨W4, hW4⟩ : ∃ W4, W4 = w3.alloc (.cells #[.string ⟨#[59]⟩] 9) := ⟨_, rfl⟩
    have hb4 : Below w3.heap.size w3 W4 := by rw [hW4]; exact (Below.refl _ _).alloc (Nat.le_refl _) _
    have S4 := Lib.hid (S3.out.on hb4)
    have K4 := Lib.hid (K3.out.below hb4 K3.out.lt)
    have HPT := Lib.hid (show Calls Tryz.prog 104 #[.pointer (some ⟨r, 0, none⟩), .int .u8 1, .string ⟨#[58, 61]⟩, .slice (some ⟨w3.heap.size, 0, none⟩) 1 1] W4 (AsP B r W4 A c ls sv X) from by
      rw [HX.out]
      exact aparts_any B r W4 A c ls i3 sv S4.out.1 (HT.out.on S4.out.2.1) HN.out HCX.out HXS.out 1 (by decide) [58, 61] (by decide) w3.heap.size [59] [] (by rw [hW4]; exact IsBlk.new _ _ _) (by decide) (by decide))
    have HW4 := Lib.hid hW4
    clear hW4 hb4 S3 K3 HX
    go_wp2_with fail
    rw [← HW4.out]
    refine HPT.out.mono ?_
    clear HPT
    cases X with
    | bad left er =>
      rintro e w5 ⟨rfl, i5, hl5, hs5⟩
      have S5 := Lib.hid (S4.out.trans hs5)
      have HL := Lib.hid hl5
      have K5 := hs5.2.2.blk K4.out (by decide)
      have x0 : w5.cell? ⟨w.heap.size, 0, none⟩ = some (.int .u8 0) := K5.at_ 0
      have x1 : w5.cell? ⟨w.heap.size, 1, none⟩ = some (.string ⟨#[]⟩) := K5.at_ 1
      have x2 : w5.cell? ⟨w.heap.size, 2, none⟩ = some (.slice none 0 0) := K5.at_ 2
      have xf := fun j => K5.fz j
      clear hs5 hl5 K5 S4 K4
      go_wp2
      refine bodyPost_ret (v := .tuple #[.agg #[.int .u8 0, .string ⟨#[]⟩, .slice none 0 0], .int .i64 er]) (by simp [results, Tryz.results71, go_sem, x0, x1, x2]) rfl ?_
      exact ⟨rfl, i5, HL.out, (((S5.out.far HR.out ⟨w.heap.size, 0, none⟩ (Nat.le_refl _) _).far HR.out ⟨w.heap.size, 1, none⟩ (Nat.le_refl _) _).far HR.out ⟨w.heap.size, 2, none⟩ (Nat.le_refl _) _)⟩
    | ok rest s =>
      obtain ⟨k, nm, xs⟩ := s
      rintro e w5 ⟨An, cn, i5, rfl, hr5, hs5, ho5⟩
      have S5 := Lib.hid (S4.out.trans hs5)
      have HRS := Lib.hid hr5
      have K5 := hs5.2.2.blk K4.out (by decide)
      have KK := Lib.hid K5
      have HO := Lib.hid (show w5.ownsRow w.heap.size 105 6 (.slice An xs.length cn) xs.length (xs.flatMap ndV) from own_less ho5 S4.out.2.2.size)
      have x0 : w5.cell? ⟨w.heap.size, 0, none⟩ = some (.int .u8 0) := K5.at_ 0
      have x1 : w5.cell? ⟨w.heap.size, 1, none⟩ = some (.string ⟨#[]⟩) := K5.at_ 1
      have x2 : w5.cell? ⟨w.heap.size, 2, none⟩ = some (.slice none 0 0) := K5.at_ 2
      have xf := fun j => K5.fz j
      clear hs5 hr5 ho5 K5 S4 K4
      simp only
      obtain ⟨N, hN⟩ : ∃ N : ByteArray, N = ⟨nm.toArray⟩ := ⟨_, rfl⟩
      rw [← hN]
      have HNN := Lib.hid hN
      clear hN
      go_wp2
      refine bodyPost_ret (v := .tuple #[.agg #[.int .u8 k, .string N, .slice An xs.length cn], .int .i64 0]) (by simp [results, Tryz.results71, go_sem, x0, x1, x2]) rfl ?_
      refine ⟨An, cn, i5, by rw [HNN.out], HRS.out, (((S5.out.far HR.out ⟨w.heap.size, 0, none⟩ (Nat.le_refl _) _).far HR.out ⟨w.heap.size, 1, none⟩ (Nat.le_refl _) _).far HR.out ⟨w.heap.size, 2, none⟩ (Nat.le_refl _) _), ?_⟩
      have b0 := KK.out
      have b1 := b0.set 0 (.int .u8 k)
      have b2 := b1.set 1 (.string N)
      exact own_set (own_set (own_set HO.out b0 (by decide) 0 _) b1 (by decide) 1 _) b2 (by decide) 2 _
end Go.Proofs.YtmmdigeciphglaaGreatDoor
namespace Go.Proofs.YtmmdigeciphglaaGreatDoor
open Go.RowKit Ex
theorem infoSt : (Tryz.prog.info? 80).map (fun i => (i.zero, i.size, i.bytes)) = some (some (.agg #[.int .u8 0, .string ⟨#[]⟩, .slice none 0 0]), 3, 48) := by kernel_rfl
def stV (p : Ac.St × Value) : List Value := [.int .u8 p.1.k, .string ⟨p.1.nm.toArray⟩, p.2]
def cuI (r : Nat) (w : World) : Nat := ((w.cell? ⟨r, 1, none⟩).map (fun v => (intOf v).toNat)).getD 0
theorem CuR.iOf {B r : Nat} {w : World} {A : Option Addr} {c : Nat} {ls : List Lx.T} {i : Nat} {sv : Value} (h : CuR B r w A c ls i sv) : cuI r w = i := by
  unfold cuI
  rw [h.cells.2.1]
  simp [intOf]
structure StO (B : Nat) (w : World) (sv : Value) (ps : List (Ac.St × Value)) : Prop where
  row : w.ownsRow B 80 3 sv ps.length (ps.flatMap stV)
  nds : ∀ p ∈ ps, w.ownsRow B 105 6 p.2 p.1.x.length (p.1.x.flatMap ndV)
theorem StO.below {B : Nat} {w w' : World} {sv : Value} {ps : List (Ac.St × Value)} (h : StO B w sv ps) (hb : Below w.heap.size w w') : StO B w' sv ps := ⟨own_below h.row hb, fun p hp => own_below (h.nds p hp) hb⟩
theorem StO.on {B : Nat} {w w' : World} {sv : Value} {ps : List (Ac.St × Value)} (h : StO B w sv ps) (hk : AcK w w') : StO B w' sv ps := ⟨hk.own h.row (by decide), fun p hp => hk.own (h.nds p hp) (by decide)⟩
structure BdI (B r : Nat) (w : World) (A : Option Addr) (c : Nat) (ls : List Lx.T) (X : Ac.Rb) (wr : World) (i : Nat) (sv : Value) (ps : List (Ac.St × Value)) : Prop where
  cu : CuR B r wr A c ls i sv
  below : Below B w wr
  st : StO B wr sv ps
  eq : X = Ac.B ((kxs ls).drop i) (ps.map (·.1))
  le : ps.length ≤ 512
theorem BdI.on {B r : Nat} {w : World} {A : Option Addr} {c : Nat} {ls : List Lx.T} {X : Ac.Rb} {wr w' : World} {i : Nat} {sv : Value} {ps : List (Ac.St × Value)} (h : BdI B r w A c ls X wr i sv ps) (hb : Below wr.heap.size wr w') : BdI B r w A c ls X w' i sv ps :=
  ⟨h.cu.below hb, h.cu.bw h.below hb, h.st.below hb, h.eq, h.le⟩
def BdP (B r : Nat) (w : World) (A : Option Addr) (c : Nat) (ls : List Lx.T) (X : Ac.Rb) (e : Ending) (w' : World) : Prop := match X with
  | .bad left er => e = .returned (.int .i64 er) ∧ Below B w w' ∧ ∃ i' sv', left + i' = ls.length ∧ CuR B r w' A c ls i' sv'
  | .ok ss => e = .returned (.int .i64 0) ∧ Below B w w' ∧ ∃ ps i' sv', ps.map (·.1) = ss ∧ CuR B r w' A c ls i' sv' ∧ StO B w' sv' ps ∧ ps.length ≤ 512
theorem drop_ne {ls : List Lx.T} {i : Nat} (h : i < ls.length) : (kxs ls).drop i ≠ [] := fun e => by
  have := congrArg List.length e
  rw [kxs_rest] at this
  simp at this
  omega
theorem BdI.more {B r : Nat} {w : World} {A : Option Addr} {c : Nat} {ls : List Lx.T} {X : Ac.Rb} {wr w9 : World} {j : Nat} {sv : Value} {ps : List (Ac.St × Value)} {s : Ac.St} {g9 cap9 : Nat} {nv : Value} (hbw : Below B w wr) (hst : StO B wr sv ps) (hle : ps.length ≤ 512) (hs : CuR B r wr A c ls j sv) (hX : X = Ac.B ((kxs ls).drop j) ((ps ++ [(s, nv)]).map (·.1))) (hl : ps.length ≠ 512) (hn : wr.ownsRow B 105 6 nv s.x.length (s.x.flatMap ndV)) {W' : World} (hb : Below wr.heap.size wr W') (hgr : W'.grownBy w9 sv.ownBlock)
    (hown : w9.ownsRow B 80 3 (.slice (some ⟨g9, 0, none⟩) (ps.length + 1) cap9) (ps.length + 1) (ps.flatMap stV ++ stV (s, nv))) : BdI B r w A c ls X (w9.setCell ⟨r, 2, none⟩ (.slice (some ⟨g9, 0, none⟩) (ps.length + 1) cap9)) j (.slice (some ⟨g9, 0, none⟩) (ps.length + 1) cap9) (ps ++ [(s, nv)]) := by
  have hBc : B ≤ wr.heap.size := Nat.le_trans hs.base (Nat.le_of_lt hs.blk.lt)
  have q : IsBlk w9 r 100 #[.slice A ls.length c, .int .i64 j, sv] := (hs.blk.below hb hs.blk.lt).grown hgr (fun e => blk_apart hs.blk hst.row (by decide) e.symm)
  have b9 : Below B wr w9 := Below.grown (hb.mono hBc) hgr (Nat.le_trans hBc hb.size) (fun k hk => (hst.row.lt k hk).1)
  have kg : Kt [80] W' w9 := Kt.grown hgr (own_below hst.row hb) (by simp)
  have b10 : Below B wr (w9.setCell ⟨r, 2, none⟩ (.slice (some ⟨g9, 0, none⟩) (ps.length + 1) cap9)) := b9.setCell (p := ⟨r, 2, none⟩) hs.base _
  refine ⟨⟨hs.base, q.set 2 _, hs.tok.below b10, hs.le, hs.cap, hs.nn, hs.pl⟩, hbw.trans b10, ⟨?_, fun p hp => ?_⟩, hX, by rw [List.length_append, List.length_singleton]; omega⟩
  · rw [List.length_append, List.length_singleton, List.flatMap_append, show [(s, nv)].flatMap stV = stV (s, nv) by simp]
    exact own_set hown q (by decide) 2 _
  · have hp2 : wr.ownsRow B 105 6 p.2 p.1.x.length (p.1.x.flatMap ndV) := by
      rcases List.mem_append.1 hp with hp | hp
      · exact hst.nds p hp
      · rw [List.mem_singleton.1 hp]; exact hn
    exact own_set (kg.own (own_below hp2 hb) (by decide)) q (by decide) 2 _
set_option maxHeartbeats 8000000 in
set_option maxRecDepth 100000 in
theorem abody_any (B r : Nat) (w : World) (A : Option Addr) (c : Nat) (ls : List Lx.T) (i : Nat) (sv : Value) (ps : List (Ac.St × Value)) (X : Ac.Rb) (h : BdI B r w A c ls X w i sv ps) (T : TxO B w) (hn : ls.length ≤ 140000) (hc : c ≤ maxLen) (hx : ∀ t ∈ ls, t.tx.length ≤ 64) (hg : ∀ t ∈ kxs ls, Lx.is t.2 = t.1) :
    Calls Tryz.prog 40 #[.pointer (some ⟨r, 0, none⟩)] w (BdP B r w A c ls X) := by
  have HH := Lib.hid h
  have HN := Lib.hid hn
  have HCX := Lib.hid hc
  have HXS := Lib.hid hx
  have HT := Lib.hid T
  have HGD := Lib.hid hg
  clear h T hn hc hx hg
  go_enter Tryz.func40, Tryz.ntmps40
  go_wp2
  go_loopw [] (fun wr => ∃ i sv ps, Hid (BdI B r w A c ls X wr i sv ps)) (fun wr => ls.length - cuI r wr)
  case atStart => exact ⟨i, sv, ps, HH⟩
  case round =>
    clear HH
    obtain ⟨i, sv, ps, HI⟩ := hrel
    have HM := Lib.hid HI.out.cu.iOf
    have HRS := Lib.hid (arest_any B r wr A c ls i sv HI.out.cu HCX.out)
    obtain ⟨d, hd⟩ : ∃ d, d = ls.length - i := ⟨_, rfl⟩
    have HD := Lib.hid hd
    go_wp2_with fail
    refine HRS.out.mono ?_
    rintro e w1 ⟨hb1, A', c', rfl, -, -⟩
    have H1 := Lib.hid (HI.out.on hb1)
    rw [← hd]
    clear hb1 HRS hd
    by_cases hi : i < ls.length
    · have hd1 : (0 : Int) < (d : Int) := by have := HD.out; omega
      have hd2 : 0 < d := by omega
      have HIL := Lib.hid hi
      have HNE := Lib.hid (drop_ne hi)
      obtain ⟨An, cn, hsv, hcn, hcm, -⟩ := own_sliced H1.out.st.row
      subst hsv
      have d2 : w1.cell? ⟨r, 2, none⟩ = some (.slice An ps.length cn) := H1.out.cu.cells.2.2
      obtain ⟨n, hnl⟩ : ∃ n, n = ps.length := ⟨_, rfl⟩
      rw [← hnl] at d2
      have hn5 : (n : Int) ≤ 512 := by have := H1.out.le; omega
      have hcnI : (n : Int) ≤ (cn : Int) := by omega
      have HNL := Lib.hid hnl
      clear hi hcn hcm hnl
      by_cases h5 : n = 512
      · subst h5
        have HX := Lib.hid (H1.out.eq.trans (Ac.B_lim HNE.out (by rw [List.length_map]; exact HNL.out.symm)))
        go_wp2
        go_ret
        rw [HX.out]
        exact ⟨rfl, H1.out.below, i, _, by rw [kxs_rest]; have := HIL.out; omega, H1.out.cu⟩
      · have h5f : ((n : Int) == 512) = false := beq_eq_false_iff_ne.2 (by omega)
        have H5 := Lib.hid (show ps.length ≠ 512 from by rw [← HNL.out]; exact h5)
        have HSM := Lib.hid (astmt_any B r w1 A c ls i _ H1.out.cu (HT.out.on H1.out.below) HN.out HCX.out HXS.out)
        obtain ⟨Y, hY⟩ : ∃ Y, Y = Ac.stm ((kxs ls).drop i) := ⟨_, rfl⟩
        rw [← hY] at HSM
        have HY := Lib.hid hY.symm
        clear hY h5
        go_wp2_with fail
        refine HSM.out.mono ?_
        clear HSM d2
        cases Y with
        | bad left er =>
          rintro e w2 ⟨rfl, i2, hl2, hs2⟩
          have HL := Lib.hid hl2
          have hne := Ac.stm_bad HY.out
          have heb : (er != 0) = true := by simpa using hne
          have HX := Lib.hid (H1.out.eq.trans (Ac.B_bad HNE.out (by rw [List.length_map]; exact H5.out) HY.out))
          have S2 := Lib.hid (hs2.on ((Below.refl w2.heap.size w2).alloc (Nat.le_refl _) (.cells #[.int .u8 0, .string ⟨#[]⟩, .slice none 0 0] 80)))
          clear hl2 hs2 hne
          go_wp2
          go_ret
          rw [HX.out]
          exact ⟨rfl, H1.out.below.trans S2.out.2.1, i2, _, HL.out, S2.out.1⟩
        | ok rest s =>
          obtain ⟨k, nm, xs⟩ := s
          rintro e w2 ⟨Ax, cx, i2, rfl, hr2, hs2, ho2⟩
          simp only at ho2 ⊢
          have hsk := Ac.stm_ok HY.out (fun t ht => HGD.out t (List.mem_of_mem_drop ht))
          have HLT := Lib.hid (show i < i2 from by
            have h1 := hsk.2.2.1
            rw [hr2, kxs_rest, kxs_rest] at h1
            have h2 : 0 < Ac.vol ⟨k, nm, xs⟩ := by unfold Ac.vol; split <;> omega
            have h3 := HIL.out
            have h4 := hs2.1.le
            omega)
          have HX := Lib.hid ((H1.out.eq.trans (Ac.B_ok (fun t ht => HGD.out t (List.mem_of_mem_drop ht)) HNE.out (by rw [List.length_map]; exact H5.out) HY.out)).trans (show Ac.B rest (ps.map (·.1) ++ [⟨k, nm, xs⟩]) = Ac.B ((kxs ls).drop i2) ((ps ++ [((⟨k, nm, xs⟩ : Ac.St), Value.slice Ax xs.length cx)]).map (·.1)) from by rw [hr2, List.map_append]; rfl))
          obtain ⟨N, hN⟩ : ∃ N : ByteArray, N = ⟨nm.toArray⟩ := ⟨_, rfl⟩
          rw [← hN]
          have HNN := Lib.hid hN
          obtain ⟨W3, hW3⟩ : ∃ W3, W3 = w2.alloc (.cells #[.int .u8 k, .string N, .slice Ax xs.length cx] 80) := ⟨_, rfl⟩
          have hb3 : Below w2.heap.size w2 W3 := by rw [hW3]; exact (Below.refl _ _).alloc (Nat.le_refl _) _
          have k3 : IsBlk W3 w2.heap.size 80 #[.int .u8 k, .string N, .slice Ax xs.length cx] := by rw [hW3]; exact IsBlk.new _ _ _
          have x0 : W3.cell? ⟨w2.heap.size, 0, none⟩ = some (.int .u8 k) := k3.at_ 0
          have x1 : W3.cell? ⟨w2.heap.size, 1, none⟩ = some (.string N) := k3.at_ 1
          have x2 : W3.cell? ⟨w2.heap.size, 2, none⟩ = some (.slice Ax xs.length cx) := k3.at_ 2
          have C3 := Lib.hid (hs2.1.below hb3)
          have ST3 := Lib.hid ((H1.out.st.on hs2.2.2).below hb3)
          have HO3 := Lib.hid (own_less (own_below ho2 hb3) (Nat.le_trans H1.out.cu.base (Nat.le_of_lt H1.out.cu.blk.lt)))
          have HMR := Lib.hid (fun (W' w9 : World) (g9 cap9 : Nat) (hb : Below W3.heap.size W3 W') (hgr : W'.grownBy w9 (Value.slice An ps.length cn).ownBlock) hown => BdI.more (w := w) (s := ⟨k, nm, xs⟩) (nv := .slice Ax xs.length cx) (g9 := g9) (cap9 := cap9) (hs2.1.bw (H1.out.below.trans hs2.2.1) hb3) ST3.out H1.out.le C3.out HX.out H5.out HO3.out hb hgr hown)
          have HAT := Lib.hid (fun (W' w9 : World) (hb : Below W3.heap.size W3 W') (hgr : W'.grownBy w9 (Value.slice An ps.length cn).ownBlock) => (show w9.cell? ⟨r, 2, none⟩ = some (.slice An ps.length cn) ∧ w9.frozen? ⟨r, 2, none⟩ = false from by
            have q := (C3.out.blk.below hb C3.out.blk.lt).grown hgr (fun e => blk_apart C3.out.blk ST3.out.row (by decide) e.symm)
            exact ⟨q.at_ 2, q.fz 2⟩))
          have d2 : W3.cell? ⟨r, 2, none⟩ = some (.slice An ps.length cn) := C3.out.cells.2.2
          have HOW := Lib.hid ST3.out.row
          obtain ⟨j0, hj0, jz0, jz1, jz2⟩ := info_parts infoSt
          have hbig : n + 1 ≤ maxLen := by unfold maxLen; omega
          have hrc : r < W3.heap.size := C3.out.blk.lt
          have hBc : B ≤ W3.heap.size := Nat.le_trans C3.out.base (Nat.le_of_lt hrc)
          have HFL := Lib.hid (show stV (⟨k, nm, xs⟩, Value.slice Ax xs.length cx) = [Value.int .u8 k, .string N, .slice Ax xs.length cx] from by rw [HNN.out]; rfl)
          rw [HFL.out] at HMR
          rw [← HNL.out] at d2 HOW HMR HAT
          have HW3 := Lib.hid hW3
          clear hN hW3 hb3 k3 hs2 hr2 ho2 hsk
          go_wp2_with fail
          rw [← HW3.out]
          go_region_law (first | (refine step_append_lies _ (by rfl) _ _ _ (by rfl) B 80 j0 _ 3 48 Tryz.underlying27 hj0 jz0 jz1 jz2 rfl (by omega) (.slice An n cn) n (ps.flatMap stV) (by rfl) (by exact World.ownsRow.alloc HOW.out _) _ 1 _ [.int .u8 k, .string N, .slice Ax xs.length cx] (by rfl) rfl (by intro j u hu; exact news_at _ _ _ _ (by simp) j u hu) (by intro u hu; simp at hu; rcases hu with rfl | rfl | rfl <;> rfl) (by omega) hbig (by omega) (by simp; omega) _ rfl ?_; intro g9 cap9 w9 hown9 hgr9 hat9 hlt9; have HA9 := Lib.hid (HAT.out _ w9 (by first | exact ((Below.refl _ _).alloc (Nat.le_refl _) _).drew | exact ((Below.refl _ _).drew).alloc (Nat.le_refl _) _ | exact (Below.refl _ _).alloc (Nat.le_refl _) _) hgr9); have HM9 := Lib.hid (HMR.out _ w9 g9 cap9 (by first | exact ((Below.refl _ _).alloc (Nat.le_refl _) _).drew | exact ((Below.refl _ _).drew).alloc (Nat.le_refl _) _ | exact (Below.refl _ _).alloc (Nat.le_refl _) _) hgr9 hown9); have y1 := HA9.out.1; have yf := HA9.out.2))
          all_goals
            go_wp2
            go_roundw
            case rel => exact ⟨i2, _, _, HM9⟩
            case measure => rw [HM.out, HM9.out.cu.iOf]; have := HLT.out; have := HIL.out; omega
    · have hie : i = ls.length := by have := HI.out.cu.le; omega
      have hd1 : ¬ (0 : Int) < (d : Int) := by have := HD.out; omega
      have hd2 : d = 0 := by omega
      have HX := Lib.hid (show X = .ok (ps.map (·.1)) from by rw [H1.out.eq, List.drop_of_length_le (by rw [kxs_len]; omega)]; exact Ac.B_nil _)
      clear hi hie
      subst hd2
      go_wp2
      go_ret
      rw [HX.out]
      exact ⟨rfl, H1.out.below, ps, i, sv, rfl, H1.out.cu, H1.out.st, H1.out.le⟩
end Go.Proofs.YtmmdigeciphglaaGreatDoor
namespace Go.Proofs.YtmmdigeciphglaaGreatDoor
open Go.RowKit Ex
structure StR (w : World) (B : Nat) (A : Option Addr) (ps : List (Ac.St × Value)) : Prop where
  cells : ∀ j (hj : j < ps.length), ∃ g o, A = some ⟨g, o, none⟩ ∧ g < B ∧ w.cell? ⟨g, o + j * 3, none⟩ = some (.int .u8 ps[j].1.k) ∧ w.cell? ⟨g, o + j * 3 + 1, none⟩ = some (.string ⟨ps[j].1.nm.toArray⟩) ∧ w.cell? ⟨g, o + j * 3 + 2, none⟩ = some ps[j].2
  nds : ∀ p ∈ ps, ∃ A' c', p.2 = .slice A' p.1.x.length c' ∧ p.1.x.length ≤ c' ∧ NdR w B A' p.1.x
theorem StR.below {w w' : World} {B : Nat} {A : Option Addr} {ps : List (Ac.St × Value)} (h : StR w B A ps) (hb : Below B w w') : StR w' B A ps := by
  refine ⟨fun j hj => ?_, fun p hp => ?_⟩
  · obtain ⟨g, o, e, hg, c0, c1, c2⟩ := h.cells j hj
    have q := fun (k : Nat) (v : Value) (hc : w.cell? ⟨g, k, none⟩ = some v) => (hb.cell (p := ⟨g, k, none⟩) hg).trans hc
    exact ⟨g, o, e, hg, q _ _ c0, q _ _ c1, q _ _ c2⟩
  · obtain ⟨A', c', e, h1, h2⟩ := h.nds p hp
    exact ⟨A', c', e, h1, h2.below hb⟩
theorem StR.more {w : World} {B B' : Nat} {A : Option Addr} {ps : List (Ac.St × Value)} (h : StR w B A ps) (hB : B ≤ B') : StR w B' A ps := by
  refine ⟨fun j hj => ?_, fun p hp => ?_⟩
  · obtain ⟨g, o, e, hg, q⟩ := h.cells j hj
    exact ⟨g, o, e, Nat.lt_of_lt_of_le hg hB, q⟩
  · obtain ⟨A', c', e, h1, h2⟩ := h.nds p hp
    exact ⟨A', c', e, h1, h2.more hB⟩
theorem StR.on {w w' : World} {A : Option Addr} {ps : List (Ac.St × Value)} (h : StR w w.heap.size A ps) (hb : Below w.heap.size w w') : StR w' w'.heap.size A ps := (h.below hb).more hb.size
theorem StO.reads {B : Nat} {w : World} {A : Option Addr} {n c : Nat} {ps : List (Ac.St × Value)} (h : StO B w (.slice A n c) ps) (hn : n = ps.length) : StR w w.heap.size A ps ∧ n ≤ c ∧ c ≤ maxLen := by
  have h0 := h.row
  subst hn
  obtain ⟨A', c', e, h1, h2, h3⟩ := own_sliced h0
  injection e with e1 _ e3
  subst e1 e3
  refine ⟨⟨fun j hj => ?_, fun p hp => ?_⟩, h1, h2⟩
  · obtain ⟨g, rfl, _, hg⟩ := h3 (by omega)
    have q := fun (k : Nat) (u : Value) (hk : k < 3) (hu : (stV ps[j])[k]? = some u) => own_cell h0 ((fl_at (f := stV) (k := 3) (fun _ => rfl) ps j k hj hk).trans hu)
    refine ⟨g, 0, rfl, hg, ?_, ?_, ?_⟩
    · simpa using q 0 _ (by omega) rfl
    · simpa using q 1 _ (by omega) rfl
    · simpa using q 2 _ (by omega) rfl
  · have hp2 := h.nds p hp
    obtain ⟨A2, c2, e2, _, _, _⟩ := own_sliced hp2
    rw [e2] at hp2
    obtain ⟨q1, q2, _⟩ := own_ndr hp2 rfl
    exact ⟨A2, c2, e2, q2, q1⟩
def FitAc (ps : List (Ac.St × Value)) : Prop := ∀ p ∈ ps, Fit p.1.x ∧ p.1.nm.length ≤ 1000000
set_option maxHeartbeats 4000000 in
set_option maxRecDepth 100000 in
theorem idxImp_any (w : World) (T : Tx w) (A : Option Addr) (c : Nat) (ps : List (Ac.St × Value)) (hl : ps.length ≤ c) (hc : c ≤ maxLen) (h : StR w w.heap.size A ps) (hf : FitAc ps) :
    Calls Tryz.prog 82 #[.slice A ps.length c, .func (Fn.func 50) #[] #[]] w fun e w' => (∃ i : Int, e = .returned (.int .i64 i) ∧ (0 ≤ i ↔ ¬ ∀ p ∈ ps, Ac.okS p.1)) ∧ Below w.heap.size w w' := by
  have H := Lib.hid h
  have HF := Lib.hid hf
  have HT := Lib.hid T
  have hm : (ps.length : Int) ≤ 9223372036854775807 := by unfold maxLen at hc; omega
  have hl' : (ps.length : Int) ≤ (c : Int) := by omega
  clear h hf T
  go_enter Tryz.func82, Tryz.ntmps82
  go_wp2
  go_loopw [8] (fun i wr => ∃ k : Nat, i = .int .i64 k ∧ k ≤ ps.length ∧ Hid (Below w.heap.size w wr ∧ ∀ p ∈ ps.take k, Ac.okS p.1)) (fun i _ => ps.length - (intOf i).toNat)
  case atStart => exact ⟨0, rfl, Nat.zero_le _, Lib.hid ⟨Below.refl _ _, fun p hp => by cases hp⟩⟩
  case round =>
    obtain ⟨k, rfl, hk, HI⟩ := hrel
    by_cases hlt : k < ps.length
    · have hlt' : (k : Int) < (ps.length : Int) := by omega
      obtain ⟨g, o, hA, hg, c0, c1, c2⟩ := (H.out.below HI.out.1).cells k hlt
      subst hA
      obtain ⟨Ax, cx, hsx, hcx, hnd⟩ := H.out.nds _ (List.getElem_mem hlt)
      have hfa := HF.out _ (List.getElem_mem hlt)
      have HM := Lib.hid (fun w' (hb : Below wr.heap.size wr w') => aimp_any w' ((HT.out.below HI.out.1).below hb) ps[k].1 Ax cx (((hnd.below HI.out.1).more HI.out.1.size).on hb) hcx hfa.1 hfa.2)
      rw [hsx] at c2
      have HAN := Lib.hid (show ¬ Ac.okS ps[k].1 → ¬ ∀ p ∈ ps, Ac.okS p.1 from fun h q => h (q _ (List.getElem_mem hlt)))
      have HST := Lib.hid (show Ac.okS ps[k].1 → ∀ p ∈ ps.take (k + 1), Ac.okS p.1 from fun h p hp => by
        rw [List.take_succ_eq_append_getElem hlt] at hp
        rcases List.mem_append.1 hp with hp | hp
        · exact HI.out.2 p hp
        · rw [List.mem_singleton.1 hp]; exact h)
      have hkn : k < ps.length := hlt
      clear hfa hsx hcx hnd
      generalize ps[k] = a at *
      obtain ⟨⟨kk, nm, xs⟩, av⟩ := a
      simp only at c0 c1 c2 HM
      generalize (⟨nm.toArray⟩ : ByteArray) = N at *
      clear hlt
      go_wp2_with fail
      refine (HM.out _ (by first | exact Below.refl _ _ | exact (Below.refl _ _).drew)).mono ?_
      rintro e w3 ⟨⟨b, rfl, hbb⟩, h3⟩
      have B3 := Lib.hid (HI.out.1.trans (by first | exact h3.mono HI.out.1.size | exact ((Below.refl _ _).drew.trans h3).mono HI.out.1.size))
      have HBB := Lib.hid hbb
      clear h3 c0 c1 c2 hbb
      cases b with
      | true =>
        have HF2 := Lib.hid (HAN.out (HBB.out.1 rfl))
        go_wp2
        go_ret
        exact ⟨⟨_, rfl, ⟨fun _ => HF2.out, fun _ => by omega⟩⟩, B3.out⟩
      | false =>
        have HF2 := Lib.hid (HST.out (Classical.byContradiction fun q => by have := HBB.out.2 q; cases this))
        go_wp2
        go_roundw
        case rel => exact ⟨k + 1, by go_num, hkn, Lib.hid ⟨B3.out, HF2.out⟩⟩
        case measure => simp [intOf]; omega
    · obtain rfl : k = ps.length := by omega
      have HF2 := Lib.hid (show ∀ p ∈ ps, Ac.okS p.1 from by have := HI.out.2; rwa [List.take_length] at this)
      have hlt' : ¬ ((ps.length : Nat) : Int) < (ps.length : Int) := by omega
      go_wp2
      go_ret
      exact ⟨⟨_, rfl, ⟨fun q => absurd q (by omega), fun q => by obtain ⟨x, ⟨v, hv⟩, hx⟩ := q; exact absurd (HF2.out _ hv) hx⟩⟩, HI.out.1⟩
set_option maxHeartbeats 2000000 in
theorem conImp_any (w : World) (T : Tx w) (A : Option Addr) (c : Nat) (ps : List (Ac.St × Value)) (hl : ps.length ≤ c) (hc : c ≤ maxLen) (h : StR w w.heap.size A ps) (hf : FitAc ps) :
    Calls Tryz.prog 49 #[.slice A ps.length c, .func (Fn.func 50) #[] #[]] w fun e w' => (∃ b, e = .returned (.bool b) ∧ (b = true ↔ ¬ ∀ p ∈ ps, Ac.okS p.1)) ∧ Below w.heap.size w w' := by
  have HI := Lib.hid (idxImp_any w T A c ps hl hc h hf)
  clear h hf T hl hc
  go_enter Tryz.func49, Tryz.ntmps49
  go_wp2_with fail
  refine HI.out.mono ?_
  rintro e w1 ⟨⟨i, rfl, hi⟩, h1⟩
  have B1 := Lib.hid h1
  have HII := Lib.hid hi
  clear h1 hi
  go_wp2
  go_ret
  exact ⟨⟨_, rfl, decide_eq_true_iff.trans HII.out⟩, B1.out⟩
def CkP (ss : List Ac.St) (w : World) (e : Ending) (w' : World) : Prop := ((e = .returned (.int .i64 0) ∧ Ac.okB ss) ∨ (e = .returned (.int .i64 2) ∧ ¬ Ac.okB ss)) ∧ Below w.heap.size w w'
set_option maxHeartbeats 2000000 in
theorem acheck_any (w : World) (T : Tx w) (A : Option Addr) (c : Nat) (ps : List (Ac.St × Value)) (hl : ps.length ≤ c) (hc : c ≤ maxLen) (h : StR w w.heap.size A ps) (hf : FitAc ps) :
    Calls Tryz.prog 23 #[.agg #[.slice A ps.length c]] w (CkP (ps.map (·.1)) w) := by
  obtain ⟨W1, hW1⟩ : ∃ W1, W1 = w.alloc (.cells #[.slice A ps.length c] 29) := ⟨_, rfl⟩
  have hb1 : Below w.heap.size w W1 := by rw [hW1]; exact (Below.refl _ _).alloc (Nat.le_refl _) _
  have k1 : IsBlk W1 w.heap.size 29 #[.slice A ps.length c] := by rw [hW1]; exact IsBlk.new _ _ _
  have x0 : W1.cell? ⟨w.heap.size, 0, none⟩ = some (.slice A ps.length c) := k1.at_ 0
  have HC := Lib.hid (conImp_any W1 (T.below hb1) A c ps hl hc (h.on hb1) hf)
  have HB1 := Lib.hid hb1
  have HW1 := Lib.hid hW1
  have HOB := Lib.hid (show Ac.okB (ps.map (·.1)) ↔ ps.length ≤ 512 ∧ ∀ p ∈ ps, Ac.okS p.1 from by
    unfold Ac.okB
    rw [List.length_map]
    exact ⟨fun q => ⟨q.1, fun p hp => q.2 _ (List.mem_map_of_mem hp)⟩, fun q => ⟨q.1, fun s hs => by obtain ⟨p, hp, rfl⟩ := List.mem_map.1 hs; exact q.2 p hp⟩⟩)
  obtain ⟨n, hn⟩ : ∃ n, n = ps.length := ⟨_, rfl⟩
  rw [← hn] at x0 HC HOB HW1 ⊢
  rw [HW1.out] at x0
  clear hW1 hb1 k1 T hl hc h hf hn
  by_cases h5 : n ≤ 512
  · have h5' : ¬ ((n : Int) > 512) := by omega
    have H5 := Lib.hid h5
    go_enter Tryz.func23, Tryz.ntmps23
    go_wp2_with fail
    rw [← HW1.out]
    refine HC.out.mono ?_
    rintro e w2 ⟨⟨b, rfl, hbb⟩, hb2⟩
    have B2 := Lib.hid (HB1.out.trans (hb2.mono HB1.out.size))
    have HBB := Lib.hid hbb
    clear hbb hb2
    cases b with
    | true =>
      have HNO := Lib.hid (show ¬ Ac.okB (ps.map (·.1)) from fun q => HBB.out.1 rfl (HOB.out.1 q).2)
      go_wp2
      go_ret
      exact ⟨Or.inr ⟨rfl, HNO.out⟩, B2.out⟩
    | false =>
      have HYE := Lib.hid (show Ac.okB (ps.map (·.1)) from HOB.out.2 ⟨H5.out, Classical.byContradiction fun q => by have := HBB.out.2 q; cases this⟩)
      go_wp2
      go_ret
      exact ⟨Or.inl ⟨rfl, HYE.out⟩, B2.out⟩
  · have h5' : ((n : Int) > 512) := by omega
    have HNO := Lib.hid (show ¬ Ac.okB (ps.map (·.1)) from fun q => h5 (HOB.out.1 q).1)
    go_enter Tryz.func23, Tryz.ntmps23
    go_wp2
    go_ret
    rw [← HW1.out]
    exact ⟨Or.inr ⟨rfl, HNO.out⟩, HB1.out⟩
end Go.Proofs.YtmmdigeciphglaaGreatDoor
