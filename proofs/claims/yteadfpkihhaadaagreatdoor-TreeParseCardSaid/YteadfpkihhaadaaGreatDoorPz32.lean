/- Facts and walks for the statement. -/
import Derived.Test.YteadfpkihhaadaaGreatDoorPz31
import Derived.Test.YteadfpkihhaadaaGreatDoorPz14
namespace Go.Proofs.YteadfpkihhaadaaGreatDoor
open Go.RowKit
theorem IsBlk.same {w : World} {g i : Nat} {t : TypeId} {cs : Array Value} {v : Value} (h : IsBlk w g t cs) (hv : cs[i]? = some v) : w.setCell ⟨g, i, none⟩ v = w := by
 have e1 : cs.setIfInBounds i v = cs := by
  apply Array.ext_getElem?
  intro j
  rw [Array.getElem?_setIfInBounds]
  split
  ·rename_i hij
   subst hij
   split
   ·exact hv.symm
   ·rename_i hlt
    rw [Array.getElem?_eq_none (by omega)] at hv
    cases hv
  ·rfl
 have e : (w.setCell ⟨g, i, none⟩ v).heap = w.heap := by
  unfold World.setCell
  simp only
  apply Array.ext_getElem?
  intro k
  rw [Array.getElem?_modify]
  split
  ·rename_i hgk
   subst hgk
   rw [h]
   simp [e1]
  ·rfl
 show { w with heap := (w.setCell ⟨g, i, none⟩ v).heap } = w
 rw [e]
theorem RRow.lt {B : Nat} {w : World} {v : Value} {ps : List RTok} (h : RRow B w v ps) : ∀ k, (v.ownBlock = some k ∨ ∃ x ∈ ps, x.v.ownBlock = some k) → k < w.heap.size := fun k hk => by
 rcases hk with hk | ⟨x, hx, hk⟩
 ·exact (h.own.lt k hk).2
 ·exact (World.ownsRow.lt (h.att x hx) k hk).2
set_option maxHeartbeats 8000000 in
set_option maxRecDepth 100000 in
theorem rcut_any (s : ByteArray) (hs : s.size ≤ 65536) (w : World) (hv : (U8.lead s.data.toList).2 = s.data.toList.length) :
  Calls Tryz.prog 21 #[.string s] w (RCutP (Tk.cutT s.data.toList) w) := by
 have hll : s.data.toList.length = s.size := (Lib.size_eq s).symm
 have hvl : vld s.data.toList = (0, 0) := by unfold vld; rw [if_neg (by omega)]
 have HV := Lib.hid (rvalid_any s w (by unfold maxLen; omega))
 rw [hvl] at HV
 have HLL := Lib.hid hll
 have hb' : ¬ (65536 : Int) < (s.size : Int) := by omega
 clear hv hvl hll
 go_enter Tryz.func21, Tryz.ntmps21
 go_wp2_with fail
 refine HV.out.mono ?_
 rintro e w0 ⟨rfl, h0⟩
 have H0 := Lib.hid (show RcR s w (.slice none 0 0) w0 0 [] from ⟨Nat.zero_le _, Nat.zero_le _, h0, RRow.nil _ _, by rw [HLL.out]; rfl⟩)
 clear h0
 go_wp2
 go_loopw [7, 8] (fun v0 i wr => ∃ (v : Value) (p : Nat) (ps : List RTok), v = v0 ∧ i = .int .i64 p ∧ Hid (RcR s w v wr p ps)) (fun _ i _ => s.size - (intOf i).toNat)
 case atStart => exact ⟨_, 0, [], rfl, rfl, H0⟩
 case round =>
  obtain ⟨v, p, ps, hv0, rfl, HR⟩ := hrel
  subst hv0
  have hp := HR.out.hp
  by_cases hlt : p < s.size
  ·have hlt' : (p : Int) < (s.size : Int) := by omega
   obtain ⟨L, hL⟩ : ∃ L, L = s.data.toList.drop p := ⟨_, rfl⟩
   have hLl : L.length = s.size - p := by rw [hL, List.length_drop, HLL.out]
   have hne : L ≠ [] := by intro e; rw [e] at hLl; simp at hLl; omega
   have heq := HR.out.eq
   rw [← hL] at heq
   have hfuel : L.length ≤ s.data.toList.length := by rw [hLl, HLL.out]; omega
   have hget := Lib.data_getElem? s p hlt
   have h0 : L.head? = some s[p] := by rw [hL, List.head?_drop, hget]
   obtain ⟨S, hS⟩ : ∃ S, S = Tk.step L := ⟨_, rfl⟩
   have HBD := Lib.hid (show S.e ≠ 0 → Tk.cutT s.data.toList = ([], p + S.n, S.e) from fun h => by rw [heq, Tk.goT_bad hfuel hne (by rw [← hS]; exact h), ← hS])
   have HGD := Lib.hid (show S.e = 0 → (Tk.cutT s.data.toList = Tk.goT s.data.toList.length (s.data.toList.drop (p + S.n)) (p + S.n) (Tk.put1 S.t p (ps.map RTok.t))) ∧ 1 ≤ S.n ∧ p + S.n ≤ s.size from fun h => by
    have h1 := Tk.goT_good (at_ := p) (acc := ps.map RTok.t) hfuel hne (by rw [← hS]; exact h)
    have h2 := Tk.step_le hne (by rw [← hS]; exact h)
    rw [← hS] at h1 h2
    refine ⟨?_, h2.1, by omega⟩
    rw [heq, h1, show L.drop S.n = s.data.toList.drop (p + S.n) by rw [hL, List.drop_drop]])
   by_cases h60 : s[p] = 60
   ·have ht : ((s[p].toNat : Int) == 60) = true := by rw [h60]; rfl
    have ht2 : ((s[p].toNat : Int) != 60) = false := by rw [h60]; rfl
    have hh : L.head? = some 60 := by rw [h0, h60]
    have HM := Lib.hid (fun w0 => rremark_any s p w0 (by omega) hp)
    rw [← hL] at HM
    obtain ⟨m, hm⟩ : ∃ m, m = Tk.rem L := ⟨_, rfl⟩
    have hmle := Tk.rem_le L
    rw [← hm] at HM hmle
    by_cases hm0 : 0 < m
    ·have hSt : S = ⟨none, m, 0⟩ := by rw [hS]; unfold Tk.step; rw [if_neg (by rw [hh]; simp), if_pos (by omega), hm]
     have HGO := Lib.hid (HGD.out (by rw [hSt]))
     rw [hSt] at HGO
     have hm' : 0 < (m : Int) := by omega
     have hpm : (p : Int) + (m : Int) ≤ 65536 := by omega
     have HRF := Lib.hid (show RcR s w v wr (p + m) ps from ⟨HGO.out.2.2, by have := HR.out.hl; omega, HR.out.below, HR.out.row, HGO.out.1⟩)
     clear hL hLl hne heq hfuel hget h0 hS h60 hSt hm hmle hh
     go_wp2_with fail
     refine (HM.out _).mono ?_
     rintro e w1 ⟨rfl, rfl⟩
     go_wp2
     refine ⟨⟨v, p + m, _, rfl, by go_num, HRF⟩, ?_⟩
     simp [intOf]
     omega
    ·have hr0 : Tk.rem L = 0 := by rw [← hm]; omega
     have HT := Lib.hid (fun w0 => rtag_any s p w0 (by omega) hlt (by rw [← hL]; exact hh) (by rw [← hL]; exact hr0))
     rw [← hL, ← hS] at HT
     have hm0' : ¬ (0 < (m : Int)) := by omega
     have hLs : s.size - p ≤ 65536 := by omega
     have HLEN := Lib.hid HR.out.hl
     clear hL hLl hne heq hfuel hget h0 hS h60 hm hmle hh hr0 hm0
     go_wp2_with fail
     refine (HM.out _).mono ?_
     rintro e w1 ⟨rfl, rfl⟩
     go_wp2_with fail
     refine (HT.out _).mono ?_
     rintro e w1 (⟨hSe, rfl, hb1⟩ | ⟨K, N, A, c, acc, n, hn0, hnL, hal, hac, hSe, rfl, how, hb1⟩)
     ·have HEN := Lib.hid (HBD.out (by rw [hSe]; decide))
      rw [hSe] at HEN
      unfold Tk.bad at HEN
      have B1 := Lib.hid (HR.out.below.trans (hb1.mono HR.out.below.size))
      clear hSe hb1
      go_wp2
      go_ret3
      exact ⟨.slice none 0 0, [], by rw [HEN.out]; rfl, RRow.nil _ _, by rw [HEN.out]; rfl, B1.out.alloc B1.out.size _⟩
     ·obtain ⟨x, hx⟩ : ∃ x, x = w1.heap.size := ⟨_, rfl⟩
      have B1 := Lib.hid (HR.out.below.trans (hb1.mono HR.out.below.size))
      have HRW := Lib.hid (HR.out.row.below hb1)
      have hn' : ¬ ((n : Int) = 0) := by omega
      have hpn : (p : Int) + (n : Int) ≤ 65536 := by omega
      have HRD := Lib.hid (fun B w0 (ho : w0.ownsRow B 143 3 (.slice A acc.length c) acc.length (rowA p acc)) => read_any p K N A c acc B w0 (by omega) (by omega) (fun a ha => by have := hal a ha; omega) ho)
      have HOW := Lib.hid how
      have HS := Lib.hid hSe
      clear hb1 hal how hSe
      go_wp2_with fail
      refine (HRD.out wr.heap.size _ (by first | exact World.ownsRow.alloc HOW.out _ | fail "ho")).mono ?_
      rintro e w2 h2
      have hbk : IsBlk w2 w1.heap.size 64 #[.int .u8 K, .string N, .slice A acc.length c, .string ⟨#[]⟩, .int .i64 p] ∧ Below w.heap.size w w2 ∧ (w1.alloc (.cells #[.int .u8 K, .string N, .slice A acc.length c, .string ⟨#[]⟩, .int .i64 p] 64)).grownBy w2 (Value.slice A acc.length c).ownBlock := by
       have hg : (w1.alloc (.cells #[.int .u8 K, .string N, .slice A acc.length c, .string ⟨#[]⟩, .int .i64 p] 64)).grownBy w2 (Value.slice A acc.length c).ownBlock := by
        rcases h2 with ⟨_, _, hg⟩ | ⟨_, _, _, hg⟩ | ⟨_, _, _, _, hg⟩
        ·exact hg
        ·exact hg
        ·exact hg
       refine ⟨(IsBlk.new w1 _ _).grown hg (fun e => by have := HOW.out.lt _ e.symm; omega), ?_, hg⟩
       exact (B1.out.alloc B1.out.size _).trans (below_of_grown hg (by have := B1.out.size; simp; omega) (fun k hk => by have := (HOW.out.lt _ hk).1; have := HR.out.below.size; omega))
      have HK := Lib.hid hbk
      have k0 : w2.cell? ⟨w1.heap.size, 0, none⟩ = some (.int .u8 K) := hbk.1.at_ 0
      have k1 : w2.cell? ⟨w1.heap.size, 1, none⟩ = some (.string N) := hbk.1.at_ 1
      have k2 : w2.cell? ⟨w1.heap.size, 2, none⟩ = some (.slice A acc.length c) := hbk.1.at_ 2
      have k3 : w2.cell? ⟨w1.heap.size, 3, none⟩ = some (.string ⟨#[]⟩) := hbk.1.at_ 3
      have k4 : w2.cell? ⟨w1.heap.size, 4, none⟩ = some (.int .i64 p) := hbk.1.at_ 4
      have f0 := hbk.1.fz 0
      have f1 := hbk.1.fz 1
      have f2 := hbk.1.fz 2
      have f3 := hbk.1.fz 3
      have f4 := hbk.1.fz 4
      have hxw : w.heap.size ≤ w1.heap.size := B1.out.size
      clear hbk
      rcases h2 with ⟨hE, rfl, _⟩ | ⟨hE, h32, rfl, _⟩ | ⟨hE, h32, rfl, how2, _⟩
      ·have hS2 : S = Tk.bad (Tk.rdA acc []).2.1 (Tk.rdA acc []).2.2 := by rw [HS.out]; unfold fin3; rw [if_pos hE]
       have HEN := Lib.hid (HBD.out (by rw [hS2]; exact hE))
       rw [hS2] at HEN
       unfold Tk.bad at HEN
       generalize Tk.rdA acc [] = D at *
       obtain ⟨xs, z, E⟩ := D
       simp only at HEN hE
       have hE' : (E == 0) = false := beq_eq_false_iff_ne.2 hE
       have hE'' : (E != 0) = true := by simp [bne, hE']
       obtain ⟨ZP, hZP⟩ : ∃ ZP : Int, ZP = ((z + p : Nat) : Int) := ⟨_, rfl⟩
       rw [← hZP]
       have HZ := Lib.hid hZP
       clear hS2 hE hZP
       go_wp2
       go_ret3
       exact ⟨.slice none 0 0, [], by rw [HEN.out]; rfl, RRow.nil _ _, by rw [HEN.out, HZ.out, Nat.add_comm]; rfl, below_five HK.out.2.1 hxw _ _ _ _ _⟩
      ·have hS2 : S = Tk.bad 0 3 := by rw [HS.out]; unfold fin3; rw [if_neg (by rw [hE]; decide), if_pos h32]
       have HEN := Lib.hid (HBD.out (by rw [hS2]; decide))
       rw [hS2] at HEN
       unfold Tk.bad at HEN
       clear hS2 hE h32
       go_wp2
       go_ret3
       exact ⟨.slice none 0 0, [], by rw [HEN.out]; rfl, RRow.nil _ _, by rw [HEN.out]; rfl, below_five HK.out.2.1 hxw _ _ _ _ _⟩
      ·have hS2 : S = ⟨some ⟨K, N.data.toList, (Tk.rdA acc []).1, [], 0⟩, n, 0⟩ := by rw [HS.out]; unfold fin3; rw [if_neg (by rw [hE]; decide), if_neg h32]
       have HSAY := Lib.hid (rdA_pairs acc [] hE)
       have HGO := Lib.hid (HGD.out (by rw [hS2]))
       rw [hS2] at HGO
       clear hS2 hE h32
       have hsz2 := HK.out.2.1.size
       have s0 : w2.setCell ⟨w1.heap.size, 0, none⟩ (.int .u8 K) = w2 := HK.out.1.same rfl
       have s1 : w2.setCell ⟨w1.heap.size, 1, none⟩ (.string N) = w2 := HK.out.1.same rfl
       have s2 : w2.setCell ⟨w1.heap.size, 2, none⟩ (.slice A acc.length c) = w2 := HK.out.1.same rfl
       have s3 : w2.setCell ⟨w1.heap.size, 3, none⟩ (.string ⟨#[]⟩) = w2 := HK.out.1.same rfl
       have s4 : w2.setCell ⟨w1.heap.size, 4, none⟩ (.int .i64 p) = w2 := HK.out.1.same rfl
       have H5 := Lib.hid (show RRow w.heap.size w2 v ps ∧ OwnR wr.heap.size p w2 (.slice A acc.length c) (acc.map decA) from by
        refine ⟨?_, ?_⟩
        ·refine (HRW.out.below ((Below.refl _ _).alloc (Nat.le_refl _) _)).grown HK.out.2.2 (fun k hk => ?_)
         have := (HOW.out.lt _ hk).1
         exact ⟨fun e => by have := HR.out.row.lt k (Or.inl e); omega, fun x hx e => by have := HR.out.row.lt k (Or.inr ⟨x, hx, e⟩); omega⟩
        ·unfold OwnR
         rw [List.length_map]
         exact how2)
       clear how2
       obtain ⟨i0, hi, hz0, hz1, hz2⟩ := info_parts rinfoTok
       have hlen := HLEN.out
       have hbig : ps.length + 1 ≤ maxLen := by unfold maxLen; omega
       go_wp2_with (at_builtin; (refine wpList_append_own _ rfl _ _ _ rfl w.heap.size 64 i0 _ 5 72 Tryz.underlying56 hi hz0 hz1 hz2 rfl (by omega) v ps.length (ps.flatMap rtokV) (by rfl) (by exact H5.out.1.own.alloc _) _ 1 _ [.int .u8 K, .string N, .slice A acc.length c, .string ⟨#[]⟩, .int .i64 p] (by rfl) rfl (by intro j u hu; exact news_at _ _ _ _ (by simp) j u hu) (by intro u hu; simp at hu; rcases hu with rfl | rfl | rfl | rfl | rfl <;> rfl) hbig (by omega) (by simp; omega) ?_); intro v3 w3 hown3 hgr3 _)
       have HRF := Lib.hid (show RcR s w v3 w3 (p + n) (ps ++ [⟨⟨K, N.data.toList, (Tk.rdA acc []).1, [], p⟩, .slice A acc.length c, p, acc.map decA⟩]) from by
        have hbase : ∀ k, v.ownBlock = some k → w.heap.size ≤ k := fun k hk => (World.ownsRow.lt H5.out.1.own k hk).1
        have hr := HR.out.below.size
        have hNN : (⟨N.data.toList.toArray⟩ : ByteArray) = N := by simp
        refine ⟨HGO.out.2.2, by rw [List.length_append]; simp; have := HLEN.out; omega, ?_, ?_, ?_⟩
        ·exact (HK.out.2.1.alloc hsz2 _).grown hgr3 (by simp; omega) (fun k hk => hbase k hk)
        ·refine RRow.snoc (H5.out.1.below ((Below.refl _ _).alloc (Nat.le_refl _) _)) (own_less (own_below H5.out.2 ((Below.refl _ _).alloc (Nat.le_refl _) _)) hr) (by simpa using HSAY.out) (fun y hy g h e1 e2 => ?_) hgr3 ?_
         ·have h1 := HR.out.row.lt g (Or.inr ⟨y, hy, e1⟩)
          have h2 := (HOW.out.lt h e2).1
          omega
         ·unfold rtokV
          rw [hNN]
          exact hown3
        ·rw [HGO.out.1, List.map_append]; rfl)
       clear hown3 hgr3
       go_wp2
       refine ⟨⟨v3, p + n, _, rfl, by go_num, HRF⟩, ?_⟩
       simp [intOf]
       omega
   ·have ht : ((s[p].toNat : Int) == 60) = false := by
     apply beq_eq_false_iff_ne.2
     intro e; apply h60; apply UInt8.toNat_inj.1
     show s[p].toNat = 60
     omega
    have ht2 : ((s[p].toNat : Int) != 60) = true := by simp [bne, ht]
    have hSt : Tk.step L = Tk.txt L := by unfold Tk.step; rw [if_pos (by rw [h0]; simpa using h60)]
    have HF := Lib.hid (fun w0 => find_any s ⟨#[60]⟩ p w0 (by omega) (by decide) (by decide) hp)
    rw [show (⟨#[60]⟩ : ByteArray).data.toList = [60] from rfl, fnd_upto, ← hL] at HF
    obtain ⟨up, hup⟩ : ∃ up, up = Tk.upto L := ⟨_, rfl⟩
    have hupl := Tk.upto_le L
    rw [← hup, hLl] at hupl
    have hup1 : 1 ≤ up := by rw [hup]; exact Tk.upto_pos hne (by rw [h0]; simpa using h60)
    obtain ⟨q, hq⟩ : ∃ q, q = p + up := ⟨_, rfl⟩
    obtain ⟨V, hV⟩ : ∃ V, V = s.extract p q := ⟨_, rfl⟩
    have hVl : V.data.toList = L.take up := by rw [hV, hq, ext_take, ← hL]
    have HD := Lib.hid (fun w0 => rdecode_any V (by have := extract_size s p q; rw [hV]; omega) w0)
    rw [hVl] at HD
    have hSt2 : S = if (En.rep En.dF (L.take up)).2.2 ≠ 0 then Tk.bad (En.rep En.dF (L.take up)).2.1 (En.rep En.dF (L.take up)).2.2 else ⟨some ⟨4, [], [], (En.rep En.dF (L.take up)).1, 0⟩, up, 0⟩ := by
     rw [hS, hSt, hup]; rfl
    have hplace := Tk.rep_place En.moves_dF (L.take up)
    have htl : (L.take up).length ≤ 65536 := by rw [List.length_take]; omega
    unfold tup3 at HD
    generalize En.rep En.dF (L.take up) = X at *
    obtain ⟨x, z, E⟩ := X
    simp only at HD hSt2 hplace
    rw [← hup, ← hq] at HF
    have hidx : Lib.indexByte L 60 = -1 → q = s.size := fun h => by
     have : Tk.upto L = L.length := by unfold Tk.upto; rw [if_pos h]
     omega
    have hpq : (p : Int) ≤ (q : Int) := by omega
    have hqs : (q : Int) ≤ (s.size : Int) := by omega
    have hzz : (z : Int) ≤ 65536 := by omega
    have hpp : (p : Int) ≤ 65536 := by omega
    have hw : IntKind.i64.wrap ((p : Int) + (z : Int)) = (p : Int) + (z : Int) := IntWalk.i64_in _ (by omega)
    have HLEN := HR.out.hl
    clear hL hLl hne heq hfuel hget h0 hS h60 hSt hup hVl hplace htl
    by_cases hE : E = 0
    ·subst hE
     have HSS := Lib.hid (show S = ⟨some ⟨4, [], [], x, 0⟩, up, 0⟩ by rw [hSt2]; rfl)
     have HGO := Lib.hid (HGD.out (by rw [HSS.out]))
     rw [HSS.out] at HGO
     clear hSt2
     obtain ⟨i0, hi, hz0, hz1, hz2⟩ := info_parts rinfoTok
     by_cases hx : Lib.indexByte L 60 = -1
     ·rw [if_pos hx] at HF
      have hqe := hidx hx
      subst hV
      rw [hqe] at HD
      have HQ := Lib.hid (show s.size = p + up by omega)
      clear hqe hq hqs hpq hidx hx
      go_wp2_with fail
      refine (HF.out _).mono ?_
      rintro e w1 ⟨rfl, rfl⟩
      go_wp2_with fail
      refine (HD.out _).mono ?_
      rintro e w2 ⟨rfl, h2⟩
      have B2 := Lib.hid (HR.out.below.trans (h2.mono HR.out.below.size))
      have HRW := Lib.hid (HR.out.row.below h2)
      have hbig : ps.length + 1 ≤ maxLen := by unfold maxLen; omega
      have hsz2 := B2.out.size
      clear h2
      go_wp2_with (at_builtin; (refine wpList_append_own _ rfl _ _ _ rfl w.heap.size 64 i0 _ 5 72 Tryz.underlying56 hi hz0 hz1 hz2 rfl (by omega) v ps.length (ps.flatMap rtokV) (by rfl) (by exact HRW.out.own.alloc _) _ 1 _ [.int .u8 4, .string ⟨#[]⟩, .slice none 0 0, .string ⟨x.toArray⟩, .int .i64 p] (by rfl) rfl (by intro j u hu; exact news_at _ _ _ _ (by simp) j u hu) (by intro u hu; simp at hu; rcases hu with rfl | rfl | rfl | rfl | rfl <;> rfl) hbig (by omega) (by simp; omega) ?_); intro v3 w3 hown3 hgr3 _)
      have HRF := Lib.hid (show RcR s w v3 w3 (p + up) (ps ++ [⟨⟨4, [], [], x, p⟩, .slice none 0 0, 0, []⟩]) from by
       have hbase : ∀ k, v.ownBlock = some k → w.heap.size ≤ k := fun k hk => (World.ownsRow.lt HRW.out.own k hk).1
       refine ⟨HGO.out.2.2, by rw [List.length_append]; simp; omega, ?_, ?_, ?_⟩
       ·exact (B2.out.alloc hsz2 _).grown hgr3 (by simp; omega) (fun k hk => hbase k hk)
       ·refine RRow.snoc (HRW.out.below ((Below.refl _ _).alloc (Nat.le_refl _) _)) (World.ownsRow_nil _ _ _ _) rfl (fun y _ g h _ e2 => by cases e2) hgr3 ?_
        exact hown3
       ·rw [HGO.out.1, List.map_append]; rfl)
      clear hown3 hgr3
      go_wp2
      refine ⟨⟨v3, s.size, _, rfl, rfl, by rw [HQ.out]; exact HRF⟩, ?_⟩
      have := HQ.out
      simp [intOf]
      omega
     ·rw [if_neg hx] at HF
      have HQ := Lib.hid hq
      clear hx hidx hq
      subst hV
      go_wp2_with fail
      refine (HF.out _).mono ?_
      rintro e w1 ⟨rfl, rfl⟩
      go_wp2_with fail
      refine (HD.out _).mono ?_
      rintro e w2 ⟨rfl, h2⟩
      have B2 := Lib.hid (HR.out.below.trans (h2.mono HR.out.below.size))
      have HRW := Lib.hid (HR.out.row.below h2)
      have hbig : ps.length + 1 ≤ maxLen := by unfold maxLen; omega
      have hsz2 := B2.out.size
      clear h2
      go_wp2_with (at_builtin; (refine wpList_append_own _ rfl _ _ _ rfl w.heap.size 64 i0 _ 5 72 Tryz.underlying56 hi hz0 hz1 hz2 rfl (by omega) v ps.length (ps.flatMap rtokV) (by rfl) (by exact HRW.out.own.alloc _) _ 1 _ [.int .u8 4, .string ⟨#[]⟩, .slice none 0 0, .string ⟨x.toArray⟩, .int .i64 p] (by rfl) rfl (by intro j u hu; exact news_at _ _ _ _ (by simp) j u hu) (by intro u hu; simp at hu; rcases hu with rfl | rfl | rfl | rfl | rfl <;> rfl) hbig (by omega) (by simp; omega) ?_); intro v3 w3 hown3 hgr3 _)
      have HRF := Lib.hid (show RcR s w v3 w3 (p + up) (ps ++ [⟨⟨4, [], [], x, p⟩, .slice none 0 0, 0, []⟩]) from by
       have hbase : ∀ k, v.ownBlock = some k → w.heap.size ≤ k := fun k hk => (World.ownsRow.lt HRW.out.own k hk).1
       refine ⟨HGO.out.2.2, by rw [List.length_append]; simp; omega, ?_, ?_, ?_⟩
       ·exact (B2.out.alloc hsz2 _).grown hgr3 (by simp; omega) (fun k hk => hbase k hk)
       ·refine RRow.snoc (HRW.out.below ((Below.refl _ _).alloc (Nat.le_refl _) _)) (World.ownsRow_nil _ _ _ _) rfl (fun y _ g h _ e2 => by cases e2) hgr3 ?_
        exact hown3
       ·rw [HGO.out.1, List.map_append]; rfl)
      clear hown3 hgr3
      go_wp2
      refine ⟨⟨v3, q, _, rfl, rfl, by rw [HQ.out]; exact HRF⟩, ?_⟩
      have := HQ.out
      simp [intOf]
      omega
    ·have HEN := Lib.hid (HBD.out (by rw [hSt2, if_pos hE]; exact hE))
     rw [hSt2, if_pos hE] at HEN
     unfold Tk.bad at HEN
     have hE' : (E == 0) = false := beq_eq_false_iff_ne.2 hE
     have hE'' : (E != 0) = true := by simp [bne, hE']
     clear hSt2
     by_cases hx : Lib.indexByte L 60 = -1
     ·rw [if_pos hx] at HF
      have hqe := hidx hx
      subst hV
      rw [hqe] at HD
      have HQ := Lib.hid (show s.size = p + up by omega)
      clear hqe hq hqs hpq hidx hx
      go_wp2_with fail
      refine (HF.out _).mono ?_
      rintro e w1 ⟨rfl, rfl⟩
      go_wp2_with fail
      refine (HD.out _).mono ?_
      rintro e w2 ⟨rfl, h2⟩
      have B2 := Lib.hid (HR.out.below.trans (h2.mono HR.out.below.size))
      clear h2
      go_wp2
      go_ret3
      exact ⟨.slice none 0 0, [], by rw [HEN.out]; rfl, RRow.nil _ _, by rw [HEN.out]; simp only [Int.natCast_add]; rfl, B2.out⟩
     ·rw [if_neg hx] at HF
      have HQ := Lib.hid hq
      clear hx hidx hq
      subst hV
      go_wp2_with fail
      refine (HF.out _).mono ?_
      rintro e w1 ⟨rfl, rfl⟩
      go_wp2_with fail
      refine (HD.out _).mono ?_
      rintro e w2 ⟨rfl, h2⟩
      have B2 := Lib.hid (HR.out.below.trans (h2.mono HR.out.below.size))
      clear h2
      go_wp2
      go_ret3
      exact ⟨.slice none 0 0, [], by rw [HEN.out]; rfl, RRow.nil _ _, by rw [HEN.out]; simp only [Int.natCast_add]; rfl, B2.out⟩
  ·have HE := Lib.hid (show Tk.cutT s.data.toList = (ps.map RTok.t, 0, 0) by rw [HR.out.eq, List.drop_eq_nil_of_le (by rw [HLL.out]; omega), Tk.goT_nil])
   have hlt' : ¬ (p : Int) < (s.size : Int) := by omega
   go_wp2
   go_ret3
   exact ⟨_, ps, by rw [HE.out], HR.out.row, by rw [HE.out]; rfl, HR.out.below⟩
end Go.Proofs.YteadfpkihhaadaaGreatDoor
namespace Go.Proofs.YteadfpkihhaadaaGreatDoor
open Go.RowKit
set_option maxHeartbeats 1000000 in
theorem rtokens_any (s : ByteArray) (hs : s.size ≤ maxLen) (w : World) :
  Calls Tryz.prog 21 #[.string s] w (RCutP (Tk.toks s.data.toList) w) := by
 have hll : s.data.toList.length = s.size := (Lib.size_eq s).symm
 by_cases hbig : 65536 < s.size
 ·have hR : Tk.toks s.data.toList = ([], 0, 3) := by unfold Tk.toks; rw [if_pos (by omega)]
  rw [hR]
  have hb' : (65536 : Int) < (s.size : Int) := by omega
  clear hR
  go_enter Tryz.func21, Tryz.ntmps21
  go_wp2
  go_ret3
  exact ⟨_, [], rfl, RRow.nil _ _, rfl, Below.refl _ _⟩
 ·by_cases hv : (U8.lead s.data.toList).2 = s.data.toList.length
  ·rw [Tk.toks_of (by omega) hv]
   exact rcut_any s (by omega) w hv
  ·have hb' : ¬ (65536 : Int) < (s.size : Int) := by omega
   have HV := Lib.hid (rvalid_any s w hs)
   have hR : Tk.toks s.data.toList = ([], (U8.lead s.data.toList).2, 10) := by unfold Tk.toks; rw [if_neg (by omega), if_pos hv]
   have hvl : vld s.data.toList = (((U8.lead s.data.toList).2 : Int), 10) := by unfold vld; rw [if_pos (by have := (U8.lead_le s.data.toList.length s.data.toList (Nat.le_refl _)).2; omega)]
   rw [hR]
   rw [hvl] at HV
   clear hR hvl hv hll
   go_enter Tryz.func21, Tryz.ntmps21
   go_wp2_with fail
   refine HV.out.mono ?_
   rintro e w1 ⟨rfl, h1⟩
   go_wp2
   go_ret3
   exact ⟨_, [], rfl, RRow.nil _ _, rfl, h1⟩
end Go.Proofs.YteadfpkihhaadaaGreatDoor
