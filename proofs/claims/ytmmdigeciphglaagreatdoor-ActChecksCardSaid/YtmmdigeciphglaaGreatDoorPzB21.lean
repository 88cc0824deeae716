/- Facts and walks for the statement. -/
import Derived.Test.YtmmdigeciphglaaGreatDoorPzB20
import Derived.Test.YtmmdigeciphglaaGreatDoorPzB15
import Derived.Laws.AppendOwnNone
import Derived.Test.YtmmdigeciphglaaGreatDoorPzB19
import Derived.LaidSub
import Derived.Deep.Strs
namespace Go.Proofs.YtmmdigeciphglaaGreatDoor
open Go.RowKit Ex Go.Maps
def nmV (q : Ty.Nm) : Value := .string ⟨q.toArray⟩
theorem infoStr : (Tryz.prog.info? 9).map (fun i => (i.zero, i.size, i.bytes)) = some (some (.string ⟨#[]⟩), 1, 16) := by kernel_rfl
theorem own_nsr {w : World} {B n c : Nat} {A : Option Addr} {L : List Ty.Nm} (h : w.ownsRow B 9 1 (.slice A n c) n (L.map nmV)) (hn : n = L.length) : NsR w w.heap.size A L ∧ n ≤ c ∧ c ≤ maxLen := by
  obtain ⟨A', c', e, h1, h2, h3⟩ := own_sliced h
  injection e with e1 _ e3
  subst e1 e3
  refine ⟨fun j hj => ?_, h1, h2⟩
  obtain ⟨g, rfl, _, hg⟩ := h3 (by omega)
  refine ⟨g, 0, rfl, hg, ?_⟩
  have := own_cell h (j := j) (u := nmV L[j]) (by rw [List.getElem?_map, List.getElem?_eq_getElem hj]; rfl)
  simpa [nmV] using this
def nmsP (l : List Nd) : List Ty.Nm := if dep l = 0 then [] else Ty.nms l []
def NmP (L : List Ty.Nm) (w : World) (e : Ending) (w' : World) : Prop :=
  ∃ v, w'.ownsRow w.heap.size 9 1 v L.length (L.map nmV) ∧ e = .returned v ∧ Below w.heap.size w w'
structure NmI (w1 : World) (l : List Nd) (m : Nat) (R : List Ty.Nm) (wr : World) (i : Nat) (v : Value) (K : List Ty.Nm) : Prop where
  below : Below w1.heap.size w1 wr
  set : KnM wr w1.heap.size m K
  own : wr.ownsRow (w1.heap.size + 1) 9 1 v K.length (K.map nmV)
  len : K.length ≤ i
  eq : R = Ty.nms (l.drop i) K
set_option maxHeartbeats 8000000 in
set_option maxRecDepth 100000 in
theorem names_any (w : World) (T : Tyx w) (A : Option Addr) (c : Nat) (l : List Nd) (hl : NdR w w.heap.size A l) (hc : l.length ≤ c) (hf : Fit l) :
    Calls Tryz.prog 112 #[.agg #[.slice A l.length c]] w (NmP (nmsP l) w) := by
  obtain ⟨W0, hW0⟩ : ∃ W0, W0 = w.alloc (.cells #[.slice A l.length c] 78) := ⟨_, rfl⟩
  have hb0 : Below w.heap.size w W0 := by rw [hW0]; exact (Below.refl _ _).alloc (Nat.le_refl _) _
  have k0 : IsBlk W0 w.heap.size 78 #[.slice A l.length c] := by rw [hW0]; exact IsBlk.new _ _ _
  have HCK := Lib.hid (check_any W0 (T.below hb0).tx A c l ((hl.below hb0).more hb0.size) hc hf)
  obtain ⟨R, hR⟩ : ∃ R, R = nmsP l := ⟨_, rfl⟩
  rw [← hR]
  have hzd : chk l = 2 ↔ dep l = 0 := by
    unfold chk
    by_cases h : dep l = 0
    · rw [if_pos h]; exact ⟨fun _ => h, fun _ => rfl⟩
    · rw [if_neg h]; refine ⟨fun q => ?_, fun q => absurd q h⟩; split at q <;> cases q
  obtain ⟨z, hz⟩ : ∃ z, z = chk l := ⟨_, rfl⟩
  rw [← hz] at HCK hzd
  unfold nmsP at hR
  have HW0 := Lib.hid hW0
  have HB0 := Lib.hid hb0
  have K0 := Lib.hid k0
  have hcI : (l.length : Int) ≤ (c : Int) := by omega
  have hlN : (l.length : Int) ≤ 800000 := by have := hf.1; omega
  by_cases hz0 : z = 2
  · rw [if_pos (hzd.1 hz0)] at hR
    have HE := Lib.hid hR
    subst hz0
    clear hW0 hb0 hR hl hf T k0 hz hzd
    go_enter Tryz.func112, Tryz.ntmps112
    go_wp2_with fail
    rw [← HW0.out]
    refine HCK.out.mono ?_
    rintro e w1 ⟨rfl, hb1⟩
    have HB1 := Lib.hid (HB0.out.trans (hb1.mono HB0.out.size))
    clear hb1
    go_wp2
    go_ret
    exact ⟨.slice none 0 0, by rw [HE.out]; exact World.ownsRow_nil _ _ _ _, rfl, HB1.out⟩
  · have hz1 : (z == 2) = false := by simpa using hz0
    have hd0 : dep l ≠ 0 := fun h => hz0 (hzd.2 h)
    rw [if_neg hd0] at hR
    have HR := Lib.hid hR
    have HG := Lib.hid (And.intro hl (And.intro hf T))
    have HD := Lib.hid hd0
    clear hW0 hb0 hR hl hf T k0 hz hzd hd0 hz0
    obtain ⟨n, hnl⟩ : ∃ n, n = l.length := ⟨_, rfl⟩
    rw [← hnl] at HCK HW0 hcI hlN K0
    rw [← hnl]
    have HN := Lib.hid hnl
    have hmm := @run_makeMap Tryz.prog
    obtain ⟨i0, hi, hy0, hy1, hy2⟩ := info_parts infoStr
    clear hnl hc
    go_enter Tryz.func112, Tryz.ntmps112
    go_wp2_with fail
    rw [← HW0.out]
    refine HCK.out.mono ?_
    rintro e w1 ⟨rfl, hb1⟩
    have HB1 := Lib.hid (HB0.out.trans (hb1.mono HB0.out.size))
    have K1 := Lib.hid (K0.out.below hb1 K0.out.lt)
    clear hb1
    obtain ⟨wa, hwa⟩ : ∃ wa, wa = w1.alloc (.map #[] 0) := ⟨_, rfl⟩
    have hba : Below w1.heap.size w1 wa := by rw [hwa]; exact (Below.refl _ _).alloc (Nat.le_refl _) _
    have HMA := Lib.hid (show KnM wa w1.heap.size 0 [] from by rw [hwa]; exact KnM.made w1)
    have HBA := Lib.hid hba
    have e0 : wa.cell? ⟨w.heap.size, 0, none⟩ = some (.slice A n c) := (K1.out.below hba K1.out.lt).at_ 0
    have HWA := Lib.hid hwa
    rw [hwa] at e0
    clear hwa hba
    go_wp2
    rw [← HWA.out]
    go_loopw [3, 16] (fun lv iv wx => ∃ (v : Value) (j m : Nat) (K : List Ty.Nm), lv = v ∧ iv = .int .i64 j ∧ j ≤ n ∧ m ≤ j ∧ Hid (NmI w1 l m R wx j v K)) (fun _ iv _ => n - (intOf iv).toNat)
    case atStart => exact ⟨_, 0, 0, [], rfl, rfl, Nat.zero_le _, Nat.le_refl _, Lib.hid ⟨HBA.out, HMA.out, World.ownsRow_nil _ _ _ _, Nat.le_refl _, HR.out⟩⟩
    case round =>
      obtain ⟨v, j, m, K, hv, rfl, hj, hmj, HI⟩ := hrel
      have hv := hv.symm
      subst hv
      have HBX := Lib.hid (HB1.out.trans (HI.out.below.mono HB1.out.size))
      have HMB := Lib.hid HI.out.set.lt
      have hws := HBX.out.size
      clear e0
      obtain ⟨A3, c3, hv, _, _, _, hcm⟩ := own_slice HI.out.own
      subst hv
      by_cases hjn : j < n
      · have hjn' : (j : Int) < (n : Int) := by omega
        have hjl : j < l.length := by rw [← HN.out]; exact hjn
        obtain ⟨g, o, hA, hg, q0, q1, q2, q3, q4, q5⟩ := (HG.out.1.below HBX.out) j hjl
        subst hA
        have HNM := Lib.hid (HG.out.2.1.2 _ (List.getElem_mem hjl))
        have HEQ := Lib.hid (show R = if l[j].op = 2 ∧ l[j].nm ∉ K then Ty.nms (l.drop (j + 1)) (K ++ [l[j].nm]) else Ty.nms (l.drop (j + 1)) K from by rw [HI.out.eq, List.drop_eq_getElem_cons hjl]; rfl)
        obtain ⟨W2, hW2⟩ : ∃ W2, W2 = wr.alloc (.cells (ndV l[j]).toArray 105) := ⟨_, rfl⟩
        have hb2 : Below wr.heap.size wr W2 := by rw [hW2]; exact (Below.refl _ _).alloc (Nat.le_refl _) _
        have k2 : IsBlk W2 wr.heap.size 105 (ndV l[j]).toArray := by rw [hW2]; exact IsBlk.new _ _ _
        have HI2 := Lib.hid (show NmI w1 l m R W2 j (.slice A3 K.length c3) K from ⟨HI.out.below.trans (hb2.mono HI.out.below.size), HI.out.set.below hb2, own_below HI.out.own hb2, HI.out.len, HI.out.eq⟩)
        have HK2 := Lib.hid k2
        have HW2 := Lib.hid hW2
        have y0 := k2.at_ 0
        have y2 := k2.at_ 2
        generalize l[j] = X at *
        obtain ⟨op, num, nm, na, nb, nc⟩ := X
        simp only [ndV, List.getElem?_toArray, List.getElem?_cons_zero, List.getElem?_cons_succ] at q0 q1 q2 q3 q4 q5 y0 y2 HW2 HNM HEQ HK2
        obtain ⟨N, hN⟩ : ∃ N : ByteArray, N = ⟨nm.toArray⟩ := ⟨_, rfl⟩
        rw [← hN] at q2 y2 HW2 HK2
        have HNN := Lib.hid hN
        have HJ := Lib.hid hjn
        clear hW2 hb2 k2 hjl hN
        by_cases hop : op = 2
        · have hop1 : (op == 2) = true := by simp [hop]
          have hop2 : (op != 2) = false := by simp [hop]
          obtain ⟨D, hown, hD, hhas⟩ := HI2.out.set
          have hkey : keyOf Tryz.prog 9 (.string N) = some (.string nm) := by
            rw [Go.WideMaps.keyOf_string_mk Tryz.underlying9 (show N.size ≤ maxLen by rw [Lib.size_eq, HNN.out]; have := HNM.out.1; unfold maxLen; simp only; omega), HNN.out]
          have hok := hhas nm
          have HDD := Lib.hid (And.intro hD hhas)
          clear hD hhas
          by_cases hkn : nm ∈ K
          · have HE := Lib.hid (show R = Ty.nms (l.drop (j + 1)) K from by rw [HEQ.out, if_neg (fun h => h.2 hkn)])
            rw [decide_eq_true hkn] at hok
            clear hop hkn HEQ
            go_wp2_with (first | (at_lookup; refine wpList_lookup_own_unit _ rfl _ _ 109 rfl 9 162 lawS Tryz.underlying109 (zeroU _) w1.heap.size m D rfl (by first | exact hown | (rw [← HW2.out]; exact hown)) _ _ rfl hkey ?_; rw [hok]) | go_in)
            go_roundw
            case rel => exact ⟨_, j + 1, m, K, rfl, by go_num, HJ.out, by omega, Lib.hid (by
              rw [← HW2.out]
              have b := (Below.refl W2.heap.size W2).alloc (Nat.le_refl _) (.cells #[] 162)
              exact ⟨HI2.out.below.trans (b.mono HI2.out.below.size), HI2.out.set.below b, own_below HI2.out.own b, by have := HI2.out.len; omega, HE.out⟩)⟩
            case measure => have := HJ.out; simp [intOf]; omega
          · have HE := Lib.hid (show R = Ty.nms (l.drop (j + 1)) (K ++ [nm]) from by rw [HEQ.out, if_pos ⟨hop, hkn⟩])
            rw [decide_eq_false hkn] at hok
            have K3 := Lib.hid (HK2.out.below ((Below.refl _ _).alloc (Nat.le_refl _) (.cells #[] 162)) HK2.out.lt)
            have HO3 := Lib.hid (own_below HI2.out.own ((Below.refl _ _).alloc (Nat.le_refl _) (.cells #[] 162)))
            have HL3 := Lib.hid (HI2.out.below.trans (((Below.refl W2.heap.size W2).alloc (Nat.le_refl _) (.cells #[] 162)).mono HI2.out.below.size))
            have hmx : m < maxLen := by unfold maxLen; omega
            have hown3 := hown.alloc (.cells #[] 162)
            have HCL := Lib.hid (fun w0 => clone_any N w0 (by rw [Lib.size_eq, HNN.out]; have := HNM.out.1; simp only; omega))
            clear hop hkn HEQ
            go_wp2_with (first | (at_lookup; refine wpList_lookup_own_unit _ rfl _ _ 109 rfl 9 162 lawS Tryz.underlying109 (zeroU _) w1.heap.size m D rfl (by first | exact hown | (rw [← HW2.out]; exact hown)) _ _ rfl hkey ?_; rw [hok]) | (at_mapUpdate; rw [← HW2.out]; refine wpList_mapUpdate_own _ rfl _ _ _ 109 rfl 9 162 lawS Tryz.underlying109 unitElem w1.heap.size m D rfl hown3 hmx _ _ _ rfl rfl hkey (.agg []) [] unitElem_mk ?_; intro w4 hown4 hgr4; have y4 : w4.cell? ⟨wr.heap.size, 2, none⟩ = some (.string N) := (K3.out.grown hgr4 (fun e => by have h1 := HMB.out; injection e; omega)).at_ 2; have HM4 := Lib.hid (And.intro hown4 hgr4); clear hown4 hgr4) | fail)
            refine (HCL.out w4).mono ?_
            rintro e w5 ⟨rfl, hb5⟩
            have HL4 := Lib.hid (HL3.out.grown HM4.out.2 HL3.out.size (fun k hk => by cases hk; exact Nat.le_refl _))
            have hob : ∀ k, (Value.slice A3 K.length c3).ownBlock = some k → w1.heap.size + 1 ≤ k := fun k hk => (HO3.out.lt k hk).1
            have HO4 := Lib.hid (HO3.out.kept HM4.out.2 (Or.inr (fun e => by have := hob _ e; omega)))
            have HS4 := Lib.hid (show KnM w4 w1.heap.size (m + 1) (K ++ [nm]) from ⟨_, HM4.out.1, HDD.out.1.put _ _, fun x => has_put HDD.out.1 HDD.out.2 nm x⟩)
            have HL5 := Lib.hid (HL4.out.trans (hb5.mono HL4.out.size))
            have HO5 := Lib.hid (own_below HO4.out hb5)
            have HS5 := Lib.hid (HS4.out.below hb5)
            have HOB := Lib.hid hob
            have hsz5 := HS5.out.lt
            have hnk := HI.out.len
            obtain ⟨N3, hN3⟩ : ∃ N3, N3 = K.length := ⟨_, rfl⟩
            rw [← hN3] at HO5 HOB hnk
            rw [← hN3]
            have HN3 := Lib.hid hN3
            have hbig : N3 + 1 ≤ maxLen := by unfold maxLen; omega
            clear hb5 hN3 hown hown3 hok hkey hob y4
            go_wp2_with (at_builtin; (refine wpList_append_own _ rfl _ _ _ rfl (w1.heap.size + 1) 9 i0 _ 1 16 Tryz.underlying36 hi hy0 hy1 hy2 rfl (by omega) (.slice A3 N3 c3) N3 (K.map nmV) (by rfl) (by exact World.ownsRow.alloc HO5.out _) _ 1 _ [.string N] (by rfl) rfl (by intro j u hu; exact news_at _ _ _ _ (by simp) j u hu) (by intro u hu; simp at hu; subst hu; rfl) hbig (by omega) (by simp; omega) ?_); intro v9 w9 hown9 hgr9 _; have HR9 := Lib.hid (And.intro hown9 (And.intro (show Below w1.heap.size w1 w9 from Below.grown (HL5.out.alloc HL5.out.size _) hgr9 (by simp; omega) (fun k hk => by have := HOB.out k hk; omega)) (show KnM w9 w1.heap.size (m + 1) (K ++ [nm]) from (HS5.out.below ((Below.refl _ _).alloc (Nat.le_refl _) _)).grown hgr9 (fun e => by have h1 := HOB.out _ e.symm; omega)))); clear hown9 hgr9)
            go_roundw
            case rel => exact ⟨v9, j + 1, m + 1, K ++ [nm], rfl, by go_num, HJ.out, by omega, Lib.hid ⟨HR9.out.2.1, HR9.out.2.2, by
              have h := HR9.out.1
              rw [HNN.out] at h
              rw [List.length_append, List.map_append, ← HN3.out]; exact h, by rw [List.length_append, ← HN3.out]; simp; omega, HE.out⟩⟩
            case measure => have := HJ.out; simp [intOf]; omega
        · have hop1 : (op == 2) = false := by simpa using hop
          have hop2 : (op != 2) = true := by simp [bne, hop1]
          have HE := Lib.hid (show R = Ty.nms (l.drop (j + 1)) K from by rw [HEQ.out, if_neg (fun h => hop h.1)])
          clear hop HEQ
          go_wp2
          go_roundw
          case rel => exact ⟨_, j + 1, m, K, rfl, by go_num, HJ.out, by omega, Lib.hid (by
            rw [← HW2.out]
            exact ⟨HI2.out.below, HI2.out.set, HI2.out.own, by have := HI2.out.len; omega, HE.out⟩)⟩
          case measure => have := HJ.out; simp [intOf]; omega
      · obtain rfl : j = n := by omega
        have hjn' : ¬ (j : Int) < (j : Int) := by omega
        have HE := Lib.hid (show R = K from by
          have h := HI.out.eq
          rw [List.drop_of_length_le (by rw [← HN.out]; exact Nat.le_refl _)] at h
          exact h)
        clear hjn
        go_wp2
        go_ret
        exact ⟨_, by rw [HE.out]; exact own_less HI.out.own (Nat.le_succ_of_le HB1.out.size), rfl, HBX.out⟩
end Go.Proofs.YtmmdigeciphglaaGreatDoor
namespace Go.Proofs.YtmmdigeciphglaaGreatDoor
open Go.RowKit Ex
end Go.Proofs.YtmmdigeciphglaaGreatDoor
namespace Go.Proofs.YtmmdigeciphglaaGreatDoor
open Go.RowKit Ex
abbrev nx_ : List Ty.Nm := [[120]]
theorem fn1 : FitN nx_ := ⟨by decide, by decide⟩
theorem fn0 : FitN [] := ⟨by decide, fun q hq => nomatch hq⟩
theorem nsx (w : World) : NsR (w.alloc (.cells #[.string ⟨#[120]⟩] 9)) (w.alloc (.cells #[.string ⟨#[120]⟩] 9)).heap.size (some ⟨w.heap.size, 0, none⟩) nx_ := fun j hj => by
  obtain rfl : j = 0 := by simp at hj; exact hj
  exact ⟨w.heap.size, 0, rfl, by simp, (IsBlk.new w 9 #[.string ⟨#[120]⟩]).at_ 0⟩
theorem ns0 (w : World) : NsR w w.heap.size none [] := fun _ hj => absurd hj (Nat.not_lt_zero _)
end Go.Proofs.YtmmdigeciphglaaGreatDoor
namespace Go.Proofs.YtmmdigeciphglaaGreatDoor
open Go.RowKit Ex
end Go.Proofs.YtmmdigeciphglaaGreatDoor
namespace Go.Proofs.YtmmdigeciphglaaGreatDoor
open Go.RowKit Ex
end Go.Proofs.YtmmdigeciphglaaGreatDoor
namespace Go.Proofs.YtmmdigeciphglaaGreatDoor
open Go.RowKit Ex
theorem wpList_append_src {P : Program} {w : World} {ops : Array Oper} {rest : List Oper} {o : Oper} {a : Act} {Q : Exit → Act → World → Prop} (hgd : o.guard = none) (s x : Operand) (t : TypeId)
    (ho : o.op = .call { callee := .builtin .append, args := #[s, x], argTypes := #[t, t] })
    (base : Nat) (e : TypeId) (i : TypeInfo) (z : Value) (size bytes : Nat) (ht : P.underlying t = some (.slice e)) (hi : P.info? e = some i) (hz : i.zero = some z)
    (hsize : i.size = size) (hby : i.bytes = bytes) (hzs : z.cells.size = size) (hsz : 0 < size)
    (v : Value) (n : Nat) (xs : List Value) (hs : a.eval s = v) (hown : w.ownsRow base e size v n xs)
    (A : Option Addr) (m c : Nat) (news : List Value) (hx : a.eval x = .slice A m c) (hA : A = none → m = 0 ∧ c = 0) (hl : news.length = m * size) (hnews : ∀ ad, A = some ad → ∀ j u, news[j]? = some u → w.cell? (ad.add j) = some u) (h1 : ∀ u ∈ news, u.oneCell' = true)
    (h63 : n + m ≤ maxLen) (hbytes : (n + m) * bytes ≤ 140737488355328) (hbase : base ≤ w.heap.size)
    (h : ∀ v' w', w'.ownsRow base e size v' (n + m) (xs ++ news) → w.grownBy w' v.ownBlock → wpList P ops Q rest (a.put o.dst v') w') : wpList P ops Q (o :: rest) a w := by
  cases A with
  | none =>
    obtain ⟨rfl, rfl⟩ := hA rfl
    obtain rfl : news = [] := List.eq_nil_of_length_eq_zero (by rw [hl, Nat.zero_mul])
    refine wpList_append_own_none hgd s x t ho base e i size ht hi v n xs hs hown hx (h v w ?_ ?_)
    · rw [List.append_nil]; exact hown
    · exact ⟨rfl, rfl, rfl, Nat.le_refl _, fun _ _ _ => rfl⟩
  | some ad => exact wpList_append_own w hgd s x t ho base e i z size bytes ht hi hz hsize hby hzs hsz v n xs hs hown ad m c news hx hl (hnews ad rfl) h1 h63 hbytes hbase (fun v' w' q1 q2 _ => h v' w' q1 q2)
theorem nsr_cells {w : World} {B : Nat} {A : Option Addr} {ns : List Ty.Nm} (h : NsR w B A ns) : ∀ ad, A = some ad → ∀ j u, (ns.map nmV)[j]? = some u → w.cell? (ad.add j) = some u := by
  intro ad hA j u hu
  rw [List.getElem?_map] at hu
  by_cases hj : j < ns.length
  · rw [List.getElem?_eq_getElem hj] at hu
    obtain ⟨g, o, e, _, q⟩ := h j hj
    rw [hA] at e
    injection e with e
    subst e
    injection hu with hu
    subst hu
    rw [Addr.add_lit]; exact q
  · rw [List.getElem?_eq_none (by omega)] at hu; cases hu
theorem nmV_one (ns : List Ty.Nm) : ∀ u ∈ ns.map nmV, u.oneCell' = true := by
  intro u hu
  obtain ⟨q, _, rfl⟩ := List.mem_map.1 hu
  rfl
end Go.Proofs.YtmmdigeciphglaaGreatDoor
namespace Go.Proofs.YtmmdigeciphglaaGreatDoor
open Go.RowKit Go.Shelf Go.Lib
open Go.ChangeShapes Go.WideShapes Go.ChangeAt
set_option maxRecDepth 100000
def laidAllTy : List (String × DataW Unit) := [("math/bits.deBruijn32tab", Rows.laid_math_bits_deBruijn32tab), ("math/bits.deBruijn64tab", Rows.laid_math_bits_deBruijn64tab), ("internal/strconv.uint64pow10", Rows.laid_internal_strconv_uint64pow10), ("unicode/utf8.acceptRanges", Rows.laid_unicode_utf8_acceptRanges), ("strconv.ErrRange", Rows.laid_strconv_ErrRange), ("strconv.ErrSyntax", Rows.laid_strconv_ErrSyntax), ("hopscotch/lex.signs", Rows.laid_hopscotch_lex_signs), ("hopscotch/expr.forms", Rows.laid_hopscotch_expr_forms), ("hopscotch/types.rules", Rows.laid_hopscotch_types_rules), ("unicode/utf8.first", Rows.laid_unicode_utf8_first)]
theorem laid_less : laidAllTy.filter (fun x => laidAllOf.any (fun y => y.1 == x.1)) = laidAllOf := by kernel_rfl
theorem rules_eq : (Rows.laid_hopscotch_types_rules : DataW Unit) = .agg ((List.range 23).map fun op => .agg [.agg [.lit (.int .u8 ((Ty.rl op).1 : Nat)), .lit (.int .u8 ((Ty.rl op).2.1 : Nat)), .lit (.int .u8 ((Ty.rl op).2.2.1 : Nat))], .lit (.int .u8 ((Ty.rl op).2.2.2 : Nat))]) := by kernel_rfl
theorem gRules : Tryz.prog.globalNamed "hopscotch/types.rules" = some 3 := by kernel_rfl
theorem yRules : (Tryz.prog.globals[3]?).map (·.type) = some 272 := by kernel_rfl
theorem cRule : Tryz.prog.cellsOf 271 = 4 := by kernel_rfl
theorem cU8 : Tryz.prog.cellsOf 5 = 1 := by kernel_rfl
theorem cParts : Tryz.prog.cellsOf 269 = 3 := by kernel_rfl
theorem rl_of {W : World} (hL : laidMet Tryz.prog laidAllTy W) : Rl W := by
  have h : VarReads Tryz.prog W "hopscotch/types.rules" Rows.laid_hopscotch_types_rules := laidMet.reads hL (.tail _ (.tail _ (.tail _ (.tail _ (.tail _ (.tail _ (.tail _ (.tail _ (.head _)))))))))
  obtain ⟨g, t, cs, fuel, p, hg, hty, hvar, hd⟩ := h
  obtain rfl := Option.some.inj (gRules.symm.trans hg)
  obtain rfl := Option.some.inj (yRules.symm.trans hty)
  rw [rules_eq] at hd
  intro op hop
  obtain ⟨fuel', d, q, hdi, he⟩ := array_elem Tryz.underlying272 hd op hop
  rw [List.getElem?_map, List.getElem?_range hop] at hdi
  simp only [Option.map_some, Option.some.injEq] at hdi
  subst hdi
  rw [cRule] at he
  obtain ⟨xs, n', _, hxe, _, hxl, hg3⟩ := DataW.trod_struct Tryz.underlying271 he
  have hx2 : xs.length = 2 := hxl
  have hm := (Prod.mk.inj hxe).1
  simp only [DataW.agg.injEq] at hm
  have m := fun (j : Nat) => congrArg (fun (l : List (DataW Unit)) => l[j]?) hm
  have t0 : DataW.trod _ Tryz.prog W _ _ _ n' 269 (List.take (Tryz.prog.cellsOf 269) (List.drop 0 _)) = some (xs[0]'(by omega)) := (hg3 0 _ rfl).trans (List.getElem?_eq_getElem (by omega))
  have t1 : DataW.trod _ Tryz.prog W _ _ _ n' 5 (List.take (Tryz.prog.cellsOf 5) (List.drop 3 _)) = some (xs[1]'(by omega)) := (hg3 1 _ rfl).trans (List.getElem?_eq_getElem (by omega))
  obtain ⟨ys, n2, _, hye, _, hyl, hg4⟩ := DataW.trod_struct Tryz.underlying269 t0
  have hy3 : ys.length = 3 := hyl
  have u0 : DataW.trod _ Tryz.prog W _ _ _ n2 5 (List.take (Tryz.prog.cellsOf 5) (List.drop 0 _)) = some (ys[0]'(by omega)) := (hg4 0 _ rfl).trans (List.getElem?_eq_getElem (by omega))
  have u1 : DataW.trod _ Tryz.prog W _ _ _ n2 5 (List.take (Tryz.prog.cellsOf 5) (List.drop 1 _)) = some (ys[1]'(by omega)) := (hg4 1 _ rfl).trans (List.getElem?_eq_getElem (by omega))
  have u2 : DataW.trod _ Tryz.prog W _ _ _ n2 5 (List.take (Tryz.prog.cellsOf 5) (List.drop 2 _)) = some (ys[2]'(by omega)) := (hg4 2 _ rfl).trans (List.getElem?_eq_getElem (by omega))
  simp only [cU8, cParts] at t1 u0 u1 u2
  obtain ⟨a0, e0, d0, _⟩ := DataW.trod_int Tryz.underlying5 u0
  obtain ⟨a1, e1, d1, _⟩ := DataW.trod_int Tryz.underlying5 u1
  obtain ⟨a2, e2, d2, _⟩ := DataW.trod_int Tryz.underlying5 u2
  obtain ⟨a3, e3, d3, _⟩ := DataW.trod_int Tryz.underlying5 t1
  have m0 := m 0
  have m1 := m 1
  simp only [List.getElem?_map, List.getElem?_eq_getElem (show 0 < xs.length by omega), List.getElem?_eq_getElem (show 1 < xs.length by omega), Option.map_some, d3, hye, List.getElem?_cons_zero, List.getElem?_cons_succ, Option.some.injEq, DataW.lit.injEq, Lit.int.injEq, true_and] at m0 m1
  simp only [DataW.agg.injEq] at m0
  have k := fun (j : Nat) => congrArg (fun (l : List (DataW Unit)) => l[j]?) m0
  have k0 := k 0
  have k1 := k 1
  have k2 := k 2
  simp only [List.getElem?_map, List.getElem?_eq_getElem (show 0 < ys.length by omega), List.getElem?_eq_getElem (show 1 < ys.length by omega), List.getElem?_eq_getElem (show 2 < ys.length by omega), Option.map_some, d0, d1, d2, List.getElem?_cons_zero, List.getElem?_cons_succ, Option.some.injEq, DataW.lit.injEq, Lit.int.injEq, true_and] at k0 k1 k2
  have q0 := congrArg (·[0]?) e0
  have q1 := congrArg (·[0]?) e1
  have q2 := congrArg (·[0]?) e2
  have q3 := congrArg (·[0]?) e3
  simp only [List.getElem?_take, List.getElem?_drop] at q0 q1 q2 q3
  rw [World.var?_cell gRules hvar, World.var?_cell gRules hvar, World.var?_cell gRules hvar, World.var?_cell gRules hvar, ← Array.getElem?_toList, ← Array.getElem?_toList, ← Array.getElem?_toList, ← Array.getElem?_toList, k0, k1, k2, m1]
  exact ⟨by simpa using q0, by simpa using q1, by simpa using q2, by simpa using q3⟩
theorem tyx_of {W : World} (hL : laidMet Tryz.prog laidAllTy W) : Tyx W :=
  ⟨tx_of (by have h := laidMet.filter (fun x => laidAllOf.any (fun y => y.1 == x.1)) hL; rw [laid_less] at h; exact h), rl_of hL⟩
section
variable {H : Type} {enc : TypeId × Value → H} {W : World}
theorem strs_of {r : Reach} {b0 : Nat} {v : Value} {d : DataW H} {p : List MemPlace} (hv : Value.okWide Tryz.prog W r b0 36 v) (h : DataW.Trod enc Tryz.prog W 0 (fun _ => true) true 36 v d p) :
    ∃ A c ns, v = .slice A ns.length c ∧ ns.length ≤ c ∧ c ≤ maxLen ∧ (A = none → ns.length = 0 ∧ c = 0) ∧ NsR W W.heap.size A ns := by
  obtain ⟨a0, len0, cap0, rfl⟩ := okWide_slice Tryz.underlying36 hv
  obtain ⟨fuel, hf⟩ := h
  rcases Deep.open_strs Tryz.underlying36 Tryz.underlying9 (by kernel_rfl) hf with ⟨hc, _⟩ | ⟨a, len, cap, m, Sx, hcs, _, hl, hm, hmm, _, hi⟩
  · simp only [Value.cells, List.cons.injEq, and_true] at hc
    exact ⟨none, 0, [], hc, Nat.le_refl _, by decide, fun _ => ⟨rfl, rfl⟩, fun j hj => absurd hj (by simp)⟩
  · simp only [Value.cells, List.cons.injEq, and_true] at hcs
    have hlen : ((List.range len).map fun i => (Sx i).data.toList).length = len := by simp
    refine ⟨some a, cap, (List.range len).map fun i => (Sx i).data.toList, by rw [hlen]; exact hcs, by rw [hlen]; exact hl, hm, (fun h => (by cases h)), fun j hj => ?_⟩
    rw [hlen] at hj
    have h0 := (hi 0 (by rw [hmm]; simp; omega)).1
    have hj1 := (hi j (by rw [hmm]; simp; omega)).1
    obtain ⟨ha, hb⟩ := cell_plain h0
    have hz : a.add 0 = a := by unfold Addr.add; rw [if_pos rfl]
    rw [hz] at ha hb
    refine ⟨a.block, a.off, by rw [← ha], hb, ?_⟩
    rw [ha, add_plain] at hj1
    rw [List.getElem_map, List.getElem_range]
    exact hj1
end
end Go.Proofs.YtmmdigeciphglaaGreatDoor
