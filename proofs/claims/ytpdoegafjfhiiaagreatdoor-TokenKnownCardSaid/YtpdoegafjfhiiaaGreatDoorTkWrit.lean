/- The statements' written of layer 4, walked: a part as it is written, and the token that it is. Conditions: the part fits (a text of at most 40 bytes, at most 5 attributes of at most 40 bytes), its row of attributes reads as told. -/
import Derived.Test.YtpdoegafjfhiiaaGreatDoorTkSame
import Derived.Test.YtpdoegafjfhiiaaGreatDoorTkBack
import Derived.Test.YtpdoegafjfhiiaaGreatDoorNmRef
import Derived.Test.YtpdoegafjfhiiaaGreatDoorEnR5
namespace Go.Proofs.YtpdoegafjfhiiaaGreatDoor
open Go.RowKit

/-- A row of attributes reads so, from a place in a block on. -/
def Reads2o (w : World) (B : Nat) (A : Option Addr) (al : List (List UInt8 × List UInt8)) : Prop := 0 < al.length → ∃ g o, A = some ⟨g, o, none⟩ ∧ g < B ∧ ∀ (k : Nat) (hk : k < al.length), w.cell? ⟨g, o + k * 2, none⟩ = some (.string ⟨al[k].1.toArray⟩) ∧ w.cell? ⟨g, o + k * 2 + 1, none⟩ = some (.string ⟨al[k].2.toArray⟩)
theorem Reads2o.below {w w' : World} {B : Nat} {A : Option Addr} {al : List (List UInt8 × List UInt8)} (h : Reads2o w B A al) (hb : Below B w w') : Reads2o w' B A al := fun h0 => by
  obtain ⟨g, o, e, hg, hc⟩ := h h0
  exact ⟨g, o, e, hg, fun k hk => ⟨(hb.cell (p := ⟨g, _, none⟩) hg).trans (hc k hk).1, (hb.cell (p := ⟨g, _, none⟩) hg).trans (hc k hk).2⟩⟩
def kOf (z : Int) : Nat := if z.tmod 4 = 0 then 0 else if z.tmod 4 = 2 then 2 else if z.tmod 4 = 3 then 3 else 1
/-- What written answers. -/
def WrP (c : Option (List UInt8 × Tk.T)) (w : World) (e : Ending) (w' : World) : Prop :=
  (c = none ∧ ∃ (S X : ByteArray) (K : Int), e = .returned (.tuple #[.string S, .agg #[.int .u8 K, .string ⟨#[]⟩, .slice none 0 0, .string X, .int .i64 0], .bool false]) ∧ Below w.heap.size w w') ∨
  (∃ t x A cap, c = some (t, x) ∧ e = .returned (.tuple #[.string ⟨t.toArray⟩, .agg #[.int .u8 x.k, .string ⟨x.nm.toArray⟩, .slice A x.as.length cap, .string ⟨x.tx.toArray⟩, .int .i64 0], .bool true]) ∧ OwnT w.heap.size w' (.slice A x.as.length cap) x.as ∧ Below w.heap.size w w')

theorem IsBlk.same2 {w : World} {g i : Nat} {t : TypeId} {cs : Array Value} {v : Value} (h : IsBlk w g t cs) (hv : cs[i]? = some v) : w.setCell ⟨g, i, none⟩ v = w := by
  have e1 : cs.setIfInBounds i v = cs := by
    apply Array.ext_getElem?
    intro j
    rw [Array.getElem?_setIfInBounds]
    split
    · rename_i hij
      subst hij
      split
      · exact hv.symm
      · rename_i hlt
        rw [Array.getElem?_eq_none (by omega)] at hv
        cases hv
    · rfl
  have e : (w.setCell ⟨g, i, none⟩ v).heap = w.heap := by
    unfold World.setCell
    simp only
    apply Array.ext_getElem?
    intro k
    rw [Array.getElem?_modify]
    split
    · rename_i hgk
      subst hgk
      rw [h]
      simp [e1]
    · rfl
  show { w with heap := (w.setCell ⟨g, i, none⟩ v).heap } = w
  rw [e]
/-- What holds at the head of the loop; r: the token's block. -/
structure WrR (w : World) (r : Nat) (K : Int) (N X : ByteArray) (Aa : Option Addr) (ca : Nat) (rm : Bool) (al : List (List UInt8 × List UInt8)) (wr : World) (k : Nat) (out : ByteArray) (v : Value) : Prop where
  below : Below w.heap.size w wr
  par : IsBlk wr w.heap.size 42 #[.int .i64 K, .string N, .slice Aa al.length ca, .string X, .bool rm]
  res : IsBlk wr (w.heap.size + 1) 33 zT
  tok : IsBlk wr r 33 #[.int .u8 1, .string N, v, .string ⟨#[]⟩, .int .i64 0]
  own : wr.ownsRow (r + 1) 38 2 v k (attrV (al.take k))
  out : out.data.toList = 60 :: (N.data.toList ++ Tk.asw (al.take k))
  ok : ∀ a ∈ al.take k, Tk.okAB a = true
theorem WrR.on {w : World} {r : Nat} {K : Int} {N X : ByteArray} {Aa : Option Addr} {ca : Nat} {rm : Bool} {al : List (List UInt8 × List UInt8)} {wr w' : World} {k : Nat} {out : ByteArray} {v : Value} (h : WrR w r K N X Aa ca rm al wr k out v) (hb : Below wr.heap.size wr w') :
    WrR w r K N X Aa ca rm al w' k out v :=
  ⟨h.below.trans (hb.mono h.below.size), h.par.below hb h.par.lt, h.res.below hb h.res.lt, h.tok.below hb h.tok.lt, own_below h.own hb, h.out, h.ok⟩
theorem WrR.size {w : World} {r : Nat} {K : Int} {N X : ByteArray} {Aa : Option Addr} {ca : Nat} {rm : Bool} {al : List (List UInt8 × List UInt8)} {wr : World} {k : Nat} {out : ByteArray} {v : Value} (h : WrR w r K N X Aa ca rm al wr k out v)
    (hN : N.size ≤ 64) (hk : al.length ≤ 5) (hv : ∀ a ∈ al, a.2.length ≤ 40) : out.size ≤ 2000 := by
  have h1 := Tk.asw_len (al.take k) (fun a ha => ⟨(Nm.isn_len (Tk.okAB_iff.1 (h.ok a ha)).1).2, hv a (List.mem_of_mem_take ha)⟩)
  rw [List.length_take] at h1
  rw [Lib.size_eq, h.out, List.length_cons, List.length_append, ← Lib.size_eq]
  have : min k al.length ≤ 5 := by omega
  omega
set_option maxHeartbeats 8000000 in
set_option maxRecDepth 100000 in
theorem tkwritten_any (w : World) (K : Int) (N X : ByteArray) (Aa : Option Addr) (ca : Nat) (rm : Bool) (al : List (List UInt8 × List UInt8)) (hN : N.size ≤ maxLen) (hX : X.size ≤ 40) (hal : al.length ≤ 5) (hv : ∀ a ∈ al, a.2.length ≤ 40 ∧ a.1.length ≤ maxLen)
    (hr : Reads2o w w.heap.size Aa al) :
    Calls Tryz.prog 18 #[.agg #[.int .i64 K, .string N, .slice Aa al.length ca, .string X, .bool rm]] w (WrP (Tk.chunk ⟨kOf K, N.data.toList, al, X.data.toList, rm⟩) w) := by
  obtain ⟨W0, hW0⟩ : ∃ W0, W0 = (w.alloc (.cells #[.int .i64 K, .string N, .slice Aa al.length ca, .string X, .bool rm] 42)).alloc (.cells zT 33) := ⟨_, rfl⟩
  have hz : (w.alloc (.cells #[.int .i64 K, .string N, .slice Aa al.length ca, .string X, .bool rm] 42)).heap.size = w.heap.size + 1 := by simp
  have HB0 := Lib.hid (show IsBlk W0 w.heap.size 42 #[.int .i64 K, .string N, .slice Aa al.length ca, .string X, .bool rm] ∧ IsBlk W0 (w.heap.size + 1) 33 zT ∧ Below w.heap.size w W0 from by
    rw [hW0]
    exact ⟨(IsBlk.new w _ _).below ((Below.refl _ _).alloc (Nat.le_refl _) _) (by simp), by rw [← hz]; exact IsBlk.new _ _ _, ((Below.refl _ _).alloc (Nat.le_refl _) _).alloc (by simp) _⟩)
  have HW := Lib.hid hW0
  have HSP := Lib.hid (fun w0 => NmW.rsplit_any N w0 hN)
  have HEN := Lib.hid (fun w0 => rencode_any X false (by omega) w0)
  have HV := Lib.hid hv
  have HRD := Lib.hid hr
  clear hW0 hz hv hr
  by_cases hk0 : K.tmod 4 = 0
  · have HC := Lib.hid (show kOf K = 0 from by unfold kOf; rw [if_pos hk0])
    obtain ⟨R, hR⟩ : ∃ R, R = En.rep (En.eF false) X.data.toList := ⟨_, rfl⟩
    rw [← hR] at HEN
    have HCH := Lib.hid (show Tk.chunk ⟨kOf K, N.data.toList, al, X.data.toList, rm⟩ = if R.2.2 = 0 ∧ R.1 ≠ [] then some (R.1, ⟨4, [], [], X.data.toList, 0⟩) else none from by
      unfold Tk.chunk
      rw [HC.out, if_pos rfl, hR])
    obtain ⟨r, z, E⟩ := R
    simp only at HCH HEN
    obtain ⟨S, hS⟩ : ∃ S : ByteArray, S = ⟨r.toArray⟩ := ⟨_, rfl⟩
    rw [← hS] at HEN
    have HS := Lib.hid hS
    clear hR hS
    go_enter Tryz.func18, Tryz.ntmps18
    go_wp2_with fail
    rw [← HW.out]
    refine (HEN.out _).mono ?_
    rintro e w1 ⟨rfl, h1⟩
    have k3 : w1.cell? ⟨w.heap.size, 3, none⟩ = some (.string X) := (HB0.out.1.below h1 HB0.out.1.lt).at_ 3
    have kb := HB0.out.2.1.below h1 HB0.out.2.1.lt
    have z0 : w1.cell? ⟨w.heap.size + 1, 0, none⟩ = some (.int .u8 0) := kb.at_ 0
    have z1 : w1.cell? ⟨w.heap.size + 1, 1, none⟩ = some (.string ⟨#[]⟩) := kb.at_ 1
    have z2 : w1.cell? ⟨w.heap.size + 1, 2, none⟩ = some (.slice none 0 0) := kb.at_ 2
    have z3 : w1.cell? ⟨w.heap.size + 1, 3, none⟩ = some (.string ⟨#[]⟩) := kb.at_ 3
    have z4 : w1.cell? ⟨w.heap.size + 1, 4, none⟩ = some (.int .i64 0) := kb.at_ 4
    have f0 := kb.fz 0
    have f1 := kb.fz 1
    have f2 := kb.fz 2
    have f3 := kb.fz 3
    have f4 := kb.fz 4
    have B1 := Lib.hid (HB0.out.2.2.trans (h1.mono HB0.out.2.2.size))
    clear h1 kb
    by_cases hE : E = 0
    · subst hE
      go_wp2_with fail
      go_region
      all_goals
        go_wp2
        refine bodyPost_ret (v := .tuple #[.string S, .agg #[.int .u8 4, .string ⟨#[]⟩, .slice none 0 0, .string X, .int .i64 0], .bool (!S.toList.isEmpty)]) (by simp [results, Tryz.results18, go_sem, z0, z1, z2, z3, z4]) rfl ?_
        have hb : Below w.heap.size w (((((w1.setCell ⟨w.heap.size + 1, 0, none⟩ (.int .u8 4)).setCell ⟨w.heap.size + 1, 1, none⟩ (.string ⟨#[]⟩)).setCell ⟨w.heap.size + 1, 2, none⟩ (.slice none 0 0)).setCell ⟨w.heap.size + 1, 3, none⟩ (.string X)).setCell ⟨w.heap.size + 1, 4, none⟩ (.int .i64 0)).drew := (below_five B1.out (Nat.le_succ _) _ _ _ _ _).drew
        by_cases hr : r = []
        · refine Or.inl ⟨by rw [HCH.out, if_neg (fun h => h.2 hr)], S, X, 4, ?_, hb⟩
          rw [show S.toList.isEmpty = true by rw [ByteArray.toList_eq, HS.out, hr]; rfl]
          rfl
        · refine Or.inr ⟨r, ⟨4, [], [], X.data.toList, 0⟩, none, 0, by rw [HCH.out, if_pos ⟨trivial, hr⟩], ?_, World.ownsRow_nil _ _ _ _, hb⟩
          rw [show S.toList.isEmpty = false by rw [ByteArray.toList_eq, HS.out]; cases r with | nil => exact absurd rfl hr | cons _ _ => rfl, ← HS.out]
          simp
    · have hE' : (E == 0) = false := beq_eq_false_iff_ne.2 hE
      go_wp2_with fail
      go_region
      all_goals
        go_wp2
        exact bodyPost_ret (v := .tuple #[.string S, .agg #[.int .u8 4, .string ⟨#[]⟩, .slice none 0 0, .string X, .int .i64 0], .bool false]) (by simp [results, Tryz.results18, go_sem, z0, z1, z2, z3, z4]) rfl (Or.inl ⟨by rw [HCH.out, if_neg (fun h => hE h.1)], S, X, 4, rfl, (below_five B1.out (Nat.le_succ _) _ _ _ _ _).drew⟩)
  · have hk0' : (K.tmod 4 == 0) = false := beq_eq_false_iff_ne.2 hk0
    have hkk : kOf K ≠ 0 := by unfold kOf; rw [if_neg hk0]; repeat' split
                               all_goals decide
    have hCH : Tk.chunk ⟨kOf K, N.data.toList, al, X.data.toList, rm⟩ = if Nm.isn N.data.toList = false then none else if kOf K = 2 then some (60 :: 47 :: (N.data.toList ++ [62]), ⟨2, N.data.toList, [], [], 0⟩)
      else if al.all Tk.okAB = false ∨ 32 < al.length then none else some (60 :: (N.data.toList ++ (Tk.asw al ++ if kOf K = 3 then [47, 62] else [62])), ⟨if kOf K = 3 then 3 else 1, N.data.toList, al, [], 0⟩) := by
      unfold Tk.chunk
      rw [if_neg hkk]
    have HCH := Lib.hid hCH
    have k0 : W0.cell? ⟨w.heap.size, 0, none⟩ = some (.int .i64 K) := HB0.out.1.at_ 0
    have k1 : W0.cell? ⟨w.heap.size, 1, none⟩ = some (.string N) := HB0.out.1.at_ 1
    have hisn : Nm.isn N.data.toList = (Nm.split N.data.toList).2.2 := rfl
    obtain ⟨R, hR⟩ : ∃ R, R = Nm.split N.data.toList := ⟨_, rfl⟩
    rw [← hR] at HSP hisn
    obtain ⟨n1, n2, ok⟩ := R
    simp only at hisn HSP
    have HIN := Lib.hid hisn
    clear hR hkk hCH hisn
    cases ok with
    | false =>
      go_enter Tryz.func18, Tryz.ntmps18
      go_wp2_with fail
      rw [← HW.out]
      refine (HSP.out _).mono ?_
      rintro e w1 ⟨rfl, h1⟩
      have kb := HB0.out.2.1.below h1 HB0.out.2.1.lt
      have z0 : w1.cell? ⟨w.heap.size + 1, 0, none⟩ = some (.int .u8 0) := kb.at_ 0
      have z1 : w1.cell? ⟨w.heap.size + 1, 1, none⟩ = some (.string ⟨#[]⟩) := kb.at_ 1
      have z2 : w1.cell? ⟨w.heap.size + 1, 2, none⟩ = some (.slice none 0 0) := kb.at_ 2
      have z3 : w1.cell? ⟨w.heap.size + 1, 3, none⟩ = some (.string ⟨#[]⟩) := kb.at_ 3
      have z4 : w1.cell? ⟨w.heap.size + 1, 4, none⟩ = some (.int .i64 0) := kb.at_ 4
      have f0 := kb.fz 0
      have f1 := kb.fz 1
      have f2 := kb.fz 2
      have f3 := kb.fz 3
      have f4 := kb.fz 4
      have s0 : w1.setCell ⟨w.heap.size + 1, 0, none⟩ (.int .u8 0) = w1 := kb.same2 rfl
      have s1 : w1.setCell ⟨w.heap.size + 1, 1, none⟩ (.string ⟨#[]⟩) = w1 := kb.same2 rfl
      have s2 : w1.setCell ⟨w.heap.size + 1, 2, none⟩ (.slice none 0 0) = w1 := kb.same2 rfl
      have s3 : w1.setCell ⟨w.heap.size + 1, 3, none⟩ (.string ⟨#[]⟩) = w1 := kb.same2 rfl
      have s4 : w1.setCell ⟨w.heap.size + 1, 4, none⟩ (.int .i64 0) = w1 := kb.same2 rfl
      have B1 := Lib.hid (HB0.out.2.2.trans (h1.mono HB0.out.2.2.size))
      clear h1 kb
      go_wp2
      exact bodyPost_ret (v := .tuple #[.string ⟨#[]⟩, .agg zT, .bool false]) (by simp [results, Tryz.results18, go_sem, z0, z1, z2, z3, z4]) rfl (Or.inl ⟨by rw [HCH.out, if_pos HIN.out], ⟨#[]⟩, ⟨#[]⟩, 0, rfl, B1.out⟩)
    | true =>
      have hNl := (Nm.isn_len HIN.out).2
      have hNs : N.size ≤ 64 := by rw [Lib.size_eq]; exact hNl
      have hNN : (⟨N.data.toList.toArray⟩ : ByteArray) = N := by simp
      have HNN := Lib.hid hNN
      clear hNN hNl
      by_cases hk2 : K.tmod 4 = 2
      · have hko : kOf K = 2 := by unfold kOf; rw [if_neg hk0, if_pos hk2]
        have HC := Lib.hid (HCH.out.trans (by rw [HIN.out, if_neg (by decide), if_pos hko]))
        clear hk0 hko
        go_enter Tryz.func18, Tryz.ntmps18
        go_wp2_with fail
        rw [← HW.out]
        refine (HSP.out _).mono ?_
        rintro e w1 ⟨rfl, h1⟩
        have kb := HB0.out.2.1.below h1 HB0.out.2.1.lt
        have j1 : w1.cell? ⟨w.heap.size, 1, none⟩ = some (.string N) := (HB0.out.1.below h1 HB0.out.1.lt).at_ 1
        have z0 : w1.cell? ⟨w.heap.size + 1, 0, none⟩ = some (.int .u8 0) := kb.at_ 0
        have z1 : w1.cell? ⟨w.heap.size + 1, 1, none⟩ = some (.string ⟨#[]⟩) := kb.at_ 1
        have z2 : w1.cell? ⟨w.heap.size + 1, 2, none⟩ = some (.slice none 0 0) := kb.at_ 2
        have z3 : w1.cell? ⟨w.heap.size + 1, 3, none⟩ = some (.string ⟨#[]⟩) := kb.at_ 3
        have z4 : w1.cell? ⟨w.heap.size + 1, 4, none⟩ = some (.int .i64 0) := kb.at_ 4
        have f0 := kb.fz 0
        have f1 := kb.fz 1
        have f2 := kb.fz 2
        have f3 := kb.fz 3
        have f4 := kb.fz 4
        have B1 := Lib.hid (HB0.out.2.2.trans (h1.mono HB0.out.2.2.size))
        clear h1 kb
        go_wp2_with fail
        go_region
        all_goals
          go_wp2
          exact bodyPost_ret (v := .tuple #[.string (⟨#[60, 47]⟩ ++ N ++ ⟨#[62]⟩), .agg #[.int .u8 2, .string N, .slice none 0 0, .string ⟨#[]⟩, .int .i64 0], .bool true]) (by simp [results, Tryz.results18, go_sem, z0, z1, z2, z3, z4]) rfl
            (Or.inr ⟨_, _, none, 0, HC.out, by
              simp only
              rw [show (⟨#[60, 47]⟩ ++ N ++ ⟨#[62]⟩ : ByteArray) = ⟨(60 :: 47 :: (N.data.toList ++ [62])).toArray⟩ from ba_eq (by simp [ByteArray.data_append])]
              rfl, World.ownsRow_nil _ _ _ _, (below_five B1.out (Nat.le_succ _) _ _ _ _ _).drew⟩)
      · have hk2' : (K.tmod 4 == 2) = false := beq_eq_false_iff_ne.2 hk2
        have hko : kOf K ≠ 2 := by unfold kOf; rw [if_neg hk0, if_neg hk2]; split
                                   all_goals decide
        have HC := Lib.hid (HCH.out.trans (by rw [HIN.out, if_neg (by decide), if_neg hko]))
        have HKO := Lib.hid (show kOf K = if K.tmod 4 = 3 then 3 else 1 from by unfold kOf; rw [if_neg hk0, if_neg hk2])
        clear hk0 hko hk2
        go_enter Tryz.func18, Tryz.ntmps18
        go_wp2_with fail
        rw [← HW.out]
        refine (HSP.out _).mono ?_
        rintro e w1 ⟨rfl, h1⟩
        have j1 : w1.cell? ⟨w.heap.size, 1, none⟩ = some (.string N) := (HB0.out.1.below h1 HB0.out.1.lt).at_ 1
        obtain ⟨r, hrr⟩ : ∃ r, r = w1.heap.size := ⟨_, rfl⟩
        have hr2 : w.heap.size + 2 ≤ r := by have := h1.size; have := HB0.out.2.1.lt; omega
        have HT0 := Lib.hid (show WrR w r K N X Aa ca rm al (w1.alloc (.cells #[.int .u8 1, .string N, .slice none 0 0, .string ⟨#[]⟩, .int .i64 0] 33)) 0 (⟨#[60]⟩ ++ N) (.slice none 0 0) from by
          have b1 := HB0.out.2.2.trans (h1.mono HB0.out.2.2.size)
          refine ⟨b1.alloc b1.size _, (HB0.out.1.below h1 HB0.out.1.lt).below ((Below.refl _ _).alloc (Nat.le_refl _) _) (by omega), (HB0.out.2.1.below h1 HB0.out.2.1.lt).below ((Below.refl _ _).alloc (Nat.le_refl _) _) (by omega), by rw [hrr]; exact IsBlk.new w1 _ _, World.ownsRow_nil _ _ _ _, by simp [ByteArray.data_append, Tk.asw], fun a ha => by simp at ha⟩)
        have HRR := Lib.hid hrr
        clear h1 hrr k0 k1
        go_wp2
        rw [← HRR.out]
        go_loopw [11, 13] (fun o i wr => ∃ (k : Nat) (out : ByteArray) (v : Value), k ≤ al.length ∧ o = .string out ∧ i = .int .i64 k ∧ Hid (WrR w r K N X Aa ca rm al wr k out v)) (fun _ i _ => al.length - (intOf i).toNat)
        case atStart => exact ⟨0, _, _, Nat.zero_le _, rfl, rfl, HT0⟩
        case round =>
          obtain ⟨k, out, v, hk, rfl, rfl, HI⟩ := hrel
          have y2 : wr.cell? ⟨w.heap.size, 2, none⟩ = some (.slice Aa al.length ca) := HI.out.par.at_ 2
          by_cases hlt : k < al.length
          · obtain ⟨ga, oa, hA, hga, hc⟩ := HRD.out.below HI.out.below (by omega)
            subst hA
            obtain ⟨d0, d1⟩ := hc k hlt
            have hvk := HV.out al[k] (List.getElem_mem hlt)
            have hok : Tk.okAB al[k] = (Nm.isn al[k].1 && decide ((En.rep (En.eF true) al[k].2).2.2 = 0)) := rfl
            have HMEM := Lib.hid (show Tk.okAB al[k] = false → al.all Tk.okAB = false from fun h => by
              rw [List.all_eq_false]
              exact ⟨al[k], List.getElem_mem hlt, by rw [h]; decide⟩)
            have HTK := Lib.hid (take_snoc_ hlt)
            have hout : out.size ≤ 2000 := HI.out.size hNs (by omega) (fun a ha => (HV.out a ha).1)
            clear hc
            generalize al[k] = ak at *
            obtain ⟨U, hU⟩ : ∃ U : ByteArray, U = ⟨ak.1.toArray⟩ := ⟨_, rfl⟩
            obtain ⟨V, hV⟩ : ∃ V : ByteArray, V = ⟨ak.2.toArray⟩ := ⟨_, rfl⟩
            have hUd : U.data.toList = ak.1 := by rw [hU]
            have hVd : V.data.toList = ak.2 := by rw [hV]
            have hUs : U.size ≤ maxLen := by rw [Lib.size_eq, hUd]; exact hvk.2
            have hVs : V.size ≤ 40 := by rw [Lib.size_eq, hVd]; exact hvk.1
            rw [← hU] at d0
            rw [← hV] at d1
            have HSU := Lib.hid (fun w0 => NmW.rsplit_any U w0 hUs)
            have HEV := Lib.hid (fun w0 => rencode_any V true (by omega) w0)
            have hisU : Nm.isn ak.1 = (Nm.split ak.1).2.2 := rfl
            have hEe : (En.rep (En.eF true) ak.2).2.2 = 0 → (En.rep (En.eF true) ak.2).1 = En.encB true ak.2 := fun h => by
              have := (En.rep_eF_ok h).1
              rw [En.rep_eF_of this]
            rw [hUd] at HSU
            rw [hVd] at HEV
            generalize Nm.split ak.1 = SU at *
            generalize En.rep (En.eF true) ak.2 = EV at *
            obtain ⟨u1, u2, uok⟩ := SU
            obtain ⟨ve, vz, vE⟩ := EV
            simp only at HSU HEV hisU hEe hok
            have HOKD := Lib.hid (And.intro hok hisU)
            have HEE := Lib.hid hEe
            have HUV := Lib.hid (And.intro hUd hVd)
            have hlt' : (k : Int) < (al.length : Int) := by omega
            have hal' : (al.length : Int) ≤ 5 := by omega
            have hk32 : ¬ (k : Int) ≥ 32 := by omega
            clear hok hisU hEe hU hV hvk hUd hVd
            go_wp2_with fail
            refine (HSU.out _).mono ?_
            rintro e w2 ⟨rfl, h2⟩
            have HI2 := Lib.hid (HI.out.on h2)
            have hgw : ga < wr.heap.size := Nat.lt_of_lt_of_le hga HI.out.below.size
            have e0 := (h2.cell (p := ⟨ga, _, none⟩) hgw).trans d0
            have e1 := (h2.cell (p := ⟨ga, _, none⟩) hgw).trans d1
            have e2 : w2.cell? ⟨w.heap.size, 2, none⟩ = some (.slice (some ⟨ga, oa, none⟩) al.length ca) := HI2.out.par.at_ 2
            have hgw2 : ga < w2.heap.size := Nat.lt_of_lt_of_le hgw h2.size
            clear h2
            go_wp2_with fail
            refine (HEV.out _).mono ?_
            rintro e w1 ⟨rfl, h3⟩
            have HI3 := Lib.hid (HI2.out.on h3)
            have g0 := (h3.cell (p := ⟨ga, _, none⟩) hgw2).trans e0
            have g1 := (h3.cell (p := ⟨ga, _, none⟩) hgw2).trans e1
            have g2 : w1.cell? ⟨w.heap.size, 2, none⟩ = some (.slice (some ⟨ga, oa, none⟩) al.length ca) := HI3.out.par.at_ 2
            have kb := HI3.out.res
            clear h3
            cases uok with
            | false =>
              have z0 : w1.cell? ⟨w.heap.size + 1, 0, none⟩ = some (.int .u8 0) := kb.at_ 0
              have z1 : w1.cell? ⟨w.heap.size + 1, 1, none⟩ = some (.string ⟨#[]⟩) := kb.at_ 1
              have z2 : w1.cell? ⟨w.heap.size + 1, 2, none⟩ = some (.slice none 0 0) := kb.at_ 2
              have z3 : w1.cell? ⟨w.heap.size + 1, 3, none⟩ = some (.string ⟨#[]⟩) := kb.at_ 3
              have z4 : w1.cell? ⟨w.heap.size + 1, 4, none⟩ = some (.int .i64 0) := kb.at_ 4
              have f0 := kb.fz 0
              have f1 := kb.fz 1
              have f2 := kb.fz 2
              have f3 := kb.fz 3
              have f4 := kb.fz 4
              have s0 : w1.setCell ⟨w.heap.size + 1, 0, none⟩ (.int .u8 0) = w1 := kb.same2 rfl
              have s1 : w1.setCell ⟨w.heap.size + 1, 1, none⟩ (.string ⟨#[]⟩) = w1 := kb.same2 rfl
              have s2 : w1.setCell ⟨w.heap.size + 1, 2, none⟩ (.slice none 0 0) = w1 := kb.same2 rfl
              have s3 : w1.setCell ⟨w.heap.size + 1, 3, none⟩ (.string ⟨#[]⟩) = w1 := kb.same2 rfl
              have s4 : w1.setCell ⟨w.heap.size + 1, 4, none⟩ (.int .i64 0) = w1 := kb.same2 rfl
              clear kb
              have HNO := Lib.hid (HC.out.trans (if_pos (Or.inl (HMEM.out (by rw [HOKD.out.1, HOKD.out.2]; rfl)))))
              go_wp2
              exact bodyPost_ret (v := .tuple #[.string ⟨#[]⟩, .agg zT, .bool false]) (by simp [results, Tryz.results18, go_sem, z0, z1, z2, z3, z4]) rfl (Or.inl ⟨HNO.out, ⟨#[]⟩, ⟨#[]⟩, 0, rfl, HI3.out.below⟩)
            | true =>
              by_cases hE : vE = 0
              · subst hE
                have HOKT := Lib.hid (show Tk.okAB ak = true by rw [HOKD.out.1, HOKD.out.2]; rfl)
                have hVE : (⟨ve.toArray⟩ : ByteArray).size ≤ 240 := by
                  rw [Lib.size_eq]
                  show ve.length ≤ 240
                  rw [HEE.out rfl]
                  have h1 := Tk.encB_len true ak.2
                  rw [← HUV.out.2, ← Lib.size_eq] at h1
                  rw [← HUV.out.2]
                  omega
                have HVE := Lib.hid (show (⟨ve.toArray⟩ : ByteArray).data.toList = En.encB true ak.2 from HEE.out rfl)
                generalize (⟨ve.toArray⟩ : ByteArray) = VE at *
                have hUl : U.size ≤ 64 := by
                  rw [Lib.size_eq, HUV.out.1]
                  exact (Nm.isn_len HOKD.out.2).2
                have x2 : w1.cell? ⟨r, 2, none⟩ = some v := HI3.out.tok.at_ 2
                have xf : w1.frozen? ⟨r, 2, none⟩ = false := HI3.out.tok.fz 2
                have hown := HI3.out.own
                have hrl := HI3.out.tok.lt
                have hbas : Hid (∀ q, v.ownBlock = some q → r + 1 ≤ q) := Lib.hid (fun q hq => (hown.lt q hq).1)
                obtain ⟨i0, hi, hz0, hz1, hz2⟩ := info_parts infoAttr
                have hbig : k + 1 ≤ maxLen := by unfold maxLen; omega
                have hgr : ga < r + 1 := by omega
                have hbr : w.heap.size < r + 1 := by omega
                have ne1 : r ≠ w.heap.size := by omega
                have ne2 : w.heap.size ≠ r := by omega
                have ne3 : r ≠ ga := by omega
                have ne4 : ga ≠ r := by omega
                have ne5 : w1.heap.size ≠ r := by omega
                have ne6 : r ≠ w1.heap.size := by omega
                clear kb d0 d1 e0 e1 e2 y2
                go_wp2_with fail
                refine wp_region_held_drew (S := (fun w' => w'.cell? ⟨w.heap.size, 2, none⟩ = some (.slice (some ⟨ga, oa, none⟩) al.length ca) ∧ w'.cell? ⟨ga, oa + k * 2, none⟩ = some (.string U) ∧ w'.cell? ⟨ga, oa + k * 2 + 1, none⟩ = some (.string V))) (by kernel_rfl) ⟨g2, g0, g1⟩ (fun hHeld => ?_)
                refine wpAnyH_take (i := 0) (v := .pointer (some ⟨r, 2, none⟩)) rfl (by kernel_rfl) (by kernel_rfl) (by kernel_rfl) (fun _ _ _ h => h) (Or.inl ⟨by rfl, by (intro w hS; go_simp)⟩) hHeld ?_
                simp only [Act.put, List.getElem_toArray, List.getElem_cons_zero, List.setIfInBounds_toArray, List.set_cons_zero, List.set_cons_succ]
                refine wpAnyH_take (i := 2) (v := .pointer (some ⟨w.heap.size, 2, none⟩)) rfl (by kernel_rfl) (by kernel_rfl) (by kernel_rfl) (fun _ _ _ h => h) (Or.inl ⟨by rfl, by (intro w hS; go_simp)⟩) hHeld ?_
                simp only [Act.put, List.getElem_toArray, List.getElem_cons_succ, List.getElem_cons_zero, List.setIfInBounds_toArray, List.set_cons_zero, List.set_cons_succ]
                refine wpAnyH_take (i := 3) (v := .slice (some ⟨ga, oa, none⟩) al.length ca) rfl (by kernel_rfl) (by kernel_rfl) (by kernel_rfl) (fun _ _ _ h => h) (Or.inl ⟨by rfl, by (intro w hS; obtain ⟨s0, s1, s2⟩ := hS; go_simp)⟩) hHeld ?_
                simp only [Act.put, List.getElem_toArray, List.getElem_cons_succ, List.getElem_cons_zero, List.setIfInBounds_toArray, List.set_cons_zero, List.set_cons_succ]
                refine wpAnyH_take (i := 4) (v := .int .i64 k) rfl (by kernel_rfl) (by kernel_rfl) (by kernel_rfl) (fun _ _ _ h => h) (Or.inl ⟨by rfl, by (intro w hS; go_simp)⟩) hHeld ?_
                simp only [Act.put, List.getElem_toArray, List.getElem_cons_succ, List.getElem_cons_zero, List.setIfInBounds_toArray, List.set_cons_zero, List.set_cons_succ]
                refine wpAnyH_take (i := 5) (v := .pointer (some ⟨ga, oa + k * 2, none⟩)) rfl (by kernel_rfl) (by kernel_rfl) (by kernel_rfl) (fun _ _ _ h => h) (Or.inl ⟨by rfl, by (intro w hS; go_simp)⟩) hHeld ?_
                simp only [Act.put, List.getElem_toArray, List.getElem_cons_succ, List.getElem_cons_zero, List.setIfInBounds_toArray, List.set_cons_zero, List.set_cons_succ]
                refine wpAnyH_take (i := 6) (v := .agg #[.string U, .string V]) rfl (by kernel_rfl) (by kernel_rfl) (by kernel_rfl) (fun _ _ _ h => h) (Or.inl ⟨by rfl, by (intro w hS; obtain ⟨s0, s1, s2⟩ := hS; go_simp)⟩) hHeld ?_
                simp only [Act.put, List.getElem_toArray, List.getElem_cons_succ, List.getElem_cons_zero, List.setIfInBounds_toArray, List.set_cons_zero, List.set_cons_succ]
                refine wpAnyH_ready (rs := [1, 7]) (by kernel_rfl) (by simp) ?_
                refine AllReadyH.cons rfl (fun K hK => ?_) (AllReadyH.cons rfl (fun K hK => ?_) AllReadyH.nil)
                · try simp only [List.getElem_toArray, List.getElem_cons_succ, List.getElem_cons_zero]
                  go_simp
                  refine hK.out _ _ ⟨g2, g0, g1⟩ (fun hHeld => ?_)
                  clear hK K
                  try simp only [Act.put, List.getElem_toArray, List.getElem_cons_succ, List.getElem_cons_zero, List.setIfInBounds_toArray, List.set_cons_zero, List.set_cons_succ]
                  refine wpAnyH_ready (rs := [7]) (by kernel_rfl) (by simp) ?_
                  refine AllReadyH.cons rfl (fun K hK => ?_) AllReadyH.nil
                  try simp only [List.getElem_toArray, List.getElem_cons_succ, List.getElem_cons_zero]
                  go_simp
                  refine hK.out _ _ ⟨(World.cell?_alloc_lt _ _ _ (by show w.heap.size < w1.heap.size; omega)).trans g2, (World.cell?_alloc_lt _ _ _ (by show ga < w1.heap.size; omega)).trans g0, (World.cell?_alloc_lt _ _ _ (by show ga < w1.heap.size; omega)).trans g1⟩ (fun hHeld => ?_)
                  clear hK K
                  try simp only [Act.put, List.getElem_toArray, List.getElem_cons_succ, List.getElem_cons_zero, List.setIfInBounds_toArray, List.set_cons_zero, List.set_cons_succ]
                  refine wpAnyH_ready (rs := [8]) (by kernel_rfl) (by simp) ?_
                  refine AllReadyH.cons rfl (fun K hK => ?_) AllReadyH.nil
                  refine step_append_lies _ (by rfl) _ _ _ (by rfl) (r + 1) 38 i0 _ 2 32 Tryz.underlying31 hi hz0 hz1 hz2 rfl (by omega) v k (attrV (al.take k)) (by rfl) (by exact World.ownsRow.alloc hown _) _ 1 _ [.string U, .string V] (by rfl) rfl (by intro j u hu; exact news_at _ _ _ _ (by simp) j u hu) (by intro u hu; simp at hu; rcases hu with rfl | rfl <;> rfl) (by omega) hbig (by omega) (by simp; omega) _ rfl ?_
                  intro g9 cap9 w9 hown9 hgr9 hat9 hlt9
                  have B9 : Below (r + 1) w1 w9 := Below.grown (by first | exact ((Below.refl _ _).alloc (by omega) _).drew | exact ((Below.refl _ _).drew).alloc (by exact hrl) _ | exact (Below.refl _ _).alloc (by omega) _) hgr9 (by simp; omega) hbas.out
                  have y2 := (B9.cell (p := ⟨w.heap.size, _, none⟩) hbr).trans g2
                  have y0 := (B9.cell (p := ⟨ga, _, none⟩) hgr).trans g0
                  have y1 := (B9.cell (p := ⟨ga, _, none⟩) hgr).trans g1
                  have y3 := (B9.cell (p := ⟨r, 2, none⟩) (Nat.lt_succ_self r)).trans x2
                  have yf := (B9.frozen (p := ⟨r, 2, none⟩) (Nat.lt_succ_self r)).trans xf
                  refine hK.out _ _ ⟨y2, y0, y1⟩ (fun hHeld => ?_)
                  clear hK K
                  try simp only [Act.put, List.getElem_toArray, List.getElem_cons_succ, List.getElem_cons_zero, List.setIfInBounds_toArray, List.set_cons_zero, List.set_cons_succ]
                  refine wpAnyH_take (i := 9) (v := .pointer (some ⟨r, 2, none⟩)) rfl (by kernel_rfl) (by kernel_rfl) (by kernel_rfl) (fun _ _ _ h => h) (Or.inl ⟨by rfl, by (intro w hS; go_simp)⟩) hHeld ?_
                  try simp only [Act.put, List.getElem_toArray, List.getElem_cons_succ, List.getElem_cons_zero, List.setIfInBounds_toArray, List.set_cons_zero, List.set_cons_succ]
                  refine wpAnyH_ready (rs := [10]) (by kernel_rfl) (by simp) ?_
                  refine AllReadyH.cons rfl (fun K hK => ?_) AllReadyH.nil
                  try simp only [List.getElem_toArray, List.getElem_cons_succ, List.getElem_cons_zero]
                  go_simp
                  refine hK.out _ _ ⟨(World.cell?_setCell_other _ _ _ _ (fun e => ne1 (congrArg Addr.block e))).trans y2, (World.cell?_setCell_other _ _ _ _ (fun e => ne3 (congrArg Addr.block e))).trans y0, (World.cell?_setCell_other _ _ _ _ (fun e => ne3 (congrArg Addr.block e))).trans y1⟩ (fun hHeld => ?_)
                  clear hK K
                  try simp only [Act.put, List.getElem_toArray, List.getElem_cons_succ, List.getElem_cons_zero, List.setIfInBounds_toArray, List.set_cons_zero, List.set_cons_succ]
                  refine wpAnyH_done (by kernel_rfl) ?_ _
                  have HN := Lib.hid (show WrR w r K N X (some ⟨ga, oa, none⟩) ca rm al (w9.setCell ⟨r, 2, none⟩ (.slice (some ⟨g9, 0, none⟩) (k + 1) cap9)) (k + 1) (out ++ ⟨#[32]⟩ ++ U ++ ⟨#[61, 34]⟩ ++ VE ++ ⟨#[34]⟩) (.slice (some ⟨g9, 0, none⟩) (k + 1) cap9) from by
                    refine ⟨?_, ?_, ?_, ?_, ?_, ?_, ?_⟩
                    · exact (HI3.out.below.trans (B9.mono (by omega))).setCell (p := ⟨r, 2, none⟩) (by show w.heap.size ≤ r; omega) _
                    · exact (HI3.out.par.below B9 hbr).far ne2 _
                    · exact (HI3.out.res.below B9 (by omega)).far (by show w.heap.size + 1 ≠ r; omega) _
                    · exact (HI3.out.tok.below B9 (Nat.lt_succ_self r)).set 2 _
                    · rw [HTK.out, attrV_snoc, ← HUV.out.1, ← HUV.out.2]
                      exact ownsRow_setCell_below hown9 (Nat.lt_succ_self r) _
                    · rw [HTK.out, Tk.asw_snoc]
                      unfold Tk.aw
                      rw [← HVE.out, ← HUV.out.1]
                      simp [ByteArray.data_append, HI3.out.out]
                    · intro a ha
                      rw [HTK.out, List.mem_append] at ha
                      rcases ha with ha | ha
                      · exact HI3.out.ok a ha
                      · rw [List.mem_singleton] at ha
                        rw [ha]
                        exact HOKT.out)
                  clear hown9 hgr9 y2 y0 y1 y3 yf hHeld
                  go_wp2
                  go_roundw
                  case rel => exact ⟨k + 1, _, _, by omega, rfl, by go_num, by first | exact HN | exact Lib.hid (HN.out.on (Below.refl _ _).drew)⟩
                  case measure => simp [intOf]; omega
                · try simp only [List.getElem_toArray, List.getElem_cons_succ, List.getElem_cons_zero]
                  go_simp
                  refine hK.out _ _ ⟨(World.cell?_alloc_lt _ _ _ (by show w.heap.size < w1.heap.size; omega)).trans g2, (World.cell?_alloc_lt _ _ _ (by show ga < w1.heap.size; omega)).trans g0, (World.cell?_alloc_lt _ _ _ (by show ga < w1.heap.size; omega)).trans g1⟩ (fun hHeld => ?_)
                  clear hK K
                  try simp only [Act.put, List.getElem_toArray, List.getElem_cons_succ, List.getElem_cons_zero, List.setIfInBounds_toArray, List.set_cons_zero, List.set_cons_succ]
                  refine wpAnyH_ready (rs := [1]) (by kernel_rfl) (by simp) ?_
                  refine AllReadyH.cons rfl (fun K hK => ?_) AllReadyH.nil
                  try simp only [List.getElem_toArray, List.getElem_cons_succ, List.getElem_cons_zero]
                  go_simp
                  refine hK.out _ _ hHeld (fun hHeld => ?_)
                  clear hK K
                  try simp only [Act.put, List.getElem_toArray, List.getElem_cons_succ, List.getElem_cons_zero, List.setIfInBounds_toArray, List.set_cons_zero, List.set_cons_succ]
                  refine wpAnyH_ready (rs := [8]) (by kernel_rfl) (by simp) ?_
                  refine AllReadyH.cons rfl (fun K hK => ?_) AllReadyH.nil
                  refine step_append_lies _ (by rfl) _ _ _ (by rfl) (r + 1) 38 i0 _ 2 32 Tryz.underlying31 hi hz0 hz1 hz2 rfl (by omega) v k (attrV (al.take k)) (by rfl) (by exact World.ownsRow.alloc hown _) _ 1 _ [.string U, .string V] (by rfl) rfl (by intro j u hu; exact news_at _ _ _ _ (by simp) j u hu) (by intro u hu; simp at hu; rcases hu with rfl | rfl <;> rfl) (by omega) hbig (by omega) (by simp; omega) _ rfl ?_
                  intro g9 cap9 w9 hown9 hgr9 hat9 hlt9
                  have B9 : Below (r + 1) w1 w9 := Below.grown (by first | exact ((Below.refl _ _).alloc (by omega) _).drew | exact ((Below.refl _ _).drew).alloc (by exact hrl) _ | exact (Below.refl _ _).alloc (by omega) _) hgr9 (by simp; omega) hbas.out
                  have y2 := (B9.cell (p := ⟨w.heap.size, _, none⟩) hbr).trans g2
                  have y0 := (B9.cell (p := ⟨ga, _, none⟩) hgr).trans g0
                  have y1 := (B9.cell (p := ⟨ga, _, none⟩) hgr).trans g1
                  have y3 := (B9.cell (p := ⟨r, 2, none⟩) (Nat.lt_succ_self r)).trans x2
                  have yf := (B9.frozen (p := ⟨r, 2, none⟩) (Nat.lt_succ_self r)).trans xf
                  refine hK.out _ _ ⟨y2, y0, y1⟩ (fun hHeld => ?_)
                  clear hK K
                  try simp only [Act.put, List.getElem_toArray, List.getElem_cons_succ, List.getElem_cons_zero, List.setIfInBounds_toArray, List.set_cons_zero, List.set_cons_succ]
                  refine wpAnyH_take (i := 9) (v := .pointer (some ⟨r, 2, none⟩)) rfl (by kernel_rfl) (by kernel_rfl) (by kernel_rfl) (fun _ _ _ h => h) (Or.inl ⟨by rfl, by (intro w hS; go_simp)⟩) hHeld ?_
                  try simp only [Act.put, List.getElem_toArray, List.getElem_cons_succ, List.getElem_cons_zero, List.setIfInBounds_toArray, List.set_cons_zero, List.set_cons_succ]
                  refine wpAnyH_ready (rs := [10]) (by kernel_rfl) (by simp) ?_
                  refine AllReadyH.cons rfl (fun K hK => ?_) AllReadyH.nil
                  try simp only [List.getElem_toArray, List.getElem_cons_succ, List.getElem_cons_zero]
                  go_simp
                  refine hK.out _ _ ⟨(World.cell?_setCell_other _ _ _ _ (fun e => ne1 (congrArg Addr.block e))).trans y2, (World.cell?_setCell_other _ _ _ _ (fun e => ne3 (congrArg Addr.block e))).trans y0, (World.cell?_setCell_other _ _ _ _ (fun e => ne3 (congrArg Addr.block e))).trans y1⟩ (fun hHeld => ?_)
                  clear hK K
                  try simp only [Act.put, List.getElem_toArray, List.getElem_cons_succ, List.getElem_cons_zero, List.setIfInBounds_toArray, List.set_cons_zero, List.set_cons_succ]
                  refine wpAnyH_done (by kernel_rfl) ?_ _
                  have HN := Lib.hid (show WrR w r K N X (some ⟨ga, oa, none⟩) ca rm al (w9.setCell ⟨r, 2, none⟩ (.slice (some ⟨g9, 0, none⟩) (k + 1) cap9)) (k + 1) (out ++ ⟨#[32]⟩ ++ U ++ ⟨#[61, 34]⟩ ++ VE ++ ⟨#[34]⟩) (.slice (some ⟨g9, 0, none⟩) (k + 1) cap9) from by
                    refine ⟨?_, ?_, ?_, ?_, ?_, ?_, ?_⟩
                    · exact (HI3.out.below.trans (B9.mono (by omega))).setCell (p := ⟨r, 2, none⟩) (by show w.heap.size ≤ r; omega) _
                    · exact (HI3.out.par.below B9 hbr).far ne2 _
                    · exact (HI3.out.res.below B9 (by omega)).far (by show w.heap.size + 1 ≠ r; omega) _
                    · exact (HI3.out.tok.below B9 (Nat.lt_succ_self r)).set 2 _
                    · rw [HTK.out, attrV_snoc, ← HUV.out.1, ← HUV.out.2]
                      exact ownsRow_setCell_below hown9 (Nat.lt_succ_self r) _
                    · rw [HTK.out, Tk.asw_snoc]
                      unfold Tk.aw
                      rw [← HVE.out, ← HUV.out.1]
                      simp [ByteArray.data_append, HI3.out.out]
                    · intro a ha
                      rw [HTK.out, List.mem_append] at ha
                      rcases ha with ha | ha
                      · exact HI3.out.ok a ha
                      · rw [List.mem_singleton] at ha
                        rw [ha]
                        exact HOKT.out)
                  clear hown9 hgr9 y2 y0 y1 y3 yf hHeld
                  go_wp2
                  go_roundw
                  case rel => exact ⟨k + 1, _, _, by omega, rfl, by go_num, by first | exact HN | exact Lib.hid (HN.out.on (Below.refl _ _).drew)⟩
                  case measure => simp [intOf]; omega
              · skip
                have z0 : w1.cell? ⟨w.heap.size + 1, 0, none⟩ = some (.int .u8 0) := kb.at_ 0
                have z1 : w1.cell? ⟨w.heap.size + 1, 1, none⟩ = some (.string ⟨#[]⟩) := kb.at_ 1
                have z2 : w1.cell? ⟨w.heap.size + 1, 2, none⟩ = some (.slice none 0 0) := kb.at_ 2
                have z3 : w1.cell? ⟨w.heap.size + 1, 3, none⟩ = some (.string ⟨#[]⟩) := kb.at_ 3
                have z4 : w1.cell? ⟨w.heap.size + 1, 4, none⟩ = some (.int .i64 0) := kb.at_ 4
                have f0 := kb.fz 0
                have f1 := kb.fz 1
                have f2 := kb.fz 2
                have f3 := kb.fz 3
                have f4 := kb.fz 4
                have s0 : w1.setCell ⟨w.heap.size + 1, 0, none⟩ (.int .u8 0) = w1 := kb.same2 rfl
                have s1 : w1.setCell ⟨w.heap.size + 1, 1, none⟩ (.string ⟨#[]⟩) = w1 := kb.same2 rfl
                have s2 : w1.setCell ⟨w.heap.size + 1, 2, none⟩ (.slice none 0 0) = w1 := kb.same2 rfl
                have s3 : w1.setCell ⟨w.heap.size + 1, 3, none⟩ (.string ⟨#[]⟩) = w1 := kb.same2 rfl
                have s4 : w1.setCell ⟨w.heap.size + 1, 4, none⟩ (.int .i64 0) = w1 := kb.same2 rfl
                clear kb
                have HNO := Lib.hid (HC.out.trans (if_pos (Or.inl (HMEM.out (by rw [HOKD.out.1, HOKD.out.2, decide_eq_false hE]; rfl)))))
                have hE' : (vE == 0) = false := beq_eq_false_iff_ne.2 hE
                have hE'' : (vE != 0) = true := by simp [bne, hE']
                go_wp2
                exact bodyPost_ret (v := .tuple #[.string ⟨#[]⟩, .agg zT, .bool false]) (by simp [results, Tryz.results18, go_sem, z0, z1, z2, z3, z4]) rfl (Or.inl ⟨HNO.out, ⟨#[]⟩, ⟨#[]⟩, 0, rfl, HI3.out.below⟩)
          · obtain rfl : k = al.length := by omega
            obtain ⟨w1, hw1⟩ : ∃ w1, w1 = wr := ⟨_, rfl⟩
            subst hw1
            have hall : al.all Tk.okAB = true := by
              rw [List.all_eq_true]
              intro a ha
              exact HI.out.ok a (by rw [List.take_length]; exact ha)
            have HCC := Lib.hid (HC.out.trans (if_neg (by rw [hall]; intro h; rcases h with h | h; · cases h
                                                          · omega)))
            have hown := HI.out.own
            rw [List.take_length] at hown
            have hoo := HI.out.out
            rw [List.take_length] at hoo
            have HOO := Lib.hid hoo
            obtain ⟨Av, cv, hv, _, _, _, _⟩ := own_slice hown
            subst hv
            have hout : out.size ≤ 2000 := HI.out.size hNs (by omega) (fun a ha => (HV.out a ha).1)
            have HOWN := Lib.hid hown
            have B1 := Lib.hid HI.out.below
            have kt := HI.out.tok
            have kb := HI.out.res
            have ne1 : r ≠ w.heap.size + 1 := by omega
            clear hall hown hoo hk
            by_cases hk3 : K.tmod 4 = 3
            · have HK3 := Lib.hid (HKO.out.trans (if_pos hk3))
              have t0 : w1.cell? ⟨r, 0, none⟩ = some (.int .u8 1) := kt.at_ 0
              have tf := kt.fz 0
              go_wp2_with fail
              obtain ⟨W2, hW2⟩ : ∃ W2 : World, W2 = w1.setCell ⟨r, 0, none⟩ (.int .u8 3) := ⟨_, rfl⟩
              rw [← hW2]
              have kt2 : IsBlk W2 r 33 #[.int .u8 3, .string N, .slice Av al.length cv, .string ⟨#[]⟩, .int .i64 0] := by rw [hW2]; exact kt.set 0 _
              have kb2 : IsBlk W2 (w.heap.size + 1) 33 zT := by rw [hW2]; exact kb.far (by show w.heap.size + 1 ≠ r; omega) _
              have HB2 := Lib.hid (show Below w.heap.size w W2 from by rw [hW2]; exact B1.out.setCell (p := ⟨r, 0, none⟩) (by show w.heap.size ≤ r; omega) _)
              have HO2 := Lib.hid (show W2.ownsRow (r + 1) 38 2 (.slice Av al.length cv) al.length (attrV al) from by rw [hW2]; exact ownsRow_setCell_below HOWN.out (Nat.lt_succ_self r) _)
              clear hW2 t0 tf
              have z0 : W2.cell? ⟨w.heap.size + 1, 0, none⟩ = some (.int .u8 0) := kb2.at_ 0
              have z1 : W2.cell? ⟨w.heap.size + 1, 1, none⟩ = some (.string ⟨#[]⟩) := kb2.at_ 1
              have z2 : W2.cell? ⟨w.heap.size + 1, 2, none⟩ = some (.slice none 0 0) := kb2.at_ 2
              have z3 : W2.cell? ⟨w.heap.size + 1, 3, none⟩ = some (.string ⟨#[]⟩) := kb2.at_ 3
              have z4 : W2.cell? ⟨w.heap.size + 1, 4, none⟩ = some (.int .i64 0) := kb2.at_ 4
              have f0 := kb2.fz 0
              have f1 := kb2.fz 1
              have f2 := kb2.fz 2
              have f3 := kb2.fz 3
              have f4 := kb2.fz 4
              have u0 : W2.cell? ⟨r, 0, none⟩ = some (.int .u8 3) := kt2.at_ 0
              have u1 : W2.cell? ⟨r, 1, none⟩ = some (.string N) := kt2.at_ 1
              have u2 : W2.cell? ⟨r, 2, none⟩ = some (.slice Av al.length cv) := kt2.at_ 2
              have u3 : W2.cell? ⟨r, 3, none⟩ = some (.string ⟨#[]⟩) := kt2.at_ 3
              have u4 : W2.cell? ⟨r, 4, none⟩ = some (.int .i64 0) := kt2.at_ 4
              clear kb kt kb2 kt2
              have hr3 : w.heap.size + 1 < r + 1 := by omega
              go_region
              all_goals
                go_wp2
                exact bodyPost_ret (v := .tuple #[.string (out ++ ⟨#[47, 62]⟩), .agg #[.int .u8 3, .string N, .slice Av al.length cv, .string ⟨#[]⟩, .int .i64 0], .bool true]) (by simp [results, Tryz.results18, go_sem, z0, z1, z2, z3, z4]) rfl
                  (Or.inr ⟨60 :: (N.data.toList ++ (Tk.asw al ++ [47, 62])), ⟨3, N.data.toList, al, [], 0⟩, Av, cv, by rw [HCC.out, HK3.out]; rfl, by
                    rw [show (out ++ ⟨#[47, 62]⟩ : ByteArray) = ⟨(60 :: (N.data.toList ++ (Tk.asw al ++ [47, 62]))).toArray⟩ from ba_eq (by simp [ByteArray.data_append, HOO.out])],
                    own_less (own_below (ownsRow_setCell_below (ownsRow_setCell_below (ownsRow_setCell_below (ownsRow_setCell_below (ownsRow_setCell_below HO2.out hr3 _) hr3 _) hr3 _) hr3 _) hr3 _) (Below.refl _ _).drew) (by omega),
                    (below_five HB2.out (Nat.le_succ _) _ _ _ _ _).drew⟩)
            · have HK3 := Lib.hid (HKO.out.trans (if_neg hk3))
              have hk3' : (K.tmod 4 == 3) = false := beq_eq_false_iff_ne.2 hk3
              have kt2 := kt
              have kb2 := kb
              have HB2 := B1
              have HO2 := HOWN
              go_wp2_with fail
              have z0 : w1.cell? ⟨w.heap.size + 1, 0, none⟩ = some (.int .u8 0) := kb2.at_ 0
              have z1 : w1.cell? ⟨w.heap.size + 1, 1, none⟩ = some (.string ⟨#[]⟩) := kb2.at_ 1
              have z2 : w1.cell? ⟨w.heap.size + 1, 2, none⟩ = some (.slice none 0 0) := kb2.at_ 2
              have z3 : w1.cell? ⟨w.heap.size + 1, 3, none⟩ = some (.string ⟨#[]⟩) := kb2.at_ 3
              have z4 : w1.cell? ⟨w.heap.size + 1, 4, none⟩ = some (.int .i64 0) := kb2.at_ 4
              have f0 := kb2.fz 0
              have f1 := kb2.fz 1
              have f2 := kb2.fz 2
              have f3 := kb2.fz 3
              have f4 := kb2.fz 4
              have u0 : w1.cell? ⟨r, 0, none⟩ = some (.int .u8 1) := kt2.at_ 0
              have u1 : w1.cell? ⟨r, 1, none⟩ = some (.string N) := kt2.at_ 1
              have u2 : w1.cell? ⟨r, 2, none⟩ = some (.slice Av al.length cv) := kt2.at_ 2
              have u3 : w1.cell? ⟨r, 3, none⟩ = some (.string ⟨#[]⟩) := kt2.at_ 3
              have u4 : w1.cell? ⟨r, 4, none⟩ = some (.int .i64 0) := kt2.at_ 4
              clear kb kt kb2 kt2
              have hr3 : w.heap.size + 1 < r + 1 := by omega
              go_region
              all_goals
                go_wp2
                exact bodyPost_ret (v := .tuple #[.string (out ++ ⟨#[62]⟩), .agg #[.int .u8 1, .string N, .slice Av al.length cv, .string ⟨#[]⟩, .int .i64 0], .bool true]) (by simp [results, Tryz.results18, go_sem, z0, z1, z2, z3, z4]) rfl
                  (Or.inr ⟨60 :: (N.data.toList ++ (Tk.asw al ++ [62])), ⟨1, N.data.toList, al, [], 0⟩, Av, cv, by rw [HCC.out, HK3.out]; rfl, by
                    rw [show (out ++ ⟨#[62]⟩ : ByteArray) = ⟨(60 :: (N.data.toList ++ (Tk.asw al ++ [62]))).toArray⟩ from ba_eq (by simp [ByteArray.data_append, HOO.out])],
                    own_less (own_below (ownsRow_setCell_below (ownsRow_setCell_below (ownsRow_setCell_below (ownsRow_setCell_below (ownsRow_setCell_below HO2.out hr3 _) hr3 _) hr3 _) hr3 _) hr3 _) (Below.refl _ _).drew) (by omega),
                    (below_five HB2.out (Nat.le_succ _) _ _ _ _ _).drew⟩)
end Go.Proofs.YtpdoegafjfhiiaaGreatDoor
