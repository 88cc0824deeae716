/- Facts and walks for the statement. -/
import Derived.Test.YtmmdigeciphglaaGreatDoorPzB26
import Derived.Test.YtmmdigeciphglaaGreatDoorPzC03
import Derived.Test.YtmmdigeciphglaaGreatDoorPzC01
import Derived.Test.YtmmdigeciphglaaGreatDoorPzC00
import Derived.Lib.Bytealg
import Derived.Lib.ItoaNum
import Derived.Lib.ParseIntBCases
import Derived.WalkKit
import Derived.BigQuiet
import Derived.WalkSmall
import Derived.Lib.IndexLaws
import Derived.Deep.AppendLies
import Derived.OwnWalk
import Derived.Lib.OthersKept
import Derived.Lib.Hide
import Derived.Shelf.Strings.Builder1
import Derived.Shelf.Strings.Builder2
import Derived.Shelf.Strings.OnBuilder
import Derived.Shelf.Strings.Trim
import Derived.Shelf.Small.Utf8
import Derived.Shelf.Small.Strs
import Derived.Shelf.Small.Wraps
import Derived.Shelf.Strings.BuilderF
import Derived.Shelf.Strings.BuilderK
import Derived.Shelf.Strconv.Itoa0
import Derived.Shelf.Strconv.Itoa1
import Derived.Shelf.LaysM
import Derived.Shelf.Strconv.Itoa2
import Derived.Shelf.Strconv.Itoa3
import Derived.Shelf.Strconv.Itoa4
import Derived.Shelf.Strconv.ParseIntEmpty
import Derived.Shelf.Strconv.Clone
import Derived.Shelf.Strconv.SyntaxError
import Derived.Shelf.LaysC
import Derived.Shelf.Strconv.ToError
import Derived.Shelf.Strconv.Lower
import Derived.Shelf.Strconv.ParseUint10
import Derived.Shelf.Strconv.ParseUint10Empty
import Derived.Shelf.Strconv.ParseUint10Any
import Derived.Shelf.Strconv.ParseInt10
import Derived.Shelf.Strconv.RangeError
import Derived.Shelf.Strconv.ToErrorRange
import Derived.Shelf.Strconv.ParseUintEmpty
import Derived.Shelf.Strconv.ParseUint10b64
import Derived.Shelf.Strconv.ParseUint10b32
import Derived.Shelf.Strconv.ParseUint10b16
import Derived.Shelf.Strconv.ParseUint10b8
import Derived.Shelf.Strconv.ParseUint10At
import Derived.Shelf.Strconv.ParseInt10At64
import Derived.Shelf.Strconv.ParseInt10At32
import Derived.Shelf.Strconv.ParseInt10At16
import Derived.Shelf.Strconv.ParseInt10At8
import Derived.Shelf.Strconv.ParseInt10All
import Derived.Shelf.Strconv.ParseIntPublic10
import Derived.Shelf.Strconv.ErrVarParseInt
import Derived.Shelf.Strings.Search1
import Derived.Shelf.Strings.Prefix
import Derived.Shelf.Strings.Runes
import Derived.Shelf.Strings.AsciiSet
import Derived.Shelf.Unicode.DecodeSlow
import Derived.Shelf.Unicode.DecodeAny
import Derived.Test.YtmmdigeciphglaaGreatDoorProg
import Derived.Laws.EntriesVeiled
import Derived.Lib.CutLaws
import Derived.Deep.RegionHeld3
import Derived.WalkLawsBesides
import Derived.Outline
import Derived.Handy
import Derived.Deep.DeepFit
import Derived.Deep.QuietTactic
import Derived.WalkSpells
import Derived.IntWalk
import Derived.Test.YtmmdigeciphglaaGreatDoorChecked
import Derived.LaidEql
import Derived.Stop.Asserts
import Derived.RowKitTokens
import Derived.Lib.SmallJoins
import Derived.Lib.LaidTab
import Derived.Deep.RegionLaw
import Derived.Deep.CutRange
import Derived.StillTailTactics
import Derived.Laws.Externs
import Derived.Lib.FrozenHead2
import Derived.Lib.UnsafeStr
import Derived.Deep.RegionWith
import Derived.Deep.DeepMust
import Derived.Test.YtmmdigeciphglaaGreatDoorPzC04
import Derived.Test.YtmmdigeciphglaaGreatDoorPzC10
import Derived.Laws.AppendOwnNone
import Derived.Laws.BytesArg
namespace Go.Proofs.YtmmdigeciphglaaGreatDoor
open Go.RowKit Ex
theorem ofs_err {X : List Nat × Nat × Int} (h : (ofs X).1 = 1) : (ofs X).2.2 = 0 := by
  unfold ofs at h ⊢
  by_cases q : X.2.2 ≠ 0
  · rw [if_pos q] at h; cases h
  · rw [if_neg q]
theorem own_arg {w : World} {B g : Nat} {t : ByteArray} (hB : B ≤ g) (h : IsBlk w g 9 #[.string t]) : w.ownsRow B 9 1 (.slice (some ⟨g, 0, none⟩) 1 1) 1 [.string t] :=
  ⟨rfl, Or.inr ⟨g, 1, #[.string t], rfl, hB, h, Nat.le_refl _, by decide, rfl, rfl⟩⟩
theorem chk_nil_ : chk ([] : List Nd) ≠ 0 := by decide
theorem tak_one {vs es : List Ty.Nm} {s : Ac.St} (h : s.k = 1) : tak vs es s = (decide (s.nm ∈ vs) && isI vs s.x) := by
  unfold tak; rw [if_neg (by omega)]
theorem tak_two {vs es : List Ty.Nm} {s : Ac.St} (h : s.k = 2) : tak vs es s = (decide (s.nm ∈ es) && (decide (s.x = []) || isI vs s.x)) := by
  unfold tak; rw [if_pos h]
set_option linter.unusedSimpArgs false in
set_option maxHeartbeats 16000000 in
set_option maxRecDepth 100000 in
theorem rtypes11_any (w : World) (A : Option Addr) (c : Nat) (ps : List (Ac.St × Value)) (hl : ps.length ≤ c) (hc : c ≤ maxLen) (h : StR w w.heap.size A ps) (hf : FitAc ps) (Av : Option Addr) (cv : Nat) (vs : List Ty.Nm) (hv : NsR w w.heap.size Av vs) (hcv : vs.length ≤ cv) (hAv : Av = none → vs.length = 0 ∧ cv = 0) (hfv : FitN vs) (hv9 : vs.length ≤ 900000) (Ae : Option Addr) (ce : Nat) (es : List Ty.Nm) (he : NsR w w.heap.size Ae es) (hce : es.length ≤ ce) (hfe : FitN es) :
    Calls Tryz.prog 22 #[.slice A ps.length c, .slice Av vs.length cv, .slice Ae es.length ce] w (TpP (ps.map (·.1)) vs es w) := by
  have HCK := Lib.hid (racheck_any w A c ps hl hc h hf)
  have HST := Lib.hid h
  have HFP := Lib.hid hf
  have HVR := Lib.hid (fun v (hb : Below w.heap.size w v) => hv.on hb)
  have HAV := Lib.hid (fun v (hb : Below w.heap.size w v) nm => ramong11_any v Av cv vs (hv.on hb) hcv hfv nm)
  have HAE := Lib.hid (fun v (hb : Below w.heap.size w v) nm => ramong11_any v Ae ce es (he.on hb) hce hfe nm)
  have hlI : (ps.length : Int) ≤ (c : Int) := by omega
  have hvI : (vs.length : Int) ≤ (cv : Int) := by omega
  have heI : (es.length : Int) ≤ (ce : Int) := by omega
  obtain ⟨n, hn⟩ : ∃ n, n = ps.length := ⟨_, rfl⟩
  obtain ⟨nv, hnv⟩ : ∃ n, n = vs.length := ⟨_, rfl⟩
  obtain ⟨ne, hne⟩ : ∃ n, n = es.length := ⟨_, rfl⟩
  have HN := Lib.hid (And.intro hn (And.intro hnv hne))
  rw [← hn] at HCK hlI ⊢
  rw [← hnv] at HAV hvI hAv hv9 ⊢
  rw [← hne] at HAE heI ⊢
  clear hl hc h hf hn hv hcv hfv he hce hfe hnv hne
  go_enter Tryz.func22, Tryz.ntmps22
  go_wp2_with fail
  refine HCK.out.mono ?_
  rintro e w2 ⟨hq, hb2⟩
  have B2 := Lib.hid hb2
  clear hb2 HCK
  rcases hq with ⟨rfl, hok⟩ | ⟨rfl, hno⟩
  · have HOK := Lib.hid hok
    have hn5 : n ≤ 512 := by have := hok.1; rw [List.length_map, ← HN.out.1] at this; exact this
    have hn5I : (n : Int) ≤ 512 := by omega
    obtain ⟨i0, hi, hy0, hy1, hy2⟩ := info_parts infoStr
    obtain ⟨b1, hb1⟩ : ∃ b, b = w2.heap.size := ⟨_, rfl⟩
    obtain ⟨W3, hW3⟩ : ∃ W, W = w2.alloc (.cells #[.string ⟨#[97, 114, 103]⟩] 9) := ⟨_, rfl⟩
    have hb3 : Below w2.heap.size w2 W3 := by rw [hW3]; exact (Below.refl _ _).alloc (Nat.le_refl _) _
    have k3 : IsBlk W3 b1 9 #[.string ⟨#[97, 114, 103]⟩] := by rw [hW3, hb1]; exact IsBlk.new _ _ _
    have hown3 := own_arg (B := b1) (Nat.le_refl _) k3
    have B3 := Lib.hid (B2.out.trans (hb3.mono B2.out.size))
    have HW3 := Lib.hid (And.intro hW3 hb1)
    have HSV := Lib.hid (nsr_cells (HVR.out _ B3.out))
    have hlv : (vs.map nmV).length = nv * 1 := by rw [List.length_map, ← HN.out.2.1, Nat.mul_one]
    have hbs : b1 ≤ W3.heap.size := Nat.le_of_lt k3.lt
    have hb3' : b1 = w2.heap.size := hb1
    clear hok hW3 hb1 hb3 k3
    go_wp2_with (at_builtin; go_must (rw [← HW3.out.1, ← HW3.out.2]); go_must (refine wpList_append_src rfl _ _ _ rfl b1 9 i0 _ 1 16 Tryz.underlying36 hi hy0 hy1 hy2 rfl (by omega) (.slice (some ⟨b1, 0, none⟩) 1 1) 1 [.string ⟨#[97, 114, 103]⟩] (by rfl) hown3 Av nv cv (vs.map nmV) rfl hAv hlv HSV.out (nmV_one vs) (by unfold maxLen; omega) (by omega) hbs ?_); go_must (intro v4 w4 hown4 hgr4; obtain ⟨A4, c4, hv4, _, _, _⟩ := own_sliced hown4; subst hv4; have J4 := Lib.hid (And.intro hown4 (Below.grown (Below.refl b1 W3) hgr4 hbs (fun k hk => (hown3.lt k hk).1))); clear hown4 hgr4 hown3 hbs))
    have B4 := Lib.hid (B3.out.trans (J4.out.2.mono (by rw [hb3']; exact B2.out.size)))
    have HKN := Lib.hid (show NsR w4 w4.heap.size A4 (argW :: vs) ∧ (argW :: vs).length = 1 + nv ∧ 1 + nv ≤ c4 from by
      have hl1 : (argW :: vs).length = 1 + nv := by rw [List.length_cons, ← HN.out.2.1]; omega
      have q2 := own_nsr (L := argW :: vs) J4.out.1 hl1.symm
      exact ⟨q2.1, hl1, q2.2.1⟩)
    have HK9 := Lib.hid (show (argW :: vs).length ≤ 1000000 from by rw [HKN.out.2.1]; omega)
    clear J4 hb3' HSV hlv hi hy0 hy1 hy2 hAv
    go_wp2
    go_loopw [9] (fun iv wr => ∃ k : Nat, iv = .int .i64 k ∧ k ≤ n ∧ Hid (Below w4.heap.size w4 wr ∧ tyg vs es (ps.map (·.1)) 0 = tyg vs es ((ps.map (·.1)).drop k) k)) (fun iv _ => n - (intOf iv).toNat)
    case atStart => exact ⟨0, rfl, Nat.zero_le _, Lib.hid ⟨Below.refl _ _, by rw [List.drop_zero]⟩⟩
    case round =>
      obtain ⟨k, rfl, hk, HI⟩ := hrel
      by_cases hlt : k < n
      · have hlt' : (k : Int) < (n : Int) := by omega
        have hkl : k < ps.length := by have := HN.out.1; omega
        have HBW := Lib.hid (B4.out.trans (HI.out.1.mono B4.out.size))
        obtain ⟨g, o, hA, hg, c0, c1, c2⟩ := (HST.out.below HBW.out).cells k hkl
        subst hA
        obtain ⟨Ax, cx, hsx, hcx, hnd⟩ := HST.out.nds _ (List.getElem_mem hkl)
        have hfa := HFP.out _ (List.getElem_mem hkl)
        have hoks := HOK.out.2 _ (List.mem_map_of_mem (List.getElem_mem hkl))
        rw [hsx] at c2
        have HTG := Lib.hid (HI.out.2.trans (tyg_go (vs := vs) (es := es) (ss := ps.map (·.1)) (k := k) (by rw [List.length_map]; exact hkl)))
        rw [List.getElem_map] at HTG
        have HOF := Lib.hid (fun v (hb : Below w4.heap.size w4 v) => (show Calls Tryz.prog 48 #[.slice Ax ps[k].1.x.length cx, .slice A4 (1 + nv) c4] v (fun e w' => e = .returned (.tuple #[.int .u8 ((ofs (kds ps[k].1.x (argW :: vs))).1 : Nat), .int .i64 ((ofs (kds ps[k].1.x (argW :: vs))).2.1 : Nat), .int .i64 (ofs (kds ps[k].1.x (argW :: vs))).2.2]) ∧ Below v.heap.size v w') from by
          have hbw := B4.out.trans (hb.mono B4.out.size)
          have q := rof_any v Ax cx ps[k].1.x ((hnd.below hbw).more hbw.size) hcx ⟨by have := hfa.1.1; omega, hfa.1.2⟩ A4 c4 (argW :: vs) (HKN.out.1.on hb) (by rw [HKN.out.2.1]; exact HKN.out.2.2) HK9.out
          rw [HKN.out.2.1] at q
          exact q))
        have HIA := Lib.hid (isI_all (vs := vs) (K := argW :: vs) ps[k].1.x (fun q => List.mem_cons))
        have HOS := Lib.hid hoks
        have HGW := Lib.hid (show g < wr.heap.size from Nat.lt_of_lt_of_le hg HBW.out.size)
        have HLT := Lib.hid hlt
        clear hsx hcx hnd hfa hoks hlt hg
        generalize ps[k] = a at *
        clear hkl
        obtain ⟨⟨kk, nm, xs⟩, av⟩ := a
        simp only at c0 c1 c2 HTG HOF HOS HIA
        have HAM := Lib.hid (And.intro (HAV.out wr HBW.out nm) (HAE.out wr HBW.out nm))
        obtain ⟨N, hN⟩ : ∃ N : ByteArray, N = ⟨nm.toArray⟩ := ⟨_, rfl⟩
        rw [← hN] at c1 HAM
        clear hN
        have HXP := Lib.hid (show xs ≠ [] → 0 < xs.length from fun q => List.length_pos_iff.2 q)
        by_cases hk1 : kk = 1
        · have e3 : (kk == 1) = true := by rw [hk1]; rfl
          have e4 : (kk == 2) = false := by rw [hk1]; rfl
          have HTK := Lib.hid (tak_one (vs := vs) (es := es) (s := ⟨kk, nm, xs⟩) hk1)
          have hx1 : 0 < xs.length := HXP.out (fun q => by
            rcases HOS.out.2.2 with ⟨h2, _⟩ | h2
            · have h2 : kk = 2 := h2
              omega
            · have h2 : chk xs = 0 := h2
              rw [q] at h2; exact chk_nil_ h2)
          clear hk1
          go_wp2_with fail
          refine HAM.out.1.mono ?_
          rintro e w6 ⟨rfl, hb6⟩
          have I6 := Lib.hid (HI.out.1.trans (hb6.mono HI.out.1.size))
          have B6 := Lib.hid (B4.out.trans (I6.out.mono B4.out.size))
          have d0 := (hb6.cell (p := ⟨g, o + k * 3, none⟩) HGW.out).trans c0
          have d1 := (hb6.cell (p := ⟨g, o + k * 3 + 1, none⟩) HGW.out).trans c1
          have d2 := (hb6.cell (p := ⟨g, o + k * 3 + 2, none⟩) HGW.out).trans c2
          clear hb6 c0 c1 c2
          by_cases hm : nm ∈ vs
          · have HYS := Lib.hid (show (ofs (kds xs (argW :: vs))).1 = 1 → tak vs es ⟨kk, nm, xs⟩ = true from fun q => by
              rw [HTK.out]; show (decide (nm ∈ vs) && isI vs xs) = true
              rw [HIA.out, decide_eq_true hm, decide_eq_true q]; rfl)
            have HNS := Lib.hid (show (ofs (kds xs (argW :: vs))).1 ≠ 1 → tak vs es ⟨kk, nm, xs⟩ = false from fun q => by
              rw [HTK.out]; show (decide (nm ∈ vs) && isI vs xs) = false
              rw [HIA.out, decide_eq_true hm, decide_eq_false q]; rfl)
            rw [decide_eq_true hm]
            clear hm HIA HTK
            -- the expression is asked, in world w6 (I6: since w4)
            go_wp2_with fail
            refine (HOF.out w6 I6.out).mono ?_
            rintro e w8 ⟨rfl, hb8⟩
            have Iw8 := Lib.hid (I6.out.trans (hb8.mono I6.out.size))
            have B8 := Lib.hid (B4.out.trans (Iw8.out.mono B4.out.size))
            clear hb8 d0 d1 d2 HOF
            generalize kds xs (argW :: vs) = X at *
            by_cases h1 : (ofs X).1 = 1
            · have HYES := Lib.hid (HYS.out h1)
              rw [h1, ofs_err h1]
              clear h1
              have HTG := Lib.hid (HTG.out.trans (if_pos HYES.out))
              go_wp2
              go_roundw
              case rel => exact ⟨k + 1, by go_num, by have := HLT.out; omega, Lib.hid ⟨Iw8.out, HTG.out⟩⟩
              case measure => have := HLT.out; simp [intOf]; omega
            · have HNO := Lib.hid (HNS.out h1)
              obtain ⟨z1, hz1⟩ : ∃ z : Int, z = (((ofs X).1 : Nat) : Int) := ⟨_, rfl⟩
              obtain ⟨z2, hz2⟩ : ∃ z, z = (ofs X).2.2 := ⟨_, rfl⟩
              have h1' : z1 ≠ 1 := fun q => h1 (by omega)
              rw [← hz1, ← hz2]
              have e5 : (z1 != 1) = true := by simpa using h1'
              clear hz1 hz2 h1 h1'
              by_cases h2 : z2 = 0
              · subst h2
                -- HTG0: it has no types; in world $W, BB8: what is below
                have HTG := Lib.hid (HTG.out.trans (if_neg (fun q => by rw [HNO.out] at q; cases q)))
                repeat (first | go_values | go_skip | go_guarded | go_step | go_upon | (simp only [Int.not_lt, Int.not_le] at *; go_simp) | (go_values <;> (try go_simp)))
                refine bodyPost_ret (v := .tuple #[.int .i64 (k : Int), .int .i64 90]) (by simp [results, Tryz.results22, go_sem]) rfl ?_
                exact ⟨Or.inl ⟨HOK.out, by rw [HTG.out]⟩, B8.out⟩
              · have e6 : (z2 != 0) = true := by simpa using h2
                -- HTG0: it has no types; in world $W, BB8: what is below
                have HTG := Lib.hid (HTG.out.trans (if_neg (fun q => by rw [HNO.out] at q; cases q)))
                repeat (first | go_values | go_skip | go_guarded | go_step | go_upon | (simp only [Int.not_lt, Int.not_le] at *; go_simp) | (go_values <;> (try go_simp)))
                refine bodyPost_ret (v := .tuple #[.int .i64 (k : Int), .int .i64 90]) (by simp [results, Tryz.results22, go_sem]) rfl ?_
                exact ⟨Or.inl ⟨HOK.out, by rw [HTG.out]⟩, B8.out⟩
          · have HNO := Lib.hid (show tak vs es ⟨kk, nm, xs⟩ = false from by
              rw [HTK.out]; show (decide (nm ∈ vs) && isI vs xs) = false
              rw [decide_eq_false hm]; rfl)
            rw [decide_eq_false hm]
            clear hm HIA HTK d0 d1 d2
            -- HTG0: it has no types; in world $W, BB6: what is below
            have HTG := Lib.hid (HTG.out.trans (if_neg (fun q => by rw [HNO.out] at q; cases q)))
            repeat (first | go_values | go_skip | go_guarded | go_step | go_upon | (simp only [Int.not_lt, Int.not_le] at *; go_simp) | (go_values <;> (try go_simp)))
            refine bodyPost_ret (v := .tuple #[.int .i64 (k : Int), .int .i64 90]) (by simp [results, Tryz.results22, go_sem]) rfl ?_
            exact ⟨Or.inl ⟨HOK.out, by rw [HTG.out]⟩, B6.out⟩
        · have hk2 : kk = 2 := HOS.out.1.elim (fun q => absurd q hk1) id
          have e3 : (kk == 1) = false := beq_eq_false_iff_ne.2 hk1
          have e4 : (kk == 2) = true := by rw [hk2]; rfl
          have HTK := Lib.hid (tak_two (vs := vs) (es := es) (s := ⟨kk, nm, xs⟩) hk2)
          clear hk1 hk2
          go_wp2_with fail
          refine HAM.out.2.mono ?_
          rintro e w6 ⟨rfl, hb6⟩
          have I6 := Lib.hid (HI.out.1.trans (hb6.mono HI.out.1.size))
          have B6 := Lib.hid (B4.out.trans (I6.out.mono B4.out.size))
          have d0 := (hb6.cell (p := ⟨g, o + k * 3, none⟩) HGW.out).trans c0
          have d1 := (hb6.cell (p := ⟨g, o + k * 3 + 1, none⟩) HGW.out).trans c1
          have d2 := (hb6.cell (p := ⟨g, o + k * 3 + 2, none⟩) HGW.out).trans c2
          clear hb6 c0 c1 c2
          by_cases hm : nm ∈ es
          · by_cases hx : xs = []
            · have hx1 : xs.length = 0 := by rw [hx]; rfl
              have HYES := Lib.hid (show tak vs es ⟨kk, nm, xs⟩ = true from by
                rw [HTK.out]; show (decide (nm ∈ es) && (decide (xs = []) || isI vs xs)) = true
                rw [decide_eq_true hm, decide_eq_true hx]; rfl)
              rw [decide_eq_true hm]
              rw [hx1] at d2
              clear hm hx hx1 HIA HTK
              have HTG := Lib.hid (HTG.out.trans (if_pos HYES.out))
              go_wp2
              go_roundw
              case rel => exact ⟨k + 1, by go_num, by have := HLT.out; omega, Lib.hid ⟨I6.out, HTG.out⟩⟩
              case measure => have := HLT.out; simp [intOf]; omega
            · have hx1 := HXP.out hx
              have HYS := Lib.hid (show (ofs (kds xs (argW :: vs))).1 = 1 → tak vs es ⟨kk, nm, xs⟩ = true from fun q => by
                rw [HTK.out]; show (decide (nm ∈ es) && (decide (xs = []) || isI vs xs)) = true
                rw [HIA.out, decide_eq_true hm, decide_eq_false hx, decide_eq_true q]; rfl)
              have HNS := Lib.hid (show (ofs (kds xs (argW :: vs))).1 ≠ 1 → tak vs es ⟨kk, nm, xs⟩ = false from fun q => by
                rw [HTK.out]; show (decide (nm ∈ es) && (decide (xs = []) || isI vs xs)) = false
                rw [HIA.out, decide_eq_true hm, decide_eq_false hx, decide_eq_false q]; rfl)
              rw [decide_eq_true hm]
              clear hm hx HIA HTK
              -- the expression is asked, in world w6 (I6: since w4)
              go_wp2_with fail
              refine (HOF.out w6 I6.out).mono ?_
              rintro e w8 ⟨rfl, hb8⟩
              have Iw8 := Lib.hid (I6.out.trans (hb8.mono I6.out.size))
              have B8 := Lib.hid (B4.out.trans (Iw8.out.mono B4.out.size))
              clear hb8 d0 d1 d2 HOF
              generalize kds xs (argW :: vs) = X at *
              by_cases h1 : (ofs X).1 = 1
              · have HYES := Lib.hid (HYS.out h1)
                rw [h1, ofs_err h1]
                clear h1
                have HTG := Lib.hid (HTG.out.trans (if_pos HYES.out))
                go_wp2
                go_roundw
                case rel => exact ⟨k + 1, by go_num, by have := HLT.out; omega, Lib.hid ⟨Iw8.out, HTG.out⟩⟩
                case measure => have := HLT.out; simp [intOf]; omega
              · have HNO := Lib.hid (HNS.out h1)
                obtain ⟨z1, hz1⟩ : ∃ z : Int, z = (((ofs X).1 : Nat) : Int) := ⟨_, rfl⟩
                obtain ⟨z2, hz2⟩ : ∃ z, z = (ofs X).2.2 := ⟨_, rfl⟩
                have h1' : z1 ≠ 1 := fun q => h1 (by omega)
                rw [← hz1, ← hz2]
                have e5 : (z1 != 1) = true := by simpa using h1'
                clear hz1 hz2 h1 h1'
                by_cases h2 : z2 = 0
                · subst h2
                  -- HTG0: it has no types; in world $W, BB8: what is below
                  have HTG := Lib.hid (HTG.out.trans (if_neg (fun q => by rw [HNO.out] at q; cases q)))
                  repeat (first | go_values | go_skip | go_guarded | go_step | go_upon | (simp only [Int.not_lt, Int.not_le] at *; go_simp) | (go_values <;> (try go_simp)))
                  refine bodyPost_ret (v := .tuple #[.int .i64 (k : Int), .int .i64 90]) (by simp [results, Tryz.results22, go_sem]) rfl ?_
                  exact ⟨Or.inl ⟨HOK.out, by rw [HTG.out]⟩, B8.out⟩
                · have e6 : (z2 != 0) = true := by simpa using h2
                  -- HTG0: it has no types; in world $W, BB8: what is below
                  have HTG := Lib.hid (HTG.out.trans (if_neg (fun q => by rw [HNO.out] at q; cases q)))
                  repeat (first | go_values | go_skip | go_guarded | go_step | go_upon | (simp only [Int.not_lt, Int.not_le] at *; go_simp) | (go_values <;> (try go_simp)))
                  refine bodyPost_ret (v := .tuple #[.int .i64 (k : Int), .int .i64 90]) (by simp [results, Tryz.results22, go_sem]) rfl ?_
                  exact ⟨Or.inl ⟨HOK.out, by rw [HTG.out]⟩, B8.out⟩
          · have HNO := Lib.hid (show tak vs es ⟨kk, nm, xs⟩ = false from by
              rw [HTK.out]; show (decide (nm ∈ es) && (decide (xs = []) || isI vs xs)) = false
              rw [decide_eq_false hm]; rfl)
            rw [decide_eq_false hm]
            clear hm HIA HTK d0 d1 d2
            -- HTG0: it has no types; in world $W, BB6: what is below
            have HTG := Lib.hid (HTG.out.trans (if_neg (fun q => by rw [HNO.out] at q; cases q)))
            repeat (first | go_values | go_skip | go_guarded | go_step | go_upon | (simp only [Int.not_lt, Int.not_le] at *; go_simp) | (go_values <;> (try go_simp)))
            refine bodyPost_ret (v := .tuple #[.int .i64 (k : Int), .int .i64 90]) (by simp [results, Tryz.results22, go_sem]) rfl ?_
            exact ⟨Or.inl ⟨HOK.out, by rw [HTG.out]⟩, B6.out⟩
      · obtain rfl : k = n := by omega
        have hlt' : ¬ ((k : Nat) : Int) < (k : Int) := by omega
        have HTG := Lib.hid (show tyg vs es (ps.map (·.1)) 0 = (0, 0) from by rw [HI.out.2, List.drop_of_length_le (by rw [List.length_map, ← HN.out.1]; exact Nat.le_refl _)]; rfl)
        have HBW := Lib.hid (B4.out.trans (HI.out.1.mono B4.out.size))
        clear HI hlt hk
        repeat (first | go_values | go_skip | go_guarded | go_step | go_upon | (simp only [Int.not_lt, Int.not_le] at *; go_simp) | (go_values <;> (try go_simp)))
        refine bodyPost_ret (v := .tuple #[.int .i64 0, .int .i64 0]) (by simp [results, Tryz.results22, go_sem]) rfl ?_
        exact ⟨Or.inl ⟨HOK.out, by rw [HTG.out]; rfl⟩, HBW.out⟩
  · have HNO := Lib.hid hno
    clear hno
    go_wp2
    refine bodyPost_ret (v := .tuple #[.int .i64 0, .int .i64 2]) (by simp [results, Tryz.results22, go_sem]) rfl ?_
    exact ⟨Or.inr ⟨HNO.out, rfl⟩, B2.out⟩
end Go.Proofs.YtmmdigeciphglaaGreatDoor
namespace Go.Proofs.YtmmdigeciphglaaGreatDoor
open Go.RowKit
def Dr (w : World) (A : Option Addr) (c : Nat) (l : List Nat) : Prop :=
  (l.length ≤ c ∧ (A = none → c = 0)) ∧ ∀ j (hj : j < l.length), ∃ g, A = some ⟨g, 0, none⟩ ∧ g < w.heap.size ∧ w.cell? ⟨g, j, none⟩ = some (.int .i64 ((l[j] : Nat) : Int))
theorem Dr.below {w w' : World} {A : Option Addr} {c : Nat} {l : List Nat} {B : Nat} (h : Dr w A c l) (hb : Below B w w') (hB : w.heap.size ≤ B) : Dr w' A c l :=
  ⟨h.1, fun j hj => by
    obtain ⟨g, h1, h2, h3⟩ := h.2 j hj
    exact ⟨g, h1, Nat.lt_of_lt_of_le h2 (hb.size), by rw [hb.cell (p := ⟨g, j, none⟩) (by show g < B; omega)]; exact h3⟩⟩
theorem Dr.len {w : World} {A : Option Addr} {c : Nat} {l : List Nat} (h : Dr w A c l) : l.length ≤ c := h.1.1
theorem Dr.get {w : World} {A : Option Addr} {c x : Nat} (h : Dr w A c (Nu.dig x)) {j : Nat} (hj : j < (Nu.dig x).length) : ∃ g, A = some ⟨g, 0, none⟩ ∧ g < w.heap.size ∧ w.cell? ⟨g, j, none⟩ = some (.int .i64 ((x / 10 ^ j % 10 : Nat) : Int)) := by
  obtain ⟨g, h1, h2, h3⟩ := h.2 j hj
  exact ⟨g, h1, h2, by rw [h3, Nu.dig_get]⟩
end Go.Proofs.YtmmdigeciphglaaGreatDoor
namespace Go.Proofs.YtmmdigeciphglaaGreatDoor
open Go.RowKit
def intsV (l : List Nat) : List Value := l.map fun (d : Nat) => Value.int .i64 (d : Int)
theorem intsV_snoc (l : List Nat) (d : Nat) : intsV l ++ [.int .i64 (d : Int)] = intsV (l ++ [d]) := by unfold intsV; rw [List.map_append]; rfl
theorem infoInt : (Tryz.prog.info? 3).map (fun i => (i.zero, i.size, i.bytes)) = some (some (.int .i64 0), 1, 8) := by kernel_rfl
def OwnD (B : Nat) (w : World) (v : Value) (l : List Nat) : Prop := w.ownsRow B 3 1 v l.length (intsV l)
theorem OwnD.dr {B : Nat} {w : World} {A : Option Addr} {n c : Nat} {l : List Nat} (h : OwnD B w (.slice A n c) l) : n = l.length ∧ Dr w A c l := by
  obtain ⟨A', c', e, h1, h2, h3, h4⟩ := own_slice h
  injection e with e1 e2 e3
  subst e1 e2 e3
  refine ⟨rfl, ⟨h3, fun hA => (h2 hA).1⟩, fun j hj => ?_⟩
  obtain ⟨g, hA, hg, _, hc⟩ := h1 (by omega)
  exact ⟨g, hA, hg, hc j _ (by unfold intsV; rw [List.getElem?_map, List.getElem?_eq_getElem hj]; rfl)⟩
end Go.Proofs.YtmmdigeciphglaaGreatDoor
namespace Go.Proofs.YtmmdigeciphglaaGreatDoor
open Go.RowKit
def sg (b : Bool) (n : Nat) : Int := if b then -(n : Int) else n
theorem sg_abs (b : Bool) (n : Nat) : (sg b n).natAbs = n := by cases b <;> simp [sg]
def LgP (w : World) (z : Int) (e : Ending) (w' : World) : Prop := ∃ A c b n, e = .returned (.agg #[.slice A (Nu.dig n).length c, .bool b]) ∧ Dr w' A c (Nu.dig n) ∧ sg b n = z ∧ Below w.heap.size w w'
theorem Dr.below2 {w w' : World} {A : Option Addr} {c : Nat} {l : List Nat} (h : Dr w A c l) (hb : Below w.heap.size w w') : Dr w' A c l := h.below hb (Nat.le_refl _)
end Go.Proofs.YtmmdigeciphglaaGreatDoor
namespace Go.Proofs.YtmmdigeciphglaaGreatDoor
open Go.RowKit
theorem sz (w : World) (o : Obj) : (w.alloc o).heap.size = w.heap.size + 1 := by simp
theorem Dr.far {w : World} {A : Option Addr} {c : Nat} {l : List Nat} (h : Dr w A c l) {r : Nat} {u0 : Option Addr} {n0 c0 : Nat} (hk : w.cell? ⟨r, 0, none⟩ = some (.slice u0 n0 c0)) (v0 v1 : Value) : Dr ((w.setCell ⟨r, 0, none⟩ v0).setCell ⟨r, 1, none⟩ v1) A c l :=
  ⟨h.1, fun j hj => by
    obtain ⟨g, h1, h2, h3⟩ := h.2 j hj
    obtain ⟨g', q1, q2, q3⟩ := h.2 0 (by omega)
    have hgr : g ≠ r := by
      rintro rfl
      obtain rfl : g' = g := by rw [h1] at q1; injection q1 with q1; injection q1 with q1; exact q1.symm
      rw [hk] at q3
      cases q3
    refine ⟨g, h1, by simp [World.setCell]; exact h2, ?_⟩
    have e1 := Below.heap_setCell w ⟨r, 0, none⟩ v0 g hgr
    have e2 := Below.heap_setCell (w.setCell ⟨r, 0, none⟩ v0) ⟨r, 1, none⟩ v1 g hgr
    rw [World.cell?_of_block (a := ⟨g, j, none⟩) (e2.trans e1)]
    exact h3⟩
end Go.Proofs.YtmmdigeciphglaaGreatDoor
namespace Go.Proofs.YtmmdigeciphglaaGreatDoor
open Go.RowKit
theorem of_step (b : Bool) (r : Nat) : (sg b r).tmod 10 = sg b (r % 10) ∧ max (sg b (r % 10)) (-(sg b (r % 10))) = ((r % 10 : Nat) : Int) ∧ (sg b r).tdiv 10 = sg b (r / 10) := by
  cases b
  · refine ⟨?_, ?_, ?_⟩
    · show ((r : Int)).tmod 10 = _; rw [Int.tmod_eq_emod_of_nonneg (by omega)]; rfl
    · show max ((r % 10 : Nat) : Int) (-((r % 10 : Nat) : Int)) = _; omega
    · show ((r : Int)).tdiv 10 = _; rw [Int.tdiv_eq_ediv_of_nonneg (by omega)]; rfl
  · refine ⟨?_, ?_, ?_⟩
    · show (-(r : Int)).tmod 10 = _; rw [Int.neg_tmod, Int.tmod_eq_emod_of_nonneg (by omega)]; rfl
    · show max (-((r % 10 : Nat) : Int)) (-(-((r % 10 : Nat) : Int))) = _; omega
    · show (-(r : Int)).tdiv 10 = _; rw [Int.neg_tdiv, Int.tdiv_eq_ediv_of_nonneg (by omega)]; rfl
structure OfI (w : World) (b : Bool) (N r : Nat) (v : Value) (l : List Nat) (wr : World) : Prop where
  below : Below w.heap.size w wr
  blk : IsBlk wr (w.heap.size + 1) 233 #[v, .bool b]
  res : IsBlk wr w.heap.size 233 #[.slice none 0 0, .bool false]
  own : OwnD (w.heap.size + 2) wr v l
  eq : l ++ Nu.dig r = Nu.dig N
theorem OfI.next {w : World} {b : Bool} {N r : Nat} {v v' : Value} {l : List Nat} {wr w' : World} (h : OfI w b N r v l wr) (hr : r ≠ 0) (hb : Below (w.heap.size + 2) wr w') (ho : OwnD (w.heap.size + 2) w' v' (l ++ [r % 10])) :
    OfI w b N (r / 10) v' (l ++ [r % 10]) (w'.setCell ⟨w.heap.size + 1, 0, none⟩ v') := by
  have hs := h.blk.lt
  refine ⟨(h.below.trans (hb.mono (by omega))).setCell (p := ⟨_, 0, none⟩) (by show w.heap.size ≤ w.heap.size + 1; omega) _, (h.blk.below hb (by omega)).set 0 v', (h.res.below hb (by omega)).far (by show w.heap.size ≠ w.heap.size + 1; omega) _, ?_, ?_⟩
  · exact ownsRow_setCell_below ho (a := ⟨_, 0, none⟩) (by show w.heap.size + 1 < w.heap.size + 2; omega) _
  · rw [List.append_assoc, List.singleton_append, ← Nu.dig_pos hr]; exact h.eq
set_option maxHeartbeats 4000000 in
set_option maxRecDepth 100000 in
theorem nuof_any (w : World) (b : Bool) (N : Nat) (hf : Nu.fits (sg b N)) (hb0 : b = true → N ≠ 0) :
    Calls Tryz.prog 137 #[.int .i64 (sg b N)] w (LgP w (sg b N)) := by
  have hlt : decide (sg b N < 0) = b := by cases b with
    | true => exact decide_eq_true (by have := hb0 rfl; unfold sg; simp; omega)
    | false => exact decide_eq_false (by unfold sg; simp)
  have hNL : (Nu.dig N).length ≤ 100 := by
    refine Nat.le_trans (Nu.dig_len_le (n := N) (k := 19) ?_) (by decide)
    unfold Nu.fits sg at hf; cases b <;> simp at hf <;> omega
  obtain ⟨W0, hW0⟩ : ∃ W0, W0 = (w.alloc (.cells #[.slice none 0 0, .bool false] 233)).alloc (.cells #[.slice none 0 0, .bool b] 233) := ⟨_, rfl⟩
  have H0 := Lib.hid (show OfI w b N N (.slice none 0 0) [] W0 by
    have hb1 : Below w.heap.size w W0 := by rw [hW0]; exact ((Below.refl _ _).alloc (Nat.le_refl _) _).alloc (by simp) _
    refine ⟨hb1, ?_, ?_, ?_, rfl⟩
    · rw [hW0]
      have := IsBlk.new (w.alloc (.cells #[.slice none 0 0, .bool false] 233)) 233 #[.slice none 0 0, .bool b]
      rw [sz] at this
      exact this
    · rw [hW0]
      exact IsBlk.below (B := w.heap.size + 1) (IsBlk.new w _ _) ((Below.refl _ _).alloc (by simp) _) (by omega)
    · unfold OwnD; exact World.ownsRow_nil _ _ _ _)
  have HW0 := Lib.hid hW0
  have HNL := Lib.hid hNL
  obtain ⟨z0, hz0⟩ : ∃ z, z = sg b N := ⟨_, rfl⟩
  have HZ0 := Lib.hid hz0
  rw [← hz0] at hlt hf ⊢
  unfold Nu.fits at hf
  have hN : N ≤ 9223372036854775808 := by unfold sg at hz0; cases b <;> simp at hz0 <;> omega
  clear hz0 hW0 hb0 hNL
  go_enter Tryz.func137, Tryz.ntmps137
  go_wp2
  rw [← HW0.out]
  go_loopw [0] (fun zv wr => ∃ (r : Nat) (z : Int) (l : List Nat) (v : Value), zv = .int .i64 z ∧ r ≤ N ∧ Hid (z = sg b r ∧ OfI w b N r v l wr)) (fun zv _ => (intOf zv).natAbs)
  case atStart => exact ⟨N, z0, [], _, rfl, Nat.le_refl _, Lib.hid ⟨HZ0.out, H0.out⟩⟩
  case round =>
    obtain ⟨r, z, l, v, rfl, hr, HI⟩ := hrel
    obtain ⟨Av, cv, hv, _, _, _, _⟩ := own_slice HI.out.2.own
    subst hv
    have k0 := HI.out.2.blk.at_ 0
    have k1 := HI.out.2.blk.at_ 1
    have q0 := HI.out.2.res.at_ 0
    have q1 := HI.out.2.res.at_ 1
    have f0 := HI.out.2.blk.fz 0
    have g0 := HI.out.2.res.fz 0
    have g1 := HI.out.2.res.fz 1
    simp only [List.getElem?_toArray, List.getElem?_cons_zero, List.getElem?_cons_succ] at k0 k1 q0 q1
    have hzb : -9223372036854775808 ≤ z ∧ z ≤ 9223372036854775807 := by have h1 := HI.out.1; have h2 := HZ0.out; unfold sg at h1 h2; cases b <;> simp at h1 h2 <;> omega
    by_cases hr0 : r = 0
    · have hz : z = 0 := by have h1 := HI.out.1; unfold sg at h1; cases b <;> simp at h1 <;> omega
      subst hz hr0
      have HL := Lib.hid (show l = Nu.dig N from by have := HI.out.2.eq; rwa [Nu.dig_zero, List.append_nil] at this)
      have HR := Lib.hid (HI.out.2.own.dr).2
      have HB := Lib.hid HI.out.2.below
      have HQ := Lib.hid (show l.length = (Nu.dig N).length by rw [HL.out])
      clear f0
      go_wp2
      refine bodyPost_ret (v := .agg #[.slice Av l.length cv, .bool b]) (by simp [results, Tryz.results137, go_sem, q0, q1]) rfl ?_
      have hd := HR.out
      rw [HL.out] at hd
      exact ⟨Av, cv, b, N, by rw [HQ.out], hd.far q0 _ _, HZ0.out.symm, (HB.out.setCell (p := ⟨_, 0, none⟩) (Nat.le_refl _) _).setCell (p := ⟨_, 1, none⟩) (Nat.le_refl _) _⟩
    · have hz : ¬ z = 0 := by have h1 := HI.out.1; unfold sg at h1; cases b <;> simp at h1 <;> omega
      have hz' : (z != 0) = true := by simp [bne, hz]
      obtain ⟨s1, s2, s3⟩ := of_step b r
      rw [← HI.out.1] at s1 s3
      have HM := Lib.hid (show (sg b (r / 10)).natAbs < z.natAbs by rw [HI.out.1, sg_abs, sg_abs]; omega)
      obtain ⟨dz, hdz⟩ : ∃ d, d = sg b (r % 10) := ⟨_, rfl⟩
      obtain ⟨zq, hzq⟩ : ∃ q, q = sg b (r / 10) := ⟨_, rfl⟩
      have hdz9 : -10 < dz ∧ dz < 10 := by unfold sg at hdz; cases b <;> simp at hdz <;> omega
      rw [← hdz] at s1 s2
      rw [← hzq] at s3 HM
      have HZQ := Lib.hid hzq
      have hzqb : -9223372036854775808 ≤ zq ∧ zq ≤ 9223372036854775807 := by have h1 := HM.out; omega
      obtain ⟨d, hd⟩ : ∃ d, d = r % 10 := ⟨_, rfl⟩
      rw [← hd] at s2
      have HO := Lib.hid (show wr.ownsRow (w.heap.size + 2) 3 1 (.slice Av l.length cv) l.length (intsV l) from HI.out.2.own)
      have HNX := Lib.hid (fun v' w' hb ho => HI.out.2.next (v' := v') (w' := w') hr0 hb ho)
      rw [← hd] at HNX
      have HBK := Lib.hid HI.out.2.blk
      have hl10 : l.length ≤ 100 := by have h1 := HNL.out; rw [← HI.out.2.eq, List.length_append] at h1; omega
      have hws : w.heap.size + 2 ≤ wr.heap.size := by have := HI.out.2.blk.lt; omega
      have HR0 := Lib.hid (show r / 10 ≤ N by omega)
      clear hdz hzq hd hz hzb hr0 hr
      obtain ⟨i0, hi0, hz0, hz1, hz2⟩ := info_parts infoInt
      have hbig : l.length + 1 ≤ maxLen := by unfold maxLen; omega
      clear q0 q1 g0 g1
      go_wp2_with (at_builtin; (refine wpList_append_own _ rfl _ _ _ rfl (w.heap.size + 2) 3 i0 _ 1 8 Tryz.underlying231 hi0 hz0 hz1 hz2 rfl (by omega) (.slice Av l.length cv) l.length (intsV l) (by rfl) (by exact HO.out.alloc _) _ 1 _ [.int .i64 d] (by rfl) rfl (by intro j u hu; exact news_at _ _ _ _ (by simp) j u hu) (by intro u hu; simp at hu; subst hu; rfl) hbig (by omega) (by simp; omega) ?_); intro v3 w3 hown3 hgr3 _; obtain ⟨A3, c3, hv3, _, _, _, _⟩ := own_slice hown3; subst hv3; have B3 := Lib.hid (Below.grown ((Below.refl (w.heap.size + 2) wr).alloc hws _) hgr3 (by simp; omega) (fun k hk => (HO.out.lt k hk).1)); have H3 := Lib.hid hown3; have kb := HBK.out.below B3.out (by omega); have k0 := kb.at_ 0; have k1 := kb.at_ 1; have f0 := kb.fz 0; clear kb hown3 hgr3; simp only [List.getElem?_toArray, List.getElem?_cons_zero, List.getElem?_cons_succ] at k0 k1)
      go_roundw
      case rel =>
        refine ⟨r / 10, zq, l ++ [d], .slice A3 (l.length + 1) c3, rfl, HR0.out, Lib.hid ⟨HZQ.out, HNX.out _ _ B3.out ?_⟩⟩
        unfold OwnD
        rw [List.length_append, ← intsV_snoc]
        exact H3.out
      case measure => have := HM.out; simpa [intOf] using this
end Go.Proofs.YtmmdigeciphglaaGreatDoor
namespace Go.Proofs.YtmmdigeciphglaaGreatDoor
open Go.RowKit
end Go.Proofs.YtmmdigeciphglaaGreatDoor
namespace Go.Proofs.YtmmdigeciphglaaGreatDoor
open Go.RowKit
end Go.Proofs.YtmmdigeciphglaaGreatDoor
namespace Go.Proofs.YtmmdigeciphglaaGreatDoor
open Go.RowKit
theorem lg_len {b : Bool} {n k : Nat} {z : Int} (h : sg b n = z) (hz : z.natAbs < 10 ^ k) : (Nu.dig n).length ≤ k := by
  refine Nu.dig_len_le ?_
  rw [← h, sg_abs] at hz
  exact hz
theorem fits_abs {z : Int} (h : Nu.fits z) : z.natAbs < 10 ^ 19 := by unfold Nu.fits at h; omega
theorem of_z (w : World) (a : Int) (h : Nu.fits a) : Calls Tryz.prog 137 #[.int .i64 a] w (LgP w a) := by
  have e : a = sg (decide (a < 0)) a.natAbs := by
    unfold sg
    by_cases h0 : a < 0
    · rw [decide_eq_true h0]; simp; omega
    · rw [decide_eq_false h0]; simp; omega
  have := nuof_any w (decide (a < 0)) a.natAbs (by rw [← e]; exact h) (fun h0 => by have := of_decide_eq_true h0; omega)
  rw [← e] at this
  exact this
end Go.Proofs.YtmmdigeciphglaaGreatDoor
namespace Go.Proofs.YtmmdigeciphglaaGreatDoor
open Go.RowKit
def toB (x : Int) : UInt8 := UInt8.ofNat x.toNat
theorem conv1 (w : World) (a : Int) : (convert 152 9 (.slice (some ⟨w.heap.size, 0, none⟩) 1 1)).run Tryz.prog (w.alloc (.cells #[.int .u8 a] 5)) = .ok (.string ⟨#[toB a]⟩) (w.alloc (.cells #[.int .u8 a] 5)) := by
  have h := run_convert_bytes_arg (P := Tryz.prog) (w.alloc (.cells #[.int .u8 a] 5)) 152 5 Tryz.underlying152 Tryz.underlying5 w.heap.size 0 1 1 [a] rfl (fun i hi => by
    obtain rfl : i = 0 := by omega
    exact World.cell?_alloc_mark w #[.int .u8 a] 5 (0, 0) 0) 9 Tryz.underlying9
  exact h
def wr_ (N i : Nat) : List UInt8 := ((Nu.dig N).take i).reverse.map (fun d => UInt8.ofNat (48 + d))
theorem wr_zero (N : Nat) : wr_ N 0 = [] := by simp [wr_]
theorem wr_succ {N i : Nat} (h : i < (Nu.dig N).length) : wr_ N (i + 1) = UInt8.ofNat (48 + N / 10 ^ i % 10) :: wr_ N i := by
  unfold wr_
  rw [List.take_succ_eq_append_getElem h, Nu.dig_get]
  simp
theorem wr_len (N i : Nat) : (wr_ N i).length ≤ i := by unfold wr_; rw [List.length_map, List.length_reverse]; exact List.length_take_le _ _
theorem wr_all (N : Nat) (h : N ≠ 0) : wr_ N (Nu.dig N).length = Lib.decDigits N := by unfold wr_; rw [List.take_length, Nu.dec_dig h]
theorem toB_dig {d : Nat} : toB (48 + (d : Int)) = UInt8.ofNat (48 + d) := by unfold toB; congr 1
set_option maxHeartbeats 4000000 in
set_option maxRecDepth 100000 in
theorem rput_any (n : Int) (w : World) (hn : Nu.fits n) :
    Calls Tryz.prog 110 #[.int .i64 n] w fun e w' => e = .returned (.string ⟨(Lib.itoa n).toArray⟩) ∧ Below w.heap.size w w' := by
  have HO := Lib.hid (of_z w n hn)
  have HN := Lib.hid hn
  obtain ⟨R, hR⟩ : ∃ R : ByteArray, R = ⟨(Lib.itoa n).toArray⟩ := ⟨_, rfl⟩
  rw [← hR]
  have HR := Lib.hid hR
  clear hn hR
  go_enter Tryz.func110, Tryz.ntmps110
  go_wp2_with fail
  refine HO.out.mono ?_
  rintro e w1 ⟨A, c, b, N, rfl, hd, hs, hb⟩
  obtain ⟨W1, hW1⟩ : ∃ W, W = w1.alloc (.cells #[.slice A (Nu.dig N).length c, .bool b] 233) := ⟨_, rfl⟩
  have hb1 : Below w1.heap.size w1 W1 := by rw [hW1]; exact (Below.refl _ _).alloc (Nat.le_refl _) _
  have HK := Lib.hid (show IsBlk W1 w1.heap.size 233 #[.slice A (Nu.dig N).length c, .bool b] by rw [hW1]; exact IsBlk.new _ _ _)
  have HD := Lib.hid (hd.below2 hb1)
  have HB1 := Lib.hid (hb.trans (hb1.mono hb.size))
  have HS := Lib.hid hs
  have hql : (Nu.dig N).length ≤ 19 := lg_len hs (fits_abs HN.out)
  have hqc := hd.len
  obtain ⟨q, hq⟩ : ∃ q, q = (Nu.dig N).length := ⟨_, rfl⟩
  rw [← hq] at hql HK hqc hW1 ⊢
  have HQ := Lib.hid hq
  have HW1 := Lib.hid hW1
  clear hd hs hb hb1 hq hW1
  go_wp2
  rw [← HW1.out]
  go_loopw [4, 5] (fun sv iv wr => ∃ (i : Nat) (S : ByteArray), sv = .string S ∧ iv = .int .i64 i ∧ i ≤ q ∧ S.size ≤ 19 ∧ Hid (S.data.toList = wr_ N i ∧ Below W1.heap.size W1 wr)) (fun _ iv _ => q - (intOf iv).toNat)
  case atStart => exact ⟨0, ⟨#[]⟩, rfl, rfl, Nat.zero_le _, by decide, Lib.hid ⟨by rw [wr_zero], Below.refl _ _⟩⟩
  case round =>
    obtain ⟨i, S, rfl, rfl, hi, hS, HI⟩ := hrel
    have kb := HK.out.below HI.out.2 HK.out.lt
    have k0 := kb.at_ 0
    have k1 := kb.at_ 1
    simp only [List.getElem?_toArray, List.getElem?_cons_zero, List.getElem?_cons_succ] at k0 k1
    clear kb
    by_cases hlt : i < q
    · have hlt' : (i : Int) < (q : Int) := by omega
      have hltd : i < (Nu.dig N).length := by rw [← HQ.out]; exact hlt
      obtain ⟨g, hA, hg, hc⟩ := (HD.out.below2 HI.out.2).get hltd
      subst hA
      have HWS := Lib.hid (wr_succ hltd)
      have hd9 : N / 10 ^ i % 10 < 10 := Nat.mod_lt _ (by decide)
      generalize N / 10 ^ i % 10 = d at *
      have HTB := Lib.hid (toB_dig (d := d))
      have kc := conv1
      have HWL := Lib.hid (wr_len N i)
      have HSS := Lib.hid (show S.size = (wr_ N i).length by rw [Lib.size_eq, HI.out.1])
      have hSi : S.size ≤ i := by rw [HSS.out]; exact HWL.out
      clear hltd
      go_wp2
      go_roundw
      case rel => exact ⟨i + 1, _, rfl, by go_num, hlt, by rw [ByteArray.size_append]; have : (⟨#[toB (48 + (d : Int))]⟩ : ByteArray).size = 1 := rfl; omega, Lib.hid ⟨by
        rw [HWS.out, ← HTB.out, ByteArray.data_append, Array.toList_append, HI.out.1]; rfl, HI.out.2.alloc HI.out.2.size _⟩⟩
      case measure => simp [intOf]; omega
    · obtain rfl : i = q := by omega
      have hlt' : ¬ (i : Int) < (i : Int) := by omega
      have HB := Lib.hid (HB1.out.trans (HI.out.2.mono HB1.out.size))
      by_cases hN0 : N = 0
      · have hSn : S.toList = [] := by
          rw [Lib.toList_data, HI.out.1, show i = 0 by rw [HQ.out, hN0, Nu.dig_zero]; rfl, wr_zero]
        have HE := Lib.hid (show R = ⟨#[48]⟩ by
          rw [HR.out, show n = 0 by rw [← HS.out, hN0]; unfold sg; cases b <;> rfl]
          rw [show Lib.itoa 0 = [48] by unfold Lib.itoa; rw [if_neg (by decide), show (0 : Int).toNat = 0 from rfl, Lib.decDigits]; rfl])
        clear hlt hN0
        go_wp2
        go_ret
        exact ⟨by rw [HE.out]; rfl, HB.out⟩
      · have HSD := Lib.hid (show S.data.toList = Lib.decDigits N by rw [HI.out.1, HQ.out, wr_all N hN0])
        have hSn : S.toList.isEmpty = false := by
          rw [Lib.toList_data, HSD.out]
          cases hh : Lib.decDigits N with
          | nil => exact absurd hh (Nu.dec_mag N).2.2.1
          | cons _ _ => rfl
        cases b with
        | true =>
          have HE := Lib.hid (show R = ⟨#[45]⟩ ++ S by
            refine HR.out.trans (ba_eq ?_)
            rw [data_mk, ByteArray.data_append, Array.toList_append, HSD.out]
            have h1 := HS.out
            unfold sg at h1
            simp at h1
            unfold Lib.itoa
            rw [if_pos (by omega), show n.natAbs = N by omega]; rfl)
          clear hlt hN0
          go_wp2
          go_ret
          exact ⟨by rw [HE.out]; rfl, HB.out⟩
        | false =>
          have HE := Lib.hid (show R = S by
            refine HR.out.trans (ba_eq ?_)
            rw [data_mk, HSD.out]
            have h1 := HS.out
            unfold sg at h1
            simp at h1
            unfold Lib.itoa
            rw [if_neg (by omega), show n.toNat = N by omega])
          clear hlt hN0
          go_wp2
          go_ret
          exact ⟨by rw [HE.out]; rfl, HB.out⟩
end Go.Proofs.YtmmdigeciphglaaGreatDoor
