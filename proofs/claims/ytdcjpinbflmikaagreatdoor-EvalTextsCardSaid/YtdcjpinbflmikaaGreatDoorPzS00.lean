/- Facts and walks for the statement. -/
import Derived.Test.YtdcjpinbflmikaaGreatDoorPzW31
import Derived.Test.YtdcjpinbflmikaaGreatDoorPzW24
import Derived.Test.YtdcjpinbflmikaaGreatDoorPzW23
import Derived.Deep.DeepMust
namespace Go.Proofs.YtdcjpinbflmikaaGreatDoor
open Go.RowKit Ex
set_option maxHeartbeats 2000000 in
set_option maxRecDepth 100000 in
theorem evlaws_any (w : World) (T : Tx w) (s : ByteArray) (hs : s.size ≤ maxLen) (A2 : Option Addr) (c2 : Nat) (bs : List Ev.Bd) (h2 : BdR w w.heap.size A2 bs) (hc2 : bs.length ≤ c2) (hn2 : bs.length ≤ 9223372036854775807) (hb2 : ∀ q ∈ bs, Nu.fits q.2) :
    Calls Tryz.prog 8 #[.string s, .slice A2 bs.length c2] w fun e w' => e = .returned (.bool true) ∧ Below w.heap.size w w' := by
  have HWK := Lib.hid (fun v (h : Below w.heap.size w v) => evworks_any v (T.below h))
  by_cases h4 : s.size ≤ 300
  · have h4' : ¬ (s.size : Int) > 300 := by omega
    have HP := Lib.hid (parse_val s rfl hs w T)
    have HL := Lib.hid (fun (h0 : (prse s.data.toList).2.2 = 0) v A c (hb : Below w.heap.size w v) (hr : NdR v v.heap.size A (prse s.data.toList).1) (hc : (prse s.data.toList).1.length ≤ c) => (show Calls Tryz.prog 7 #[.agg #[.slice A (prse s.data.toList).1.length c], .slice A2 bs.length c2] v fun e w' => e = .returned (.bool true) ∧ Below v.heap.size v w' from by
      obtain ⟨x, q1, q2, _, q3, q4, q5, q6, q7⟩ := short_facts (by omega) h0
      rw [q1] at hr hc ⊢
      exact evlaww_any v (T.below hb) A c _ hr hc (by have := q4.1.1; show (flat x 0).length ≤ _; omega) (fun n hn => ⟨(q4.1.2 n hn).2, q4.2 n hn⟩) A2 c2 bs (h2.on hb) hc2 hn2 hb2))
    generalize prse s.data.toList = X at *
    obtain ⟨l, k, z⟩ := X
    simp only at HL
    clear T h2
    go_enter Tryz.func8, Tryz.ntmps8
    go_wp2_with fail
    refine HP.out.mono ?_
    rintro e v1 ⟨A, c, h1, hc1, rfl, hb⟩
    have HX := Lib.hid (show Xb (v1.alloc (.cells #[.slice A l.length c] 29)) v1.heap.size A c l from Xb.new h1 hc1)
    have HB := Lib.hid (hb.alloc hb.size (.cells #[.slice A l.length c] 29))
    have k1 := HX.out.at_
    clear hb h1 hc1 HP
    by_cases hz : z = 0
    · subst hz
      have HL1 := Lib.hid (HL.out rfl _ A c HB.out HX.out.row HX.out.cap)
      clear HL
      go_wp2_with fail
      refine HL1.out.mono ?_
      rintro e v2 ⟨rfl, hb⟩
      have HBW := Lib.hid (HB.out.trans (hb.mono HB.out.size))
      clear hb
      go_wp2
      go_ret
      exact ⟨rfl, HBW.out⟩
    · have hz1 : (z == 0) = false := by simpa using hz
      have hz2 : (z != 0) = true := by simp [bne, hz1]
      clear hz HL
      go_wp2_with fail
      refine (HWK.out _ (HB.out)).mono ?_
      rintro e vw ⟨rfl, hb⟩
      have HBW := Lib.hid ((HB.out).trans (hb.mono (HB.out).size))
      clear hb
      go_wp2
      go_ret
      exact ⟨rfl, HBW.out⟩
  · have h4' : (s.size : Int) > 300 := by omega
    clear T h2
    go_enter Tryz.func8, Tryz.ntmps8
    go_wp2_with fail
    refine (HWK.out _ (Below.refl _ _)).mono ?_
    rintro e vw ⟨rfl, hb⟩
    have HBW := Lib.hid ((Below.refl w.heap.size w).trans (hb.mono (Below.refl w.heap.size w).size))
    clear hb
    go_wp2
    go_ret
    exact ⟨rfl, HBW.out⟩
end Go.Proofs.YtdcjpinbflmikaaGreatDoor
