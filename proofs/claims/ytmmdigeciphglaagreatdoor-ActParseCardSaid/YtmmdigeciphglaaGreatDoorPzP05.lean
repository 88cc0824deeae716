/- Facts and walks for the statement. -/
import Derived.Test.YtmmdigeciphglaaGreatDoorPzB26
import Derived.Test.YtmmdigeciphglaaGreatDoorPzP02
import Derived.Test.YtmmdigeciphglaaGreatDoorPzP00
import Derived.Lib.Bytealg
import Derived.Lib.ItoaNum
import Derived.Lib.ParseIntBCases
import Derived.Test.YtmmdigeciphglaaGreatDoorProg
import Derived.Laws.EntriesVeiled
import Derived.Lib.IndexLaws
import Derived.Test.YtmmdigeciphglaaGreatDoorPzP01
import Derived.WalkKit
import Derived.WalkLawsBesides
import Derived.Outline
import Derived.Handy
import Derived.Lib.OthersKept
import Derived.Lib.Hide
import Derived.WalkSmall
import Derived.Deep.DeepFit
import Derived.Deep.QuietTactic
import Derived.BigQuiet
import Derived.WalkSpells
import Derived.IntWalk
import Derived.Lib.CutLaws
import Derived.Test.YtmmdigeciphglaaGreatDoorChecked
import Derived.LaidEql
import Derived.Stop.Asserts
import Derived.RowKitTokens
import Derived.Lib.SmallJoins
import Derived.Lib.LaidTab
import Derived.Deep.RegionLaw
import Derived.Deep.CutRange
import Derived.StillTailTactics
import Derived.Laws.Externs
import Derived.Lib.FrozenHead2
import Derived.Lib.UnsafeStr
import Derived.Deep.RegionWith
import Derived.Deep.DeepMust
import Derived.Deep.RegionHeld3
import Derived.Test.YtmmdigeciphglaaGreatDoorPzP04
namespace Go.Proofs.YtmmdigeciphglaaGreatDoor
open Go.RowKit Ex
def RmP (w : World) (ls : List Lx.T) (X : Ac.Rt) (e : Ending) (w' : World) : Prop := match X with
  | .bad left er => ∃ (u0 u1 u2 : Value) (i' : Nat), ((∃ k, u0 = .int .u8 k) ∧ (∃ N, u1 = .string N) ∧ ∃ A n c, u2 = .slice A n c) ∧ e = .returned (.tuple #[.agg #[u0, u1, u2], .int .i64 (i' : Int), .int .i64 er]) ∧ left + i' = ls.length ∧ Below w.heap.size w w'
  | .ok rest s => ∃ A c i', e = .returned (.tuple #[.agg #[.int .u8 s.k, .string ⟨s.nm.toArray⟩, .slice A s.x.length c], .int .i64 ((i' : Nat) : Int), .int .i64 0]) ∧ rest = (kxs ls).drop i' ∧ i' ≤ ls.length ∧ w'.ownsRow w.heap.size 104 6 (.slice A s.x.length c) s.x.length (s.x.flatMap ndV) ∧ Below w.heap.size w w'
theorem rtext_b (B : Nat) (w : World) (A : Option Addr) (c : Nat) (ls : List Lx.T) (h : ToR w B A (ls.map mtk)) (hc : ls.length ≤ c) (i : Nat) :
    Calls Tryz.prog 64 #[.slice A ls.length c, .int .i64 (i : Int)] w fun e w' => e = .returned (.string ⟨(tkAt ls i).2.1.toArray⟩) ∧ Below w.heap.size w w' :=
  (rtext_any B w A c ls h hc i).mono fun e w' q => ⟨q.1, by rw [q.2]; exact Below.refl _ _⟩
structure ScI (w : World) (A : Option Addr) (ls : List Lx.T) (X : Ac.Rt) (v : World) (i g8 g9 : Nat) (k : Int) (ah b0 : List UInt8) (b : List (List UInt8)) : Prop where
  below : Below w.heap.size w v
  res : IsBlk v w.heap.size 91 #[.int .u8 0, .string ⟨#[]⟩, .slice none 0 0]
  sb : IsBlk v (w.heap.size + 1) 91 #[.int .u8 k, .string ⟨#[]⟩, .slice none 0 0]
  op : IsBlk v g8 9 #[.string ⟨ah.toArray⟩]
  sh : IsBlk v g9 9 (atxV (b0 :: b)).toArray
  eq : X = Ac.parts k ah b0 (b0 :: b) ((kxs ls).drop i)
  kk : k = 1 ∨ k = 2 ∧ b0 = [41]
  ne : ah ≠ [] ∧ ∀ t ∈ b0 :: b, t ≠ []
  ln : (b0 :: b).length ≤ 2
  le : i ≤ ls.length
theorem IsBlk.ne {v : World} {a b : Nat} {t t' : TypeId} {cs cs' : Array Value} (h : IsBlk v a t cs) (h' : IsBlk v b t' cs') (hne : t ≠ t') : a ≠ b := fun e => by
  subst e
  unfold IsBlk at h h'
  rw [h] at h'
  injection h' with h'
  injection h' with _ h'
  exact hne h'
theorem parts_ne {k : Int} {ah b0 : List UInt8} {b : List (List UInt8)} {l : List Tk} (h : kd l = 2) (h1 : Ac.tx0 l.tail ≠ ah) : Ac.parts k ah b0 b l = .bad l.tail.length 110 :=
  Eq.trans (if_neg (fun q => q h)) (if_pos h1)
theorem parts_eq {k : Int} {ah b0 : List UInt8} {b : List (List UInt8)} {l : List Tk} (h : kd l = 2) (h1 : Ac.tx0 l.tail = ah) : Ac.parts k ah b0 b l = if k = 1 ∨ Ac.tx0 l.tail.tail ≠ b0 then
      (if (frm l.tail.tail).2.2 ≠ 0 then .bad (l.tail.tail.length - (frm l.tail.tail).2.1) (frm l.tail.tail).2.2
       else Ac.shut k (Ac.tx0 l) (frm l.tail.tail).1 b (l.tail.tail.drop (frm l.tail.tail).2.1))
    else Ac.shut k (Ac.tx0 l) [] b l.tail.tail :=
  Eq.trans (if_neg (fun q => q h)) (if_neg (fun q => q h1))
structure ScK (w : World) (ls : List Lx.T) (X : Ac.Rt) (v : World) (j g9 : Nat) (k : Int) (N : ByteArray) (TX : List UInt8) (xs : List Nd) (An : Option Addr) (cn : Nat) (b : List (List UInt8)) (m : Nat) : Prop where
  below : Below w.heap.size w v
  res : IsBlk v w.heap.size 91 #[.int .u8 0, .string ⟨#[]⟩, .slice none 0 0]
  sb : IsBlk v (w.heap.size + 1) 91 #[.int .u8 k, .string N, .slice An xs.length cn]
  sh : IsBlk v g9 9 (atxV b).toArray
  own : v.ownsRow w.heap.size 104 6 (.slice An xs.length cn) xs.length (xs.flatMap ndV)
  eq : X = Ac.shut k TX xs (b.drop m) ((kxs ls).drop j)
  le : j ≤ ls.length
theorem ScK.on {w : World} {ls : List Lx.T} {X : Ac.Rt} {v v' : World} {j g9 : Nat} {k : Int} {N : ByteArray} {TX : List UInt8} {xs : List Nd} {An : Option Addr} {cn : Nat} {b : List (List UInt8)} {m : Nat} (h : ScK w ls X v j g9 k N TX xs An cn b m) (hb : Below v.heap.size v v') : ScK w ls X v' j g9 k N TX xs An cn b m :=
  ⟨h.below.trans (hb.mono h.below.size), h.res.below hb h.res.lt, h.sb.below hb h.sb.lt, h.sh.below hb h.sh.lt, own_below h.own hb, h.eq, h.le⟩
theorem shut_go {k : Int} {nm : List UInt8} {x : List Nd} {t : List UInt8} {r : List (List UInt8)} {l : List Tk} (h : Ac.tx0 l = t) : Ac.shut k nm x (t :: r) l = Ac.shut k nm x r l.tail := by
  unfold Ac.shut
  have e : Ac.come (t :: r) l = Ac.come r l.tail := if_pos h
  rw [e]
theorem shut_no {k : Int} {nm : List UInt8} {x : List Nd} {t : List UInt8} {r : List (List UInt8)} {l : List Tk} (h : Ac.tx0 l ≠ t) : Ac.shut k nm x (t :: r) l = .bad l.length 110 := by
  unfold Ac.shut
  have e : Ac.come (t :: r) l = (l, false) := if_neg h
  rw [e]
  exact if_neg (fun q => absurd (show false = true from q) (by decide))
structure ScF (w : World) (ls : List Lx.T) (v : World) (j g9 : Nat) (k : Int) (N : ByteArray) (xs : List Nd) (q : Nat) (An : Option Addr) (cn : Nat) (b : List (List UInt8)) : Prop where
  below : Below w.heap.size w v
  res : IsBlk v w.heap.size 91 #[.int .u8 0, .string ⟨#[]⟩, .slice none 0 0]
  sb : IsBlk v (w.heap.size + 1) 91 #[.int .u8 k, .string N, .slice none 0 0]
  sh : IsBlk v g9 9 (atxV b).toArray
  own : v.ownsRow w.heap.size 104 6 (.slice An xs.length cn) xs.length (xs.flatMap ndV)
  le : j + q ≤ ls.length
theorem rfrom_b (B : Nat) (W : World) (A' : Option Addr) (c' : Nat) (ls : List Lx.T) (i : Nat) (hB : B ≤ W.heap.size) (ht : ToR W B A' ((ls.drop i).map mtk)) (hc : ls.length - i ≤ c') (hn : ls.length ≤ 140000) (hx : ∀ t ∈ ls, t.tx.length ≤ 64) :
    Calls Tryz.prog 66 #[.slice A' (ls.length - i) c'] W (RfrP (frm ((kxs ls).drop i)) W) := by
  have p := rfrom_any W A' c' ((ls.drop i).map mtk) (ht.more hB) ⟨by rw [List.length_map, List.length_drop]; exact hc, by rw [List.length_map, List.length_drop]; omega, (fun t h => by
    obtain ⟨u, hu, rfl⟩ := List.mem_map.1 h
    have := hx u (List.mem_of_mem_drop hu)
    show u.tx.toArray.size ≤ _
    simp; omega)⟩
  rw [mtk_tks, List.length_map, List.length_drop, show kxs (ls.drop i) = (kxs ls).drop i by unfold kxs; rw [List.map_drop]] at p
  exact p
set_option linter.unusedSimpArgs false in
set_option maxHeartbeats 16000000 in
set_option maxRecDepth 100000 in
theorem rstmt_any (w : World) (A : Option Addr) (c : Nat) (ls : List Lx.T) (h : ToR w w.heap.size A (ls.map mtk)) (hc : ls.length ≤ c) (hcm : c ≤ maxLen) (hA : A = none ∨ ∃ g o, A = some ⟨g, o, none⟩) (hAc : A = none → c = 0) (hn : ls.length ≤ 140000) (hx : ∀ t ∈ ls, t.tx.length ≤ 64) (i : Nat) (hi : i ≤ ls.length) :
    Calls Tryz.prog 38 #[.slice A ls.length c, .int .i64 (i : Int)] w (RmP w ls (Ac.stm ((kxs ls).drop i))) := by
  obtain ⟨W1, hW1⟩ : ∃ W1, W1 = w.alloc (.cells #[.int .u8 0, .string ⟨#[]⟩, .slice none 0 0] 91) := ⟨_, rfl⟩
  have hb1 : Below w.heap.size w W1 := by rw [hW1]; exact (Below.refl _ _).alloc (Nat.le_refl _) _
  have hz1 : W1.heap.size = w.heap.size + 1 := by rw [hW1]; simp
  obtain ⟨W2, hW2⟩ : ∃ W2, W2 = W1.alloc (.cells #[.int .u8 1, .string ⟨#[]⟩, .slice none 0 0] 91) := ⟨_, rfl⟩
  have hb2 : Below W1.heap.size W1 W2 := by rw [hW2]; exact (Below.refl _ _).alloc (Nat.le_refl _) _
  have hz2 : W2.heap.size = w.heap.size + 1 + 1 := by rw [hW2]; simp [hz1]
  obtain ⟨W3, hW3⟩ : ∃ W3, W3 = W2.alloc (.cells #[.string ⟨#[58, 61]⟩] 9) := ⟨_, rfl⟩
  have hb3 : Below W2.heap.size W2 W3 := by rw [hW3]; exact (Below.refl _ _).alloc (Nat.le_refl _) _
  have hz3 : W3.heap.size = w.heap.size + 1 + 1 + 1 := by rw [hW3]; simp [hz2]
  obtain ⟨W4, hW4⟩ : ∃ W4, W4 = W3.alloc (.cells #[.string ⟨#[59]⟩] 9) := ⟨_, rfl⟩
  have hb4 : Below W3.heap.size W3 W4 := by rw [hW4]; exact (Below.refl _ _).alloc (Nat.le_refl _) _
  have hB2 : Below w.heap.size w W2 := hb1.trans (hb2.mono hb1.size)
  have hB4 : Below w.heap.size w W4 := hB2.trans ((hb3.trans (hb4.mono hb3.size)).mono hB2.size)
  have k1 : IsBlk W4 w.heap.size 91 #[.int .u8 0, .string ⟨#[]⟩, .slice none 0 0] := by
    have q : IsBlk W1 w.heap.size 91 #[.int .u8 0, .string ⟨#[]⟩, .slice none 0 0] := by rw [hW1]; exact IsBlk.new _ _ _
    exact ((q.below hb2 q.lt).below hb3 (q.below hb2 q.lt).lt).below hb4 ((q.below hb2 q.lt).below hb3 (q.below hb2 q.lt).lt).lt
  have k2 : IsBlk W4 (w.heap.size + 1) 91 #[.int .u8 1, .string ⟨#[]⟩, .slice none 0 0] := by
    have q : IsBlk W2 (w.heap.size + 1) 91 #[.int .u8 1, .string ⟨#[]⟩, .slice none 0 0] := by rw [← hz1, hW2]; exact IsBlk.new _ _ _
    exact (q.below hb3 q.lt).below hb4 (q.below hb3 q.lt).lt
  have k3 : IsBlk W4 (w.heap.size + 1 + 1) 9 #[.string ⟨#[58, 61]⟩] := by
    have q : IsBlk W3 (w.heap.size + 1 + 1) 9 #[.string ⟨#[58, 61]⟩] := by rw [← hz2, hW3]; exact IsBlk.new _ _ _
    exact q.below hb4 q.lt
  have k4 : IsBlk W4 (w.heap.size + 1 + 1 + 1) 9 #[.string ⟨#[59]⟩] := by rw [← hz3, hW4]; exact IsBlk.new _ _ _
  have HTO := Lib.hid (fun v (hb : Below w.heap.size w v) => h.below hb)
  have HTX := Lib.hid (fun v (hb : Below w.heap.size w v) (j : Nat) => rtext_b w.heap.size v A c ls (h.below hb) hc j)
  have HNA := Lib.hid (fun v (hb : Below w.heap.size w v) (j : Nat) => rname_any w.heap.size v A c ls (h.below hb) hc j)
  have HCN := Lib.hid (And.intro hc (And.intro hcm (And.intro hA (And.intro hAc (And.intro hn (And.intro hx hi))))))
  have HB4 := Lib.hid hB4
  have HK := Lib.hid (And.intro k1 (And.intro k2 (And.intro k3 k4)))
  have HW4 := Lib.hid (And.intro hW1 (And.intro hW2 (And.intro hW3 hW4)))
  obtain ⟨X, hX⟩ : ∃ X, X = Ac.stm ((kxs ls).drop i) := ⟨_, rfl⟩
  rw [← hX]
  have HX := Lib.hid hX
  obtain ⟨n, hnl⟩ : ∃ n, n = ls.length := ⟨_, rfl⟩
  have HNL := Lib.hid hnl
  rw [← hnl] at HTX HNA ⊢
  have hiI : (i : Int) ≤ 140000 := by omega
  have y0 : W4.cell? ⟨w.heap.size + 1, 0, none⟩ = some (.int .u8 1) := k2.at_ 0
  have yf : W4.frozen? ⟨w.heap.size + 1, 0, none⟩ = false := k2.fz 0
  rw [hW4, hW3, hW2, hW1] at y0 yf
  have HT0 := Lib.hid (HTX.out W4 hB4 i)
  have HTKX := Lib.hid (kxs_tx ls i)
  generalize tkAt ls i = tk at *
  obtain ⟨tk0, tx0, tp0⟩ := tk
  simp only at HT0 HTKX
  obtain ⟨N0, hN0⟩ : ∃ N : ByteArray, N = ⟨tx0.toArray⟩ := ⟨_, rfl⟩
  rw [← hN0] at HT0
  have HN0 := Lib.hid (show N0.toList = tx0 from by rw [Lib.toList_data, hN0])
  clear h hc hcm hA hAc hn hx hi hW1 hb1 hz1 hW2 hb2 hz2 hW3 hb3 hz3 hW4 hb4 hB2 hB4 k1 k2 k3 k4 hX hnl hN0
  go_enter Tryz.func38, Tryz.ntmps38
  go_wp2_with fail
  rw [← HW4.out.1, ← HW4.out.2.1, ← HW4.out.2.2.1, ← HW4.out.2.2.2]
  refine HT0.out.mono ?_
  rintro e v5 ⟨rfl, hb5⟩
  have hs4 := HB4.out.size
  have HB5 := Lib.hid (HB4.out.trans (hb5.mono hs4))
  have HK5 := Lib.hid (show IsBlk v5 w.heap.size 91 #[.int .u8 0, .string ⟨#[]⟩, .slice none 0 0] ∧ IsBlk v5 (w.heap.size + 1) 91 #[.int .u8 1, .string ⟨#[]⟩, .slice none 0 0] ∧ IsBlk v5 (w.heap.size + 1 + 1) 9 #[.string ⟨#[58, 61]⟩] ∧ IsBlk v5 (w.heap.size + 1 + 1 + 1) 9 #[.string ⟨#[59]⟩] from
    ⟨HK.out.1.below hb5 HK.out.1.lt, HK.out.2.1.below hb5 HK.out.2.1.lt, HK.out.2.2.1.below hb5 HK.out.2.2.1.lt, HK.out.2.2.2.below hb5 HK.out.2.2.2.lt⟩)
  clear hb5 HB4 HK HW4 HT0 y0 yf hs4
  go_upto_if 20 with fail
  go_cut [1, 8, 9] from 14 to 97 (fun s1 s8 s9 wx => ∃ (i' g8 g9 : Nat) (k : Int) (ah b0 : List UInt8) (b : List (List UInt8)), s1 = .int .i64 (i' : Int) ∧ s8 = .slice (some ⟨g8, 0, none⟩) 1 1 ∧ s9 = .slice (some ⟨g9, 0, none⟩) (b.length + 1) (b.length + 1) ∧ Hid (ScI w A ls X wx i' g8 g9 k ah b0 b))
  case first =>
    by_cases he : tx0 = Ac.emW
    · have e1 : (N0.toList == [101, 109, 105, 116]) = true := by rw [HN0.out, he]; rfl
      have hil : i < ls.length := by
        rcases Nat.lt_or_ge i ls.length with q | q
        · exact q
        · have q2 := HTKX.out.1
          rw [List.drop_of_length_le (by rw [kxs_len]; exact q)] at q2
          have q3 : ([] : List UInt8) = Ac.emW := q2.trans he
          exact absurd q3 (by decide)
      have HX2 := Lib.hid (show X = Ac.parts 2 [40] [41] [[41], [59]] ((kxs ls).drop (i + 1)) from by
        rw [HX.out, ← kxs_tail]; exact if_pos (HTKX.out.1.trans he))
      have y0 : v5.cell? ⟨w.heap.size + 1, 0, none⟩ = some (.int .u8 1) := HK5.out.2.1.at_ 0
      have yf : v5.frozen? ⟨w.heap.size + 1, 0, none⟩ = false := HK5.out.2.1.fz 0
      have HIL := Lib.hid hil
      clear he hil
      rw [e1]
      go_wp2
      go_meet
      obtain ⟨V6, hV6⟩ : ∃ V, V = v5.setCell ⟨w.heap.size + 1, 0, none⟩ (.int .u8 2) := ⟨_, rfl⟩
      rw [← hV6]
      have hb6 : Below w.heap.size w V6 := by rw [hV6]; exact HB5.out.setCell (p := ⟨w.heap.size + 1, 0, none⟩) (Nat.le_succ _) _
      have r6 : IsBlk V6 w.heap.size 91 #[.int .u8 0, .string ⟨#[]⟩, .slice none 0 0] := by rw [hV6]; exact HK5.out.1.far (p := ⟨w.heap.size + 1, 0, none⟩) (Nat.ne_of_lt (Nat.lt_succ_self _)) _
      have s6 : IsBlk V6 (w.heap.size + 1) 91 #[.int .u8 2, .string ⟨#[]⟩, .slice none 0 0] := by rw [hV6]; exact HK5.out.2.1.set 0 _
      have ba := (Below.refl V6.heap.size V6).alloc (Nat.le_refl _) (.cells #[.string ⟨#[40]⟩] 9)
      have k8 := IsBlk.new V6 9 #[.string ⟨#[40]⟩]
      have bb := (Below.refl (V6.alloc (.cells #[.string ⟨#[40]⟩] 9)).heap.size (V6.alloc (.cells #[.string ⟨#[40]⟩] 9))).alloc (Nat.le_refl _) (.cells #[.string ⟨#[41]⟩, .string ⟨#[59]⟩] 9)
      have k9 := IsBlk.new (V6.alloc (.cells #[.string ⟨#[40]⟩] 9)) 9 #[.string ⟨#[41]⟩, .string ⟨#[59]⟩]
      refine ⟨i + 1, V6.heap.size, (V6.alloc (.cells #[.string ⟨#[40]⟩] 9)).heap.size, 2, [40], [41], [[59]], by go_num, by rw [hV6]; simp, by rw [hV6]; simp, Lib.hid ⟨hb6.trans ((ba.trans (bb.mono ba.size)).mono hb6.size), (r6.below ba r6.lt).below bb (r6.below ba r6.lt).lt, (s6.below ba s6.lt).below bb (s6.below ba s6.lt).lt, k8.below bb k8.lt, k9, HX2.out, Or.inr ⟨rfl, rfl⟩, ⟨by decide, by decide⟩, by decide, HIL.out⟩⟩
    · have e1 : (N0.toList == [101, 109, 105, 116]) = false := by rw [HN0.out]; exact beq_eq_false_iff_ne.2 he
      have HX2 := Lib.hid (show X = Ac.parts 1 [58, 61] [59] [[59]] ((kxs ls).drop i) from by
        rw [HX.out]; exact if_neg (fun q => he (HTKX.out.1.symm.trans q)))
      clear he
      rw [e1]
      go_wp2
      go_meet
      exact ⟨i, w.heap.size + 1 + 1, w.heap.size + 1 + 1 + 1, 1, [58, 61], [59], [], rfl, rfl, rfl, Lib.hid ⟨HB5.out, HK5.out.1, HK5.out.2.1, HK5.out.2.2.1, HK5.out.2.2.2, HX2.out, Or.inl rfl, ⟨by decide, by decide⟩, by decide, HCN.out.2.2.2.2.2.2⟩⟩
  case rest =>
    obtain ⟨i', g8, g9, k, ah, b0, b, rfl, rfl, rfl, HS⟩ := hcut
    clear HB5 HK5 HX HTKX HN0 hiI
    have hi'I : (i' : Int) ≤ 140000 := by have := HS.out.le; have := HCN.out.2.2.2.2.1; omega
    have HNM := Lib.hid (HNA.out wc HS.out.below i')
    have HKD := Lib.hid (kxs_tx ls i')
    obtain ⟨tk1, htk⟩ : ∃ t, t = tkAt ls i' := ⟨_, rfl⟩
    rw [← htk] at HNM HKD
    have HT1 := Lib.hid htk
    obtain ⟨tk, TX, tp⟩ := tk1
    simp only at HNM HKD
    clear htk
    go_wp2_with fail
    refine HNM.out.mono ?_
    rintro e v6 ⟨rfl, rfl⟩
    by_cases hk2 : tk = 2
    case neg =>
      have hd : decide (tk = 2) = false := decide_eq_false hk2
      have HX := Lib.hid (show X = .bad (ls.length - i') 110 from by rw [HS.out.eq, parts_no (by rw [HKD.out.2]; exact hk2), kxs_rest])
      have RS := HS.out.res
      have SS := HS.out.sb
      rw [hd]
      clear hk2
      have x0 := RS.at_ 0
      have x1 := RS.at_ 1
      have x2 := RS.at_ 2
      have xf := fun j => RS.fz j
      have y0 := SS.at_ 0
      have y1 := SS.at_ 1
      have y2 := SS.at_ 2
      simp only [List.getElem?_toArray, List.getElem?_cons_zero, List.getElem?_cons_succ] at x0 x1 x2 y0 y1 y2
      repeat (first | go_values | go_skip | go_guarded | go_step | go_upon | (simp only [Int.not_lt, Int.not_le] at *; go_simp) | (go_values <;> (try go_simp)) | (go_ite <;> go_prune <;> (try go_simp)))
      refine bodyPost_ret (v := .tuple #[.agg #[(.int .u8 k), (.string ⟨#[]⟩), (.slice none 0 0)], .int .i64 (i' : Int), .int .i64 110]) (by simp [results, Tryz.results38, go_sem, x0, x1, x2]) rfl ?_
      rw [HX.out]
      exact ⟨(.int .u8 k), (.string ⟨#[]⟩), (.slice none 0 0), i', ⟨⟨_, rfl⟩, ⟨_, rfl⟩, ⟨_, _, _, rfl⟩⟩, rfl, (by have := HS.out.le; omega), ((HS.out.below.setCell (p := ⟨w.heap.size, 0, none⟩) (Nat.le_refl _) _).setCell (p := ⟨w.heap.size, 1, none⟩) (Nat.le_refl _) _).setCell (p := ⟨w.heap.size, 2, none⟩) (Nat.le_refl _) _⟩
    have hd : decide (tk = 2) = true := decide_eq_true hk2
    have hil : i' < ls.length := tkAt_lt_of (Or.inl (by rw [← HT1.out]; simp only; omega))
    obtain ⟨g, o, hA, hg, c0, c1, cp⟩ := (HTO.out _ HS.out.below) i' (by rw [List.length_map]; exact hil)
    rw [List.getElem_map] at c1
    have e1 : ls[i'].tx = TX := by
      have q := HT1.out
      rw [tkAt_lt hil] at q
      injection q with _ q
      injection q with q _
      exact q.symm
    change v6.cell? ⟨g, o + i' * 3 + 1, none⟩ = some (.string ⟨ls[i'].tx.toArray⟩) at c1
    rw [e1] at c1
    obtain ⟨N, hN⟩ : ∃ N : ByteArray, N = ⟨TX.toArray⟩ := ⟨_, rfl⟩
    rw [← hN] at c1
    have HN1 := Lib.hid hN
    have hcI : (n : Int) ≤ (c : Int) := by have := HNL.out; have := HCN.out.1; omega
    have hil' : (i' : Int) < (n : Int) := by have := HNL.out; omega
    have y1 : v6.cell? ⟨w.heap.size + 1, 1, none⟩ = some (.string ⟨#[]⟩) := HS.out.sb.at_ 1
    have yf : v6.frozen? ⟨w.heap.size + 1, 1, none⟩ = false := HS.out.sb.fz 1
    obtain ⟨wd, hwd⟩ : ∃ wd, wd = v6.setCell ⟨w.heap.size + 1, 1, none⟩ (.string N) := ⟨_, rfl⟩
    have HD0 := Lib.hid (show Below w.heap.size w wd ∧ IsBlk wd w.heap.size 91 #[.int .u8 0, .string ⟨#[]⟩, .slice none 0 0] ∧ IsBlk wd (w.heap.size + 1) 91 #[.int .u8 k, .string N, .slice none 0 0] ∧ IsBlk wd g9 9 (atxV (b0 :: b)).toArray ∧ IsBlk wd g8 9 #[.string ⟨ah.toArray⟩] from by
      rw [hwd]
      exact ⟨HS.out.below.setCell (p := ⟨w.heap.size + 1, 1, none⟩) (Nat.le_succ _) _, HS.out.res.far (p := ⟨w.heap.size + 1, 1, none⟩) (Nat.ne_of_lt (Nat.lt_succ_self _)) _, HS.out.sb.set 1 _, HS.out.sh.far (p := ⟨w.heap.size + 1, 1, none⟩) (HS.out.sh.ne HS.out.sb (by decide)) _, HS.out.op.far (p := ⟨w.heap.size + 1, 1, none⟩) (HS.out.op.ne HS.out.sb (by decide)) _⟩)
    have HKD2 := Lib.hid (kxs_tx ls (i' + 1))
    have HT2 := Lib.hid (fun v (hb : Below wd.heap.size wd v) => HTX.out v (HD0.out.1.trans (hb.mono HD0.out.1.size)) (i' + 1))
    have hcast1 : ((i' + 1 : Nat) : Int) = (i' : Int) + 1 := by omega
    have hcast2 : ((i' + 2 : Nat) : Int) = (i' : Int) + 1 + 1 := by omega
    have HKD1 := Lib.hid (show kd ((kxs ls).drop i') = 2 ∧ Ac.tx0 ((kxs ls).drop i') = TX from ⟨HKD.out.2.trans hk2, HKD.out.1⟩)
    obtain ⟨T2, hT2⟩ : ∃ t, t = tkAt ls (i' + 1) := ⟨_, rfl⟩
    rw [← hT2] at HKD2 HT2
    have HT2E := Lib.hid hT2
    obtain ⟨tk2, tx2, tp2⟩ := T2
    simp only at HKD2 HT2
    obtain ⟨N2, hN2⟩ : ∃ N : ByteArray, N = ⟨tx2.toArray⟩ := ⟨_, rfl⟩
    obtain ⟨AH, hAH⟩ : ∃ N : ByteArray, N = ⟨ah.toArray⟩ := ⟨_, rfl⟩
    rw [← hN2, hcast1] at HT2
    rw [← hAH] at HD0
    have HNB := Lib.hid (show N2.toList = tx2 ∧ AH.toList = ah from ⟨by rw [Lib.toList_data, hN2], by rw [Lib.toList_data, hAH]⟩)
    have g0 : wd.cell? ⟨g8, 0, none⟩ = some (.string AH) := HD0.out.2.2.2.2.at_ 0
    have HY := Lib.hid (fun W (hb : Below wd.heap.size wd W) => (show W.cell? ⟨g8, 0, none⟩ = some (.string AH) from (HD0.out.2.2.2.2.below hb HD0.out.2.2.2.2.lt).at_ 0))
    have hi1 : i' + 1 ≤ ls.length := hil
    have HI1 := Lib.hid hi1
    have HWD := Lib.hid hwd
    subst hA
    rw [hd]
    clear hk2 hil c0 cp e1 hN hwd hN2 hAH hT2 hg hi1 HNM
    by_cases he : tx2 = ah
    case neg =>
      have hd3 : (N2.toList != AH.toList) = true := by rw [HNB.out.1, HNB.out.2]; simpa using he
      have hd4 : (N2.toList == AH.toList) = false := by rw [HNB.out.1, HNB.out.2]; simpa using he
      have HX := Lib.hid (show X = .bad (ls.length - (i' + 1)) 110 from by
        rw [HS.out.eq, parts_ne HKD1.out.1 (by rw [kxs_tail, HKD2.out.1]; exact he), kxs_tail, kxs_rest])
      clear he
      go_wp2_with fail
      rw [← HWD.out]
      go_region_held3 (fun w' => w'.cell? ⟨g8, 0, none⟩ = some (.string AH)) (first | exact g0 | exact HY.out _ HQ.out) (first | (go_at_call 64; refine (HT2.out _ (by first | exact below_drewN (Below.refl _ _) _ | exact Below.refl _ _)).mono ?_; rintro e w6 ⟨rfl, hb6⟩; have HQ := Lib.hid (show Below wd.heap.size wd w6 from by first | exact hb6 | exact (below_drewN (Below.refl wd.heap.size wd) _).trans (hb6.mono (below_drewN (Below.refl wd.heap.size wd) _).size)); clear hb6))
      have RS := HD0.out.2.1.below HQ.out HD0.out.2.1.lt
      have SS := HD0.out.2.2.1.below HQ.out HD0.out.2.2.1.lt
      have BB := HD0.out.1.trans (HQ.out.mono HD0.out.1.size)
      clear g0 hd3 hd4 y1 yf c1
      have x0 := RS.at_ 0
      have x1 := RS.at_ 1
      have x2 := RS.at_ 2
      have xf := fun j => RS.fz j
      have y0 := SS.at_ 0
      have y1 := SS.at_ 1
      have y2 := SS.at_ 2
      simp only [List.getElem?_toArray, List.getElem?_cons_zero, List.getElem?_cons_succ] at x0 x1 x2 y0 y1 y2
      repeat (first | go_values | go_skip | go_guarded | go_step | go_upon | (simp only [Int.not_lt, Int.not_le] at *; go_simp) | (go_values <;> (try go_simp)) | (go_ite <;> go_prune <;> (try go_simp)))
      refine bodyPost_ret (v := .tuple #[.agg #[(.int .u8 k), (.string N), (.slice none 0 0)], .int .i64 ((i' : Int) + 1), .int .i64 110]) (by simp [results, Tryz.results38, go_sem, x0, x1, x2]) rfl ?_
      rw [HX.out]
      exact ⟨(.int .u8 k), (.string N), (.slice none 0 0), (i' + 1), ⟨⟨_, rfl⟩, ⟨_, rfl⟩, ⟨_, _, _, rfl⟩⟩, (by rw [hcast1]), (by have := HI1.out; omega), ((BB.setCell (p := ⟨w.heap.size, 0, none⟩) (Nat.le_refl _) _).setCell (p := ⟨w.heap.size, 1, none⟩) (Nat.le_refl _) _).setCell (p := ⟨w.heap.size, 2, none⟩) (Nat.le_refl _) _⟩
    have hd3 : (N2.toList != AH.toList) = false := by rw [HNB.out.1, HNB.out.2, he]; simp
    have hd4 : (N2.toList == AH.toList) = true := by rw [HNB.out.1, HNB.out.2, he]; simp
    have HXQ := Lib.hid (show X = if k = 1 ∨ Ac.tx0 ((kxs ls).drop (i' + 2)) ≠ b0 then
        (if (frm ((kxs ls).drop (i' + 2))).2.2 ≠ 0 then .bad (((kxs ls).drop (i' + 2)).length - (frm ((kxs ls).drop (i' + 2))).2.1) (frm ((kxs ls).drop (i' + 2))).2.2
         else Ac.shut k TX (frm ((kxs ls).drop (i' + 2))).1 (b0 :: b) (((kxs ls).drop (i' + 2)).drop (frm ((kxs ls).drop (i' + 2))).2.1))
        else Ac.shut k TX [] (b0 :: b) ((kxs ls).drop (i' + 2)) from by
      rw [HS.out.eq, parts_eq HKD1.out.1 (by rw [kxs_tail, HKD2.out.1]; exact he), kxs_tail, kxs_tail, HKD1.out.2])
    have hi2 : i' + 2 ≤ ls.length := tkAt_lt_of (ls := ls) (i := i' + 1) (Or.inr (by rw [← HT2E.out]; simp only; rw [he]; exact HS.out.ne.1))
    clear he
    go_wp2_with fail
    rw [← HWD.out]
    go_region_held3 (fun w' => w'.cell? ⟨g8, 0, none⟩ = some (.string AH)) (first | exact g0 | exact HY.out _ HQ.out) (first | (go_at_call 64; refine (HT2.out _ (by first | exact below_drewN (Below.refl _ _) _ | exact Below.refl _ _)).mono ?_; rintro e w6 ⟨rfl, hb6⟩; have HQ := Lib.hid (show Below wd.heap.size wd w6 from by first | exact hb6 | exact (below_drewN (Below.refl wd.heap.size wd) _).trans (hb6.mono (below_drewN (Below.refl wd.heap.size wd) _).size)); clear hb6))
    have HDQ := Lib.hid (show Below w.heap.size w w6 ∧ IsBlk w6 w.heap.size 91 #[.int .u8 0, .string ⟨#[]⟩, .slice none 0 0] ∧ IsBlk w6 (w.heap.size + 1) 91 #[.int .u8 k, .string N, .slice none 0 0] ∧ IsBlk w6 g9 9 (atxV (b0 :: b)).toArray from
      ⟨HD0.out.1.trans (HQ.out.mono HD0.out.1.size), HD0.out.2.1.below HQ.out HD0.out.2.1.lt, HD0.out.2.2.1.below HQ.out HD0.out.2.2.1.lt, HD0.out.2.2.2.1.below HQ.out HD0.out.2.2.2.1.lt⟩)
    have y0 : w6.cell? ⟨w.heap.size + 1, 0, none⟩ = some (.int .u8 k) := HDQ.out.2.2.1.at_ 0
    have HKD3 := Lib.hid (kxs_tx ls (i' + 2))
    have HT3 := Lib.hid (HTX.out w6 HDQ.out.1 (i' + 2))
    obtain ⟨T3, hT3⟩ : ∃ t, t = tkAt ls (i' + 2) := ⟨_, rfl⟩
    rw [← hT3] at HKD3 HT3
    obtain ⟨tk3, tx3, tp3⟩ := T3
    simp only at HKD3 HT3
    obtain ⟨N3, hN3⟩ : ∃ N : ByteArray, N = ⟨tx3.toArray⟩ := ⟨_, rfl⟩
    rw [← hN3, hcast2] at HT3
    have HN3 := Lib.hid (show N3.toList = tx3 from by rw [Lib.toList_data, hN3])
    have HI2 := Lib.hid hi2
    clear g0 hd3 hd4 y1 yf c1 hT3 hN3 HQ HD0 HY HT2 hi2
    go_upto_region 16 with fail
    go_cut [59] from 14 to 97 (fun s59 wx => ∃ be : Bool, s59 = .bool be ∧ Hid ((Below w.heap.size w wx ∧ IsBlk wx w.heap.size 91 #[.int .u8 0, .string ⟨#[]⟩, .slice none 0 0] ∧ IsBlk wx (w.heap.size + 1) 91 #[.int .u8 k, .string N, .slice none 0 0] ∧ IsBlk wx g9 9 (atxV (b0 :: b)).toArray) ∧ (be = true ↔ k = 1 ∨ Ac.tx0 ((kxs ls).drop (i' + 2)) ≠ b0)))
    case first =>
      rcases HS.out.kk with hk1 | ⟨hk2, hb0⟩
      · have hkb : (k == 1) = true := by rw [hk1]; rfl
        have HKK := Lib.hid hk1
        clear hk1
        go_wp2
        go_meet
        exact ⟨true, rfl, Lib.hid ⟨HDQ.out, ⟨fun _ => Or.inl HKK.out, fun _ => rfl⟩⟩⟩
      · have hkb : (k == 1) = false := by rw [hk2]; rfl
        have HKK := Lib.hid (And.intro hk2 hb0)
        clear hk2 hb0
        go_wp2_with fail
        refine HT3.out.mono ?_
        rintro e w7 ⟨rfl, hb7⟩
        have HB7 := Lib.hid hb7
        clear hb7
        go_wp2
        go_meet
        refine ⟨_, rfl, Lib.hid ⟨⟨HDQ.out.1.trans (HB7.out.mono HDQ.out.1.size), HDQ.out.2.1.below HB7.out HDQ.out.2.1.lt, HDQ.out.2.2.1.below HB7.out HDQ.out.2.2.1.lt, HDQ.out.2.2.2.below HB7.out HDQ.out.2.2.2.lt⟩, ?_⟩⟩
        rw [HKD3.out.1, HKK.out.2, HN3.out]
        constructor
        · intro q
          exact Or.inr (by simpa using q)
        · intro q
          rcases q with q | q
          · have := HKK.out.1; omega
          · simpa using q
    case rest =>
      obtain ⟨be, rfl, HG⟩ := hcut
      have HBE := Lib.hid HG.out.2
      have HD := Lib.hid HG.out.1
      clear HG HDQ HT3 HN3 y0
      obtain ⟨wk, hwk⟩ : ∃ v, v = wc := ⟨_, rfl⟩
      subst hwk
      go_upto_if 59 with fail
      go_cut [1] from 14 to 97 (fun s1 wx => ∃ (j : Nat) (xs : List Nd) (An : Option Addr) (cn : Nat), s1 = .int .i64 (j : Int) ∧ Hid (ScK w ls X wx j g9 k N TX xs An cn (b0 :: b) 0))
      case first =>
        have hi2 := HI2.out
        cases be with
        | true =>
          have HKP := Lib.hid (HBE.out.1 rfl)
          have HXE := Lib.hid (fun (q : k = 1 ∨ Ac.tx0 ((kxs ls).drop (i' + 2)) ≠ b0) => HXQ.out.trans (if_pos q))
          clear HBE HXQ
          -- the expression is read, in world wk; the tokens from i' + 2 on
          go_upto_region 17 with fail
          go_cut [10, 11, 12] from 14 to 97 (fun s10 s11 s12 wx => ∃ (An : Option Addr) (cn : Nat) (xs : List Nd) (q : Nat) (er : Int), s10 = .slice An xs.length cn ∧ s11 = .int .i64 (q : Int) ∧ s12 = .int .i64 er ∧ Hid (ScF w ls wx (i' + 2) g9 k N xs q An cn (b0 :: b) ∧ frm ((kxs ls).drop (i' + 2)) = (xs, q, er)))
          case first =>
            have HFX := Lib.hid (fun (A' : Option Addr) (c' : Nat) (ht : ToR wk w.heap.size A' ((ls.drop (i' + 2)).map mtk)) (hc' : ls.length - (i' + 2) ≤ c') => rfrom_b w.heap.size wk A' c' ls (i' + 2) HD.out.1.size ht hc' HCN.out.2.2.2.2.1 HCN.out.2.2.2.2.2.1)
            have HTW := Lib.hid (HTO.out wk HD.out.1)
            have hle2 := HCN.out.1
            have hcm2 := HCN.out.2.1
            have HLE := Lib.hid hi2
            rw [← HNL.out] at hle2
            have hcI2 : (c : Int) ≤ 9223372036854775807 := by unfold maxLen at hcm2; omega
            have hi2c : ((i' : Int) + 2) ≤ (n : Int) := by have := HNL.out; omega
            have hcc : (n : Int) ≤ (c : Int) := by omega
            by_cases hci : c = i' + 2
            · have hni : ls.length = i' + 2 := by have := HNL.out; have := HLE.out; omega
              have HF0 := Lib.hid (HFX.out (some ⟨g, o, none⟩) 0 (ToR.none_ (w := wk) (B := w.heap.size) (A := some ⟨g, o, none⟩) (ls := ls) (i := i' + 2) (by omega)) (by omega))
              have hd0 : ls.length - (i' + 2) = 0 := by omega
              rw [hd0] at HF0
              obtain rfl : n = i' + 2 := by have := HNL.out; omega
              subst hci
              clear hni hd0 HFX hle2 hcm2
              go_wp2_with fail
              refine HF0.out.mono ?_
              rintro e v8 ⟨An, cn, ho8, rfl, hb8⟩
              have HD8 := Lib.hid hb8
              have hfl := frm_le ((kxs ls).drop (i' + 2))
              rw [kxs_rest] at hfl
              obtain ⟨Fm, hFm⟩ : ∃ F, F = frm ((kxs ls).drop (i' + 2)) := ⟨_, rfl⟩
              rw [← hFm] at ho8 hfl ⊢
              have HFM := Lib.hid hFm
              obtain ⟨xs, q, er⟩ := Fm
              simp only at ho8 hfl ⊢
              have HO8 := Lib.hid (own_less ho8 HD.out.1.size)
              have HFL := Lib.hid hfl
              clear hFm ho8 hb8 hfl
              go_wp2
              go_meet
              exact ⟨An, cn, xs, q, er, rfl, rfl, rfl, Lib.hid ⟨⟨HD.out.1.trans (HD8.out.mono HD.out.1.size), HD.out.2.1.below HD8.out HD.out.2.1.lt, HD.out.2.2.1.below HD8.out HD.out.2.2.1.lt, HD.out.2.2.2.below HD8.out HD.out.2.2.2.lt, HO8.out, by have := HLE.out; have := HFL.out; omega⟩, HFM.out.symm⟩⟩
            · have hic : i' + 2 < c := by have := HNL.out; have := HLE.out; omega
              have hicI : ((i' : Int) + 2) < (c : Int) := by omega
              have HF1 := Lib.hid (HFX.out (some ⟨g, o + (i' + 2) * 3, none⟩) (c - (i' + 2)) (HTW.out.drop) (by have := HCN.out.1; omega))
              rw [← HNL.out] at HF1
              clear HFX hle2 hcm2
              go_wp2_with fail
              refine (show Calls Tryz.prog 66 #[.slice (some ⟨g, o + (i' + 1 + 1) * 3, none⟩) (n - (i' + 1 + 1)) (c - (i' + 1 + 1))] wk (RfrP (frm ((kxs ls).drop (i' + 2))) wk) from HF1.out).mono ?_
              rintro e v8 ⟨An, cn, ho8, rfl, hb8⟩
              have HD8 := Lib.hid hb8
              have hfl := frm_le ((kxs ls).drop (i' + 2))
              rw [kxs_rest] at hfl
              obtain ⟨Fm, hFm⟩ : ∃ F, F = frm ((kxs ls).drop (i' + 2)) := ⟨_, rfl⟩
              rw [← hFm] at ho8 hfl ⊢
              have HFM := Lib.hid hFm
              obtain ⟨xs, q, er⟩ := Fm
              simp only at ho8 hfl ⊢
              have HO8 := Lib.hid (own_less ho8 HD.out.1.size)
              have HFL := Lib.hid hfl
              clear hFm ho8 hb8 hfl
              go_wp2
              go_meet
              exact ⟨An, cn, xs, q, er, rfl, rfl, rfl, Lib.hid ⟨⟨HD.out.1.trans (HD8.out.mono HD.out.1.size), HD.out.2.1.below HD8.out HD.out.2.1.lt, HD.out.2.2.1.below HD8.out HD.out.2.2.1.lt, HD.out.2.2.2.below HD8.out HD.out.2.2.2.lt, HO8.out, by have := HLE.out; have := HFL.out; omega⟩, HFM.out.symm⟩⟩
          case rest =>
            obtain ⟨An, cn, xs, q, er, rfl, rfl, rfl, HF⟩ := hcut
            have HFE := Lib.hid HF.out.2
            have HFI := Lib.hid HF.out.1
            have hqI : (q : Int) ≤ 140000 := by have := HFI.out.le; have := HCN.out.2.2.2.2.1; omega
            have hcast3 : ((i' + 2 + q : Nat) : Int) = (i' : Int) + 1 + 1 + (q : Int) := by omega
            clear HF HD
            by_cases her : er = 0
            · subst her
              have HX := Lib.hid (show X = Ac.shut k TX xs (b0 :: b) ((kxs ls).drop (i' + 2 + q)) from by
                rw [HXE.out (HKP.out), HFE.out]
                simp only
                rw [if_neg (fun q => q rfl), List.drop_drop])
              have y2 := HFI.out.sb.at_ 2
              have yf := HFI.out.sb.fz 2
              simp only [List.getElem?_toArray, List.getElem?_cons_zero, List.getElem?_cons_succ] at y2
              go_wp2
              go_meet
              exact ⟨i' + 2 + q, xs, An, cn, by rw [hcast3], Lib.hid ⟨HFI.out.below.setCell (p := ⟨w.heap.size + 1, 2, none⟩) (Nat.le_succ _) _, HFI.out.res.far (p := ⟨w.heap.size + 1, 2, none⟩) (Nat.ne_of_lt (Nat.lt_succ_self _)) _, HFI.out.sb.set 2 _, HFI.out.sh.far (p := ⟨w.heap.size + 1, 2, none⟩) (HFI.out.sh.ne HFI.out.sb (by decide)) _, own_set HFI.out.own HFI.out.sb (by decide) 2 _, HX.out, HFI.out.le⟩⟩
            · have hne : (er != 0) = true := by simpa using her
              have HX := Lib.hid (show X = .bad (ls.length - (i' + 2) - q) er from by
                rw [HXE.out (HKP.out), HFE.out]
                simp only
                rw [if_pos her, kxs_rest])
              have RS := HFI.out.res
              have SS := HFI.out.sb
              clear her
              have x0 := RS.at_ 0
              have x1 := RS.at_ 1
              have x2 := RS.at_ 2
              have xf := fun j => RS.fz j
              have y0 := SS.at_ 0
              have y1 := SS.at_ 1
              have y2 := SS.at_ 2
              simp only [List.getElem?_toArray, List.getElem?_cons_zero, List.getElem?_cons_succ] at x0 x1 x2 y0 y1 y2
              repeat (first | go_values | go_skip | go_guarded | go_step | go_upon | (simp only [Int.not_lt, Int.not_le] at *; go_simp) | (go_values <;> (try go_simp)) | (go_ite <;> go_prune <;> (try go_simp)))
              refine bodyPost_ret (v := .tuple #[.agg #[(.int .u8 k), (.string N), (.slice none 0 0)], .int .i64 ((i' : Int) + 1 + 1 + (q : Int)), .int .i64 er]) (by simp [results, Tryz.results38, go_sem, x0, x1, x2]) rfl ?_
              rw [HX.out]
              exact ⟨(.int .u8 k), (.string N), (.slice none 0 0), (i' + 2 + q), ⟨⟨_, rfl⟩, ⟨_, rfl⟩, ⟨_, _, _, rfl⟩⟩, (by rw [hcast3]), (by have := HFI.out.le; omega), ((HFI.out.below.setCell (p := ⟨w.heap.size, 0, none⟩) (Nat.le_refl _) _).setCell (p := ⟨w.heap.size, 1, none⟩) (Nat.le_refl _) _).setCell (p := ⟨w.heap.size, 2, none⟩) (Nat.le_refl _) _⟩
        | false =>
          have HX := Lib.hid (HXQ.out.trans (if_neg (fun q => by have := HBE.out.2 q; cases this)))
          go_wp2
          go_meet
          exact ⟨i' + 2, [], none, 0, by rw [hcast2], Lib.hid ⟨HD.out.1, HD.out.2.1, HD.out.2.2.1, HD.out.2.2.2, World.ownsRow_nil _ _ _ _, HX.out, hi2⟩⟩
      case rest =>
        obtain ⟨j, xs, An, cn, rfl, HK0⟩ := hcut
        clear HD HBE HXQ HI2
        obtain ⟨nb, hnb⟩ : ∃ n, n = b.length + 1 := ⟨_, rfl⟩
        have HNBL := Lib.hid (show nb = (b0 :: b).length from hnb)
        have hnb2 : (nb : Int) ≤ 2 := by have := HS.out.ln; rw [← HNBL.out] at this; omega
        rw [← hnb]
        have HBN := Lib.hid HS.out.ne.2
        obtain ⟨bs, hbs⟩ : ∃ l, l = b0 :: b := ⟨_, rfl⟩
        rw [← hbs] at HK0 HNBL HBN
        clear hnb hbs
        go_wp2
        go_loopw [1, 13] (fun s1 s13 wr => ∃ (j m : Nat), s1 = .int .i64 (j : Int) ∧ s13 = .int .i64 (m : Int) ∧ m ≤ nb ∧ Hid (ScK w ls X wr j g9 k N TX xs An cn bs m)) (fun _ s13 _ => nb - (intOf s13).toNat)
        case atStart => exact ⟨j, 0, rfl, rfl, Nat.zero_le _, HK0⟩
        case round =>
          clear HK0
          obtain ⟨j, m, rfl, rfl, hm, HI⟩ := hrel
          have hjI : (j : Int) ≤ 140000 := by have := HI.out.le; have := HCN.out.2.2.2.2.1; omega
          by_cases hmn : m < nb
          · have hmn' : (m : Int) < (nb : Int) := by omega
            have hmb : m < bs.length := by have := HNBL.out; omega
            have g0 : wr.cell? ⟨g9, m, none⟩ = some (.string ⟨bs[m].toArray⟩) := by
              have := HI.out.sh.at_ m
              rw [this]
              unfold atxV
              simp [hmb]
            have hne := HBN.out _ (List.getElem_mem hmb)
            have HSE := Lib.hid (show X = Ac.shut k TX xs (bs[m] :: bs.drop (m + 1)) ((kxs ls).drop j) from by rw [HI.out.eq, List.drop_eq_getElem_cons hmb])
            have HKJ := Lib.hid (kxs_tx ls j)
            have HTJ := Lib.hid (fun v (hb : Below wr.heap.size wr v) => HTX.out v (HI.out.below.trans (hb.mono HI.out.below.size)) j)
            have HLJ := Lib.hid (fun (q : (tkAt ls j).2.1 = bs[m]) => tkAt_lt_of (ls := ls) (i := j) (Or.inr (by rw [q]; exact hne)))
            have HMN := Lib.hid hmn
            generalize bs[m] = tm at *
            generalize tkAt ls j = tj at *
            obtain ⟨tkj, txj, tpj⟩ := tj
            simp only at HKJ HTJ HLJ
            obtain ⟨NJ, hNJ⟩ : ∃ N : ByteArray, N = ⟨txj.toArray⟩ := ⟨_, rfl⟩
            obtain ⟨TM, hTM⟩ : ∃ N : ByteArray, N = ⟨tm.toArray⟩ := ⟨_, rfl⟩
            rw [← hNJ] at HTJ
            rw [← hTM] at g0
            have HNB2 := Lib.hid (show NJ.toList = txj ∧ TM.toList = tm from ⟨by rw [Lib.toList_data, hNJ], by rw [Lib.toList_data, hTM]⟩)
            have HY := Lib.hid (show g9 < wr.heap.size from HI.out.sh.lt)
            have HYG := Lib.hid g0
            clear hNJ hTM hne hmn hmb
            by_cases he : txj = tm
            · have hd3 : (NJ.toList != TM.toList) = false := by rw [HNB2.out.1, HNB2.out.2, he]; simp
              have hd4 : (NJ.toList == TM.toList) = true := by rw [HNB2.out.1, HNB2.out.2, he]; simp
              have HX2 := Lib.hid (show X = Ac.shut k TX xs (bs.drop (m + 1)) ((kxs ls).drop (j + 1)) from by rw [HSE.out, shut_go (HKJ.out.1.trans he), kxs_tail])
              have HJL := Lib.hid (HLJ.out he)
              clear he
              go_wp2_with fail
              go_region_held3 (fun w' => w'.cell? ⟨g9, m, none⟩ = some (.string TM)) (first | exact g0 | exact (HQ.out.cell (p := ⟨g9, m, none⟩) HY.out).trans HYG.out) (first | (go_at_call 64; refine (HTJ.out _ (by first | exact below_drewN (Below.refl _ _) _ | exact Below.refl _ _)).mono ?_; rintro e w6 ⟨rfl, hb6⟩; have HQ := Lib.hid (show Below wr.heap.size wr w6 from by first | exact hb6 | exact (below_drewN (Below.refl wr.heap.size wr) _).trans (hb6.mono (below_drewN (Below.refl wr.heap.size wr) _).size)); clear hb6))
              go_wp2
              go_roundw
              case rel =>
                have h6 := HI.out.on HQ.out
                exact ⟨j + 1, m + 1, by go_num, by go_num, HMN.out, Lib.hid ⟨h6.below, h6.res, h6.sb, h6.sh, h6.own, HX2.out, HJL.out⟩⟩
              case measure => have := HMN.out; simp [intOf]; omega
            · have hd3 : (NJ.toList != TM.toList) = true := by rw [HNB2.out.1, HNB2.out.2]; simpa using he
              have hd4 : (NJ.toList == TM.toList) = false := by rw [HNB2.out.1, HNB2.out.2]; simpa using he
              have HX := Lib.hid (show X = .bad (ls.length - j) 110 from by rw [HSE.out, shut_no (fun q => he (HKJ.out.1.symm.trans q)), kxs_rest])
              clear he
              go_wp2_with fail
              go_region_held3 (fun w' => w'.cell? ⟨g9, m, none⟩ = some (.string TM)) (first | exact g0 | exact (HQ.out.cell (p := ⟨g9, m, none⟩) HY.out).trans HYG.out) (first | (go_at_call 64; refine (HTJ.out _ (by first | exact below_drewN (Below.refl _ _) _ | exact Below.refl _ _)).mono ?_; rintro e w6 ⟨rfl, hb6⟩; have HQ := Lib.hid (show Below wr.heap.size wr w6 from by first | exact hb6 | exact (below_drewN (Below.refl wr.heap.size wr) _).trans (hb6.mono (below_drewN (Below.refl wr.heap.size wr) _).size)); clear hb6))
              have h6 := Lib.hid (HI.out.on HQ.out)
              have RS := h6.out.res
              have SS := h6.out.sb
              clear g0 hd3 hd4
              have x0 := RS.at_ 0
              have x1 := RS.at_ 1
              have x2 := RS.at_ 2
              have xf := fun j => RS.fz j
              have y0 := SS.at_ 0
              have y1 := SS.at_ 1
              have y2 := SS.at_ 2
              simp only [List.getElem?_toArray, List.getElem?_cons_zero, List.getElem?_cons_succ] at x0 x1 x2 y0 y1 y2
              repeat (first | go_values | go_skip | go_guarded | go_step | go_upon | (simp only [Int.not_lt, Int.not_le] at *; go_simp) | (go_values <;> (try go_simp)) | (go_ite <;> go_prune <;> (try go_simp)))
              refine bodyPost_ret (v := .tuple #[.agg #[(.int .u8 k), (.string N), (.slice An xs.length cn)], .int .i64 (j : Int), .int .i64 110]) (by simp [results, Tryz.results38, go_sem, x0, x1, x2]) rfl ?_
              rw [HX.out]
              exact ⟨(.int .u8 k), (.string N), (.slice An xs.length cn), j, ⟨⟨_, rfl⟩, ⟨_, rfl⟩, ⟨_, _, _, rfl⟩⟩, rfl, (by have := h6.out.le; omega), ((h6.out.below.setCell (p := ⟨w.heap.size, 0, none⟩) (Nat.le_refl _) _).setCell (p := ⟨w.heap.size, 1, none⟩) (Nat.le_refl _) _).setCell (p := ⟨w.heap.size, 2, none⟩) (Nat.le_refl _) _⟩
          · obtain rfl : m = nb := by omega
            have hmn' : ¬ (m : Int) < (m : Int) := by omega
            have HX := Lib.hid (show X = .ok ((kxs ls).drop j) ⟨k, TX, xs⟩ from by
              rw [HI.out.eq, List.drop_of_length_le (by rw [← HNBL.out]; exact Nat.le_refl _)]; rfl)
            have x0 : wr.cell? ⟨w.heap.size, 0, none⟩ = some (.int .u8 0) := HI.out.res.at_ 0
            have x1 : wr.cell? ⟨w.heap.size, 1, none⟩ = some (.string ⟨#[]⟩) := HI.out.res.at_ 1
            have x2 : wr.cell? ⟨w.heap.size, 2, none⟩ = some (.slice none 0 0) := HI.out.res.at_ 2
            have xf := fun j => HI.out.res.fz j
            have y0 : wr.cell? ⟨w.heap.size + 1, 0, none⟩ = some (.int .u8 k) := HI.out.sb.at_ 0
            have y1 : wr.cell? ⟨w.heap.size + 1, 1, none⟩ = some (.string N) := HI.out.sb.at_ 1
            have y2 : wr.cell? ⟨w.heap.size + 1, 2, none⟩ = some (.slice An xs.length cn) := HI.out.sb.at_ 2
            clear hmn
            repeat (first | go_values | go_skip | go_guarded | go_step | go_upon | (simp only [Int.not_lt, Int.not_le] at *; go_simp) | (go_values <;> (try go_simp)) | (go_ite <;> go_prune <;> (try go_simp)))
            refine bodyPost_ret (v := .tuple #[.agg #[.int .u8 k, .string N, .slice An xs.length cn], .int .i64 (j : Int), .int .i64 0]) (by simp [results, Tryz.results38, go_sem, x0, x1, x2]) rfl ?_
            rw [HX.out]
            refine ⟨An, cn, j, by rw [HN1.out], rfl, HI.out.le, ?_, ((HI.out.below.setCell (p := ⟨w.heap.size, 0, none⟩) (Nat.le_refl _) _).setCell (p := ⟨w.heap.size, 1, none⟩) (Nat.le_refl _) _).setCell (p := ⟨w.heap.size, 2, none⟩) (Nat.le_refl _) _⟩
            have b0 := HI.out.res
            have b1 := b0.set 0 (.int .u8 k)
            have b2 := b1.set 1 (.string N)
            exact own_set (own_set (own_set HI.out.own b0 (by decide) 0 _) b1 (by decide) 1 _) b2 (by decide) 2 _
end Go.Proofs.YtmmdigeciphglaaGreatDoor
