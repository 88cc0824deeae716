/- Facts and walks for the statement. -/
import Derived.Test.YtmmdigeciphglaaGreatDoorPzB26
import Derived.Test.YtmmdigeciphglaaGreatDoorPzC00
import Derived.Lib.Bytealg
import Derived.Lib.ItoaNum
import Derived.Lib.ParseIntBCases
import Derived.WalkKit
import Derived.BigQuiet
import Derived.WalkSmall
import Derived.Lib.IndexLaws
import Derived.Deep.AppendLies
import Derived.OwnWalk
import Derived.Lib.OthersKept
import Derived.Lib.Hide
import Derived.Test.YtmmdigeciphglaaGreatDoorProg
import Derived.Laws.EntriesVeiled
import Derived.Lib.CutLaws
import Derived.Deep.RegionHeld3
import Derived.WalkLawsBesides
import Derived.Outline
import Derived.Handy
import Derived.Deep.DeepFit
import Derived.Deep.QuietTactic
import Derived.WalkSpells
import Derived.IntWalk
import Derived.Test.YtmmdigeciphglaaGreatDoorChecked
import Derived.LaidEql
import Derived.Stop.Asserts
import Derived.RowKitTokens
import Derived.Lib.SmallJoins
import Derived.Lib.LaidTab
import Derived.Deep.RegionLaw
import Derived.Deep.CutRange
import Derived.StillTailTactics
import Derived.Laws.Externs
import Derived.Lib.FrozenHead2
import Derived.Lib.UnsafeStr
import Derived.Deep.RegionWith
import Derived.Deep.DeepMust
import Derived.Test.YtmmdigeciphglaaGreatDoorPzC01
namespace Go.Proofs.YtmmdigeciphglaaGreatDoor
open Ex
theorem kgo_eq {ns ns' : List Ty.Nm} : ∀ (r : List Nd) (l : List Nat), (∀ n ∈ r, n.op = 2 → (n.nm ∈ ns ↔ n.nm ∈ ns')) → Ty.kgo ns r l = Ty.kgo ns' r l
  | [], _, _ => rfl
  | n :: r, l, h => by
    have e : Ty.kd n l ns = Ty.kd n l ns' := by
      unfold Ty.kd
      have hc : (n.op = 2 ∧ n.nm ∉ ns) ↔ (n.op = 2 ∧ n.nm ∉ ns') := ⟨fun q => ⟨q.1, fun m => q.2 ((h n (List.mem_cons_self ..) q.1).2 m)⟩, fun q => ⟨q.1, fun m => q.2 ((h n (List.mem_cons_self ..) q.1).1 m)⟩⟩
      by_cases hq : n.op = 2 ∧ n.nm ∉ ns
      · rw [if_pos hq, if_pos (hc.1 hq)]
      · rw [if_neg hq, if_neg (fun q => hq (hc.2 q))]
    unfold Ty.kgo
    rw [e]
    by_cases h0 : Ty.kd n l ns' = 0
    · rw [if_pos h0, if_pos h0]
    · rw [if_neg h0, if_neg h0]
      exact kgo_eq r _ (fun m hm => h m (List.mem_cons_of_mem _ hm))
theorem kds_zero {l : List Nd} {ns : List Ty.Nm} (h : chk l = 0) : kds l ns = Ty.kgo ns l [] := if_neg (fun q => q h)
theorem kds_non {l : List Nd} {ns : List Ty.Nm} (h : chk l ≠ 0) : (ofs (kds l ns)).1 = 0 := by
  have e : (kds l ns).2.2 ≠ 0 := fun q => h (kds_ok q).1
  unfold ofs
  rw [if_pos e]
theorem isI_all {vs K : List Ty.Nm} (l : List Nd) (hK : ∀ q, q ∈ K ↔ q = argW ∨ q ∈ vs) : isI vs l = decide ((ofs (kds l K)).1 = 1) := by
  unfold isI
  by_cases hc : chk l = 0
  · have hd : dep l ≠ 0 := fun q => by unfold chk at hc; rw [if_pos q] at hc; cases hc
    have hn : nmsP l = Ty.nms l [] := if_neg hd
    rw [hn, kds_zero hc, kds_zero hc]
    have hm : ∀ q, q ∈ Ty.nms l [] ↔ ∃ n ∈ l, n.op = 2 ∧ n.nm = q := fun q => by
      rw [Ty.nms_mem]
      exact ⟨fun h => h.elim (fun h => by cases h) id, Or.inr⟩
    by_cases ha : ∀ q ∈ Ty.nms l [], q = argW ∨ q ∈ vs
    · have e1 : (Ty.nms l []).all (fun q => decide (q = argW ∨ q ∈ vs)) = true := List.all_eq_true.2 (fun q hq => decide_eq_true (ha q hq))
      rw [e1, Bool.true_and, kgo_eq (ns' := K) l [] (fun n hn h2 => ⟨fun h => (hK _).2 (ha _ h), fun _ => (hm _).2 ⟨n, hn, h2, rfl⟩⟩)]
    · have e1 : (Ty.nms l []).all (fun q => decide (q = argW ∨ q ∈ vs)) = false := by
        rw [Bool.eq_false_iff]
        intro q
        exact ha (fun x hx => of_decide_eq_true (List.all_eq_true.1 q x hx))
      rw [e1, Bool.false_and]
      have e2 : (Ty.kgo K l []).2.2 ≠ 0 := fun h => ha (fun q hq => by
        obtain ⟨n, h1, h2, h3⟩ := (hm q).1 hq
        rw [← h3]
        exact (hK _).1 (Ty.kgo_names l [] h n h1 h2))
      refine (decide_eq_false (fun h => ?_)).symm
      unfold ofs at h
      rw [if_pos e2] at h
      cases h
  · rw [kds_non hc, kds_non hc]
    simp
end Go.Proofs.YtmmdigeciphglaaGreatDoor
