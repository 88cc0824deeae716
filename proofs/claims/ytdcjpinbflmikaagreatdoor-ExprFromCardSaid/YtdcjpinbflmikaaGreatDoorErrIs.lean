/- errors.Is at a sentinel of errors.New's make, walked: of nil, and of an error of strconv's that wraps the sentinel itself. Condition: where the wrapping error's block lies. -/
import Derived.Test.YtdcjpinbflmikaaGreatDoorChecked
import Derived.WalkKit
import Derived.LaidEql
import Derived.Stop.Asserts
import Derived.RowKitTokens
import Derived.Outline
namespace Go.Proofs.YtdcjpinbflmikaaGreatDoor
open Go.RowKit Go.Extern.Stop Go.Stop Go.Extern

theorem isTypeOf (v : Value) (w : World) : (Extern.ReflectliteType.typeOf #[.iface 361 v]).run Tryz.prog w = .ok (.iface 339 (.agg #[.pointer (some ⟨11, 361, none⟩)])) w := by kernel_rfl
theorem isComparable (w : World) : ((Extern.ReflectliteType.method fun t => do Extern.Rtype.noPackHeld "Comparable" t; (fun a => Value.bool a.comparable) <$> typeInfo t) #[.agg #[.pointer (some ⟨11, 361, none⟩)]]).run Tryz.prog w = .ok (.bool true) w := by kernel_rfl
theorem isMethodComparable (v : Value) (w : World) : (Go.method 493 339 v "Comparable").run Tryz.prog w = .ok (306, v) w := by kernel_rfl
theorem isComp : (Tryz.prog.info? 361).map (·.comparable) = some true := by kernel_rfl
theorem isSize : (Tryz.prog.info? 363).map (·.size) = some 1 := by kernel_rfl
theorem noIsW (v : Value) (xT : TypeId) (w : World) : (Instr.typeAssert (.iface 335 v) xT 341 true).run Tryz.prog w = .ok (.tuple #[.nilIface, .bool false]) w := run_typeAssert_lacksB Tryz.underlying341 (by kernel_rfl) (by kernel_rfl) v xT w
theorem hasUnwrapW (v : Value) (xT : TypeId) (w : World) : (Instr.typeAssert (.iface 335 v) xT 344 true).run Tryz.prog w = .ok (.tuple #[.iface 335 v, .bool true]) w := run_typeAssert_hasB Tryz.underlying344 (by kernel_rfl) v xT w
theorem methodUnwrap (v : Value) (w : World) : (Go.method 493 335 v "Unwrap").run Tryz.prog w = .ok (302, v) w := by kernel_rfl

/-- errors.Is(nil, x). -/
theorem is_nil (b : Addr) (w : World) :
    Calls Tryz.prog 237 #[.nilIface, .iface 361 (.pointer (some b))] w fun e w' => e = .returned (.bool false) ∧ w' = w := by
  have hn := run_eql_iface_nil_left (P := Tryz.prog) w 361 (.pointer (some b)) Tryz.underlying237
  go_enter Tryz.func237, Tryz.ntmps237
  go_wp2
  go_ret
  exact ⟨rfl, rfl⟩
set_option maxHeartbeats 1000000 in
set_option maxRecDepth 100000 in
/-- errors.Is(e, x), e a *strconv.NumError that wraps x itself: one Unwrap, then equal. -/
theorem is_wrap_same (pb : Nat) (b : Addr) (w : World) (h1 : w.cell? ⟨pb, 2, none⟩ = some (.iface 361 (.pointer (some b)))) :
    Calls Tryz.prog 237 #[.iface 335 (.pointer (some ⟨pb, 0, none⟩)), .iface 361 (.pointer (some b))] w fun e w' => e = .returned (.bool true) ∧ w' = w := by
  obtain ⟨i, hi, hcmp⟩ := Option.map_eq_some_iff.1 isComp
  obtain ⟨j, hj, hjs⟩ := Option.map_eq_some_iff.1 isSize
  have h8 := @run_callFunc_extern Tryz.prog 257 _ Extern.ReflectliteType.typeOf Tryz.func257 (by kernel_rfl) (by kernel_rfl) (by kernel_rfl) (by kernel_rfl)
  have h32 := @run_callFunc_extern Tryz.prog 306 _ (Extern.ReflectliteType.method fun t => do Extern.Rtype.noPackHeld "Comparable" t; pure (.bool (← typeInfo t).comparable)) Tryz.func306 (by kernel_rfl) (by kernel_rfl) (by kernel_rfl) (by kernel_rfl)
  have tT := isTypeOf
  have cT := isComparable
  have mR := isMethodComparable
  have nW := noIsW
  have uW := hasUnwrapW
  have mU := methodUnwrap
  have heq := run_eql_iface_ptr_same (P := Tryz.prog) w b Tryz.underlying237 Tryz.underlying361 hi hcmp hj
  have hty := run_eql_iface_types (P := Tryz.prog) 335 361 (.pointer (some ⟨pb, 0, none⟩)) (.pointer (some b)) Tryz.underlying237 (by decide) w
  go_enter Tryz.func237, Tryz.ntmps237
  go_wp2
  refine wp_loop_rounds 2 ?_
  rw [rounds_succ]
  go_wp2
  rw [rounds_succ]
  go_wp2
  go_ret
  exact ⟨rfl, rfl⟩
end Go.Proofs.YtdcjpinbflmikaaGreatDoor
