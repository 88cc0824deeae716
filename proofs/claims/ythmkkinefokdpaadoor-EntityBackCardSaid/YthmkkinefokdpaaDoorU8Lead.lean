/- The functions of package utf that go through a text, walked. Condition: the tables hold what their texts lay. -/
import Derived.Test.YthmkkinefokdpaaDoorU8Walk
namespace Go.Proofs.YthmkkinefokdpaaDoor
open Go.RowKit

theorem string_toList_ne {s : ByteArray} (h : s.data.toList ≠ []) : s.toList.isEmpty = false := by
  rw [Lib.toList_data]
  cases e : s.data.toList with
  | nil => exact absurd e h
  | cons _ _ => rfl

/-- What Valid answers. -/
def vld (l : List UInt8) : Int × Int := if (U8.lead l).2 < l.length then (((U8.lead l).2 : Int), 10) else (0, 0)

end Go.Proofs.YthmkkinefokdpaaDoor
