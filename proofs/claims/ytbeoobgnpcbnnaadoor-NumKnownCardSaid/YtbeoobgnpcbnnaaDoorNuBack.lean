/- The law NumBack, walked: it answers true. Conditions: the listed table and the sentinel hold what their texts lay; numbers are of 64 bits. -/
import Derived.Test.YtbeoobgnpcbnnaaDoorNuBackN
import Derived.Test.YtbeoobgnpcbnnaaDoorNuBackZ
import Derived.Test.YtbeoobgnpcbnnaaDoorNuBackP
namespace Go.Proofs.YtbeoobgnpcbnnaaDoor
open Go.RowKit

theorem lawBack (a b : Int) (s : ByteArray) (w : World) (T : Tb w) (ha : Nu.fits a) (hb : Nu.fits b) :
    Calls Tryd.prog 6 #[.int .i64 a, .int .i64 b, .string s] w fun e w' => e = .returned (.bool true) ∧ Below w.heap.size w w' := by
  rcases Int.lt_trichotomy (a.tmod b) 0 with hr | hr | hr
  · exact lawBackN a b s w T ha hb hr
  · exact lawBackZ a b s w T ha hb hr
  · exact lawBackP a b s w T ha hb hr
end Go.Proofs.YtbeoobgnpcbnnaaDoor
