/- The functions of package num that reckon, walked: each does, of every two numbers of 64 bits, what the plain facts tell, and turns nothing that was there. -/
import Derived.Test.YtphmheonlndaiaaGreatDoorShelf
import Derived.Test.YtphmheonlndaiaaGreatDoorNuPlain
import Derived.WalkKit
import Derived.WalkLawsBesides
import Derived.Outline
import Derived.Handy
import Derived.Lib.OthersKept
import Derived.Lib.Hide
import Derived.WalkSmall
import Derived.Deep.DeepFit
import Derived.Deep.QuietTactic
import Derived.BigQuiet
import Derived.WalkSpells
import Derived.IntWalk
namespace Go.Proofs.YtphmheonlndaiaaGreatDoor
open Go.RowKit

def tv (p : Int × Int) : Value := .tuple #[.int .i64 p.1, .int .i64 p.2]

/-- What Div tells. -/
def Nu.div (a b : Int) : Int × Int := if b = 0 then (0, 61) else Nu.tell (a.tdiv b)
def Nu.mod (a b : Int) : Int × Int := if b = 0 then (0, 61) else Nu.tell (a.tmod b)
end Go.Proofs.YtphmheonlndaiaaGreatDoor
