/- Dimensions as values; the contracts of Right and inRange. -/
import Derived.Below
import Derived.Laws.Rows
import Derived.Laws.Tables
import Derived.IntWalk
import Derived.OwnWalk
import Derived.Deep.Draws
import Derived.Deep.QuietTactic
import Derived.BigQuiet
import Derived.Deep.LoopGhost
import Derived.Test.YtgncnkojpedmdaaChecked
import Derived.Test.YtgncnkojpedmdaaPA2
set_option maxRecDepth 100000
namespace Go.Proofs.Ytgncnkojpedmdaa.Dm
open Go.RowKit

/-- What a call returns, where nothing that was there is turned. -/
def Gives (v : Value) (w : World) (e : Ending) (w' : World) : Prop := e = .returned v ∧ RowKit.Below w.heap.size w w'
/-- A dimension's cells. -/
def cl (f : Nat → Int) : Array Value := #[.int .i64 (f 0), .int .i64 (f 1), .int .i64 (f 2), .int .i64 (f 3), .int .i64 (f 4), .int .i64 (f 5)]
end Go.Proofs.Ytgncnkojpedmdaa.Dm
