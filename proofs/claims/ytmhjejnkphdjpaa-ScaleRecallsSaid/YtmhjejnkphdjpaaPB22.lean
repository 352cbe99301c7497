/- Dimensions as values; the contracts of Right and inRange. -/
import Derived.Below
import Derived.Laws.Rows
import Derived.Laws.Tables
import Derived.IntWalk
import Derived.OwnWalk
import Derived.Deep.Draws
import Derived.Deep.QuietTactic
import Derived.BigQuiet
import Derived.Deep.LoopGhost
import Derived.Test.YtmhjejnkphdjpaaChecked
import Derived.Test.YtmhjejnkphdjpaaPB21
set_option maxRecDepth 100000
namespace Go.Proofs.Ytmhjejnkphdjpaa.Dm
open Go.RowKit

/-- What a call returns, where nothing that was there is turned. -/
def Gives (v : Value) (w : World) (e : Ending) (w' : World) : Prop := e = .returned v ∧ RowKit.Below w.heap.size w w'
end Go.Proofs.Ytmhjejnkphdjpaa.Dm
