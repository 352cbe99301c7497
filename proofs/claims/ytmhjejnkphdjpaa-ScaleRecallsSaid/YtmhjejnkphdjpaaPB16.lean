/- kitbagref04: Read. WRITTEN by big/gen_rread.py. -/
import Derived.Test.YtmhjejnkphdjpaaPB15
set_option maxRecDepth 100000
namespace Go.Proofs.Ytmhjejnkphdjpaa.Bi
open Go.RowKit

/-- What Read leaves. -/
def ReadP (rs : Option Int) (w : World) (e : Ending) (w' : World) : Prop := match rs with | some z => Ans z 0 w e w' | none => Ans 0 2 w e w'
theorem ReadP.some {rs : Option Int} {z : Int} {w w' : World} {e : Ending} (h : rs = Option.some z) (ha : Ans z 0 w e w') : ReadP rs w e w' := by subst h; exact ha
end Go.Proofs.Ytmhjejnkphdjpaa.Bi
