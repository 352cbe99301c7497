/- kitbagref04: Int. WRITTEN by big/gen_rint.py. -/
import Derived.Test.YtnddickcnfodfaaGreatDoorLBt15
set_option maxRecDepth 100000
namespace Go.Proofs.YtnddickcnfodfaaGreatDoor.Bi
open Go.RowKit

end Go.Proofs.YtnddickcnfodfaaGreatDoor.Bi
