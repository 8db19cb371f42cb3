/- The model's l5PutRead: a list with a read put in its place, in memory of its own. -/
import Derived.Test.YtcfmpnhnahafpaaAo
import Derived.Test.YtcfmpnhnahafpaaIns
namespace Go.Proofs.Ytcfmpnhnahafpaa.pu
open Go.ChangeShapes Go.WideShapes Go.ChangeAt Go.RowKit
open Go.Proofs.Ytcfmpnhnahafpaa.el2 Go.Proofs.Ytcfmpnhnahafpaa.tx Go.Proofs.Ytcfmpnhnahafpaa.seq Go.Proofs.Ytcfmpnhnahafpaa.tv Go.Proofs.Ytcfmpnhnahafpaa.tf Go.Proofs.Ytcfmpnhnahafpaa.ap Go.Proofs.Ytcfmpnhnahafpaa.bx Go.Proofs.Ytcfmpnhnahafpaa.cl Go.Proofs.Ytcfmpnhnahafpaa.lc Go.Proofs.Ytcfmpnhnahafpaa.ins Go.Proofs.Ytcfmpnhnahafpaa.rx Go.Proofs.Ytcfmpnhnahafpaa.ao
set_option linter.unusedVariables false
set_option linter.unusedSimpArgs false
end Go.Proofs.Ytcfmpnhnahafpaa.pu
