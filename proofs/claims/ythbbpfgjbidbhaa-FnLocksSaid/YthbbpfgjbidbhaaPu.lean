/- The model's l5PutRead: a list with a read put in its place, in memory of its own. -/
import Derived.Test.YthbbpfgjbidbhaaAo
import Derived.Test.YthbbpfgjbidbhaaIns
namespace Go.Proofs.Ythbbpfgjbidbhaa.pu
open Go.ChangeShapes Go.WideShapes Go.ChangeAt Go.RowKit
open Go.Proofs.Ythbbpfgjbidbhaa.el2 Go.Proofs.Ythbbpfgjbidbhaa.tx Go.Proofs.Ythbbpfgjbidbhaa.seq Go.Proofs.Ythbbpfgjbidbhaa.tv Go.Proofs.Ythbbpfgjbidbhaa.tf Go.Proofs.Ythbbpfgjbidbhaa.ap Go.Proofs.Ythbbpfgjbidbhaa.bx Go.Proofs.Ythbbpfgjbidbhaa.cl Go.Proofs.Ythbbpfgjbidbhaa.lc Go.Proofs.Ythbbpfgjbidbhaa.ins Go.Proofs.Ythbbpfgjbidbhaa.rx Go.Proofs.Ythbbpfgjbidbhaa.ao
set_option linter.unusedVariables false
set_option linter.unusedSimpArgs false
end Go.Proofs.Ythbbpfgjbidbhaa.pu
