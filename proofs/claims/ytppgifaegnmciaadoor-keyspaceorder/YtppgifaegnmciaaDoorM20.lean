/- Body, Body2, DumpB, Dump, SizeT. -/
import Derived.Lib.AppendStr
import Derived.Test.YtppgifaegnmciaaDoorM16
import Derived.Deep.RegionLaw
namespace Go.Proofs.YtppgifaegnmciaaDoor
open Go.RowKit

end Go.Proofs.YtppgifaegnmciaaDoor

namespace Go.Proofs.YtppgifaegnmciaaDoor
open Go.RowKit

end Go.Proofs.YtppgifaegnmciaaDoor

namespace Go.Proofs.YtppgifaegnmciaaDoor
open Go.RowKit

end Go.Proofs.YtppgifaegnmciaaDoor

namespace Go.Proofs.YtppgifaegnmciaaDoor
open Go.RowKit

end Go.Proofs.YtppgifaegnmciaaDoor

namespace Go.Proofs.YtppgifaegnmciaaDoor
open Go.RowKit

end Go.Proofs.YtppgifaegnmciaaDoor
