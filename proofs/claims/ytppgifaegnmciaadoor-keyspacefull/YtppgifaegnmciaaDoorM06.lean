/- RefRight. -/
import Derived.BigQuiet
import Derived.WalkLawsBesides
import Derived.Test.YtppgifaegnmciaaDoorM04
namespace Go.Proofs.YtppgifaegnmciaaDoor
open Go.RowKit

end Go.Proofs.YtppgifaegnmciaaDoor
