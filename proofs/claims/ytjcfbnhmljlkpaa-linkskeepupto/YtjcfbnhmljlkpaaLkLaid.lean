/- Nothing is listed: one world that has it all. -/
import Derived.Test.YtjcfbnhmljlkpaaBase
import Derived.Test.YtjcfbnhmljlkpaaRows
import Derived.MakeChecks
import Derived.LaidLaws
namespace Go.Proofs.Ytjcfbnhmljlkpaa
open Go.RowKit

def listed : List (String × DataW Unit) := []
def laidWorld (P : Program) (os : Os) : World := World.holding P os ⟨#[], #[], []⟩
theorem laid_met (os : Os) (args : Array Value) : laidMet Try.prog listed ((laidWorld Try.prog os).forCall (fun _ _ => 0) ⟨#[], args, []⟩).memory :=
  laidMet_of_run' 8 (by kernel_rfl) (by kernel_rfl)

end Go.Proofs.Ytjcfbnhmljlkpaa
