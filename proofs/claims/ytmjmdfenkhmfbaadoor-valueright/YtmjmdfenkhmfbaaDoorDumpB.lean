/- Bytes of the call's own as a text; how long a right value's bytes are. -/
import Derived.Test.YtmjmdfenkhmfbaaDoorBody2
import Derived.Deep.RegionLaw
namespace Go.Proofs.YtmjmdfenkhmfbaaDoor
open Go.RowKit

end Go.Proofs.YtmjmdfenkhmfbaaDoor
