/- The program's dict of texts: all that its methods do. -/
import Derived.Test.YtphegggekcjenaaDoorDSAll
namespace Go.Proofs.YtphegggekcjenaaDoor
open Go.RowKit

theorem methS (B : Nat) (hB : 0 < B) : MethS Tab B (DS.Dq B) where
  turn := DS.dq_turn
  base := DS.dq_base
  lt := DS.dq_lt
  srt := DS.dq_srt
  new := DS.dq_new hB
  put := DS.dq_put
  get := DS.dq_get
  length := DS.dq_len
  names := DS.dq_names

end Go.Proofs.YtphegggekcjenaaDoor
