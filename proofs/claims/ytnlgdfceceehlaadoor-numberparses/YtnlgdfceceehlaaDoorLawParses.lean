/- The law of texts that are read. -/
import Derived.Test.YtnlgdfceceehlaaDoorAlive
import Derived.Test.YtnlgdfceceehlaaDoorRefWhole
namespace Go.Proofs.YtnlgdfceceehlaaDoor
open Go.RowKit

set_option maxHeartbeats 2000000 in
set_option maxRecDepth 100000 in
theorem parses_any (l : List UInt8) (w : World) (hE : Env w) (hl : l.length ≤ 140737488351232) :
    Calls Tryd.prog 3 #[.string ⟨l.toArray⟩] w fun e w' => e = .returned (.bool true) ∧ Below w.heap.size w w' := by
  have HP := hid (parse_any l w)
  have HR := hid (fun W => rparse_any l W hl)
  have HL := hid (fun (W : World) (hb : Below w.heap.size w W) => alive_any W (hE.below hb hE.room))
  generalize tellV l = V at *
  generalize tellE l = E at *
  clear hE hl
  go_enter Tryd.func3, Tryd.ntmps3
  go_wp2_with fail
  refine HP.out.mono ?_; rintro e w1 ⟨rfl, hb1⟩
  have HB1 := hid hb1.out
  clear hb1
  go_wp2_with fail
  refine (HR.out _).mono ?_; rintro e w2 ⟨rfl, hb2⟩
  have HB2 := hid (HB1.out.trans (hb2.mono HB1.out.size))
  clear hb2
  go_wp2_with fail
  refine (HL.out _ HB2.out).mono ?_; rintro e w3 ⟨rfl, hb3⟩
  have HB3 := hid (HB2.out.trans (hb3.out.mono HB2.out.size))
  clear hb3
  go_wp2_with fail
  go_ret
  exact ⟨rfl, HB3.out⟩

end Go.Proofs.YtnlgdfceceehlaaDoor
