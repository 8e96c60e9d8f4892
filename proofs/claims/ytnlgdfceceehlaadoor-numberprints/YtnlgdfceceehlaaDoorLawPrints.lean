/- The law of what is written and read again. -/
import Derived.Test.YtnlgdfceceehlaaDoorAlive
import Derived.Test.YtnlgdfceceehlaaDoorRefDigits
namespace Go.Proofs.YtnlgdfceceehlaaDoor
open Go.RowKit

set_option maxHeartbeats 2000000 in
set_option maxRecDepth 100000 in
theorem prints_any (n : Int) (w : World) (hE : Env w) (n0 : -9223372036854775808 ≤ n) (n1 : n ≤ 9223372036854775807) :
    Calls Tryd.prog 4 #[.int .i64 n] w fun e w' => e = .returned (.bool true) ∧ Below w.heap.size w w' := by
  have HI := hid (print_any n w hE n0 n1)
  have HP := hid (fun W => parse_any (Lib.itoa n) W)
  obtain ⟨h1, h2, h3⟩ := itoa_formed n n0 n1
  obtain ⟨h4, h5⟩ := tell_ok h1 h2
  rw [h4, h5, h3] at HP
  have HL := hid (fun (W : World) (hb : Below w.heap.size w W) => alive_any W (hE.below hb hE.room))
  have HD := hid (fun W => digits_any n W n0 n1)
  generalize Lib.itoa n = T at *
  clear hE h1 h2 h3 h4 h5
  go_enter Tryd.func4, Tryd.ntmps4
  go_wp2_with fail
  refine HI.out.mono ?_; rintro e w1 ⟨rfl, hb1⟩
  have HB1 := hid hb1
  clear hb1
  go_wp2_with fail
  refine (HP.out _).mono ?_; rintro e w2 ⟨rfl, hb2⟩
  have HB2 := hid (HB1.out.trans (hb2.out.mono HB1.out.size))
  clear hb2
  go_wp2_with fail
  refine (HL.out _ HB2.out).mono ?_; rintro e w3 ⟨rfl, hb3⟩
  have HB3 := hid (HB2.out.trans (hb3.out.mono HB2.out.size))
  clear hb3
  go_wp2_with fail
  refine (HD.out _).mono ?_; rintro e w4 ⟨rfl, hb4⟩
  have HB4 := hid (HB3.out.trans (hb4.mono HB3.out.size))
  clear hb4
  go_wp2_with fail
  go_ret
  exact ⟨rfl, HB4.out⟩

end Go.Proofs.YtnlgdfceceehlaaDoor
