/- The law of what was read and is written again. -/
import Derived.Test.YtnlgdfceceehlaaDoorAlive
namespace Go.Proofs.YtnlgdfceceehlaaDoor
open Go.RowKit

/-- what is told without an error is a number's writing -/
theorem tell_zero {l : List UInt8} (h : tellE l = 0) : Lib.itoa (tellV l) = l ∧ -9223372036854775808 ≤ tellV l ∧ tellV l ≤ 9223372036854775807 := by
  cases hF : formed l
  · rw [(tell_bad hF).2] at h; cases h
  · cases hf : fits l
    · rw [(tell_over hF hf).2] at h; cases h
    · rw [(tell_ok hF hf).1]
      exact ⟨itoa_num hF, num_fits hf⟩
set_option maxHeartbeats 2000000 in
set_option maxRecDepth 100000 in
theorem again_any (l : List UInt8) (w : World) (hE : Env w) (_hl : l.length ≤ 140737488351232) :
    Calls Tryd.prog 5 #[.string ⟨l.toArray⟩] w fun e w' => e = .returned (.bool true) ∧ Below w.heap.size w w' := by
  have HP := hid (parse_any l w)
  have HL := hid (fun (W : World) (hb : Below w.heap.size w W) => alive_any W (hE.below hb hE.room))
  by_cases hz : tellE l = 0
  · obtain ⟨h1, h2, h3⟩ := tell_zero hz
    have HI := hid (fun (W : World) (hb : Below w.heap.size w W) => print_any (tellV l) W (hE.below hb hE.room) h2 h3)
    rw [h1] at HI
    rw [hz] at HP
    generalize tellV l = V at *
    clear hE hz h1
    go_enter Tryd.func5, Tryd.ntmps5
    go_wp2_with fail
    refine HP.out.mono ?_; rintro e w1 ⟨rfl, hb1⟩
    go_wp2_with fail
    refine (HL.out _ hb1.out).mono ?_; rintro e w2 ⟨rfl, hb2⟩
    have HB := hid (hb1.out.trans (hb2.out.mono hb1.out.size))
    clear hb1 hb2
    go_wp2_with fail
    refine (HI.out _ HB.out).mono ?_; rintro e w3 ⟨rfl, hb3⟩
    have HB3 := hid (HB.out.trans (hb3.mono HB.out.size))
    clear hb3
    go_wp2_with fail
    go_ret
    exact ⟨rfl, HB3.out⟩
  · have hne : (tellE l != 0) = true := by simp [hz]
    generalize tellV l = V at *
    generalize tellE l = E at *
    clear hE hz
    go_enter Tryd.func5, Tryd.ntmps5
    go_wp2_with fail
    refine HP.out.mono ?_; rintro e w1 ⟨rfl, hb1⟩
    go_wp2_with fail
    refine (HL.out _ hb1.out).mono ?_; rintro e w2 ⟨rfl, hb2⟩
    have HB := hid (hb1.out.trans (hb2.out.mono hb1.out.size))
    clear hb1 hb2
    go_wp2_with fail
    go_ret
    exact ⟨rfl, HB.out⟩

end Go.Proofs.YtnlgdfceceehlaaDoor
