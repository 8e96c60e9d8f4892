/- The law of scripts. -/
import Derived.Test.YtphegggekcjenaaDoorAlive
namespace Go.Proofs.YtphegggekcjenaaDoor
open Go.RowKit

set_option maxHeartbeats 2000000 in
set_option maxRecDepth 100000 in
theorem all_any {V : World → Prop} {B : Nat} {Dq : World → Nat → (Nat → Prop) → DM Int → Prop} (M : MethI V B Dq) (p : Option Addr) (ops : List OpI) (cp : Nat) (w : World) (hV : V w) (hB : B ≤ w.heap.size) (hO : OpsI w p ops) (hN : ∀ o ∈ ops, o.name.length ≤ 140737488351232) (hn : ops.length ≤ 9223372036854775807) :
    Calls Tryd.prog 3 #[.slice p ops.length cp] w fun e w' => e = .returned (.bool true) ∧ Below w.heap.size w w' := by
  have HM := hid M
  have HV := hid hV
  by_cases hbig : 600 < ops.length
  · have HG := hid (begun_big M p ops.length cp w hV hB hbig hn)
    clear M hV hN hO
    go_enter Tryd.func3, Tryd.ntmps3
    go_wp2_with fail
    refine HG.out.mono ?_; rintro e w1 ⟨rfl, hh⟩
    have HB1 := hid (hh.out.trans ((below_alloc w1 (.cells #[.slice none 0 0, .int .i64 4, .int .i64 0] 26)).mono hh.out.size))
    clear hh
    go_wp2_with fail
    refine (alive_any HM.out _ (HM.out.envB HV.out hB hB HB1.out) (Nat.le_trans hB HB1.out.size)).mono ?_; rintro e w2 ⟨rfl, hh⟩
    have HB2 := hid (HB1.out.trans (hh.out.mono HB1.out.size))
    clear hh
    go_wp2_with fail
    go_ret
    exact ⟨rfl, HB2.out⟩
  · have HG := hid (begun_any M p ops cp w hV hB hO hN (by omega))
    have HSm := hid ((small_run ops ops.length (Nat.le_refl _)).mono (show ops.length ≤ 100000 by omega))
    rw [List.take_length] at HSm
    generalize runD newD ops = D at *
    clear M hV hN hO
    go_enter Tryd.func3, Tryd.ntmps3
    go_wp2_with fail
    refine HG.out.mono ?_; rintro e w1 ⟨b, q, d, rfl, hh⟩
    obtain ⟨O, hO⟩ := hh.out
    have HA1 := hid (below_alloc w1 (.cells #[.slice q D.L.length d, .int .i64 D.rooms, .int .i64 D.left] 26))
    have HX1 := hid (heap_alloc_new w1 (.cells #[.slice q D.L.length d, .int .i64 D.rooms, .int .i64 D.left] 26))
    have HD1 := hid (HM.out.below hO.1 HA1.out)
    have HI1 := hid (hO.2.2.1.below HA1.out)
    have HB1 := hid (hO.2.2.2.trans (HA1.out.mono hO.2.2.2.size))
    clear hh hO
    go_wp2_with fail
    refine (alive_any HM.out _ (HM.out.envB HV.out hB hB HB1.out) (Nat.le_trans hB HB1.out.size)).mono ?_; rintro e w2 ⟨rfl, hh⟩
    have HB2 := hid (HB1.out.trans (hh.out.mono HB1.out.size))
    have HD2 := hid (HM.out.below HD1.out hh.out)
    have HI2 := hid (HI1.out.below hh.out)
    obtain ⟨⟨y0, y1, y2⟩, -⟩ := rd_facts ((hh.out.block w1.heap.size (by simp)).trans HX1.out)
    clear hh
    go_wp2_with fail
    refine (stands_any HM.out b O D _ w2 HD2.out HI2.out HSm.out).mono ?_; rintro e w3 ⟨rfl, hh⟩
    have HB3 := hid (HB2.out.trans (hh.out.mono HB2.out.size))
    clear hh
    go_wp2_with fail
    go_ret
    exact ⟨rfl, HB3.out⟩

end Go.Proofs.YtphegggekcjenaaDoor
