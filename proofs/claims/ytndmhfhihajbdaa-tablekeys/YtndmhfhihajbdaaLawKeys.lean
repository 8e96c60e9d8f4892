/- TableKeys over the contracts. -/
import Derived.Test.YtndmhfhihajbdaaAlive
import Derived.Test.YtndmhfhihajbdaaRKeys
namespace Go.Proofs.Ytndmhfhihajbdaa
open Go.RowKit

set_option maxHeartbeats 8000000 in
set_option maxRecDepth 100000 in
theorem tkeys_any (p : Option Addr) (l : Row) (c : Nat) (w : World) (h : Rd w p c l) (hn : l.length ≤ 9223372036854775807) (ht : Txs l) :
    Calls Try.prog 6 #[.slice p l.length c] w fun e w' => e = .returned (.bool true) ∧ Below w.heap.size w w' := by
  by_cases hl : 200 < l.length
  · have hlz : 200 < (l.length : Int) := by omega
    clear h ht hl
    go_enter Try.func6, Try.ntmps6
    go_wp2_with fail
    refine (alive_any _).mono ?_
    rintro _ W1 ⟨rfl, HW1⟩
    go_wp2_with fail
    go_ret
    exact ⟨rfl, HW1.out⟩
  have hlz : (l.length : Int) ≤ 200 := by omega
  have H1 : Hid (∀ W, Below w.heap.size w W → _) := fun W hb => keys_any p c l W (h.below hb) (by omega) ht
  have H2 : Hid (∀ W, Below w.heap.size w W → _) := fun W hb => rkeys_any p c l W (h.below hb) (by omega) ht
  have HK := hid (keys_len l)
  generalize keysL l = K at *
  clear h ht
  go_enter Try.func6, Try.ntmps6
  go_wp2_with fail
  refine (alive_any _).mono ?_
  rintro _ W1 ⟨rfl, HW1⟩
  go_wp2_with fail
  refine (H1.out _ HW1.out).mono ?_
  rintro _ W2 ⟨q2, d2, rfl, HW2⟩
  have HB2 := hid (HW1.out.trans (HW2.out.2.mono HW1.out.size))
  go_wp2_with fail
  refine (H2.out _ HB2.out).mono ?_
  rintro _ W3 ⟨q3, d3, rfl, HW3⟩
  have HB3 := hid (HB2.out.trans (HW3.out.2.mono HB2.out.size))
  have HS := hid (same_any q2 d2 q3 d3 K K W3 (HW2.out.1.rd.below HW3.out.2).strs HW3.out.1.rd.strs (by have := HK.out; omega))
  rw [decide_eq_true rfl] at HS
  clear HW2 HW3 HB2 HW1 H1 H2
  go_wp2_with fail
  refine HS.out.mono ?_
  rintro _ W4 ⟨rfl, HW4⟩
  have HB4 := hid (HB3.out.trans (HW4.out.mono HB3.out.size))
  go_wp2_with fail
  go_ret
  exact ⟨rfl, HB4.out⟩

end Go.Proofs.Ytndmhfhihajbdaa
