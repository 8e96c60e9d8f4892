/- The law PacketReads. -/
import Derived.Test.YtgpdbcigogkkbaaDoorPkRDec
namespace Go.Proofs.YtgpdbcigogkkbaaDoor
open Go.RowKit
open Slot

set_option maxHeartbeats 4000000 in
set_option maxRecDepth 100000 in
theorem reads_core (s : Bs) (Z0 DC : Array Value) (DE : Int) (w : World) (hE : Env w) (hs : s.length ≤ 20000) (hz : Tryd.zeroCells26 = Z0) (rz : Rw Z0) (rd : Rw DC)
    (hDe : ∀ w, Env w → Calls Tryd.prog 14 #[.string ⟨s.toArray⟩] w fun e w' => e = .returned (.tuple #[.agg DC, .int .i64 DE]) ∧ Below w.heap.size w w')
    (hRd : ∀ w, Calls Tryd.prog 15 #[.string ⟨s.toArray⟩] w fun e w' => e = .returned (.tuple #[.agg DC, .int .i64 DE]) ∧ Below w.heap.size w w')
    (heq : ∀ w, (Op.equalIn 10000 26 (.agg DC) (.agg DC)).run Tryd.prog w = .ok true w) :
    Calls Tryd.prog 4 #[.string ⟨s.toArray⟩] w fun e w' => e = .returned (.bool true) ∧ Below w.heap.size w w' := by
  have HE := hid hE
  have HA := hid alive_any
  have HDe := hid hDe
  have HRd := hid hRd
  have RZ := hid rz
  have RD := hid rd
  have hlz : ¬ (20000 : Int) < (s.length : Int) := by omega
  clear hE hDe hRd rz rd hs
  go_enter Tryd.func4, Tryd.ntmps4
  go_wp2_with fail
  refine (HDe.out _ HE.out).mono ?_; rintro e w1 ⟨rfl, hb⟩
  have W1 := hid hb
  have HZ1 := hid (At.new w1 Z0)
  clear hb HDe
  go_wp2_with (refine wpList_store_row rfl 26 _ _ rfl w1.heap.size DC rfl rfl 26 _ HZ1.out RD.out.info (RZ.out.sizes RD.out) RD.out.2 (Hid.out ?_))
  have B2 : Hid (At ((w1.alloc (.cells Z0 26)).setRow w1.heap.size DC) w1.heap.size DC) := HZ1.out.set
  have W2 : Hid (Below w.heap.size w ((w1.alloc (.cells Z0 26)).setRow w1.heap.size DC)) := below_setRow (W1.out.alloc W1.out.size _) W1.out.size _
  generalize (w1.alloc (.cells Z0 26)).setRow w1.heap.size DC = w2 at B2 W2 ⊢
  generalize w1.heap.size = b at B2 ⊢
  refine hid ?_
  clear HZ1 W1
  go_wp2_with fail
  refine (HRd.out _).mono ?_; rintro e w3 ⟨rfl, hb⟩
  have B3 := hid (B2.out.below hb B2.out.lt)
  have W3 := hid (W2.out.trans (hb.mono W2.out.size))
  have HZ3 := hid (At.new w3 Z0)
  clear hb HRd B2 W2
  go_wp2_with (refine wpList_store_row rfl 26 _ _ rfl w3.heap.size DC rfl rfl 26 _ HZ3.out RD.out.info (RZ.out.sizes RD.out) RD.out.2 (Hid.out ?_))
  have C4 : Hid (At ((w3.alloc (.cells Z0 26)).setRow w3.heap.size DC) w3.heap.size DC) := HZ3.out.set
  have W4 : Hid (Below w.heap.size w ((w3.alloc (.cells Z0 26)).setRow w3.heap.size DC)) := below_setRow (W3.out.alloc W3.out.size _) W3.out.size _
  have B4 : Hid (At ((w3.alloc (.cells Z0 26)).setRow w3.heap.size DC) b DC) := (B3.out.old _).other (by have := B3.out.lt; omega)
  generalize (w3.alloc (.cells Z0 26)).setRow w3.heap.size DC = w4 at B4 W4 C4 ⊢
  generalize w3.heap.size = c at C4 ⊢
  refine hid ?_
  clear HZ3 W3 B3
  go_wp2_with fail
  refine (HA.out _ (HE.out.below W4.out HE.out.room)).mono ?_; rintro e w5 ⟨rfl, hb⟩
  have B5 := hid (B4.out.below hb B4.out.lt)
  have C5 := hid (C4.out.below hb C4.out.lt)
  have W5 := hid (W4.out.trans (hb.mono W4.out.size))
  clear hb B4 C4 W4
  go_wp2_with (first | (refine wpList_load_want rfl 26 _ rfl b rfl 26 _ (0, 0) _ B5.out Tryd.underlying26 rfl RD.out.info ?_) | (refine wpList_load_want rfl 26 _ rfl c rfl 26 _ (0, 0) _ C5.out Tryd.underlying26 rfl RD.out.info ?_))
  go_ret
  exact ⟨ret_bool (by simp), W5.out⟩
set_option maxHeartbeats 2000000 in
/-- PacketReads -/
theorem reads_any (s : Bs) (w : World) (hE : Env w) (_hs : s.length ≤ 140737488351232) : Calls Tryd.prog 4 #[.string ⟨s.toArray⟩] w fun e w' => e = .returned (.bool true) ∧ Below w.heap.size w w' := by
  by_cases h : s.length ≤ 20000
  · have heq := fun w => eq_packet (decPk s) (decPk s) w
    rw [(sameP_iff _ _).2 (Like.refl _)] at heq
    exact reads_core s (pkCells zeroP) (pkCells (decPk s)) (decE s) w hE h zeroPk (rw_pk _) (rw_pk _) (fun w h' => decode_any s w h' (by omega)) (fun w => rdecode_any s w h) heq
  · have HA := hid (alive_any w hE)
    have hlz : (20000 : Int) < (s.length : Int) := by omega
    clear hE
    go_enter Tryd.func4, Tryd.ntmps4
    go_wp2_with fail
    refine HA.out.mono ?_; rintro e w1 ⟨rfl, hb⟩
    have W1 := hid hb
    clear hb
    go_wp2_with fail
    go_ret
    exact ⟨rfl, W1.out⟩

end Go.Proofs.YtgpdbcigogkkbaaDoor
