/- The walk of the law SlotPrints. -/
import Derived.Test.YtjjecdeacjbhaabDoorRefPrint
import Derived.Test.YtjjecdeacjbhaabDoorAlive
namespace Go.Proofs.YtjjecdeacjbhaabDoor
open Go.RowKit
open Slot

set_option maxHeartbeats 2000000 in
set_option maxRecDepth 100000 in
theorem slotPrints_walk (S : Nat → Bool) (w : World) (hE : Env w) :
    Calls Tryd.prog 4 #[.agg (cellsOf S)] w fun e w' => e = .returned (.bool true) ∧ Below w.heap.size w w' := by
  have hz := zeroBits
  have HE := hid hE
  have HB0 := hid (box_new w S)
  have HW0 := hid (below_alloc w (.cells (cellsOf S) 26))
  have HPr := hid (print_any S (w.alloc (.cells (cellsOf S) 26)) (hE.below HW0.out hE.room))
  have HRp := hid fun W => rPrint_any S W
  clear hE
  go_enter Tryd.func4, Tryd.ntmps4
  go_wp2_with (refine wpList_load_row rfl 26 _ rfl w.heap.size rfl 26 _ (0, 0) _ HB0.out Tryd.underlying26 rfl (infoBits _) (Hid.out ?_))
  refine hid ?_
  go_wp2_with fail
  refine HPr.out.mono ?_
  rintro e w1 ⟨⟨l, hruns, rfl⟩, hb1⟩
  have hlen : l.length ≤ 16384 := by have := hruns.length (by unfold top; omega); unfold top at this; omega
  have hpl := print_len l hruns.valid
  have hpv := parseVal_ok (parseAll_print hruns.chain)
  have HRuns := hid hruns
  have B1 := hid (HB0.out.below hb1 HB0.out.lt)
  have W1 := hid (HW0.out.trans (hb1.mono HW0.out.size))
  have HM := hid (parse_any (print l) w1 (HE.out.below W1.out HE.out.room) (by omega))
  rw [hpv] at HM
  obtain ⟨T, hT⟩ : ∃ T, T = print l := ⟨_, rfl⟩
  rw [← hT] at HM
  rw [← hT]
  have HT := hid hT
  clear hruns hb1 HPr hpl hpv hT
  go_wp2_with fail
  refine HM.out.mono ?_
  rintro e w2 ⟨rfl, hb2⟩
  have B2 := hid (B1.out.below hb2 B1.out.lt)
  have W2 := hid (W1.out.trans (hb2.mono W1.out.size))
  have HZ2 : Hid (Box (w2.alloc (.cells (cellsOf fun _ => false) 26)) w2.heap.size (fun _ => false)) := box_new w2 _
  clear hb2
  go_wp2_with (refine wpList_store_row rfl 26 _ _ rfl w2.heap.size (cellsOf (ofList l)) rfl rfl 26 _ HZ2.out (infoBits _) (sizes _ _) (oneCells _) (Hid.out ?_))
  have BX : Hid (Box ((w2.alloc (.cells (cellsOf fun _ => false) 26)).setRow w2.heap.size (cellsOf (ofList l))) w2.heap.size (ofList l)) := box_size HZ2.out
  have ON : Only w2.heap.size w2 ((w2.alloc (.cells (cellsOf fun _ => false) 26)).setRow w2.heap.size (cellsOf (ofList l))) := ⟨rfl, rfl, rfl, by simp, fun k hk hne => (setRow_other _ _ _ _ hne).trans (heap_alloc_old w2 _ hk)⟩
  have B3 := hid (B2.out.only ON (by have := B2.out.lt; omega))
  have W3 : Hid (Below w.heap.size w ((w2.alloc (.cells (cellsOf fun _ => false) 26)).setRow w2.heap.size (cellsOf (ofList l)))) := below_setRow (W2.out.alloc W2.out.size _) W2.out.size _
  clear ON
  generalize (w2.alloc (.cells (cellsOf fun _ => false) 26)).setRow w2.heap.size (cellsOf (ofList l)) = w3 at BX B3 W3 ⊢
  generalize w2.heap.size = b at BX ⊢
  refine hid ?_
  have HA := hid (alive_any w3 (HE.out.below W3.out HE.out.room))
  have heq := eq_bits (ofList l) S
  rw [(sameB_iff (ofList l) S).2 (fun n hn => HRuns.out.ofList n (Nat.zero_le _) hn)] at heq
  clear HZ2 HM HW0 HB0 B1 W1 B2 W2
  go_wp2_with fail
  refine HA.out.mono ?_
  rintro e w4 ⟨rfl, hb4⟩
  have BX4 := hid (BX.out.below hb4 BX.out.lt)
  have B4 := hid (B3.out.below hb4 B3.out.lt)
  have W4 := hid (W3.out.trans (hb4.mono W3.out.size))
  clear hb4
  go_wp2_with (refine wpList_load_want rfl 26 _ rfl w.heap.size rfl 26 _ (0, 0) _ B4.out Tryd.underlying26 rfl (infoBits _) (Hid.out ?_))
  refine hid ?_
  go_wp2_with fail
  refine (HRp.out w4).mono ?_
  rintro e w5 ⟨⟨l', hruns', rfl⟩, hb5⟩
  obtain rfl : l' = l := hruns'.unique HRuns.out
  rw [← HT.out]
  have BX5 := hid (BX4.out.below hb5 BX4.out.lt)
  have B5 := hid (B4.out.below hb5 B4.out.lt)
  have W5 := hid (W4.out.trans (hb5.mono W4.out.size))
  clear hb5 hruns'
  go_wp2_with (first | (refine wpList_load_want rfl 26 _ rfl b rfl 26 _ (0, 0) _ BX5.out Tryd.underlying26 rfl (infoBits _) ?_) | (refine wpList_load_want rfl 26 _ rfl w.heap.size rfl 26 _ (0, 0) _ B5.out Tryd.underlying26 rfl (infoBits _) ?_))
  go_ret
  exact ⟨rfl, W5.out⟩

end Go.Proofs.YtjjecdeacjbhaabDoor
