/- The walk of the law SlotRanges. -/
import Derived.Test.YtjjecdeacjbhaaaDoorRefSame
import Derived.Test.YtjjecdeacjbhaaaDoorAlive
namespace Go.Proofs.YtjjecdeacjbhaaaDoor
open Go.RowKit
open Slot

set_option maxHeartbeats 2000000 in
set_option maxRecDepth 100000 in
theorem slotRanges_walk (S : Nat → Bool) (w : World) (hE : Env w) :
    Calls Tryd.prog 8 #[.agg (cellsOf S)] w fun e w' => e = .returned (.bool true) ∧ Below w.heap.size w w' := by
  have hz := zeroBits
  have HE := hid hE
  have HB0 := hid (box_new w S)
  have HW0 := hid (below_alloc w (.cells (cellsOf S) 30))
  have HRg := hid (ranges_any S (w.alloc (.cells (cellsOf S) 30)))
  have HRr := hid fun W => rRanges_any S W
  clear hE
  go_enter Tryd.func8, Tryd.ntmps8
  go_wp2_with (refine wpList_load_row rfl 30 _ rfl w.heap.size rfl 30 _ (0, 0) _ HB0.out Tryd.underlying30 rfl (infoBits _) (Hid.out ?_))
  refine hid ?_
  go_wp2_with fail
  refine HRg.out.mono ?_
  rintro e w1 ⟨⟨l, v, rfl, hruns, hown⟩, hb1⟩
  have hlen : l.length ≤ 16384 := by have := hruns.length (by unfold top; omega); unfold top at this; omega
  have HRuns := hid hruns
  have HOwn := hid hown
  have B1 := hid (HB0.out.below hb1 HB0.out.lt)
  have W1 := hid (HW0.out.trans (hb1.mono HW0.out.size))
  have HM := hid (make_own hown (by omega) hruns.valid)
  clear hruns hown hb1 HRg
  go_wp2_with fail
  refine HM.out.mono ?_
  rintro e w2 ⟨rfl, hb2⟩
  have B2 := hid (B1.out.below hb2 B1.out.lt)
  have W2 := hid (W1.out.trans (hb2.mono W1.out.size))
  have O2 := hid (owns_below HOwn.out hb2)
  have HZ2 : Hid (Box (w2.alloc (.cells (cellsOf fun _ => false) 30)) w2.heap.size (fun _ => false)) := box_new w2 _
  clear hb2
  go_wp2_with (refine wpList_store_row rfl 30 _ _ rfl w2.heap.size (cellsOf (ofList l)) rfl rfl 30 _ HZ2.out (infoBits _) (sizes _ _) (oneCells _) (Hid.out ?_))
  have BX : Hid (Box ((w2.alloc (.cells (cellsOf fun _ => false) 30)).setRow w2.heap.size (cellsOf (ofList l))) w2.heap.size (ofList l)) := box_size HZ2.out
  have ON : Only w2.heap.size w2 ((w2.alloc (.cells (cellsOf fun _ => false) 30)).setRow w2.heap.size (cellsOf (ofList l))) := ⟨rfl, rfl, rfl, by simp, fun k hk hne => (setRow_other _ _ _ _ hne).trans (heap_alloc_old w2 _ hk)⟩
  have B3 := hid (B2.out.only ON (by have := B2.out.lt; omega))
  have O3 : Hid (((w2.alloc (.cells (cellsOf fun _ => false) 30)).setRow w2.heap.size (cellsOf (ofList l))).ownsRow ((w.alloc (.cells (cellsOf S) 30)).heap.size + 2) 54 2 v l.length (flat l)) := by
    refine ⟨O2.out.1, ?_⟩
    rcases O2.out.2 with h | ⟨g, cap, cur, h1, h2, h3, h4⟩
    · exact .inl h
    · exact .inr ⟨g, cap, cur, h1, h2, (ON.block g (Array.getElem?_eq_some_iff.1 h3).1 (by have := (Array.getElem?_eq_some_iff.1 h3).1; omega)).trans h3, h4⟩
  have W3 : Hid (Below w.heap.size w ((w2.alloc (.cells (cellsOf fun _ => false) 30)).setRow w2.heap.size (cellsOf (ofList l)))) := below_setRow (W2.out.alloc W2.out.size _) W2.out.size _
  clear ON
  generalize (w2.alloc (.cells (cellsOf fun _ => false) 30)).setRow w2.heap.size (cellsOf (ofList l)) = w3 at BX B3 O3 W3 ⊢
  generalize w2.heap.size = b at BX ⊢
  refine hid ?_
  have HA := hid (alive_any w3 (HE.out.below W3.out HE.out.room))
  have heq := eq_bits (ofList l) S
  rw [(sameB_iff (ofList l) S).2 (fun n hn => HRuns.out.ofList n (Nat.zero_le _) hn)] at heq
  clear HZ2 HM HW0 HB0 B1 W1 HOwn B2 W2 O2
  go_wp2_with fail
  refine HA.out.mono ?_
  rintro e w4 ⟨rfl, hb4⟩
  have BX4 := hid (BX.out.below hb4 BX.out.lt)
  have B4 := hid (B3.out.below hb4 B3.out.lt)
  have O4 := hid (owns_below O3.out hb4)
  have W4 := hid (W3.out.trans (hb4.mono W3.out.size))
  clear hb4
  go_wp2_with (refine wpList_load_want rfl 30 _ rfl w.heap.size rfl 30 _ (0, 0) _ B4.out Tryd.underlying30 rfl (infoBits _) (Hid.out ?_))
  refine hid ?_
  go_wp2_with fail
  refine (HRr.out w4).mono ?_
  rintro e w5 ⟨⟨l', v', B, rfl, hruns', hB, hown'⟩, hb5⟩
  obtain rfl : l' = l := hruns'.unique HRuns.out
  have BX5 := hid (BX4.out.below hb5 BX4.out.lt)
  have B5 := hid (B4.out.below hb5 B4.out.lt)
  have O5 := hid (owns_below O4.out hb5)
  have W5 := hid (W4.out.trans (hb5.mono W4.out.size))
  have HS := hid (same_own O5.out hown' hlen HRuns.out.valid)
  clear hb5 hown' hruns' hB
  go_wp2_with fail
  refine HS.out.mono ?_
  rintro e w6 ⟨rfl, hb6⟩
  have BX6 := hid (BX5.out.below hb6 BX5.out.lt)
  have B6 := hid (B5.out.below hb6 B5.out.lt)
  have W6 := hid (W5.out.trans (hb6.mono W5.out.size))
  clear hb6
  go_wp2_with (first | (refine wpList_load_want rfl 30 _ rfl b rfl 30 _ (0, 0) _ BX6.out Tryd.underlying30 rfl (infoBits _) ?_) | (refine wpList_load_want rfl 30 _ rfl w.heap.size rfl 30 _ (0, 0) _ B6.out Tryd.underlying30 rfl (infoBits _) ?_))
  go_ret
  exact ⟨rfl, W6.out⟩

end Go.Proofs.YtjjecdeacjbhaaaDoor
