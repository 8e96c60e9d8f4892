/- The walk of the law SlotParses. -/
import Derived.Test.YtlgghndpagoalaaDoorRefParse
import Derived.Test.YtlgghndpagoalaaDoorAlive
namespace Go.Proofs.YtlgghndpagoalaaDoor
open Go.RowKit
open Slot

theorem sameS (S : Nat → Bool) : sameB S S = true := (sameB_iff S S).2 fun _ _ => rfl
theorem parseVal_form (s : List UInt8) : ∃ X e, parseVal s = .tuple #[.agg (cellsOf X), .int .i64 e] := by
  cases h : parseAll s with
  | none => exact ⟨_, _, parseVal_bad h⟩
  | some l => exact ⟨_, _, parseVal_ok h⟩
set_option maxHeartbeats 2000000 in
set_option maxRecDepth 100000 in
theorem slotParses_walk (s : List UInt8) (w : World) (hE : Env w) (hl : s.length ≤ 140737488351232) :
    Calls Tryd.prog 3 #[.string ⟨s.toArray⟩] w fun e w' => e = .returned (.bool true) ∧ Below w.heap.size w w' := by
  have hz := zeroBits
  have HE := hid hE
  by_cases h2 : s.length ≤ 20000
  · obtain ⟨X, e, hX⟩ := parseVal_form s
    have HM := hid (parse_any s w hE (by omega))
    rw [hX] at HM
    have HMr : Hid (∀ W, Calls Tryd.prog 7 #[.string ⟨s.toArray⟩] W fun e' w' => e' = .returned (.tuple #[.agg (cellsOf X), .int .i64 e]) ∧ Below W.heap.size W w') := fun W => by
      have := rParse_any s W h2
      rwa [hX] at this
    have heq := eq_bits X X
    rw [sameS] at heq
    clear hX hE
    go_enter Tryd.func3, Tryd.ntmps3
    go_wp2_with fail
    refine HM.out.mono ?_; rintro e1 w1 ⟨rfl, hb1⟩
    have W1 := hid hb1
    have Z1 : Hid (Box (w1.alloc (.cells (cellsOf fun _ => false) 25)) w1.heap.size (fun _ => false)) := box_new w1 _
    clear hb1
    go_wp2_with (refine wpList_store_row rfl 25 _ _ rfl w1.heap.size (cellsOf X) rfl rfl 25 _ Z1.out (infoBits _) (sizes _ _) (oneCells _) (Hid.out ?_))
    have B2 : Hid (Box ((w1.alloc (.cells (cellsOf fun _ => false) 25)).setRow w1.heap.size (cellsOf X)) w1.heap.size X) := box_size Z1.out
    have W2 : Hid (Below w.heap.size w ((w1.alloc (.cells (cellsOf fun _ => false) 25)).setRow w1.heap.size (cellsOf X))) := below_setRow (W1.out.alloc W1.out.size _) W1.out.size _
    generalize (w1.alloc (.cells (cellsOf fun _ => false) 25)).setRow w1.heap.size (cellsOf X) = w2 at B2 W2 ⊢
    generalize w1.heap.size = b2 at B2 ⊢
    refine hid ?_
    clear Z1 W1 HM
    go_wp2_with fail
    refine (HMr.out w2).mono ?_; rintro e1 w3 ⟨rfl, hb3⟩
    have B3 := hid (B2.out.below hb3 B2.out.lt)
    have W3 := hid (W2.out.trans (hb3.mono W2.out.size))
    have Z3 : Hid (Box (w3.alloc (.cells (cellsOf fun _ => false) 25)) w3.heap.size (fun _ => false)) := box_new w3 _
    clear hb3
    go_wp2_with (refine wpList_store_row rfl 25 _ _ rfl w3.heap.size (cellsOf X) rfl rfl 25 _ Z3.out (infoBits _) (sizes _ _) (oneCells _) (Hid.out ?_))
    have C4 : Hid (Box ((w3.alloc (.cells (cellsOf fun _ => false) 25)).setRow w3.heap.size (cellsOf X)) w3.heap.size X) := box_size Z3.out
    have B4 : Hid (Box ((w3.alloc (.cells (cellsOf fun _ => false) 25)).setRow w3.heap.size (cellsOf X)) b2 X) := by
      have h1 := B3.out.below (below_alloc w3 (.cells (cellsOf fun _ => false) 25)) B3.out.lt
      exact (setRow_other _ _ _ _ (by have := B3.out.lt; omega)).trans h1
    have W4 : Hid (Below w.heap.size w ((w3.alloc (.cells (cellsOf fun _ => false) 25)).setRow w3.heap.size (cellsOf X))) := below_setRow (W3.out.alloc W3.out.size _) W3.out.size _
    generalize (w3.alloc (.cells (cellsOf fun _ => false) 25)).setRow w3.heap.size (cellsOf X) = w4 at C4 B4 W4 ⊢
    generalize w3.heap.size = b4 at C4 ⊢
    refine hid ?_
    have HA := hid (alive_any w4 (HE.out.below W4.out HE.out.room))
    clear Z3 W3 B3 B2 W2 HMr
    go_wp2_with fail
    refine HA.out.mono ?_; rintro e1 w5 ⟨rfl, hb5⟩
    have B5 := hid (B4.out.below hb5 B4.out.lt)
    have C5 := hid (C4.out.below hb5 C4.out.lt)
    have W5 := hid (W4.out.trans (hb5.mono W4.out.size))
    clear hb5
    go_wp2_with (first | (refine wpList_load_want rfl 25 _ rfl b2 rfl 25 _ (0, 0) _ B5.out Tryd.underlying25 rfl (infoBits _) ?_) | (refine wpList_load_want rfl 25 _ rfl b4 rfl 25 _ (0, 0) _ C5.out Tryd.underlying25 rfl (infoBits _) ?_))
    go_ret
    exact ⟨ret_bool (by simp), W5.out⟩
  · have HA := hid (alive_any w hE)
    clear hE
    go_enter Tryd.func3, Tryd.ntmps3
    go_wp2_with fail
    refine HA.out.mono ?_; rintro e1 w1 ⟨rfl, hb1⟩
    have W1 := hid hb1
    clear hb1
    go_wp2
    go_ret
    exact ⟨rfl, W1.out⟩

end Go.Proofs.YtlgghndpagoalaaDoor
