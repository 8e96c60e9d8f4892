/- VpT2. -/
import Derived.Test.YtbfllifgmlkndaaGreatDoorM21
import Derived.Test.YtbfllifgmlkndaaGreatDoorM32
namespace Go.Proofs.YtbfllifgmlkndaaGreatDoor
open Go.RowKit
open Slot

/-- Tell -/
theorem tell_any (b : Nat) (kind : Int) (v : Vw) (w : World) (hV : VB w b v) (hs : v.self < 64) : Calls Tryz.prog 75 #[.pointer (some ⟨b, 0, none⟩), .int .i64 kind] w fun e w' => e = .returned (.agg (pkCells (tellV v kind))) ∧ Below w.heap.size w w' := by
  have hbu := tell_form kind (v.self : Int) (v.ep v.self) v.cur (v.cl v.self)
  rw [zeroPk, cellsOf_size] at hbu
  refine ptell_core b (v.ep v.self) kind v (cellsOf (v.cl v.self)) (pkCells (tellV v kind)) (pkCells zeroP) w hV (cellsOf_size _) zeroPk (pkCells_size _) (pkCells_size _) (onePk _) (fun W h => ?_) (fun W h => ?_) hbu
  · have := epoch_any b v (v.self : Int) W h
    rwa [epI_in v hs] at this
  · have := claims_any b v (v.self : Int) W h
    rwa [clsI_in v hs] at this
/-- update -/
theorem update_any (b m : Nat) (v : Vw) (w : World) (hV : VB w b v) (hm : m < 64) : Calls Tryz.prog 89 #[.pointer (some ⟨b, 0, none⟩), .int .i64 (m : Int)] w fun e w' => e = .returned (.agg (pkCells (updV v m))) ∧ Below w.heap.size w w' := by
  have hbu := upd_form 3 (v.self : Int) (m : Int) (v.ep m) v.cur (v.cl m)
  rw [zeroPk, cellsOf_size] at hbu
  refine pupdate_core b (v.ep m) m v (cellsOf (v.cl m)) (pkCells (updV v m)) (pkCells zeroP) w hV (cellsOf_size _) zeroPk (pkCells_size _) (pkCells_size _) (onePk _) (fun W h => ?_) (fun W h => ?_) hbu
  · have := epoch_any b v (m : Int) W h
    rwa [epI_in v hm] at this
  · have := claims_any b v (m : Int) W h
    rwa [clsI_in v hm] at this

end Go.Proofs.YtbfllifgmlkndaaGreatDoor
