/- Facts of the row of ExecEnds. -/
import Derived.Test.YtcbncdigejjcpaaGreatDoorCards
import Derived.Test.YtcbncdigejjcpaaGreatDoorTie
import Derived.ProofKit
import Derived.OpenShut
import Derived.ShutString
import Derived.ChangeMaps5
import Derived.ChangeOld
import Derived.RowKit
import Derived.Deep.DeepHandedRow
import Derived.SizedLaws
import Derived.Test.YtcbncdigejjcpaaGreatDoorM03
namespace Go.Proofs.YtcbncdigejjcpaaGreatDoor.execEnds
open Go.ChangeShapes Go.WideShapes Go.ChangeAt Go.RowKit
open Go.ChangeMaps (open_string shut_string)


theorem own : ownKnob Tryz.prog.godebug = none := by kernel_rfl
theorem laidOut : laidOutB Tryz.prog = true := by kernel_rfl
theorem f1 : (Rows.execEndsRow.inPlace == Tryz.prog.inPlace 8) = true := by kernel_rfl
theorem f2 : (Rows.execEndsRow.unfollowed == Tryz.prog.unfollowed 8) = true := by kernel_rfl
theorem f3 : (Rows.execEndsRow.recurses == Tryz.prog.recurses 8) = true := by kernel_rfl
theorem f4 : (Rows.execEndsRow.named == Tryz.prog.varsNamed 8) = true := by kernel_rfl
theorem f5 : mapsRowed Tryz.prog = true := by kernel_rfl
theorem f6 : namedTie Tryz.prog Rows.execEndsRow.named (OpenSpec.ofChange Rows.execEndsSpec).bare.vars = true := by kernel_rfl
theorem facts : joinedFacts Tryz.prog 8 Tryz.f8 (OpenSpec.ofChange Rows.execEndsSpec).bare Rows.execEndsRow = true := by
  unfold joinedFacts
  rw [f1, f2, f3, f4, f5, f6, laidOut]
  kernel_rfl
theorem named : Tryz.prog.funcNamed Rows.execEndsRow.func = some 8 := by kernel_rfl
theorem wraps : Tryz.f8.isWrapper Tryz.prog Rows.execEndsRow.wrapper Rows.execEndsRow.mainSum := by unfold Func.isWrapper; first | (rw [if_pos (by decide +kernel)]; kernel_rfl) | (rw [if_neg (by decide +kernel)]; exact ⟨rfl, rfl⟩)
theorem insts : Tryz.f8.isInstance Tryz.prog Rows.execEndsRow.origin Rows.execEndsRow.targs := of_decide_eq_true (by kernel_rfl)

theorem plain (f : FuncId) (fn : Func) (hf : Tryz.pinned.checked.prog.funcNamed "marshalyard/marshalyardlaw13.ExecEnds" = some f) (hfn : Tryz.pinned.checked.prog.funcs[f]? = some fn) :
    true = Tryz.pinned.checked.prog.looks [] ∧ ∀ (j : Nat) t, fn.params[j]? = some t → Tryz.pinned.checked.prog.wantsStandIn t = false := by
  obtain rfl : f = 8 := Option.some.inj ((show Tryz.prog.funcNamed "marshalyard/marshalyardlaw13.ExecEnds" = some 8 by kernel_rfl).symm.trans hf) |>.symm
  obtain rfl : fn = Tryz.f8 := (Option.some.inj (Tryz.func8.symm.trans hfn)).symm
  refine ⟨by kernel_rfl, fun j t ht => ?_⟩
  rw [Tryz.params8] at ht
  have hm : t = 9 ∨ t = 3 := by simpa using Array.mem_of_getElem? ht
  rcases hm with rfl | rfl
  · exact (show Tryz.prog.wantsStandIn 9 = false by kernel_rfl)
  · exact (show Tryz.prog.wantsStandIn 3 = false by kernel_rfl)

end Go.Proofs.YtcbncdigejjcpaaGreatDoor.execEnds
