/- Proved: whatever two texts of two bytes are given, their Sums are the same just where the texts are: the law CrcPairs returns true and leaves its arguments as they were; the table of half bytes is tied to the program's text. -/
import Derived.Test.YtmokokkdllmdoabDoorCards
import Derived.Test.YtmokokkdllmdoabDoorTie
import Derived.Test.YtmokokkdllmdoabDoorPairs
import Derived.ProofKit
import Derived.OpenShut
import Derived.ShutString
import Derived.ChangeOld
import Derived.Deep.DeepHandedRow
import Derived.Lib.LaidTab
import Derived.SizedLaws
import Derived.Lib.SmallJoins
namespace Go.Proofs.YtmokokkdllmdoabDoor.crcPairs
open Go.ChangeShapes Go.WideShapes Go.ChangeAt Go.RowKit
open Crc

theorem own : ownKnob Tryd.prog.godebug = none := by kernel_rfl
theorem laidOut : laidOutB Tryd.prog = true := by kernel_rfl
theorem gTab : Tryd.prog.globalNamed "marshalyard/crc.halfSums" = some 0 := by kernel_rfl
theorem gTabType : (Tryd.prog.globals[0]?).map (·.type) = some 32 := by kernel_rfl
theorem cellsTab : Tryd.prog.cellsOf 32 = 16 := by kernel_rfl
theorem bytes5 : Tryd.prog.bytesOf 5 = 1 := by kernel_rfl
theorem cells16 : Tryd.prog.cellsOf 23 = 1 := by kernel_rfl
def sums : List Int := [0, 4129, 8258, 12387, 16516, 20645, 24774, 28903, 33032, 37161, 41290, 45419, 49548, 53677, 57806, 61935]
theorem table {W : World} (h : laidMetH Tryd.prog Rows.crcPairsRow.laid W) : Lib.TabIs Tryd.prog W "marshalyard/crc.halfSums" .u16 sums :=
  Lib.tabIs_of_head (rest := []) gTab gTabType Tryd.underlying32 Tryd.underlying23 cells16 cellsTab h
theorem sums_eq : ∀ i : Fin 16, sums.getD i.val 0 = ((tabL.getD i.val 0#16).toNat : Int) := by decide +kernel
theorem tab_of {W : World} (h : laidMetH Tryd.prog Rows.crcPairsRow.laid W) : Tab W := fun i hi => by
  rw [(table h).cell gTab i hi]
  exact congrArg (fun z => some (Value.int .u16 z)) (sums_eq ⟨i, hi⟩)

theorem cellsArr : Tryd.prog.cellsOf 27 = 2 := by kernel_rfl
theorem cells5 : Tryd.prog.cellsOf 5 = 1 := by kernel_rfl
theorem open_pair {H : Type} {enc : TypeId × Value → H} {W : World} {base : Nat} {spare : Nat → Bool} {held : Bool} {fuel : Nat} {c0 c1 : Value} {d : DataW H} {p : List MemPlace} (h : DataW.trod enc Tryd.prog W base spare held fuel 27 (Value.agg #[c0, c1]).cells.toList = some (d, p)) :
    ∃ a b : Int, c0 = .int .u8 a ∧ c1 = .int .u8 b ∧ d = .agg [.lit (.int .u8 a), .lit (.int .u8 b)] ∧ p = [] ∧ (Lit.int .u8 a).wf = true ∧ (Lit.int .u8 b).wf = true := by
  obtain ⟨xs, m, rfl, hx, _, hl, he⟩ := DataW.trod_array Tryd.underlying27 h
  have h0 := he 0 (by decide)
  have h1 := he 1 (by decide)
  rw [cells5] at h0 h1
  obtain ⟨y0, y1, rfl⟩ : ∃ y0 y1, xs = [y0, y1] := by
    match xs, hl with
    | [y0, y1], _ => exact ⟨y0, y1, rfl⟩
  simp [Value.cells] at h0 h1
  obtain ⟨a, e0, rfl, wa⟩ := DataW.trod_int Tryd.underlying5 h0
  obtain ⟨b, e1, rfl, wb⟩ := DataW.trod_int Tryd.underlying5 h1
  simp at e0 e1
  simp only [Prod.mk.injEq] at hx
  exact ⟨a, b, e0, e1, hx.1, by simpa using hx.2, wa, wb⟩
theorem shut_pair {H : Type} {enc : TypeId × Value → H} {W : World} {base : Nat} {spare : Nat → Bool} {held : Bool} {a b : Int} (wa : (Lit.int .u8 a).wf = true) (wb : (Lit.int .u8 b).wf = true) :
    DataW.Trod enc Tryd.prog W base spare held 27 (.agg #[.int .u8 a, .int .u8 b]) (.agg [.lit (.int .u8 a), .lit (.int .u8 b)]) [] :=
  ⟨2, by simp [DataW.trod, Value.cells, Tryd.underlying27, Tryd.underlying5, cellsArr, cells5, wa, wb, show List.range 2 = [0, 1] from rfl]⟩

theorem contract (H : Type) (enc : TypeId × Value → H) (W : World) (base : Nat) (args : Array Value) (ds gs : List (DataW H)) (before : List MemPlace)
    (hval : ∀ (j : Nat) t v, Tryd.f4.params[j]? = some t → args[j]? = some v → Value.okWide Tryd.prog W .any base t v)
    (hW : DataW.Whole enc Tryd.prog Tryd.f4.params.toList Rows.crcPairsSpec.vars false W args.toList ds gs before) (hsz0 : (DataW.weightsEach Tryd.prog (Tryd.f4.params.toList ++ Rows.crcPairsSpec.plain.varTypes Tryd.prog) (ds ++ gs)).all (· ≤ reachBytes) = true) (hL : laidMetH Tryd.prog Rows.crcPairsRow.laid W) :
    Calls Tryd.prog 4 args W fun e W' => ∃ v, e = .returned v ∧ Rows.crcPairsSpec.post enc Tryd.prog Tryd.f4 false true false false W args v W' := by
  have hW' := hW
  obtain ⟨p, q, hA0, hV, rfl, hfz, hnd⟩ := hW
  have hA : DataW.TrodAll enc Tryd.prog W 0 (fun _ => true) true Tryd.f4.params.toList args.toList ds p := hA0
  have hsz : (DataW.weightsEach Tryd.prog (Tryd.f4.params.toList ++ Rows.crcPairsSpec.plain.varTypes Tryd.prog) (ds ++ gs)).all (· ≤ reachBytes) = true := hsz0
  clear hsz0
  rw [Tryd.params4] at hA hval hsz
  obtain ⟨v0, vs0, d0, ds0, p0, q0, hargs, rfl, rfl, h0, r0⟩ := trodAll_cons hA
  obtain ⟨v1, vs1, d1, ds1, p1, q1, rfl, rfl, rfl, h1, r1⟩ := trodAll_cons r0
  obtain ⟨rfl, rfl, rfl⟩ := trodAll_nil r1
  obtain rfl : args = #[v0, v1] := by cases args; simp_all
  obtain ⟨rfl, rfl⟩ := trodVars_none hV
  obtain ⟨cs0, rfl, hsz0, _⟩ : ∃ cs, v0 = .agg cs ∧ cs.size = Tryd.prog.cellsOf 27 ∧ Row.okWide Tryd.prog W .any base 27 cs := by
    have := hval 0 27 v0 rfl rfl
    simpa [Value.okWide, Tryd.underlying27] using this
  rw [cellsArr] at hsz0
  obtain ⟨c00, c01, rfl⟩ := Joins.array2 hsz0
  obtain ⟨fuel0, hf0⟩ := h0
  obtain ⟨a0, b0, rfl, rfl, rfl, rfl, wa0, wb0⟩ := open_pair hf0
  have bda0 := bounds_u8 wa0
  have bdb0 := bounds_u8 wb0
  obtain ⟨cs1, rfl, hsz1, _⟩ : ∃ cs, v1 = .agg cs ∧ cs.size = Tryd.prog.cellsOf 27 ∧ Row.okWide Tryd.prog W .any base 27 cs := by
    have := hval 1 27 v1 rfl rfl
    simpa [Value.okWide, Tryd.underlying27] using this
  rw [cellsArr] at hsz1
  obtain ⟨c10, c11, rfl⟩ := Joins.array2 hsz1
  obtain ⟨fuel1, hf1⟩ := h1
  obtain ⟨a1, b1, rfl, rfl, rfl, rfl, wa1, wb1⟩ := open_pair hf1
  have bda1 := bounds_u8 wa1
  have bdb1 := bounds_u8 wb1
  clear hA0
  obtain ⟨A0, rfl⟩ : ∃ c : BitVec 8, a0 = (c.toNat : Int) := ⟨BitVec.ofNat 8 a0.toNat, by rw [BitVec.toNat_ofNat]; omega⟩
  obtain ⟨B0, rfl⟩ : ∃ c : BitVec 8, b0 = (c.toNat : Int) := ⟨BitVec.ofNat 8 b0.toNat, by rw [BitVec.toNat_ofNat]; omega⟩
  obtain ⟨A1, rfl⟩ : ∃ c : BitVec 8, a1 = (c.toNat : Int) := ⟨BitVec.ofNat 8 a1.toNat, by rw [BitVec.toNat_ofNat]; omega⟩
  obtain ⟨B1, rfl⟩ : ∃ c : BitVec 8, b1 = (c.toNat : Int) := ⟨BitVec.ofNat 8 b1.toNat, by rw [BitVec.toNat_ofNat]; omega⟩
  refine (pairs_walk A0 B0 A1 B1 W (tab_of hL)).mono fun e W' ⟨he, bel⟩ => ?_
  subst he
  exact ⟨_, rfl, _, _, _, [], _, [], hW', trodAll_mk1 (shut_bool Tryd.underlying4 _), (trodAll_cons_mk (shut_pair wa0 wb0) (trodAll_cons_mk (shut_pair wa1 wb1) trodAll_mk0)), rfl, bel.frame _, fun h => by cases h⟩

/-- a world for the witness: the settled one, the table holding what its initialiser lays -/
def laidWorld (P : Program) (os : Os) : World :=
  { World.holding P os ⟨#[], #[], []⟩ with heap := (World.holding P os ⟨#[], #[], []⟩).heap.modify 0 fun
      | .cells _ t frozen => .cells #[.int .u16 0, .int .u16 4129, .int .u16 8258, .int .u16 12387, .int .u16 16516, .int .u16 20645, .int .u16 24774, .int .u16 28903, .int .u16 33032, .int .u16 37161, .int .u16 41290, .int .u16 45419, .int .u16 49548, .int .u16 53677, .int .u16 57806, .int .u16 61935] t frozen
      | o => o }
theorem laid_met (os : Os) : laidMet Tryd.prog Rows.crcPairsRow.laid ((laidWorld Tryd.prog os).forCall (fun _ _ => 0) ⟨#[], #[.agg #[.int .u8 0, .int .u8 0], .agg #[.int .u8 0, .int .u8 0]], []⟩).memory :=
  laidMet_of_run' 8 (by kernel_rfl) (by kernel_rfl)
theorem reads (os : Os) {H : Type} (enc : TypeId × Value → H) : ∃ places, DataW.whole enc Tryd.prog ((laidWorld Tryd.prog os).forCall (fun _ _ => 0) ⟨#[], #[.agg #[.int .u8 0, .int .u8 0], .agg #[.int .u8 0, .int .u8 0]], []⟩).memory Tryd.f4.params.toList Rows.crcPairsSpec.vars false (#[.agg #[.int .u8 0, .int .u8 0], .agg #[.int .u8 0, .int .u8 0]] : Array Value).toList 8 = some ([.agg [.lit (.int .u8 0), .lit (.int .u8 0)], .agg [.lit (.int .u8 0), .lit (.int .u8 0)]], [], places) :=
  ⟨[], by kernel_rfl⟩

set_option maxRecDepth 100000 in
theorem lifted (os : Os) (started : os.Started) (H : Type) (enc : TypeId × Value → H) (F : Stop.Interp) :
    ReturnsInHanded {} Tryd.checked os 4 .any ((OpenSpec.ofChange Rows.crcPairsSpec).preRow enc Tryd.prog Tryd.f4 Rows.crcPairsRow.domain false Rows.crcPairsRow.laid) (((OpenSpec.ofChange Rows.crcPairsSpec).at F).post enc Tryd.prog Tryd.f4 false true false false) := by
  obtain ⟨places, hx⟩ := reads os enc
  refine returnsInHanded_of_row (C := Tryd.checked) (s := OpenSpec.ofChange Rows.crcPairsSpec) own started (by kernel_rfl) Tryd.func4
    (witness_row_at (enc := enc) (C := Tryd.checked) false (laidWorld Tryd.prog os) #[.agg #[.int .u8 0, .int .u8 0], .agg #[.int .u8 0, .int .u8 0]] rfl (by kernel_rfl) (by kernel_rfl) (by kernel_rfl)
      (OpenSpec.preRow_of_cond 8 hx (by kernel_rfl) (fun k hk => by cases hk) (by kernel_rfl) (laid_met os))) ?_
  intro W base args ds gs before hval hW _ hcond hsz hL _ _
  exact contract H enc W base args ds gs before hval hW hsz hL

theorem said : Rows.CrcPairsSaid :=
  OpenClaim.holds_of_cond 4 Tryd.f4 rfl rfl rfl rfl rfl rfl rfl ⟨rfl, rfl, rfl, rfl, rfl⟩ rfl rfl rfl rfl rfl (by kernel_rfl) Tryd.func4 (by kernel_rfl)
    (of_decide_eq_true (by kernel_rfl)) (by unfold Func.isWrapper; first | (rw [if_pos (by decide +kernel)]; kernel_rfl) | (rw [if_neg (by decide +kernel)]; exact ⟨rfl, rfl⟩))
    (fun os started H enc _ F => by rw [OpenClaim.pre_eq_preRow]; exact lifted os started H enc F)

theorem plain (f : FuncId) (fn : Func) (hf : Tryd.pinned.checked.prog.funcNamed "marshalyard/marshalyardlaw01.CrcPairs" = some f) (hfn : Tryd.pinned.checked.prog.funcs[f]? = some fn) :
    false = Tryd.pinned.checked.prog.looks [] ∧ ∀ (j : Nat) t, fn.params[j]? = some t → Tryd.pinned.checked.prog.wantsStandIn t = false := by
  obtain rfl : f = 4 := Option.some.inj ((show Tryd.prog.funcNamed "marshalyard/marshalyardlaw01.CrcPairs" = some 4 by kernel_rfl).symm.trans hf) |>.symm
  obtain rfl : fn = Tryd.f4 := (Option.some.inj (Tryd.func4.symm.trans hfn)).symm
  refine ⟨by kernel_rfl, fun j t ht => ?_⟩
  rw [Tryd.params4] at ht
  have hm : t = 27 := by simpa using Array.mem_of_getElem? ht
  rcases hm with rfl
  · exact (show Tryd.prog.wantsStandIn 27 = false by kernel_rfl)

end Go.Proofs.YtmokokkdllmdoabDoor.crcPairs
namespace Go.Proofs.YtmokokkdllmdoabDoor
open Go
/-- THE CARD -/
theorem crcPairs_card : Rows.CrcPairsCardSaid :=
  Claim7.holds_tied_plain_at .later [] _ _ _ _ crcPairs.said (fun _ h => by cases h) (by kernel_rfl) (fun _ h => by cases h) crcPairs_row_tie rfl ⟨rfl, rfl⟩ (by kernel_rfl) rfl crcPairs.plain (by kernel_rfl)
#print axioms crcPairs_card
end Go.Proofs.YtmokokkdllmdoabDoor
