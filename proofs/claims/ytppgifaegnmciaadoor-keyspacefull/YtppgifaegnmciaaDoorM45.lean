/- OpenK, Laid. -/
import Derived.Test.YtppgifaegnmciaaDoorM12
import Derived.Test.YtppgifaegnmciaaDoorM42
import Derived.Test.YtppgifaegnmciaaDoorRows
import Derived.Lib.LaidTab
import Derived.Stop.LaidErr
import Derived.MakeChecks
import Derived.LaidLaws
import Derived.Test.YtppgifaegnmciaaDoorM09
namespace Go.Proofs.YtppgifaegnmciaaDoor
open Go.RowKit Go.ChangeShapes Go.WideShapes Go.ChangeAt

theorem cellsEnt : Tryd.prog.cellsOf 36 = 8 := by kernel_rfl
theorem three_of {α : Type} : ∀ {l : List α}, l.length = 3 → ∃ a b c, l = [a, b, c]
  | [a, b, c], _ => ⟨a, b, c, rfl⟩
theorem eight_of {α : Type} : ∀ {l : List α}, l.length = 8 → ∃ a b c d e f g h, l = [a, b, c, d, e, f, g, h]
  | [a, b, c, d, e, f, g, h], _ => ⟨a, b, c, d, e, f, g, h, rfl⟩
theorem ten_of {α : Type} : ∀ {l : List α}, l.length = 10 → ∃ a b c d e f g h i j, l = [a, b, c, d, e, f, g, h, i, j]
  | [a, b, c, d, e, f, g, h, i, j], _ => ⟨a, b, c, d, e, f, g, h, i, j, rfl⟩
theorem lies_of {W : World} {k : Nm} {m : Vl} {pp : Option Addr} {pc' : Nat} {ip : Option Addr} {ic : Nat} {n : Int} (h : VI W m pp pc' ip ic) : Lies (fun j => j < W.heap.size) W ⟨k, m, pp, pc', ip, ic, n⟩ := by
  refine ⟨h, fun hne a ha => ?_, fun hne a ha => ?_⟩
  · obtain ⟨b, o, e, hc⟩ := h.pairs.prs hne
    have ha' : pp = some a := ha
    rw [ha'] at e
    injection e with e
    rw [e]
    exact block_lt_of_cell (hc 0 (List.length_pos_iff.2 hne)).1
  · obtain ⟨b, o, e, hc⟩ := h.items.strs hne
    have ha' : ip = some a := ha
    rw [ha'] at e
    injection e with e
    rw [e]
    exact block_lt_of_cell (hc 0 (List.length_pos_iff.2 hne))
set_option maxHeartbeats 1000000 in
set_option maxRecDepth 100000 in
/-- an entry that came in -/
theorem open_ent {H : Type} {enc : TypeId × Value → H} {W : World} {base : Nat} {sp : Nat → Bool} {held : Bool} {fuel : Nat} {cs : List Value} {x : DataW H × List MemPlace} (h : DataW.trod enc Tryd.prog W base sp held fuel 36 cs = some x) (hsz : ∀ n ∈ x.1.weights Tryd.prog 36, n ≤ 140737488351232) :
    ∃ e : E8, cs = e.cells.toList ∧ Arg8 e ∧ Lies (fun j => j < W.heap.size) W e := by
  obtain ⟨xs, n, rfl, rfl, hl, hlen, hf⟩ := DataW.trod_struct Tryd.underlying36 h
  rw [cellsEnt] at hl
  obtain ⟨c0, c1, c2, c3, c4, c5, c6, c7, rfl⟩ := eight_of hl
  obtain ⟨y0, y1, y2, rfl⟩ := three_of (show xs.length = 3 from hlen)
  have f0 : DataW.trod enc Tryd.prog W base sp held n 9 (([c0, c1, c2, c3, c4, c5, c6, c7].drop 0).take (Tryd.prog.cellsOf 9)) = some y0 := hf 0 _ rfl
  have f1 : DataW.trod enc Tryd.prog W base sp held n 34 (([c0, c1, c2, c3, c4, c5, c6, c7].drop 1).take (Tryd.prog.cellsOf 34)) = some y1 := hf 1 _ rfl
  have f2 : DataW.trod enc Tryd.prog W base sp held n 3 (([c0, c1, c2, c3, c4, c5, c6, c7].drop 7).take (Tryd.prog.cellsOf 3)) = some y2 := hf 2 _ rfl
  rw [cellsStr1] at f0
  rw [cellsVal] at f1
  rw [cellsInt] at f2
  have hw : ∀ (j : Nat) (t : TypeId) (y : DataW H × List MemPlace) (z : Nat), [9, 34, 3][j]? = some t → [y0, y1, y2][j]? = some y → z ∈ y.1.weights Tryd.prog t → z ≤ 140737488351232 := fun j t y z h1 h2 h3 => by
    apply hsz
    simp only [DataW.weights, Tryd.underlying36]
    exact DataW.weights_mem_each (j := j) (t := t) (d := y.1) h1 (by rw [List.getElem?_map, h2]; rfl) _ h3
  obtain ⟨s, e0, hy0, _⟩ := DataW.trod_string Tryd.underlying9 f0
  obtain ⟨k, e2, _, w2⟩ := DataW.trod_int Tryd.underlying3 f2
  obtain rfl : c0 = .string s := by simpa using e0
  obtain rfl : c7 = .int .i64 k := by simpa using e2
  obtain ⟨m, pp, pc', ip, ic, h1, h2, h3, h4⟩ := open_val f1 (fun z hz => hw 1 _ y1 z rfl rfl hz)
  have rk : s.data.toList.length ≤ 140737488351232 := hw 0 _ y0 _ rfl rfl (by rw [hy0]; simp [DataW.weights])
  have h1' : [c1, c2, c3, c4, c5, c6] = (vcs m pp pc' ip ic).toList := h1
  simp only [List.cons.injEq, and_true] at h1'
  obtain ⟨rfl, rfl, rfl, rfl, rfl, rfl⟩ := h1'
  exact ⟨⟨s.data.toList, m, pp, pc', ip, ic, k⟩, rfl, ⟨rk, h2, h3.1, h3.2, bounds_i64 w2⟩, lies_of h4⟩
end Go.Proofs.YtppgifaegnmciaaDoor

namespace Go.Proofs.YtppgifaegnmciaaDoor
open Go.RowKit

/-- the listed variable -/
def listed : List (String × DataW Unit) := [("marshalyard/crc.halfSums", Rows.laid_marshalyard_crc_halfSums)]
theorem gTab : Tryd.prog.globalNamed "marshalyard/crc.halfSums" = some 0 := by kernel_rfl
theorem gTabType : (Tryd.prog.globals[0]?).map (·.type) = some 129 := by kernel_rfl
theorem cellsTab : Tryd.prog.cellsOf 129 = 16 := by kernel_rfl
theorem cells16 : Tryd.prog.cellsOf 92 = 1 := by kernel_rfl
def sums : List Int := [0, 4129, 8258, 12387, 16516, 20645, 24774, 28903, 33032, 37161, 41290, 45419, 49548, 53677, 57806, 61935]
theorem sums_eq : ∀ i : Fin 16, sums.getD i.val 0 = ((Crc.tabL.getD i.val 0#16).toNat : Int) := by decide +kernel
theorem env_of {W : World} (hL : laidMetH Tryd.prog listed W) : Tab W := by
  have h : laidMet Tryd.prog listed W := (MakeChecks.laidMetH_plain _ _ _ (by kernel_rfl)) ▸ hL
  have t1 : Lib.TabIs Tryd.prog W "marshalyard/crc.halfSums" .u16 sums := Lib.tabIs_of_head gTab gTabType Tryd.underlying129 Tryd.underlying92 cells16 cellsTab h
  intro i hi
  rw [t1.cell gTab i hi]
  exact congrArg (fun z => some (Value.int .u16 z)) (sums_eq ⟨i, hi⟩)
theorem tab_lt {W : World} (h : Tab W) : 0 < W.heap.size := block_lt_of_cell (h 0 (by decide))
def fillOf (cs : Array Value) : Obj → Obj
  | .cells _ t frozen => .cells cs t frozen
  | o => o
/-- a world for the witness: the settled one, the listed variable holding what its initialiser lays -/
def laidWorld (P : Program) (os : Os) : World :=
  { World.holding P os ⟨#[], #[], []⟩ with heap := (World.holding P os ⟨#[], #[], []⟩).heap.modify 0 (fillOf (sums.map (Value.int .u16)).toArray) }
theorem laid_met (os : Os) (args : Array Value) : laidMet Tryd.prog listed ((laidWorld Tryd.prog os).forCall (fun _ _ => 0) ⟨#[], args, []⟩).memory :=
  laidMet_of_run' 8 (by kernel_rfl) (by kernel_rfl)

end Go.Proofs.YtppgifaegnmciaaDoor
