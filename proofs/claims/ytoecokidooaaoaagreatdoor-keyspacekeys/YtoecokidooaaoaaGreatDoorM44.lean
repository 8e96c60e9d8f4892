/- OpenK, Laid. -/
import Derived.Test.YtoecokidooaaoaaGreatDoorM12
import Derived.Test.YtoecokidooaaoaaGreatDoorM43
import Derived.Test.YtoecokidooaaoaaGreatDoorRows
import Derived.Lib.LaidTab
import Derived.Stop.LaidErr
import Derived.MakeChecks
import Derived.LaidLaws
import Derived.Test.YtoecokidooaaoaaGreatDoorM09
namespace Go.Proofs.YtoecokidooaaoaaGreatDoor
open Go.RowKit Go.ChangeShapes Go.WideShapes Go.ChangeAt

theorem cellsEnt : Tryz.prog.cellsOf 47 = 8 := by kernel_rfl
theorem cellsOp : Tryz.prog.cellsOf 52 = 10 := by kernel_rfl
theorem bytesOp : Tryz.prog.bytesOf 52 = 128 := by kernel_rfl
theorem three_of {α : Type} : ∀ {l : List α}, l.length = 3 → ∃ a b c, l = [a, b, c]
  | [a, b, c], _ => ⟨a, b, c, rfl⟩
theorem eight_of {α : Type} : ∀ {l : List α}, l.length = 8 → ∃ a b c d e f g h, l = [a, b, c, d, e, f, g, h]
  | [a, b, c, d, e, f, g, h], _ => ⟨a, b, c, d, e, f, g, h, rfl⟩
theorem ten_of {α : Type} : ∀ {l : List α}, l.length = 10 → ∃ a b c d e f g h i j, l = [a, b, c, d, e, f, g, h, i, j]
  | [a, b, c, d, e, f, g, h, i, j], _ => ⟨a, b, c, d, e, f, g, h, i, j, rfl⟩
theorem lies_of {W : World} {k : Nm} {m : Vl} {pp : Option Addr} {pc' : Nat} {ip : Option Addr} {ic : Nat} {n : Int} (h : VI W m pp pc' ip ic) : Lies (fun j => j < W.heap.size) W ⟨k, m, pp, pc', ip, ic, n⟩ := by
  refine ⟨h, fun hne a ha => ?_, fun hne a ha => ?_⟩
  · obtain ⟨b, o, e, hc⟩ := h.pairs.prs hne
    have ha' : pp = some a := ha
    rw [ha'] at e
    injection e with e
    rw [e]
    exact block_lt_of_cell (hc 0 (List.length_pos_iff.2 hne)).1
  · obtain ⟨b, o, e, hc⟩ := h.items.strs hne
    have ha' : ip = some a := ha
    rw [ha'] at e
    injection e with e
    rw [e]
    exact block_lt_of_cell (hc 0 (List.length_pos_iff.2 hne))
set_option maxHeartbeats 1000000 in
set_option maxRecDepth 100000 in
/-- an entry that came in -/
theorem open_ent {H : Type} {enc : TypeId × Value → H} {W : World} {base : Nat} {sp : Nat → Bool} {held : Bool} {fuel : Nat} {cs : List Value} {x : DataW H × List MemPlace} (h : DataW.trod enc Tryz.prog W base sp held fuel 47 cs = some x) (hsz : ∀ n ∈ x.1.weights Tryz.prog 47, n ≤ 140737488351232) :
    ∃ e : E8, cs = e.cells.toList ∧ Arg8 e ∧ Lies (fun j => j < W.heap.size) W e := by
  obtain ⟨xs, n, rfl, rfl, hl, hlen, hf⟩ := DataW.trod_struct Tryz.underlying47 h
  rw [cellsEnt] at hl
  obtain ⟨c0, c1, c2, c3, c4, c5, c6, c7, rfl⟩ := eight_of hl
  obtain ⟨y0, y1, y2, rfl⟩ := three_of (show xs.length = 3 from hlen)
  have f0 : DataW.trod enc Tryz.prog W base sp held n 9 (([c0, c1, c2, c3, c4, c5, c6, c7].drop 0).take (Tryz.prog.cellsOf 9)) = some y0 := hf 0 _ rfl
  have f1 : DataW.trod enc Tryz.prog W base sp held n 45 (([c0, c1, c2, c3, c4, c5, c6, c7].drop 1).take (Tryz.prog.cellsOf 45)) = some y1 := hf 1 _ rfl
  have f2 : DataW.trod enc Tryz.prog W base sp held n 3 (([c0, c1, c2, c3, c4, c5, c6, c7].drop 7).take (Tryz.prog.cellsOf 3)) = some y2 := hf 2 _ rfl
  rw [cellsStr1] at f0
  rw [cellsVal] at f1
  rw [cellsInt] at f2
  have hw : ∀ (j : Nat) (t : TypeId) (y : DataW H × List MemPlace) (z : Nat), [9, 45, 3][j]? = some t → [y0, y1, y2][j]? = some y → z ∈ y.1.weights Tryz.prog t → z ≤ 140737488351232 := fun j t y z h1 h2 h3 => by
    apply hsz
    simp only [DataW.weights, Tryz.underlying47]
    exact DataW.weights_mem_each (j := j) (t := t) (d := y.1) h1 (by rw [List.getElem?_map, h2]; rfl) _ h3
  obtain ⟨s, e0, hy0, _⟩ := DataW.trod_string Tryz.underlying9 f0
  obtain ⟨k, e2, _, w2⟩ := DataW.trod_int Tryz.underlying3 f2
  obtain rfl : c0 = .string s := by simpa using e0
  obtain rfl : c7 = .int .i64 k := by simpa using e2
  obtain ⟨m, pp, pc', ip, ic, h1, h2, h3, h4⟩ := open_val f1 (fun z hz => hw 1 _ y1 z rfl rfl hz)
  have rk : s.data.toList.length ≤ 140737488351232 := hw 0 _ y0 _ rfl rfl (by rw [hy0]; simp [DataW.weights])
  have h1' : [c1, c2, c3, c4, c5, c6] = (vcs m pp pc' ip ic).toList := h1
  simp only [List.cons.injEq, and_true] at h1'
  obtain ⟨rfl, rfl, rfl, rfl, rfl, rfl⟩ := h1'
  exact ⟨⟨s.data.toList, m, pp, pc', ip, ic, k⟩, rfl, ⟨rk, h2, h3.1, h3.2, bounds_i64 w2⟩, lies_of h4⟩
set_option maxHeartbeats 1000000 in
set_option maxRecDepth 100000 in
/-- a call that came in -/
theorem open_op {H : Type} {enc : TypeId × Value → H} {W : World} {base : Nat} {sp : Nat → Bool} {held : Bool} {fuel : Nat} {cs : List Value} {x : DataW H × List MemPlace} (h : DataW.trod enc Tryz.prog W base sp held fuel 52 cs = some x) (hsz : ∀ n ∈ x.1.weights Tryz.prog 52, n ≤ 140737488351232) :
    ∃ o : OpK, cs = o.cells.toList ∧ Arg8 o.e ∧ Lies (fun j => j < W.heap.size) W o.e := by
  obtain ⟨xs, n, rfl, rfl, hl, hlen, hf⟩ := DataW.trod_struct Tryz.underlying52 h
  rw [cellsOp] at hl
  obtain ⟨c0, c1, c2, c3, c4, c5, c6, c7, c8, c9, rfl⟩ := ten_of hl
  obtain ⟨y0, y1, y2, rfl⟩ := three_of (show xs.length = 3 from hlen)
  have f0 : DataW.trod enc Tryz.prog W base sp held n 3 (([c0, c1, c2, c3, c4, c5, c6, c7, c8, c9].drop 0).take (Tryz.prog.cellsOf 3)) = some y0 := hf 0 _ rfl
  have f1 : DataW.trod enc Tryz.prog W base sp held n 3 (([c0, c1, c2, c3, c4, c5, c6, c7, c8, c9].drop 1).take (Tryz.prog.cellsOf 3)) = some y1 := hf 1 _ rfl
  have f2 : DataW.trod enc Tryz.prog W base sp held n 47 (([c0, c1, c2, c3, c4, c5, c6, c7, c8, c9].drop 2).take (Tryz.prog.cellsOf 47)) = some y2 := hf 2 _ rfl
  rw [cellsInt] at f0 f1
  rw [cellsEnt] at f2
  have hw : ∀ z ∈ y2.1.weights Tryz.prog 47, z ≤ 140737488351232 := fun z h3 => by
    apply hsz
    simp only [DataW.weights, Tryz.underlying52]
    exact DataW.weights_mem_each (j := 2) (t := 47) (d := y2.1) rfl rfl _ h3
  obtain ⟨k, e0, _, _⟩ := DataW.trod_int Tryz.underlying3 f0
  obtain ⟨n', e1, _, _⟩ := DataW.trod_int Tryz.underlying3 f1
  obtain rfl : c0 = .int .i64 k := by simpa using e0
  obtain rfl : c1 = .int .i64 n' := by simpa using e1
  obtain ⟨e, h1, h2, h3⟩ := open_ent f2 hw
  have h1' : [c2, c3, c4, c5, c6, c7, c8, c9] = e.cells.toList := h1
  simp only [List.cons.injEq, and_true] at h1'
  obtain ⟨rfl, rfl, rfl, rfl, rfl, rfl, rfl, rfl⟩ := h1'
  exact ⟨⟨k, n', e⟩, rfl, h2, h3⟩
set_option maxHeartbeats 1000000 in
set_option maxRecDepth 100000 in
/-- calls that came in -/
theorem open_ops {H : Type} {enc : TypeId × Value → H} {W : World} {base : Nat} {sp : Nat → Bool} {held : Bool} {m : Nat} {a : Option Addr} {len cap : Nat} {x : DataW H × List MemPlace} (hm : DataW.trod enc Tryz.prog W base sp held m 22 [.slice a len cap] = some x) (hsz : ∀ n ∈ x.1.weights Tryz.prog 22, n ≤ 140737488351232) :
    ∃ l : List OpK, l.length = len ∧ Given W a l := by
  rcases DataW.trod_slice Tryz.underlying22 hm with ⟨e3, _⟩ | ⟨a', len', cap', elems, rest, n', hn', e3, hx, _, hlc, hcm, hel, hE, _⟩
  · obtain ⟨rfl, rfl, rfl⟩ : a = none ∧ len = 0 ∧ cap = 0 := by simpa using e3
    exact ⟨[], rfl, (fun h => absurd rfl h), (fun o (h : o ∈ ([] : List OpK)) => by cases h), (fun o (h : o ∈ ([] : List OpK)) => by cases h), by decide⟩
  · obtain ⟨rfl, rfl, rfl⟩ : a = some a' ∧ len = len' ∧ cap = cap' := by simpa using e3
    have each : ∀ i, i < len → ∃ o : OpK, W.cells? base (a'.add (i * 10)) 10 = some o.cells.toList ∧ Arg8 o.e ∧ Lies (fun j => j < W.heap.size) W o.e := fun i hi => by
      have h1 := hE i hi
      rw [cellsOp, List.getElem?_eq_getElem (by omega)] at h1
      obtain ⟨cs', h2, h3⟩ := Option.bind_eq_some_iff.1 h1
      obtain ⟨o, rfl, ho⟩ := open_op h3 (fun z hz => hsz z (by rw [hx]; exact weights_slice Tryz.underlying22 (List.mem_map.2 ⟨_, List.getElem_mem (by omega), rfl⟩) hz))
      exact ⟨o, h2, ho⟩
    have _inh : Inhabited OpK := ⟨⟨0, 0, ⟨[], zeroV, none, 0, none, 0, 0⟩⟩⟩
    obtain ⟨F, hF⟩ := Go.Deep.choose_lt each
    have hL : ((List.range len).map F).length = len := by simp
    have hmem : ∀ o ∈ (List.range len).map F, Arg8 o.e ∧ Lies (fun j => j < W.heap.size) W o.e := fun o ho => by
      simp only [List.mem_map, List.mem_range] at ho
      obtain ⟨i, hi, rfl⟩ := ho
      exact (hF i hi).2
    refine ⟨(List.range len).map F, hL, fun hne => ?_, fun o ho => (hmem o ho).1, fun o ho => (hmem o ho).2, ?_⟩
    · have hpos : 0 < len := by
        rcases Nat.eq_zero_or_pos len with h | h
        · subst h; exact absurd rfl hne
        · exact h
      obtain ⟨blk, off, spot⟩ := a'
      have hsp : spot = none := by
        obtain ⟨h1, _⟩ := hF 0 hpos
        obtain ⟨_, _, h3⟩ := World.cells?_some h1
        have h4 := h3 0 (by decide)
        rw [List.getElem?_eq_getElem (by simp)] at h4
        simpa [Addr.add] using World.cell?_spot h4
      subst hsp
      have hc : ∀ i (h : i < ((List.range len).map F).length) (j : Nat), j < 10 → W.cell? ⟨blk, off + (i * 10 + j), none⟩ = ((List.range len).map F)[i].cells[j]? := fun i hi j hj => by
        have hi' : i < len := by rwa [hL] at hi
        simp only [List.getElem_map, List.getElem_range]
        obtain ⟨h1, _⟩ := hF i hi'
        obtain ⟨_, _, h4⟩ := World.cells?_some h1
        have g := h4 j hj
        rw [Array.getElem?_toList] at g
        simp only [add_plain] at g
        rw [← Nat.add_assoc]
        exact g
      refine ⟨blk, off, rfl, ?_, hc⟩
      have g := hc 0 (by rw [hL]; exact hpos) 0 (by decide)
      exact block_lt_of_cell g
    · rw [hL]
      have hk := hsz _ (by rw [hx]; exact weights_row Tryz.underlying22 _ _)
      rw [bytesOp, List.length_map, hel] at hk
      omega

end Go.Proofs.YtoecokidooaaoaaGreatDoor

namespace Go.Proofs.YtoecokidooaaoaaGreatDoor
open Go.RowKit

/-- the listed variable -/
def listed : List (String × DataW Unit) := [("marshalyard/crc.halfSums", Rows.laid_marshalyard_crc_halfSums)]
theorem gTab : Tryz.prog.globalNamed "marshalyard/crc.halfSums" = some 0 := by kernel_rfl
theorem gTabType : (Tryz.prog.globals[0]?).map (·.type) = some 164 := by kernel_rfl
theorem cellsTab : Tryz.prog.cellsOf 164 = 16 := by kernel_rfl
theorem cells16 : Tryz.prog.cellsOf 85 = 1 := by kernel_rfl
def sums : List Int := [0, 4129, 8258, 12387, 16516, 20645, 24774, 28903, 33032, 37161, 41290, 45419, 49548, 53677, 57806, 61935]
theorem sums_eq : ∀ i : Fin 16, sums.getD i.val 0 = ((Crc.tabL.getD i.val 0#16).toNat : Int) := by decide +kernel
theorem env_of {W : World} (hL : laidMetH Tryz.prog listed W) : Tab W := by
  have h : laidMet Tryz.prog listed W := (MakeChecks.laidMetH_plain _ _ _ (by kernel_rfl)) ▸ hL
  have t1 : Lib.TabIs Tryz.prog W "marshalyard/crc.halfSums" .u16 sums := Lib.tabIs_of_head gTab gTabType Tryz.underlying164 Tryz.underlying85 cells16 cellsTab h
  intro i hi
  rw [t1.cell gTab i hi]
  exact congrArg (fun z => some (Value.int .u16 z)) (sums_eq ⟨i, hi⟩)
theorem tab_lt {W : World} (h : Tab W) : 0 < W.heap.size := block_lt_of_cell (h 0 (by decide))
def fillOf (cs : Array Value) : Obj → Obj
  | .cells _ t frozen => .cells cs t frozen
  | o => o
/-- a world for the witness: the settled one, the listed variable holding what its initialiser lays -/
def laidWorld (P : Program) (os : Os) : World :=
  { World.holding P os ⟨#[], #[], []⟩ with heap := (World.holding P os ⟨#[], #[], []⟩).heap.modify 0 (fillOf (sums.map (Value.int .u16)).toArray) }
theorem laid_met (os : Os) (args : Array Value) : laidMet Tryz.prog listed ((laidWorld Tryz.prog os).forCall (fun _ _ => 0) ⟨#[], args, []⟩).memory :=
  laidMet_of_run' 8 (by kernel_rfl) (by kernel_rfl)

end Go.Proofs.YtoecokidooaaoaaGreatDoor
