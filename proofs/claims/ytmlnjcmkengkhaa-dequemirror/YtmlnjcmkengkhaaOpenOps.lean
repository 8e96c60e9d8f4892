/- A row of calls that came in, opened. -/
import Derived.Test.YtmlnjcmkengkhaaLawAll
import Derived.Deep.Slices
import Derived.ChangeArms
import Derived.ProofKit
import Derived.OpenShut
namespace Go.Proofs.Ytmlnjcmkengkhaa
open Go.RowKit Go.ChangeShapes Go.WideShapes Go.ChangeAt

theorem cellsOp : Try.prog.cellsOf 40 = 5 := by kernel_rfl
theorem cellsInt : Try.prog.cellsOf 3 = 1 := by kernel_rfl
theorem cellsBool : Try.prog.cellsOf 4 = 1 := by kernel_rfl
theorem cellsStr1 : Try.prog.cellsOf 9 = 1 := by kernel_rfl
theorem five {α : Type} : ∀ {l : List α}, l.length = 5 → ∃ a b c d e, l = [a, b, c, d, e]
  | [a, b, c, d, e], _ => ⟨a, b, c, d, e, rfl⟩
set_option maxRecDepth 100000 in
theorem open_op {H : Type} {enc : TypeId × Value → H} {W : World} {base : Nat} {sp : Nat → Bool} {held : Bool} {fuel : Nat} {cs : List Value} {x : DataW H × List MemPlace} (h : DataW.trod enc Try.prog W base sp held fuel 40 cs = some x) :
    ∃ o : OpL, cs = [.int .i64 o.kind, .int .i64 o.a, .int .i64 o.b, .bool o.front, txt o.s] ∧ OpFit o := by
  obtain ⟨xs, n, rfl, rfl, hl, hlen, hf⟩ := DataW.trod_struct Try.underlying40 h
  rw [cellsOp] at hl
  obtain ⟨c0, c1, c2, c3, c4, rfl⟩ := five hl
  obtain ⟨y0, y1, y2, y3, y4, rfl⟩ := five (show xs.length = 5 from hlen)
  have f0 : DataW.trod enc Try.prog W base sp held n 3 (([c0, c1, c2, c3, c4].drop 0).take (Try.prog.cellsOf 3)) = some y0 := hf 0 _ rfl
  have f1 : DataW.trod enc Try.prog W base sp held n 3 (([c0, c1, c2, c3, c4].drop 1).take (Try.prog.cellsOf 3)) = some y1 := hf 1 _ rfl
  have f2 : DataW.trod enc Try.prog W base sp held n 3 (([c0, c1, c2, c3, c4].drop 2).take (Try.prog.cellsOf 3)) = some y2 := hf 2 _ rfl
  have f3 : DataW.trod enc Try.prog W base sp held n 4 (([c0, c1, c2, c3, c4].drop 3).take (Try.prog.cellsOf 4)) = some y3 := hf 3 _ rfl
  have f4 : DataW.trod enc Try.prog W base sp held n 9 (([c0, c1, c2, c3, c4].drop 4).take (Try.prog.cellsOf 9)) = some y4 := hf 4 _ rfl
  rw [cellsInt] at f0 f1 f2
  rw [cellsBool] at f3
  rw [cellsStr1] at f4
  obtain ⟨k, e0, _, w0⟩ := DataW.trod_int Try.underlying3 f0
  obtain ⟨a, e1, _, w1⟩ := DataW.trod_int Try.underlying3 f1
  obtain ⟨b, e2, _, w2⟩ := DataW.trod_int Try.underlying3 f2
  obtain ⟨f, e3, _⟩ := DataW.trod_bool Try.underlying4 f3
  obtain ⟨s, e4, _, hs⟩ := DataW.trod_string Try.underlying9 f4
  obtain rfl : c0 = .int .i64 k := by simpa using e0
  obtain rfl : c1 = .int .i64 a := by simpa using e1
  obtain rfl : c2 = .int .i64 b := by simpa using e2
  obtain rfl : c3 = .bool f := by simpa using e3
  obtain rfl : c4 = .string s := by simpa using e4
  have b0 := bounds_i64 w0
  have b1 := bounds_i64 w1
  have b2 := bounds_i64 w2
  exact ⟨⟨k, a, b, f, s.data.toList⟩, rfl, ⟨b0.1, b0.2, b1.1, b1.2, b2.1, b2.2⟩⟩
set_option maxRecDepth 100000 in
theorem open_ops {H : Type} {enc : TypeId × Value → H} {W : World} {base : Nat} {sp : Nat → Bool} {held : Bool} {m : Nat} {a : Option Addr} {len cap : Nat} {x : DataW H × List MemPlace} (hm : DataW.trod enc Try.prog W base sp held m 22 [.slice a len cap] = some x) :
    ∃ l : List OpL, l.length = len ∧ Ops (Old W) W a l ∧ (∀ o ∈ l, OpFit o) ∧ len ≤ 9223372036854775807 := by
  rcases DataW.trod_slice Try.underlying22 hm with ⟨e3, _⟩ | ⟨a', len', cap', elems, rest, n', hn', e3, _, _, hlc, hcm, hel, hE, _⟩
  · obtain ⟨rfl, rfl, rfl⟩ : a = none ∧ len = 0 ∧ cap = 0 := by simpa using e3
    exact ⟨[], rfl, (fun h => absurd rfl h), (fun o (h : o ∈ ([] : List OpL)) => by cases h), by decide⟩
  · obtain ⟨rfl, rfl, rfl⟩ : a = some a' ∧ len = len' ∧ cap = cap' := by simpa using e3
    have each : ∀ i, i < len → ∃ o : OpL, W.cells? base (a'.add (i * 5)) 5 = some [.int .i64 o.kind, .int .i64 o.a, .int .i64 o.b, .bool o.front, txt o.s] ∧ OpFit o := fun i hi => by
      have h1 := hE i hi
      rw [cellsOp, List.getElem?_eq_getElem (by omega)] at h1
      obtain ⟨cs', h2, h3⟩ := Option.bind_eq_some_iff.1 h1
      obtain ⟨o, rfl, ho⟩ := open_op h3
      exact ⟨o, h2, ho⟩
    have _inh : Inhabited OpL := ⟨⟨0, 0, 0, false, []⟩⟩
    obtain ⟨F, hF⟩ := Go.Deep.choose_lt each
    have hL : ((List.range len).map F).length = len := by simp
    refine ⟨(List.range len).map F, hL, fun hne => ?_, fun o ho => ?_, Nat.le_trans hlc hcm⟩
    · have hpos : 0 < len := by
        rcases Nat.eq_zero_or_pos len with h | h
        · subst h; exact absurd rfl hne
        · exact h
      obtain ⟨blk, off, spot⟩ := a'
      have hsp : spot = none := by
        obtain ⟨h1, _⟩ := hF 0 hpos
        obtain ⟨_, _, h3⟩ := World.cells?_some h1
        have h4 := h3 0 (by decide)
        rw [List.getElem?_eq_getElem (by simp)] at h4
        simpa [Addr.add] using World.cell?_spot h4
      subst hsp
      have get : ∀ i, i < len → W.cell? ⟨blk, off + i * 5, none⟩ = some (.int .i64 (F i).kind) ∧ W.cell? ⟨blk, off + i * 5 + 1, none⟩ = some (.int .i64 (F i).a) ∧ W.cell? ⟨blk, off + i * 5 + 2, none⟩ = some (.int .i64 (F i).b) ∧ W.cell? ⟨blk, off + i * 5 + 3, none⟩ = some (.bool (F i).front) ∧ W.cell? ⟨blk, off + i * 5 + 4, none⟩ = some (txt (F i).s) := fun i hi => by
        obtain ⟨h1, _⟩ := hF i hi
        obtain ⟨_, _, h4⟩ := World.cells?_some h1
        have g0 := h4 0 (by decide)
        have g1 := h4 1 (by decide)
        have g2 := h4 2 (by decide)
        have g3 := h4 3 (by decide)
        have g4 := h4 4 (by decide)
        simp only [add_plain, Nat.add_zero, List.getElem?_cons_zero, List.getElem?_cons_succ] at g0 g1 g2 g3 g4
        exact ⟨g0, g1, g2, g3, g4⟩
      refine ⟨blk, off, rfl, block_lt_of_cell (get 0 hpos).1, fun i hi => ?_⟩
      have hi' : i < len := by rwa [hL] at hi
      simp only [List.getElem_map, List.getElem_range]
      exact get i hi'
    · simp only [List.mem_map, List.mem_range] at ho
      obtain ⟨i, hi, rfl⟩ := ho
      exact (hF i hi).2

end Go.Proofs.Ytmlnjcmkengkhaa
