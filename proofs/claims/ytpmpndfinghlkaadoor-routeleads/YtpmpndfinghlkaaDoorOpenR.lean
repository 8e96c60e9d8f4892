/- What comes in: a Case, a Decision; how it is read. -/
import Derived.Test.YtpmpndfinghlkaaDoorRows
import Derived.Test.YtpmpndfinghlkaaDoorLawRt1
import Derived.Deep.Slices
import Derived.ChangeArms
import Derived.ProofKit
import Derived.OpenShut
namespace Go.Proofs.YtpmpndfinghlkaaDoor
open Go.ChangeShapes Go.WideShapes Go.ChangeAt Go.RowKit

theorem cellsCase : Tryd.prog.cellsOf 25 = 9 := by kernel_rfl
theorem cellsDec : Tryd.prog.cellsOf 28 = 4 := by kernel_rfl
theorem cellsIntO : Tryd.prog.cellsOf 3 = 1 := by kernel_rfl
theorem cellsBoolO : Tryd.prog.cellsOf 4 = 1 := by kernel_rfl
theorem cellsIntsO : Tryd.prog.cellsOf 22 = 1 := by kernel_rfl
theorem cellsBoolsO : Tryd.prog.cellsOf 23 = 1 := by kernel_rfl
theorem open_ints {H : Type} {enc : TypeId × Value → H} {W : World} {base : Nat} {sp : Nat → Bool} {held : Bool} {m : Nat} {a : Option Addr} {len cap : Nat} {x : DataW H × List MemPlace} (hm : DataW.trod enc Tryd.prog W base sp held m 22 [.slice a len cap] = some x) :
    ∃ l : List Int, l.length = len ∧ IntsR W a l ∧ len ≤ cap ∧ cap ≤ 9223372036854775807 := by
  rcases DataW.trod_slice Tryd.underlying22 hm with ⟨e3, _⟩ | ⟨a', len', cap', elems, rest, n', hn', e3, hx, _, hlc, hcm, hel, hE, _⟩
  · obtain ⟨rfl, rfl, rfl⟩ : a = none ∧ len = 0 ∧ cap = 0 := by simpa using e3
    exact ⟨[], rfl, (fun h => absurd rfl h), by decide, by decide⟩
  · obtain ⟨rfl, rfl, rfl⟩ : a = some a' ∧ len = len' ∧ cap = cap' := by simpa using e3
    have each : ∀ i, i < len → ∃ z : Int, W.cells? base (a'.add (i * 1)) 1 = some [Value.int .i64 z] := fun i hi => by
      have h1 := hE i hi
      rw [cellsIntO, List.getElem?_eq_getElem (by omega)] at h1
      obtain ⟨cs', h2, h3⟩ := Option.bind_eq_some_iff.1 h1
      obtain ⟨z, ho, -, -⟩ := DataW.trod_int Tryd.underlying3 h3
      exact ⟨z, by rw [← ho]; exact h2⟩
    obtain ⟨F, hF⟩ := Go.Deep.choose_lt each
    have hL : ((List.range len).map F).length = len := by simp
    refine ⟨(List.range len).map F, hL, fun hne => ?_, hlc, hcm⟩
    have hpos : 0 < len := by
      rcases Nat.eq_zero_or_pos len with h | h
      · subst h; exact absurd rfl hne
      · exact h
    obtain ⟨blk, off, spot⟩ := a'
    have hsp : spot = none := by
      obtain ⟨_, _, h3⟩ := World.cells?_some (hF 0 hpos)
      have h4 := h3 0 (by decide)
      simpa [Addr.add] using World.cell?_spot h4
    subst hsp
    have get : ∀ i, i < len → W.cell? ⟨blk, off + i, none⟩ = some (.int .i64 (F i)) := fun i hi => by
      obtain ⟨_, _, h4⟩ := World.cells?_some (hF i hi)
      have g := h4 0 (by decide)
      simp only [add_plain] at g
      simpa using g
    refine ⟨blk, off, rfl, ?_, fun i hi => ?_⟩
    · have h0 := get 0 hpos
      exact block_lt_of_cell h0
    · have hi' : i < len := by simpa using hi
      rw [get i hi']
      simp
theorem open_bools {H : Type} {enc : TypeId × Value → H} {W : World} {base : Nat} {sp : Nat → Bool} {held : Bool} {m : Nat} {a : Option Addr} {len cap : Nat} {x : DataW H × List MemPlace} (hm : DataW.trod enc Tryd.prog W base sp held m 23 [.slice a len cap] = some x) :
    ∃ l : List Bool, l.length = len ∧ BoolsR W a l ∧ len ≤ cap ∧ cap ≤ 9223372036854775807 := by
  rcases DataW.trod_slice Tryd.underlying23 hm with ⟨e3, _⟩ | ⟨a', len', cap', elems, rest, n', hn', e3, hx, _, hlc, hcm, hel, hE, _⟩
  · obtain ⟨rfl, rfl, rfl⟩ : a = none ∧ len = 0 ∧ cap = 0 := by simpa using e3
    exact ⟨[], rfl, (fun h => absurd rfl h), by decide, by decide⟩
  · obtain ⟨rfl, rfl, rfl⟩ : a = some a' ∧ len = len' ∧ cap = cap' := by simpa using e3
    have each : ∀ i, i < len → ∃ z : Bool, W.cells? base (a'.add (i * 1)) 1 = some [Value.bool z] := fun i hi => by
      have h1 := hE i hi
      rw [cellsBoolO, List.getElem?_eq_getElem (by omega)] at h1
      obtain ⟨cs', h2, h3⟩ := Option.bind_eq_some_iff.1 h1
      obtain ⟨z, ho, -⟩ := DataW.trod_bool Tryd.underlying4 h3
      exact ⟨z, by rw [← ho]; exact h2⟩
    obtain ⟨F, hF⟩ := Go.Deep.choose_lt each
    have hL : ((List.range len).map F).length = len := by simp
    refine ⟨(List.range len).map F, hL, fun hne => ?_, hlc, hcm⟩
    have hpos : 0 < len := by
      rcases Nat.eq_zero_or_pos len with h | h
      · subst h; exact absurd rfl hne
      · exact h
    obtain ⟨blk, off, spot⟩ := a'
    have hsp : spot = none := by
      obtain ⟨_, _, h3⟩ := World.cells?_some (hF 0 hpos)
      have h4 := h3 0 (by decide)
      simpa [Addr.add] using World.cell?_spot h4
    subst hsp
    have get : ∀ i, i < len → W.cell? ⟨blk, off + i, none⟩ = some (.bool (F i)) := fun i hi => by
      obtain ⟨_, _, h4⟩ := World.cells?_some (hF i hi)
      have g := h4 0 (by decide)
      simp only [add_plain] at g
      simpa using g
    refine ⟨blk, off, rfl, ?_, fun i hi => ?_⟩
    · have h0 := get 0 hpos
      exact block_lt_of_cell h0
    · have hi' : i < len := by simpa using hi
      rw [get i hi']
      simp
theorem four_of {α : Type} : ∀ {l : List α}, l.length = 4 → ∃ a b c d, l = [a, b, c, d]
  | [a, b, c, d], _ => ⟨a, b, c, d, rfl⟩
theorem nine_of {α : Type} : ∀ {l : List α}, l.length = 9 → ∃ a b c d e f g h i, l = [a, b, c, d, e, f, g, h, i]
  | [a, b, c, d, e, f, g, h, i], _ => ⟨a, b, c, d, e, f, g, h, i, rfl⟩
theorem in64_of {v : Int} (h : -9223372036854775808 ≤ v ∧ v ≤ 9223372036854775807) : In64 v := h
theorem open_dec {H : Type} {enc : TypeId × Value → H} {W : World} {base : Nat} {spare : Nat → Bool} {held : Bool} {fuel : Nat} {cs : Array Value} {d : DataW H} {p : List MemPlace} (hs : cs.size = Tryd.prog.cellsOf 28) (h : DataW.trod enc Tryd.prog W base spare held fuel 28 (Value.agg cs).cells.toList = some (d, p)) :
    ∃ D : DecV, cs = decCells D ∧ DecIn D := by
  rw [cellsDec] at hs
  obtain ⟨xs, n, rfl, -, hl, hlen, hf⟩ := DataW.trod_struct Tryd.underlying28 h
  obtain ⟨y0, y1, y2, y3, rfl⟩ := four_of (show xs.length = 4 from hlen)
  obtain ⟨c0, c1, c2, c3, hc⟩ := four_of (show cs.toList.length = 4 by simpa using hs)
  have f0 : DataW.trod enc Tryd.prog W base spare held n 3 ((cs.toList.drop 0).take (Tryd.prog.cellsOf 3)) = some y0 := hf 0 _ rfl
  have f1 : DataW.trod enc Tryd.prog W base spare held n 3 ((cs.toList.drop 1).take (Tryd.prog.cellsOf 3)) = some y1 := hf 1 _ rfl
  have f2 : DataW.trod enc Tryd.prog W base spare held n 3 ((cs.toList.drop 2).take (Tryd.prog.cellsOf 3)) = some y2 := hf 2 _ rfl
  have f3 : DataW.trod enc Tryd.prog W base spare held n 3 ((cs.toList.drop 3).take (Tryd.prog.cellsOf 3)) = some y3 := hf 3 _ rfl
  rw [cellsIntO, hc] at f0 f1 f2 f3
  obtain ⟨a0, e0, -, w0⟩ := DataW.trod_int Tryd.underlying3 f0
  obtain ⟨a1, e1, -, w1⟩ := DataW.trod_int Tryd.underlying3 f1
  obtain ⟨a2, e2, -, w2⟩ := DataW.trod_int Tryd.underlying3 f2
  obtain ⟨a3, e3, -, w3⟩ := DataW.trod_int Tryd.underlying3 f3
  obtain rfl : c0 = .int .i64 a0 := by simpa using e0
  obtain rfl : c1 = .int .i64 a1 := by simpa using e1
  obtain rfl : c2 = .int .i64 a2 := by simpa using e2
  obtain rfl : c3 = .int .i64 a3 := by simpa using e3
  exact ⟨⟨a0, a1, a2, a3⟩, Array.toList_inj.1 hc, in64_of (bounds_i64 w0), in64_of (bounds_i64 w1), in64_of (bounds_i64 w2), in64_of (bounds_i64 w3)⟩
theorem slice_of {H : Type} {enc : TypeId × Value → H} {W : World} {base : Nat} {spare : Nat → Bool} {held : Bool} {fuel : Nat} {t e : TypeId} (ht : Tryd.prog.underlying t = some (.slice e)) {v : Value} {x : DataW H × List MemPlace} (h : DataW.trod enc Tryd.prog W base spare held fuel t [v] = some x) : ∃ a len cap, v = .slice a len cap := by
  rcases DataW.trod_slice ht h with ⟨e, _⟩ | ⟨a', len', cap', _, _, _, _, e, _⟩
  · exact ⟨none, 0, 0, by simpa using e⟩
  · exact ⟨some a', len', cap', by simpa using e⟩
theorem open_case {H : Type} {enc : TypeId × Value → H} {W : World} {base : Nat} {spare : Nat → Bool} {held : Bool} {fuel : Nat} {cs : Array Value} {d : DataW H} {p : List MemPlace} (hs : cs.size = Tryd.prog.cellsOf 25) (h : DataW.trod enc Tryd.prog W base spare held fuel 25 (Value.agg cs).cells.toList = some (d, p)) :
    ∃ (c : CaseV) (a : Option Addr) (ca : Nat) (h : Option Addr) (ch : Nat) (d : Option Addr) (cd : Nat), cs = caseCells c a ca h ch d cd ∧ CaseR W c a h d ∧ CaseN c ca ch cd := by
  rw [cellsCase] at hs
  obtain ⟨xs, n, rfl, -, hl, hlen, hf⟩ := DataW.trod_struct Tryd.underlying25 h
  obtain ⟨y0, y1, y2, y3, y4, y5, y6, y7, y8, rfl⟩ := nine_of (show xs.length = 9 from hlen)
  obtain ⟨c0, c1, c2, c3, c4, c5, c6, c7, c8, hc⟩ := nine_of (show cs.toList.length = 9 by simpa using hs)
  have f0 : DataW.trod enc Tryd.prog W base spare held n 3 ((cs.toList.drop 0).take (Tryd.prog.cellsOf 3)) = some y0 := hf 0 _ rfl
  have f1 : DataW.trod enc Tryd.prog W base spare held n 3 ((cs.toList.drop 1).take (Tryd.prog.cellsOf 3)) = some y1 := hf 1 _ rfl
  have f2 : DataW.trod enc Tryd.prog W base spare held n 3 ((cs.toList.drop 2).take (Tryd.prog.cellsOf 3)) = some y2 := hf 2 _ rfl
  have f3 : DataW.trod enc Tryd.prog W base spare held n 3 ((cs.toList.drop 3).take (Tryd.prog.cellsOf 3)) = some y3 := hf 3 _ rfl
  have f4 : DataW.trod enc Tryd.prog W base spare held n 3 ((cs.toList.drop 4).take (Tryd.prog.cellsOf 3)) = some y4 := hf 4 _ rfl
  have f5 : DataW.trod enc Tryd.prog W base spare held n 3 ((cs.toList.drop 5).take (Tryd.prog.cellsOf 3)) = some y5 := hf 5 _ rfl
  have f6 : DataW.trod enc Tryd.prog W base spare held n 22 ((cs.toList.drop 6).take (Tryd.prog.cellsOf 22)) = some y6 := hf 6 _ rfl
  have f7 : DataW.trod enc Tryd.prog W base spare held n 23 ((cs.toList.drop 7).take (Tryd.prog.cellsOf 23)) = some y7 := hf 7 _ rfl
  have f8 : DataW.trod enc Tryd.prog W base spare held n 23 ((cs.toList.drop 8).take (Tryd.prog.cellsOf 23)) = some y8 := hf 8 _ rfl
  rw [cellsIntO, hc] at f0 f1 f2 f3 f4 f5
  rw [cellsIntsO, hc] at f6
  rw [cellsBoolsO, hc] at f7 f8
  obtain ⟨a0, e0, -, -⟩ := DataW.trod_int Tryd.underlying3 f0
  obtain ⟨a1, e1, -, -⟩ := DataW.trod_int Tryd.underlying3 f1
  obtain ⟨a2, e2, -, -⟩ := DataW.trod_int Tryd.underlying3 f2
  obtain ⟨a3, e3, -, -⟩ := DataW.trod_int Tryd.underlying3 f3
  obtain ⟨a4, e4, -, -⟩ := DataW.trod_int Tryd.underlying3 f4
  obtain ⟨a5, e5, -, -⟩ := DataW.trod_int Tryd.underlying3 f5
  have f6' : DataW.trod enc Tryd.prog W base spare held n 22 [c6] = some y6 := f6
  have f7' : DataW.trod enc Tryd.prog W base spare held n 23 [c7] = some y7 := f7
  have f8' : DataW.trod enc Tryd.prog W base spare held n 23 [c8] = some y8 := f8
  obtain ⟨p6, n6, q6, rfl⟩ := slice_of Tryd.underlying22 f6'
  obtain ⟨p7, n7, q7, rfl⟩ := slice_of Tryd.underlying23 f7'
  obtain ⟨p8, n8, q8, rfl⟩ := slice_of Tryd.underlying23 f8'
  obtain ⟨l6, rfl, r6, s6, u6⟩ := open_ints f6'
  obtain ⟨l7, rfl, r7, s7, u7⟩ := open_bools f7'
  obtain ⟨l8, rfl, r8, s8, u8⟩ := open_bools f8'
  obtain rfl : c0 = .int .i64 a0 := by simpa using e0
  obtain rfl : c1 = .int .i64 a1 := by simpa using e1
  obtain rfl : c2 = .int .i64 a2 := by simpa using e2
  obtain rfl : c3 = .int .i64 a3 := by simpa using e3
  obtain rfl : c4 = .int .i64 a4 := by simpa using e4
  obtain rfl : c5 = .int .i64 a5 := by simpa using e5
  exact ⟨⟨a0, a1, a2, a3, a4, a5, l6, l7, l8⟩, p6, q6, p7, q7, p8, q8, Array.toList_inj.1 hc, ⟨r6, r7, r8⟩, s6, s7, s8, u6, u7, u8⟩

end Go.Proofs.YtpmpndfinghlkaaDoor
