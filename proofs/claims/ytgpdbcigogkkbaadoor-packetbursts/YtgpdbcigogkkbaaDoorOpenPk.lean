/- A packet that comes in as an argument: how it is read. -/
import Derived.Test.YtgpdbcigogkkbaaDoorOpenBits
import Derived.Test.YtgpdbcigogkkbaaDoorPkMem
import Derived.ChangeArms
namespace Go.Proofs.YtgpdbcigogkkbaaDoor
open Go.ChangeShapes Go.WideShapes Go.ChangeAt Go.RowKit
open Slot

/-- a packet of nothing but zeros, as it comes in, and as it reads -/
def zeroArg : Array Value := #[.int .i64 0, .int .i64 0, .int .i64 0, .int .u64 0, .int .u64 0] ++ Array.replicate 256 (.int .u64 0)
def zeroDat {H : Type} : DataW H := .agg [.lit (.int .i64 0), .lit (.int .i64 0), .lit (.int .i64 0), .lit (.int .u64 0), .lit (.int .u64 0), .agg (List.replicate 256 (.lit (.int .u64 0)))]
theorem cellsPk : Tryd.prog.cellsOf 26 = 261 := by kernel_rfl
theorem cellsInt1 : Tryd.prog.cellsOf 3 = 1 := by kernel_rfl
theorem six_of {α : Type} : ∀ {l : List α}, l.length = 6 → ∃ a b c d e f, l = [a, b, c, d, e, f]
  | [a, b, c, d, e, f], _ => ⟨a, b, c, d, e, f, rfl⟩
theorem take_one {L : List Value} {i : Nat} {v : Value} (h : (L.drop i).take 1 = [v]) : L[i]? = some v := by
  cases e : L.drop i with
  | nil => rw [e] at h; cases h
  | cons a l =>
    rw [e] at h
    obtain rfl : a = v := by simpa using h
    have := congrArg (fun l : List Value => l[0]?) e
    simpa using this
set_option maxRecDepth 100000 in
theorem open_pk {H : Type} {enc : TypeId × Value → H} {W : World} {base : Nat} {spare : Nat → Bool} {held : Bool} {fuel : Nat} {cs : Array Value} {d : DataW H} {p : List MemPlace} (hs : cs.size = Tryd.prog.cellsOf 26) (h : DataW.trod enc Tryd.prog W base spare held fuel 26 (Value.agg cs).cells.toList = some (d, p)) :
    ∃ q : Pk, cs = pkCells q ∧ q.epoch < 18446744073709551616 ∧ q.cur < 18446744073709551616 := by
  rw [cellsPk] at hs
  obtain ⟨xs, n, rfl, -, hl, hlen, hf⟩ := DataW.trod_struct Tryd.underlying26 h
  obtain ⟨y0, y1, y2, y3, y4, y5, rfl⟩ := six_of (show xs.length = 6 from hlen)
  have f0 : DataW.trod enc Tryd.prog W base spare held n 3 ((cs.toList.drop 0).take (Tryd.prog.cellsOf 3)) = some y0 := hf 0 _ rfl
  have f1 : DataW.trod enc Tryd.prog W base spare held n 3 ((cs.toList.drop 1).take (Tryd.prog.cellsOf 3)) = some y1 := hf 1 _ rfl
  have f2 : DataW.trod enc Tryd.prog W base spare held n 3 ((cs.toList.drop 2).take (Tryd.prog.cellsOf 3)) = some y2 := hf 2 _ rfl
  have f3 : DataW.trod enc Tryd.prog W base spare held n 22 ((cs.toList.drop 3).take (Tryd.prog.cellsOf 22)) = some y3 := hf 3 _ rfl
  have f4 : DataW.trod enc Tryd.prog W base spare held n 22 ((cs.toList.drop 4).take (Tryd.prog.cellsOf 22)) = some y4 := hf 4 _ rfl
  have f5 : DataW.trod enc Tryd.prog W base spare held n 24 ((cs.toList.drop 5).take (Tryd.prog.cellsOf 24)) = some y5 := hf 5 _ rfl
  rw [cellsInt1] at f0 f1 f2
  rw [cellsU64] at f3 f4
  rw [cellsBits, List.take_of_length_le (by simp; omega)] at f5
  obtain ⟨a0, e0, -, -⟩ := DataW.trod_int Tryd.underlying3 f0
  obtain ⟨a1, e1, -, -⟩ := DataW.trod_int Tryd.underlying3 f1
  obtain ⟨a2, e2, -, -⟩ := DataW.trod_int Tryd.underlying3 f2
  obtain ⟨a3, e3, -, w3⟩ := DataW.trod_int Tryd.underlying22 f3
  obtain ⟨a4, e4, -, w4⟩ := DataW.trod_int Tryd.underlying22 f4
  have b3 := bounds_u64 w3
  have b4 := bounds_u64 w4
  obtain ⟨S, hS, -, -⟩ := open_bits (cs := (cs.toList.drop 5).toArray) (d := y5.1) (p := y5.2) (by rw [cellsBits]; simp; omega) f5
  obtain ⟨z3, rfl⟩ := Int.eq_ofNat_of_zero_le b3.1
  obtain ⟨z4, rfl⟩ := Int.eq_ofNat_of_zero_le b4.1
  refine ⟨⟨a0, a1, a2, z3, z4, S⟩, ?_, by simp only; omega, by simp only; omega⟩
  apply Array.ext_getElem?
  intro i
  rw [← Array.getElem?_toList]
  by_cases h5 : i < 5
  · rw [pk_lo _ h5]
    match i, h5 with
    | 0, _ => rw [take_one e0]; rfl
    | 1, _ => rw [take_one e1]; rfl
    | 2, _ => rw [take_one e2]; rfl
    | 3, _ => rw [take_one e3]; rfl
    | 4, _ => rw [take_one e4]; rfl
  · obtain ⟨j, rfl⟩ : ∃ j, i = 5 + j := ⟨i - 5, by omega⟩
    rw [pk_hi, ← hS]
    simp

end Go.Proofs.YtgpdbcigogkkbaaDoor
