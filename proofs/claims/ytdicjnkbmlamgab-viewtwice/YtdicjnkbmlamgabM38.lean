/- OpenPk, OpenVw. -/
import Derived.ChangeArms
import Derived.Test.YtdicjnkbmlamgabM09
import Derived.Test.YtdicjnkbmlamgabM08
import Derived.Deep.Slices
import Derived.ProofKit
import Derived.OpenShut
import Derived.Test.YtdicjnkbmlamgabM35
import Derived.Test.YtdicjnkbmlamgabM36
namespace Go.Proofs.Ytdicjnkbmlamgab
open Go.ChangeShapes Go.WideShapes Go.ChangeAt Go.RowKit
open Slot

/-- a packet of nothing but zeros, as it comes in, and as it reads -/
def zeroArg : Array Value := #[.int .i64 0, .int .i64 0, .int .i64 0, .int .u64 0, .int .u64 0] ++ Array.replicate 256 (.int .u64 0)
def zeroDat {H : Type} : DataW H := .agg [.lit (.int .i64 0), .lit (.int .i64 0), .lit (.int .i64 0), .lit (.int .u64 0), .lit (.int .u64 0), .agg (List.replicate 256 (.lit (.int .u64 0)))]
theorem cellsPk : Try.prog.cellsOf 29 = 261 := by kernel_rfl
theorem cellsInt1 : Try.prog.cellsOf 3 = 1 := by kernel_rfl
theorem six_of {α : Type} : ∀ {l : List α}, l.length = 6 → ∃ a b c d e f, l = [a, b, c, d, e, f]
  | [a, b, c, d, e, f], _ => ⟨a, b, c, d, e, f, rfl⟩
theorem take_one {L : List Value} {i : Nat} {v : Value} (h : (L.drop i).take 1 = [v]) : L[i]? = some v := by
  cases e : L.drop i with
  | nil => rw [e] at h; cases h
  | cons a l =>
    rw [e] at h
    obtain rfl : a = v := by simpa using h
    have := congrArg (fun l : List Value => l[0]?) e
    simpa using this
set_option maxRecDepth 100000 in
theorem open_pk {H : Type} {enc : TypeId × Value → H} {W : World} {base : Nat} {spare : Nat → Bool} {held : Bool} {fuel : Nat} {cs : Array Value} {d : DataW H} {p : List MemPlace} (hs : cs.size = Try.prog.cellsOf 29) (h : DataW.trod enc Try.prog W base spare held fuel 29 (Value.agg cs).cells.toList = some (d, p)) :
    ∃ q : Pk, cs = pkCells q ∧ q.epoch < 18446744073709551616 ∧ q.cur < 18446744073709551616 := by
  rw [cellsPk] at hs
  obtain ⟨xs, n, rfl, -, hl, hlen, hf⟩ := DataW.trod_struct Try.underlying29 h
  obtain ⟨y0, y1, y2, y3, y4, y5, rfl⟩ := six_of (show xs.length = 6 from hlen)
  have f0 : DataW.trod enc Try.prog W base spare held n 3 ((cs.toList.drop 0).take (Try.prog.cellsOf 3)) = some y0 := hf 0 _ rfl
  have f1 : DataW.trod enc Try.prog W base spare held n 3 ((cs.toList.drop 1).take (Try.prog.cellsOf 3)) = some y1 := hf 1 _ rfl
  have f2 : DataW.trod enc Try.prog W base spare held n 3 ((cs.toList.drop 2).take (Try.prog.cellsOf 3)) = some y2 := hf 2 _ rfl
  have f3 : DataW.trod enc Try.prog W base spare held n 22 ((cs.toList.drop 3).take (Try.prog.cellsOf 22)) = some y3 := hf 3 _ rfl
  have f4 : DataW.trod enc Try.prog W base spare held n 22 ((cs.toList.drop 4).take (Try.prog.cellsOf 22)) = some y4 := hf 4 _ rfl
  have f5 : DataW.trod enc Try.prog W base spare held n 24 ((cs.toList.drop 5).take (Try.prog.cellsOf 24)) = some y5 := hf 5 _ rfl
  rw [cellsInt1] at f0 f1 f2
  rw [cellsU64] at f3 f4
  rw [cellsBits, List.take_of_length_le (by simp; omega)] at f5
  obtain ⟨a0, e0, -, -⟩ := DataW.trod_int Try.underlying3 f0
  obtain ⟨a1, e1, -, -⟩ := DataW.trod_int Try.underlying3 f1
  obtain ⟨a2, e2, -, -⟩ := DataW.trod_int Try.underlying3 f2
  obtain ⟨a3, e3, -, w3⟩ := DataW.trod_int Try.underlying22 f3
  obtain ⟨a4, e4, -, w4⟩ := DataW.trod_int Try.underlying22 f4
  have b3 := bounds_u64 w3
  have b4 := bounds_u64 w4
  obtain ⟨S, hS, -, -⟩ := open_bits (cs := (cs.toList.drop 5).toArray) (d := y5.1) (p := y5.2) (by rw [cellsBits]; simp; omega) f5
  obtain ⟨z3, rfl⟩ := Int.eq_ofNat_of_zero_le b3.1
  obtain ⟨z4, rfl⟩ := Int.eq_ofNat_of_zero_le b4.1
  refine ⟨⟨a0, a1, a2, z3, z4, S⟩, ?_, by simp only; omega, by simp only; omega⟩
  apply Array.ext_getElem?
  intro i
  rw [← Array.getElem?_toList]
  by_cases h5 : i < 5
  · rw [pk_lo _ h5]
    match i, h5 with
    | 0, _ => rw [take_one e0]; rfl
    | 1, _ => rw [take_one e1]; rfl
    | 2, _ => rw [take_one e2]; rfl
    | 3, _ => rw [take_one e3]; rfl
    | 4, _ => rw [take_one e4]; rfl
  · obtain ⟨j, rfl⟩ : ∃ j, i = 5 + j := ⟨i - 5, by omega⟩
    rw [pk_hi, ← hS]
    simp

end Go.Proofs.Ytdicjnkbmlamgab

namespace Go.Proofs.Ytdicjnkbmlamgab
open Go.ChangeShapes Go.WideShapes Go.ChangeAt Go.RowKit
open Slot

def zeroBg : Array Value := #[.int .i64 0] ++ Array.replicate 256 (.int .u64 0) ++ #[.int .u64 0]
def zeroBgD {H : Type} : DataW H := .agg [.lit (.int .i64 0), .agg (List.replicate 256 (.lit (.int .u64 0))), .lit (.int .u64 0)]
theorem cellsBg : Try.prog.cellsOf 26 = 258 := by kernel_rfl
theorem cellsOpV : Try.prog.cellsOf 38 = 265 := by kernel_rfl
theorem two_of {α : Type} : ∀ {l : List α}, l.length = 2 → ∃ a b, l = [a, b]
  | [a, b], _ => ⟨a, b, rfl⟩
theorem three_of {α : Type} : ∀ {l : List α}, l.length = 3 → ∃ a b c, l = [a, b, c]
  | [a, b, c], _ => ⟨a, b, c, rfl⟩
theorem five_of {α : Type} : ∀ {l : List α}, l.length = 5 → ∃ a b c d e, l = [a, b, c, d, e]
  | [a, b, c, d, e], _ => ⟨a, b, c, d, e, rfl⟩
set_option maxRecDepth 100000 in
theorem open_bg {H : Type} {enc : TypeId × Value → H} {W : World} {base : Nat} {spare : Nat → Bool} {held : Bool} {fuel : Nat} {cs : Array Value} {d : DataW H} {p : List MemPlace} (hs : cs.size = Try.prog.cellsOf 26) (h : DataW.trod enc Try.prog W base spare held fuel 26 (Value.agg cs).cells.toList = some (d, p)) :
    ∃ (self : Int) (S : Nat → Bool) (e : Nat), cs = bgC self S e ∧ e < 18446744073709551616 := by
  rw [cellsBg] at hs
  obtain ⟨xs, n, rfl, -, hl, hlen, hf⟩ := DataW.trod_struct Try.underlying26 h
  obtain ⟨y0, y1, y2, rfl⟩ := three_of (show xs.length = 3 from hlen)
  have f0 : DataW.trod enc Try.prog W base spare held n 3 ((cs.toList.drop 0).take (Try.prog.cellsOf 3)) = some y0 := hf 0 _ rfl
  have f1 : DataW.trod enc Try.prog W base spare held n 24 ((cs.toList.drop 1).take (Try.prog.cellsOf 24)) = some y1 := hf 1 _ rfl
  have f2 : DataW.trod enc Try.prog W base spare held n 22 ((cs.toList.drop 257).take (Try.prog.cellsOf 22)) = some y2 := hf 2 _ rfl
  rw [cellsInt1] at f0
  rw [cellsU64] at f2
  rw [cellsBits] at f1
  obtain ⟨a0, e0, -, -⟩ := DataW.trod_int Try.underlying3 f0
  obtain ⟨a2, e2, -, w2⟩ := DataW.trod_int Try.underlying22 f2
  have b2 := bounds_u64 w2
  obtain ⟨S, hS, -, -⟩ := open_bits (cs := ((cs.toList.drop 1).take 256).toArray) (d := y1.1) (p := y1.2) (by rw [cellsBits]; simp; omega) f1
  obtain ⟨z, rfl⟩ := Int.eq_ofNat_of_zero_le b2.1
  refine ⟨a0, S, z, ?_, by omega⟩
  have hS' : (cs.toList.drop 1).take 256 = (cellsOf S).toList := by rw [← hS]
  have hz : (cellsOf S).size = 256 := cellsOf_size S
  apply Array.ext_getElem?
  intro i
  rw [← Array.getElem?_toList]
  unfold bgC
  by_cases h0 : i = 0
  · subst h0
    rw [take_one e0, Array.getElem?_append_left (by simp; omega), Array.getElem?_append_left (by simp)]
    rfl
  · by_cases h1 : i < 257
    · obtain ⟨j, rfl⟩ : ∃ j, i = 1 + j := ⟨i - 1, by omega⟩
      have := congrArg (fun l : List Value => l[j]?) hS'
      simp only [List.getElem?_take, List.getElem?_drop] at this
      rw [if_pos (by omega)] at this
      rw [this, Array.getElem?_append_left (by simp [hz]; omega), Array.getElem?_append_right (by simp)]
      simp
    · by_cases h2 : i = 257
      · subst h2
        rw [take_one e2, Array.getElem?_append_right (by simp [hz])]
        simp [hz]
      · rw [List.getElem?_eq_none (by simp; omega), Array.getElem?_eq_none (by simp [hz]; omega)]
set_option maxRecDepth 100000 in
theorem open_opv {H : Type} {enc : TypeId × Value → H} {W : World} {base : Nat} {sp : Nat → Bool} {held : Bool} {fuel : Nat} {cs : List Value} {x : DataW H × List MemPlace} (h : DataW.trod enc Try.prog W base sp held fuel 38 cs = some x) :
    ∃ o : OpV, cs = (opCells o).toList := by
  obtain ⟨xs, n, rfl, rfl, hl, hlen, hf⟩ := DataW.trod_struct Try.underlying38 h
  rw [cellsOpV] at hl
  obtain ⟨y0, y1, y2, y3, y4, rfl⟩ := five_of (show xs.length = 5 from hlen)
  have f0 : DataW.trod enc Try.prog W base sp held n 3 ((cs.drop 0).take (Try.prog.cellsOf 3)) = some y0 := hf 0 _ rfl
  have f1 : DataW.trod enc Try.prog W base sp held n 3 ((cs.drop 1).take (Try.prog.cellsOf 3)) = some y1 := hf 1 _ rfl
  have f2 : DataW.trod enc Try.prog W base sp held n 3 ((cs.drop 2).take (Try.prog.cellsOf 3)) = some y2 := hf 2 _ rfl
  have f3 : DataW.trod enc Try.prog W base sp held n 22 ((cs.drop 3).take (Try.prog.cellsOf 22)) = some y3 := hf 3 _ rfl
  have f4 : DataW.trod enc Try.prog W base sp held n 29 ((cs.drop 4).take (Try.prog.cellsOf 29)) = some y4 := hf 4 _ rfl
  rw [cellsInt1] at f0 f1 f2
  rw [cellsU64] at f3
  rw [cellsPk] at f4
  obtain ⟨a0, e0, -, -⟩ := DataW.trod_int Try.underlying3 f0
  obtain ⟨a1, e1, -, -⟩ := DataW.trod_int Try.underlying3 f1
  obtain ⟨a2, e2, -, -⟩ := DataW.trod_int Try.underlying3 f2
  obtain ⟨a3, e3, -, w3⟩ := DataW.trod_int Try.underlying22 f3
  have b3 := bounds_u64 w3
  obtain ⟨q, hq, -, -⟩ := open_pk (cs := ((cs.drop 4).take 261).toArray) (d := y4.1) (p := y4.2) (by rw [cellsPk]; simp; omega) f4
  obtain ⟨z, rfl⟩ := Int.eq_ofNat_of_zero_le b3.1
  refine ⟨⟨a0, a1, a2, z, q⟩, ?_⟩
  have hq' : (cs.drop 4).take 261 = (pkCells q).toList := by rw [← hq]
  have hz : (pkCells q).size = 261 := pkCells_size q
  apply List.ext_getElem?
  intro i
  refine Eq.trans ?_ Array.getElem?_toList.symm
  by_cases h4 : i < 4
  · rw [op_lo _ h4]
    match i, h4 with
    | 0, _ => rw [take_one e0]; rfl
    | 1, _ => rw [take_one e1]; rfl
    | 2, _ => rw [take_one e2]; rfl
    | 3, _ => rw [take_one e3]; rfl
  · obtain ⟨j, rfl⟩ : ∃ j, i = 4 + j := ⟨i - 4, by omega⟩
    unfold opCells
    rw [Array.getElem?_append_right (by simp)]
    by_cases hj : j < 261
    · have := congrArg (fun l : List Value => l[j]?) hq'
      simp only [List.getElem?_take, List.getElem?_drop] at this
      rw [if_pos hj] at this
      rw [this]
      simp
    · rw [List.getElem?_eq_none (by omega), Array.getElem?_eq_none (by simp [hz]; omega)]
set_option maxRecDepth 100000 in
theorem open_vops {H : Type} {enc : TypeId × Value → H} {W : World} {base : Nat} {sp : Nat → Bool} {held : Bool} {m : Nat} {a : Option Addr} {len cap : Nat} {x : DataW H × List MemPlace} (hm : DataW.trod enc Try.prog W base sp held m 27 [.slice a len cap] = some x) :
    ∃ l : List OpV, l.length = len ∧ OpR W a l ∧ len ≤ 9223372036854775807 := by
  rcases DataW.trod_slice Try.underlying27 hm with ⟨e3, _⟩ | ⟨a', len', cap', elems, rest, n', hn', e3, _, _, hlc, hcm, hel, hE, _⟩
  · obtain ⟨rfl, rfl, rfl⟩ : a = none ∧ len = 0 ∧ cap = 0 := by simpa using e3
    exact ⟨[], rfl, (fun h => absurd rfl h), by decide⟩
  · obtain ⟨rfl, rfl, rfl⟩ : a = some a' ∧ len = len' ∧ cap = cap' := by simpa using e3
    obtain ⟨G, hG⟩ : ∃ G : OpV → List Value, ∀ o, G o = (opCells o).toList := ⟨fun o => (opCells o).toList, fun _ => rfl⟩
    have each : ∀ i, i < len → ∃ o : OpV, W.cells? base (a'.add (i * 265)) 265 = some (G o) := fun i hi => by
      have h1 := hE i hi
      rw [cellsOpV, List.getElem?_eq_getElem (by omega)] at h1
      obtain ⟨cs', h2, h3⟩ := Option.bind_eq_some_iff.1 h1
      obtain ⟨o, ho⟩ := open_opv h3
      exact ⟨o, by rw [hG, ← ho]; exact h2⟩
    have _inh : Inhabited OpV := ⟨⟨0, 0, 0, 0, ⟨0, 0, 0, 0, 0, fun _ => false⟩⟩⟩
    obtain ⟨F, hF⟩ := Go.Deep.choose_lt each
    have hL : ((List.range len).map F).length = len := by simp
    refine ⟨(List.range len).map F, hL, fun hne => ?_, Nat.le_trans hlc hcm⟩
    have hpos : 0 < len := by
      rcases Nat.eq_zero_or_pos len with h | h
      · subst h; exact absurd rfl hne
      · exact h
    have hlo : ∀ o : OpV, (G o).length = 265 := fun o => by rw [hG, Array.length_toList]; exact opCells_size o
    obtain ⟨blk, off, spot⟩ := a'
    have hsp : spot = none := by
      obtain ⟨_, _, h3⟩ := World.cells?_some (hF 0 hpos)
      have h4 := h3 0 (by decide)
      rw [List.getElem?_eq_getElem (by rw [hlo]; decide)] at h4
      simpa [Addr.add] using World.cell?_spot h4
    subst hsp
    have get : ∀ i, i < len → ∀ j, j < 265 → W.cell? ⟨blk, off + i * 265 + j, none⟩ = (G (F i))[j]? := fun i hi j hj => by
      obtain ⟨_, _, h4⟩ := World.cells?_some (hF i hi)
      have g := h4 j hj
      simp only [add_plain] at g
      exact g
    refine ⟨blk, off, rfl, ?_, fun i hi j v hv => ?_⟩
    · have h0 := get 0 hpos 0 (by decide)
      rw [List.getElem?_eq_getElem (by rw [hlo]; decide)] at h0
      exact block_lt_of_cell h0
    · have hi' : i < len := by rwa [hL] at hi
      simp only [List.getElem_map, List.getElem_range] at hv
      have hj : j < 265 := by
        have := (List.getElem?_eq_some_iff.1 hv).1
        rwa [← hG, hlo] at this
      rw [get i hi' j hj, hG]
      exact hv

end Go.Proofs.Ytdicjnkbmlamgab
