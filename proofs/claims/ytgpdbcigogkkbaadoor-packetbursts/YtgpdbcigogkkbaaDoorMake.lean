/- Ranges made a set: Make. -/
import Derived.Test.YtgpdbcigogkkbaaDoorRanges
namespace Go.Proofs.YtgpdbcigogkkbaaDoor
open Go.RowKit
open Slot

/-- a row of ranges in memory -/
def RowR (w : World) (a : Option Addr) (l : List (Int × Int)) : Prop :=
  l.length ≤ 140737488355328 ∧ (l ≠ [] → ∃ b off, a = some ⟨b, off, none⟩ ∧ ∀ j (h : j < l.length), w.cell? ⟨b, off + j * 2, none⟩ = some (.int .i64 l[j].1) ∧ w.cell? ⟨b, off + j * 2 + 1, none⟩ = some (.int .i64 l[j].2))
def validR (p : Int × Int) : Bool := decide (0 ≤ p.1 ∧ p.1 ≤ p.2 ∧ p.2 ≤ 16383)
def natR (p : Int × Int) : Nat × Nat := (p.1.toNat, p.2.toNat)

/-- what Make tells -/
def makeVal (l : List (Int × Int)) : Value := if l.all validR then .tuple #[.agg (cellsOf (ofList (l.map natR))), .int .i64 0] else .tuple #[.agg (cellsOf (fun _ => false)), .int .i64 20]
theorem makeVal_ok {l : List (Int × Int)} (h : l.all validR = true) : makeVal l = .tuple #[.agg (cellsOf (ofList (l.map natR))), .int .i64 0] := by unfold makeVal; rw [if_pos h]
theorem makeVal_bad {l : List (Int × Int)} (h : l.all validR = false) : makeVal l = .tuple #[.agg (cellsOf (fun _ => false)), .int .i64 20] := by unfold makeVal; rw [h]; rfl
theorem sizes (S T : Nat → Bool) : (cellsOf S).size = (cellsOf T).size := by rw [cellsOf_size, cellsOf_size]
theorem ret_box2 {fn : Func} {p q : Tmp} (h : fn.results = #[.cell p 24, .tmp q]) {tmps : Array Value} {w : World} {b : Nat} {S : Nat → Bool} {v : Value} (hp : tmps.getD p undef = .pointer (some ⟨b, 0, none⟩)) (hq : tmps.getD q undef = v) (hB : Box w b S) :
    (results fn tmps).run Tryd.prog w = .ok (.tuple #[.agg (cellsOf S), v]) w := by
  have hp' : tmps[p]?.getD undef = .pointer (some ⟨b, 0, none⟩) := by simpa using hp
  have hq' : tmps[q]?.getD undef = v := by simpa using hq
  simp [results, h, hp', hq', asAddr, run_loadVar_row w b 24 24 (cellsOf S) (0, 0) _ hB Tryd.underlying24 rfl (infoBits S)]
theorem take_all {l : List (Int × Int)} {k : Nat} (h : k < l.length) (hv : (l.take k).all validR = true) : (l.take (k + 1)).all validR = validR l[k] := by
  rw [List.take_succ_eq_append_getElem h, List.all_append, hv]; simp
theorem not_all {l : List (Int × Int)} {k : Nat} (h : k < l.length) (hv : validR l[k] = false) : l.all validR = false := by
  rw [List.all_eq_false]
  exact ⟨l[k], List.getElem_mem h, by simp [hv]⟩
theorem take_map {l : List (Int × Int)} {k : Nat} (h : k < l.length) : (l.take (k + 1)).map natR = (l.take k).map natR ++ [natR l[k]] := by
  rw [List.take_succ_eq_append_getElem h, List.map_append]; rfl

/-- the row of a call's own ranges -/
def intR (p : Nat × Nat) : Int × Int := ((p.1 : Int), (p.2 : Int))
theorem natR_intR (l : List (Nat × Nat)) : (l.map intR).map natR = l := by
  rw [List.map_map]
  conv => rhs; rw [← List.map_id l]
  refine List.map_congr_left fun p _ => ?_
  simp [natR, intR]
theorem flat_get : ∀ (l : List (Nat × Nat)) (j : Nat) (h : j < l.length), (flat l)[j * 2]? = some (.int .i64 (l[j].1 : Int)) ∧ (flat l)[j * 2 + 1]? = some (.int .i64 (l[j].2 : Int))
  | [], j, h => by simp at h
  | p :: l, 0, _ => ⟨rfl, rfl⟩
  | p :: l, j + 1, h => by
    have := flat_get l j (by simpa using h)
    rw [show (j + 1) * 2 = j * 2 + 1 + 1 by omega]
    simpa [flat] using this
theorem owns_rowR {w : World} {B : Nat} {l : List (Nat × Nat)} {v : Value} (h : w.ownsRow B 53 2 v l.length (flat l)) (hl : l.length ≤ 140737488355328) : ∃ a cap, v = .slice a l.length cap ∧ RowR w a (l.map intR) := by
  rcases h.2 with ⟨rfl, h0⟩ | ⟨g, cap, cur, rfl, hg, hh, h1, h2, h3, h4⟩
  · refine ⟨none, 0, by rw [h0], by simpa using hl, fun hne => ?_⟩
    exact absurd (List.length_eq_zero_iff.1 h0) (fun e => hne (by rw [e]; rfl))
  · refine ⟨_, cap, rfl, by simpa using hl, fun _ => ⟨g, 0, rfl, fun j hj => ?_⟩⟩
    have hj' : j < l.length := by simpa using hj
    obtain ⟨f1, f2⟩ := flat_get l j hj'
    have key : ∀ i u, (flat l)[i]? = some u → w.cell? ⟨g, i, none⟩ = some u := fun i u hu => by
      rw [cell_of_row w g i _ _ _ hh]
      rw [← h4, List.getElem?_take] at hu
      split at hu
      · simpa using hu
      · cases hu
    simp only [List.getElem_map, intR, Nat.zero_add]
    exact ⟨key _ _ f1, key _ _ f2⟩
end Go.Proofs.YtgpdbcigogkkbaaDoor
