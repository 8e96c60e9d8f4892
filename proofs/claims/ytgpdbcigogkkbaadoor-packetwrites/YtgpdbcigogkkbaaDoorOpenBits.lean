/- A set that comes in as an argument: how it is read, and that it reads as it did. -/
import Derived.Test.YtgpdbcigogkkbaaDoorHas
import Derived.ProofKit
import Derived.OpenShut
import Derived.RowKit
namespace Go.Proofs.YtgpdbcigogkkbaaDoor
open Go.ChangeShapes Go.WideShapes Go.ChangeAt Go.RowKit
open Slot

theorem cellsBits : Tryd.prog.cellsOf 24 = 256 := by kernel_rfl
theorem cellsU64 : Tryd.prog.cellsOf 22 = 1 := by kernel_rfl
/-- what a set reads as -/
def bitsData {H : Type} (S : Nat → Bool) : DataW H := .agg ((List.range 256).map fun i => .lit (.int .u64 (word S i : Int)))
theorem open_bits {H : Type} {enc : TypeId × Value → H} {W : World} {base : Nat} {spare : Nat → Bool} {held : Bool} {fuel : Nat} {cs : Array Value} {d : DataW H} {p : List MemPlace} (hs : cs.size = Tryd.prog.cellsOf 24) (h : DataW.trod enc Tryd.prog W base spare held fuel 24 (Value.agg cs).cells.toList = some (d, p)) :
    ∃ S : Nat → Bool, cs = cellsOf S ∧ d = bitsData S ∧ p = [] := by
  rw [cellsBits] at hs
  obtain ⟨xs, m, rfl, hx, _, hl, he⟩ := DataW.trod_array Tryd.underlying24 h
  rw [cellsU64] at he
  have key : ∀ i, i < 256 → ∃ z : Nat, z < 18446744073709551616 ∧ cs[i]? = some (.int .u64 (z : Int)) ∧ xs[i]? = some (.lit (.int .u64 (z : Int)), []) := fun i hi => by
    have h0 := he i hi
    have hx : xs[i]? = some xs[i] := List.getElem?_eq_getElem (by omega)
    rw [hx] at h0
    obtain ⟨a, e1, e2, wa⟩ := DataW.trod_int Tryd.underlying22 h0
    have hb := bounds_u64 wa
    obtain ⟨z, rfl⟩ := Int.eq_ofNat_of_zero_le hb.1
    refine ⟨z, by omega, ?_, by rw [hx, e2]⟩
    have hc : cs[i]? = some cs[i] := Array.getElem?_eq_getElem (by omega)
    rw [Nat.mul_one] at e1
    simp only [Value.cells] at e1
    rw [List.drop_eq_getElem_cons (by simp; omega)] at e1
    simp at e1
    rw [hc, e1]
  let z : Nat → Nat := fun i => match cs[i]? with | some (.int _ q) => q.toNat | _ => 0
  have hz : ∀ i, i < 256 → z i < 18446744073709551616 ∧ cs[i]? = some (.int .u64 (z i : Int)) ∧ xs[i]? = some (.lit (.int .u64 (z i : Int)), []) := fun i hi => by
    obtain ⟨y, h1, h2, h3⟩ := key i hi
    have : z i = y := by simp only [z, h2]; simp
    rw [this]
    exact ⟨h1, h2, h3⟩
  have hw : ∀ i, i < 256 → word (ofWords z) i = z i := fun i hi => word_ofWords (hz i hi).1
  have hxs : xs = (List.range 256).map fun i => ((.lit (.int .u64 (word (ofWords z) i : Int)) : DataW H), ([] : List MemPlace)) := by
    apply List.ext_getElem?
    intro i
    by_cases hi : i < 256
    · rw [(hz i hi).2.2, List.getElem?_map, List.getElem?_range hi]
      simp only [Option.map_some, hw i hi]
    · rw [List.getElem?_eq_none (by omega), List.getElem?_eq_none (by simp; omega)]
  simp only [Prod.mk.injEq] at hx
  refine ⟨ofWords z, ?_, ?_, ?_⟩
  · apply Array.ext
    · rw [hs, cellsOf_size]
    · intro i h1 h2
      have hi : i < 256 := by omega
      have a1 := (hz i hi).2.1
      rw [Array.getElem?_eq_getElem h1] at a1
      have a2 := cellsOf_get (ofWords z) i hi
      rw [Array.getElem?_eq_getElem h2, hw i hi] at a2
      rw [Option.some.inj a1, Option.some.inj a2]
  · rw [hx.1, hxs]
    unfold bitsData
    rw [List.map_map]
    rfl
  · rw [hx.2, hxs]
    simp [List.flatMap]
theorem mapM_some {α β : Type} {f : α → Option β} {g : α → β} : ∀ {L : List α}, (∀ i ∈ L, f i = some (g i)) → L.mapM f = some (L.map g)
  | [], _ => rfl
  | x :: L, h => by
    rw [List.mapM_cons, h x (by simp), mapM_some fun i hi => h i (List.mem_cons_of_mem _ hi)]
    rfl
theorem wf_word (S : Nat → Bool) (i : Nat) : (Lit.int .u64 (word S i : Int)).wf = true := by
  have := word_lt S i
  have e1 : IntKind.u64.min = 0 := rfl
  have e2 : IntKind.u64.max = 18446744073709551615 := rfl
  simp [Lit.wf, e1, e2]
  omega
theorem shut_bits {H : Type} {enc : TypeId × Value → H} {W : World} {base : Nat} {spare : Nat → Bool} {held : Bool} (S : Nat → Bool) :
    DataW.Trod enc Tryd.prog W base spare held 24 (.agg (cellsOf S)) (bitsData S) [] := by
  refine ⟨2, ?_⟩
  have hl : (Value.agg (cellsOf S)).cells.toList.length = Tryd.prog.cellsOf 24 := by
    rw [cellsBits]; simp [Value.cells, cellsOf_size]
  have hm := mapM_some (L := List.range 256) (f := fun i => DataW.trod enc Tryd.prog W base spare held 1 22 (((Value.agg (cellsOf S)).cells.toList.drop (i * Tryd.prog.cellsOf 22)).take (Tryd.prog.cellsOf 22)))
    (g := fun i => ((.lit (.int .u64 (word S i : Int)) : DataW H), ([] : List MemPlace))) (fun i hi => by
      have hi' : i < 256 := by simpa using hi
      rw [cellsU64, Nat.mul_one]
      have e : ((Value.agg (cellsOf S)).cells.toList.drop i).take 1 = [.int .u64 (word S i : Int)] := by
        simp only [Value.cells]
        rw [List.drop_eq_getElem_cons (by simp [cellsOf_size]; omega)]
        have a2 := cellsOf_get S i hi'
        rw [Array.getElem?_eq_getElem (by rw [cellsOf_size]; exact hi')] at a2
        simp [Option.some.inj a2]
      rw [e]
      simp [DataW.trod, Tryd.underlying22, wf_word])
  unfold DataW.trod
  rw [Tryd.underlying24]
  simp only [hl, if_true, hm]
  simp [bitsData, List.map_map, Function.comp_def, List.flatMap]

end Go.Proofs.YtgpdbcigogkkbaaDoor
