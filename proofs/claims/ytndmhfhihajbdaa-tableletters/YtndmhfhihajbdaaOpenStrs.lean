/- A row of texts that came in, opened. -/
import Derived.Test.YtndmhfhihajbdaaRows
import Derived.Test.YtndmhfhihajbdaaCheck
import Derived.Deep.Slices
import Derived.ChangeArms
import Derived.ProofKit
import Derived.OpenShut
import Derived.SizedLaws
namespace Go.Proofs.Ytndmhfhihajbdaa
open Go.RowKit Go.ChangeShapes Go.WideShapes Go.ChangeAt

theorem cellsStr1 : Try.prog.cellsOf 9 = 1 := by kernel_rfl
theorem open_texts {H : Type} {enc : TypeId × Value → H} {W : World} {base : Nat} {sp : Nat → Bool} {held : Bool} {m : Nat} {a : Option Addr} {len cap : Nat} {x : DataW H × List MemPlace} (hm : DataW.trod enc Try.prog W base sp held m 31 [.slice a len cap] = some x) :
    ∃ l : Row, l.length = len ∧ Rd W a cap l ∧ Txs l ∧ len ≤ 9223372036854775807 := by
  rcases DataW.trod_slice Try.underlying31 hm with ⟨e3, _⟩ | ⟨a', len', cap', elems, rest, n', hn', e3, hx, _, hlc, hcm, hel, hE, _⟩
  · obtain ⟨rfl, rfl, rfl⟩ : a = none ∧ len = 0 ∧ cap = 0 := by simpa using e3
    exact ⟨[], rfl, ⟨(fun h => absurd rfl h), fun _ => rfl, Nat.le_refl _⟩, (fun t ht => by cases ht), by decide⟩
  · obtain ⟨rfl, rfl, rfl⟩ : a = some a' ∧ len = len' ∧ cap = cap' := by simpa using e3
    have each : ∀ i, i < len → ∃ s : Nm, s.length ≤ 9223372036854775807 ∧ W.cells? base (a'.add i) 1 = some [txt s] := fun i hi => by
      have h1 := hE i hi
      rw [cellsStr1, Nat.mul_one, List.getElem?_eq_getElem (by omega)] at h1
      obtain ⟨cs', h2, h3⟩ := Option.bind_eq_some_iff.1 h1
      obtain ⟨s, e2, hy2, hs⟩ := DataW.trod_string Try.underlying9 h3
      subst e2
      exact ⟨s.data.toList, by simpa [maxLen] using hs, h2⟩
    have _inh : Inhabited Nm := ⟨[]⟩
    obtain ⟨F, hF⟩ := Go.Deep.choose_lt each
    have hL : ((List.range len).map F).length = len := by simp
    refine ⟨(List.range len).map F, hL, ⟨fun hne => ?_, (fun h => by cases h), by rw [hL]; exact hlc⟩, (fun t ht => by obtain ⟨i, hi, rfl⟩ := List.mem_map.1 ht; exact (hF i (List.mem_range.1 hi)).1), Nat.le_trans hlc hcm⟩
    have hpos : 0 < len := by
      rcases Nat.eq_zero_or_pos len with h | h
      · subst h; exact absurd rfl hne
      · exact h
    obtain ⟨blk, off, spot⟩ := a'
    have hsp : spot = none := by
      have h1 := (hF 0 hpos).2
      obtain ⟨_, _, h3⟩ := World.cells?_some h1
      have h4 := h3 0 (by decide)
      rw [List.getElem?_eq_getElem (by simp)] at h4
      simpa [Addr.add] using World.cell?_spot h4
    subst hsp
    refine ⟨blk, off, rfl, fun i hi => ?_⟩
    have hi' : i < len := by rwa [hL] at hi
    simp only [List.getElem_map, List.getElem_range]
    have h1 := (hF i hi').2
    obtain ⟨_, _, h4⟩ := World.cells?_some h1
    have g0 := h4 0 (by decide)
    simpa only [add_plain, Nat.add_zero, List.getElem?_cons_zero] using g0
theorem cellsBool1 : Try.prog.cellsOf 4 = 1 := by kernel_rfl
/-- truths that came in -/
def Bls (w : World) (p : Option Addr) (l : List Bool) : Prop := l ≠ [] → ∃ b o, p = some ⟨b, o, none⟩ ∧ ∀ i (h : i < l.length), w.cell? ⟨b, o + i, none⟩ = some (.bool l[i])
theorem open_bools {H : Type} {enc : TypeId × Value → H} {W : World} {base : Nat} {sp : Nat → Bool} {held : Bool} {m : Nat} {a : Option Addr} {len cap : Nat} {x : DataW H × List MemPlace} (hm : DataW.trod enc Try.prog W base sp held m 38 [.slice a len cap] = some x) :
    ∃ l : List Bool, l.length = len ∧ Bls W a l ∧ len ≤ 9223372036854775807 := by
  rcases DataW.trod_slice Try.underlying38 hm with ⟨e3, _⟩ | ⟨a', len', cap', elems, rest, n', hn', e3, hx, _, hlc, hcm, hel, hE, _⟩
  · obtain ⟨rfl, rfl, rfl⟩ : a = none ∧ len = 0 ∧ cap = 0 := by simpa using e3
    exact ⟨[], rfl, (fun h => absurd rfl h), by decide⟩
  · obtain ⟨rfl, rfl, rfl⟩ : a = some a' ∧ len = len' ∧ cap = cap' := by simpa using e3
    have each : ∀ i, i < len → ∃ s : Bool, W.cells? base (a'.add i) 1 = some [.bool s] := fun i hi => by
      have h1 := hE i hi
      rw [cellsBool1, Nat.mul_one, List.getElem?_eq_getElem (by omega)] at h1
      obtain ⟨cs', h2, h3⟩ := Option.bind_eq_some_iff.1 h1
      obtain ⟨s, e2, hy2⟩ := DataW.trod_bool Try.underlying4 h3
      subst e2
      exact ⟨s, h2⟩
    have _inh : Inhabited Bool := ⟨false⟩
    obtain ⟨F, hF⟩ := Go.Deep.choose_lt each
    have hL : ((List.range len).map F).length = len := by simp
    refine ⟨(List.range len).map F, hL, fun hne => ?_, Nat.le_trans hlc hcm⟩
    have hpos : 0 < len := by
      rcases Nat.eq_zero_or_pos len with h | h
      · subst h; exact absurd rfl hne
      · exact h
    obtain ⟨blk, off, spot⟩ := a'
    have hsp : spot = none := by
      have h1 := hF 0 hpos
      obtain ⟨_, _, h3⟩ := World.cells?_some h1
      have h4 := h3 0 (by decide)
      rw [List.getElem?_eq_getElem (by simp)] at h4
      simpa [Addr.add] using World.cell?_spot h4
    subst hsp
    refine ⟨blk, off, rfl, fun i hi => ?_⟩
    have hi' : i < len := by rwa [hL] at hi
    simp only [List.getElem_map, List.getElem_range]
    have h1 := hF i hi'
    obtain ⟨_, _, h4⟩ := World.cells?_some h1
    have g0 := h4 0 (by decide)
    simpa only [add_plain, Nat.add_zero, List.getElem?_cons_zero] using g0

end Go.Proofs.Ytndmhfhihajbdaa
