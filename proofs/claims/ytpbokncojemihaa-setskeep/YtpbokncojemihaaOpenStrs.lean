/- A row of texts that came in, opened. -/
import Derived.Test.YtpbokncojemihaaRows
import Derived.Test.YtpbokncojemihaaOwn
import Derived.Deep.Slices
import Derived.ChangeArms
import Derived.ProofKit
import Derived.OpenShut
import Derived.SizedLaws
namespace Go.Proofs.Ytpbokncojemihaa
open Go.RowKit Go.ChangeShapes Go.WideShapes Go.ChangeAt

theorem cellsStr1 : Try.prog.cellsOf 9 = 1 := by kernel_rfl
theorem bulk_one {H : Type} (d : DataW H) : 1 ≤ Rows.uptoBulk d := by
  unfold Rows.uptoBulk
  split <;> omega
theorem bulk_len {H : Type} : ∀ es : List (DataW H), es.length ≤ Rows.uptoBulkAll es
  | [] => Nat.zero_le _
  | d :: r => by
    have h1 := bulk_one d
    have h2 := bulk_len r
    rw [Rows.uptoBulkAll, List.length_cons]
    omega
theorem open_texts {H : Type} {enc : TypeId × Value → H} {W : World} {base : Nat} {sp : Nat → Bool} {held : Bool} {m : Nat} {a : Option Addr} {len cap : Nat} {x : DataW H × List MemPlace} (hm : DataW.trod enc Try.prog W base sp held m 22 [.slice a len cap] = some x) :
    ∃ l : Row, l.length = len ∧ Rd W a cap l ∧ len ≤ Rows.uptoBulk x.1 ∧ len ≤ 9223372036854775807 := by
  rcases DataW.trod_slice Try.underlying22 hm with ⟨e3, _⟩ | ⟨a', len', cap', elems, rest, n', hn', e3, hx, _, hlc, hcm, hel, hE, _⟩
  · obtain ⟨rfl, rfl, rfl⟩ : a = none ∧ len = 0 ∧ cap = 0 := by simpa using e3
    exact ⟨[], rfl, ⟨(fun h => absurd rfl h), fun _ => rfl, Nat.le_refl _⟩, Nat.zero_le _, by decide⟩
  · obtain ⟨rfl, rfl, rfl⟩ : a = some a' ∧ len = len' ∧ cap = cap' := by simpa using e3
    have each : ∀ i, i < len → ∃ s : Nm, W.cells? base (a'.add i) 1 = some [txt s] := fun i hi => by
      have h1 := hE i hi
      rw [cellsStr1, Nat.mul_one, List.getElem?_eq_getElem (by omega)] at h1
      obtain ⟨cs', h2, h3⟩ := Option.bind_eq_some_iff.1 h1
      obtain ⟨s, e2, hy2, hs⟩ := DataW.trod_string Try.underlying9 h3
      subst e2
      exact ⟨s.data.toList, h2⟩
    have _inh : Inhabited Nm := ⟨[]⟩
    obtain ⟨F, hF⟩ := Go.Deep.choose_lt each
    have hL : ((List.range len).map F).length = len := by simp
    have hbk : len ≤ Rows.uptoBulk x.1 := by
      have := bulk_len (elems.map (·.1))
      rw [List.length_map] at this
      rw [hx, Rows.uptoBulk]
      omega
    refine ⟨(List.range len).map F, hL, ⟨fun hne => ?_, (fun h => by cases h), by rw [hL]; exact hlc⟩, hbk, Nat.le_trans hlc hcm⟩
    have hpos : 0 < len := by
      rcases Nat.eq_zero_or_pos len with h | h
      · subst h; exact absurd rfl hne
      · exact h
    obtain ⟨blk, off, spot⟩ := a'
    have hsp : spot = none := by
      have h1 := hF 0 hpos
      obtain ⟨_, _, h3⟩ := World.cells?_some h1
      have h4 := h3 0 (by decide)
      rw [List.getElem?_eq_getElem (by simp)] at h4
      simpa [Addr.add] using World.cell?_spot h4
    subst hsp
    refine ⟨blk, off, rfl, fun i hi => ?_⟩
    have hi' : i < len := by rwa [hL] at hi
    simp only [List.getElem_map, List.getElem_range]
    have h1 := hF i hi'
    obtain ⟨_, _, h4⟩ := World.cells?_some h1
    have g0 := h4 0 (by decide)
    simpa only [add_plain, Nat.add_zero, List.getElem?_cons_zero] using g0

end Go.Proofs.Ytpbokncojemihaa
