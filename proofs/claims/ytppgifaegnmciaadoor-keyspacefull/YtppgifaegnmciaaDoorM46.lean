/- OpenE. -/
import Derived.Test.YtppgifaegnmciaaDoorM45
namespace Go.Proofs.YtppgifaegnmciaaDoor
open Go.RowKit Go.ChangeShapes Go.WideShapes Go.ChangeAt

theorem bytesEnt : Tryd.prog.bytesOf 36 = 112 := by kernel_rfl
set_option maxHeartbeats 1000000 in
set_option maxRecDepth 100000 in
/-- entries that came in -/
theorem open_ents {H : Type} {enc : TypeId × Value → H} {W : World} {base : Nat} {sp : Nat → Bool} {held : Bool} {m : Nat} {a : Option Addr} {len cap : Nat} {x : DataW H × List MemPlace} (hm : DataW.trod enc Tryd.prog W base sp held m 39 [.slice a len cap] = some x) (hsz : ∀ n ∈ x.1.weights Tryd.prog 39, n ≤ 140737488351232) :
    ∃ l : List E8, l.length = len ∧ Rde (fun j => j < W.heap.size) W a cap l ∧ (∀ x ∈ l, Arg8 x) ∧ l.length ≤ 140737488351232 := by
  rcases DataW.trod_slice Tryd.underlying39 hm with ⟨e3, _⟩ | ⟨a', len', cap', elems, rest, n', hn', e3, hx, _, hlc, hcm, hel, hE, _⟩
  · obtain ⟨rfl, rfl, rfl⟩ : a = none ∧ len = 0 ∧ cap = 0 := by simpa using e3
    exact ⟨[], rfl, ⟨(fun h => absurd rfl h), (fun _ => rfl), Nat.le_refl _, (fun o (h : o ∈ ([] : List E8)) => by cases h)⟩, (fun o (h : o ∈ ([] : List E8)) => by cases h), by decide⟩
  · obtain ⟨rfl, rfl, rfl⟩ : a = some a' ∧ len = len' ∧ cap = cap' := by simpa using e3
    have each : ∀ i, i < len → ∃ o : E8, W.cells? base (a'.add (i * 8)) 8 = some o.cells.toList ∧ Arg8 o ∧ Lies (fun j => j < W.heap.size) W o := fun i hi => by
      have h1 := hE i hi
      rw [cellsEnt, List.getElem?_eq_getElem (by omega)] at h1
      obtain ⟨cs', h2, h3⟩ := Option.bind_eq_some_iff.1 h1
      obtain ⟨o, rfl, ho⟩ := open_ent h3 (fun z hz => hsz z (by rw [hx]; exact weights_slice Tryd.underlying39 (List.mem_map.2 ⟨_, List.getElem_mem (by omega), rfl⟩) hz))
      exact ⟨o, h2, ho⟩
    have _inh : Inhabited E8 := ⟨⟨[], zeroV, none, 0, none, 0, 0⟩⟩
    obtain ⟨F, hF⟩ := Go.Deep.choose_lt each
    have hL : ((List.range len).map F).length = len := by simp
    have hmem : ∀ o ∈ (List.range len).map F, Arg8 o ∧ Lies (fun j => j < W.heap.size) W o := fun o ho => by
      simp only [List.mem_map, List.mem_range] at ho
      obtain ⟨i, hi, rfl⟩ := ho
      exact (hF i hi).2
    refine ⟨(List.range len).map F, hL, ⟨fun hne => ?_, (fun h => by cases h), by rw [hL]; exact hlc, fun o ho => (hmem o ho).2⟩, fun o ho => (hmem o ho).1, ?_⟩
    · have hpos : 0 < len := by
        rcases Nat.eq_zero_or_pos len with h | h
        · subst h; exact absurd rfl hne
        · exact h
      obtain ⟨blk, off, spot⟩ := a'
      have hsp : spot = none := by
        obtain ⟨h1, _⟩ := hF 0 hpos
        obtain ⟨_, _, h3⟩ := World.cells?_some h1
        have h4 := h3 0 (by decide)
        rw [List.getElem?_eq_getElem (by simp)] at h4
        simpa [Addr.add] using World.cell?_spot h4
      subst hsp
      have hc : ∀ i (h : i < ((List.range len).map F).length) (j : Nat), j < 8 → W.cell? ⟨blk, off + (i * 8 + j), none⟩ = ((List.range len).map F)[i].cells[j]? := fun i hi j hj => by
        have hi' : i < len := by rwa [hL] at hi
        simp only [List.getElem_map, List.getElem_range]
        obtain ⟨h1, _⟩ := hF i hi'
        obtain ⟨_, _, h4⟩ := World.cells?_some h1
        have g := h4 j hj
        rw [Array.getElem?_toList] at g
        simp only [add_plain] at g
        rw [← Nat.add_assoc]
        exact g
      have g := block_lt_of_cell (hc 0 (by rw [hL]; exact hpos) 0 (by decide))
      exact ⟨blk, off, rfl, g, g, hc⟩
    · rw [hL]
      have hk := hsz _ (by rw [hx]; exact weights_row Tryd.underlying39 _ _)
      rw [bytesEnt, List.length_map, hel] at hk
      omega

end Go.Proofs.YtppgifaegnmciaaDoor
