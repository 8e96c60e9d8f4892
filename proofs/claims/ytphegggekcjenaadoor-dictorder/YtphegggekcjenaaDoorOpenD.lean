/- Rows of calls, of texts and of numbers that came in, opened. -/
import Derived.Test.YtphegggekcjenaaDoorLawAll
import Derived.Test.YtphegggekcjenaaDoorTwo
import Derived.Deep.Slices
import Derived.ChangeArms
import Derived.ProofKit
import Derived.OpenShut
import Derived.SizedLaws
namespace Go.Proofs.YtphegggekcjenaaDoor
open Go.RowKit Go.ChangeShapes Go.WideShapes Go.ChangeAt

theorem cellsOp : Tryd.prog.cellsOf 35 = 3 := by kernel_rfl
theorem cellsInt : Tryd.prog.cellsOf 3 = 1 := by kernel_rfl
theorem cellsStr1 : Tryd.prog.cellsOf 9 = 1 := by kernel_rfl
theorem three {α : Type} : ∀ {l : List α}, l.length = 3 → ∃ a b c, l = [a, b, c]
  | [a, b, c], _ => ⟨a, b, c, rfl⟩
theorem weights_all {H : Type} {P : Program} {e : TypeId} : ∀ {l : List (DataW H)} {d : DataW H} {n : Nat}, d ∈ l → n ∈ d.weights P e → n ∈ DataW.weightsAll P e l
  | x :: l, d, n, hd, hn => by
    simp only [DataW.weightsAll, List.mem_append]
    rcases List.mem_cons.1 hd with rfl | h
    · exact .inl hn
    · exact .inr (weights_all h hn)
theorem weights_slice {H : Type} {P : Program} {t e : TypeId} (hu : P.underlying t = some (.slice e)) {elems spare : List (DataW H)} {d : DataW H} {n : Nat} (hd : d ∈ elems) (hn : n ∈ d.weights P e) : n ∈ (DataW.slice elems spare).weights P t := by
  simp only [DataW.weights, hu, List.mem_cons, List.mem_append]
  exact .inr (.inl (weights_all hd hn))
set_option maxRecDepth 100000 in
theorem open_op {H : Type} {enc : TypeId × Value → H} {W : World} {base : Nat} {sp : Nat → Bool} {held : Bool} {fuel : Nat} {cs : List Value} {x : DataW H × List MemPlace} (h : DataW.trod enc Tryd.prog W base sp held fuel 35 cs = some x) :
    ∃ o : OpI, cs = [.int .i64 o.kind, .int .i64 o.v, txt o.name] ∧ o.name.length ∈ x.1.weights Tryd.prog 35 := by
  obtain ⟨xs, n, rfl, rfl, hl, hlen, hf⟩ := DataW.trod_struct Tryd.underlying35 h
  rw [cellsOp] at hl
  obtain ⟨c0, c1, c2, rfl⟩ := three hl
  obtain ⟨y0, y1, y2, rfl⟩ := three (show xs.length = 3 from hlen)
  have f0 : DataW.trod enc Tryd.prog W base sp held n 3 (([c0, c1, c2].drop 0).take (Tryd.prog.cellsOf 3)) = some y0 := hf 0 _ rfl
  have f1 : DataW.trod enc Tryd.prog W base sp held n 3 (([c0, c1, c2].drop 1).take (Tryd.prog.cellsOf 3)) = some y1 := hf 1 _ rfl
  have f2 : DataW.trod enc Tryd.prog W base sp held n 9 (([c0, c1, c2].drop 2).take (Tryd.prog.cellsOf 9)) = some y2 := hf 2 _ rfl
  rw [cellsInt] at f0 f1
  rw [cellsStr1] at f2
  obtain ⟨k, e0, _, w0⟩ := DataW.trod_int Tryd.underlying3 f0
  obtain ⟨a, e1, _, w1⟩ := DataW.trod_int Tryd.underlying3 f1
  obtain ⟨s, e2, hy2, hs⟩ := DataW.trod_string Tryd.underlying9 f2
  obtain rfl : c0 = .int .i64 k := by simpa using e0
  obtain rfl : c1 = .int .i64 a := by simpa using e1
  obtain rfl : c2 = .string s := by simpa using e2
  refine ⟨⟨k, a, s.data.toList⟩, rfl, ?_⟩
  rw [hy2]
  simp only [DataW.weights, Tryd.underlying35]
  exact DataW.weights_mem_each (j := 2) (t := 9) (d := .lit (.string s.data.toList)) rfl rfl _ (by simp [DataW.weights])
set_option maxRecDepth 100000 in
theorem open_ops {H : Type} {enc : TypeId × Value → H} {W : World} {base : Nat} {sp : Nat → Bool} {held : Bool} {m : Nat} {a : Option Addr} {len cap : Nat} {x : DataW H × List MemPlace} (hm : DataW.trod enc Tryd.prog W base sp held m 22 [.slice a len cap] = some x) :
    ∃ l : List OpI, l.length = len ∧ OpsI W a l ∧ (∀ o ∈ l, o.name.length ∈ x.1.weights Tryd.prog 22) ∧ len ≤ 9223372036854775807 := by
  rcases DataW.trod_slice Tryd.underlying22 hm with ⟨e3, _⟩ | ⟨a', len', cap', elems, rest, n', hn', e3, hx, _, hlc, hcm, hel, hE, _⟩
  · obtain ⟨rfl, rfl, rfl⟩ : a = none ∧ len = 0 ∧ cap = 0 := by simpa using e3
    exact ⟨[], rfl, (fun h => absurd rfl h), (fun o (h : o ∈ ([] : List OpI)) => by cases h), by decide⟩
  · obtain ⟨rfl, rfl, rfl⟩ : a = some a' ∧ len = len' ∧ cap = cap' := by simpa using e3
    have each : ∀ i, i < len → ∃ o : OpI, W.cells? base (a'.add (i * 3)) 3 = some [.int .i64 o.kind, .int .i64 o.v, txt o.name] ∧ o.name.length ∈ x.1.weights Tryd.prog 22 := fun i hi => by
      have h1 := hE i hi
      rw [cellsOp, List.getElem?_eq_getElem (by omega)] at h1
      obtain ⟨cs', h2, h3⟩ := Option.bind_eq_some_iff.1 h1
      obtain ⟨o, rfl, ho⟩ := open_op h3
      refine ⟨o, h2, ?_⟩
      rw [hx]
      exact weights_slice Tryd.underlying22 (List.mem_map.2 ⟨_, List.getElem_mem (by omega), rfl⟩) ho
    have _inh : Inhabited OpI := ⟨⟨0, 0, []⟩⟩
    obtain ⟨F, hF⟩ := Go.Deep.choose_lt each
    have hL : ((List.range len).map F).length = len := by simp
    refine ⟨(List.range len).map F, hL, fun hne => ?_, fun o ho => ?_, Nat.le_trans hlc hcm⟩
    · have hpos : 0 < len := by
        rcases Nat.eq_zero_or_pos len with h | h
        · subst h; exact absurd rfl hne
        · exact h
      obtain ⟨blk, off, spot⟩ := a'
      have hsp : spot = none := by
        obtain ⟨h1, _⟩ := hF 0 hpos
        obtain ⟨_, _, h3⟩ := World.cells?_some h1
        have h4 := h3 0 (by decide)
        rw [List.getElem?_eq_getElem (by simp)] at h4
        simpa [Addr.add] using World.cell?_spot h4
      subst hsp
      refine ⟨blk, off, rfl, fun i hi => ?_⟩
      have hi' : i < len := by rwa [hL] at hi
      simp only [List.getElem_map, List.getElem_range]
      obtain ⟨h1, _⟩ := hF i hi'
      obtain ⟨_, _, h4⟩ := World.cells?_some h1
      have g0 := h4 0 (by decide)
      have g1 := h4 1 (by decide)
      have g2 := h4 2 (by decide)
      simp only [add_plain, Nat.add_zero, List.getElem?_cons_zero, List.getElem?_cons_succ] at g0 g1 g2
      exact ⟨g0, g1, g2⟩
    · simp only [List.mem_map, List.mem_range] at ho
      obtain ⟨i, hi, rfl⟩ := ho
      exact (hF i hi).2
set_option maxRecDepth 100000 in
theorem open_texts {H : Type} {enc : TypeId × Value → H} {W : World} {base : Nat} {sp : Nat → Bool} {held : Bool} {m : Nat} {a : Option Addr} {len cap : Nat} {x : DataW H × List MemPlace} (hm : DataW.trod enc Tryd.prog W base sp held m 40 [.slice a len cap] = some x) :
    ∃ l : Row, l.length = len ∧ Strs W a l ∧ (∀ s ∈ l, s.length ∈ x.1.weights Tryd.prog 40) ∧ (a = none → cap = 0) ∧ len ≤ cap ∧ len ≤ 9223372036854775807 := by
  rcases DataW.trod_slice Tryd.underlying40 hm with ⟨e3, _⟩ | ⟨a', len', cap', elems, rest, n', hn', e3, hx, _, hlc, hcm, hel, hE, _⟩
  · obtain ⟨rfl, rfl, rfl⟩ : a = none ∧ len = 0 ∧ cap = 0 := by simpa using e3
    exact ⟨[], rfl, (fun h => absurd rfl h), (fun o (h : o ∈ ([] : Row)) => by cases h), fun _ => rfl, Nat.le_refl _, by decide⟩
  · obtain ⟨rfl, rfl, rfl⟩ : a = some a' ∧ len = len' ∧ cap = cap' := by simpa using e3
    have each : ∀ i, i < len → ∃ s : Nm, W.cells? base (a'.add i) 1 = some [txt s] ∧ s.length ∈ x.1.weights Tryd.prog 40 := fun i hi => by
      have h1 := hE i hi
      rw [cellsStr1, Nat.mul_one, List.getElem?_eq_getElem (by omega)] at h1
      obtain ⟨cs', h2, h3⟩ := Option.bind_eq_some_iff.1 h1
      obtain ⟨s, e2, hy2, hs⟩ := DataW.trod_string Tryd.underlying9 h3
      subst e2
      refine ⟨s.data.toList, h2, ?_⟩
      rw [hx]
      exact weights_slice Tryd.underlying40 (List.mem_map.2 ⟨elems[i]'(by omega), List.getElem_mem _, rfl⟩) (by rw [hy2]; simp [DataW.weights])
    have _inh : Inhabited Nm := ⟨[]⟩
    obtain ⟨F, hF⟩ := Go.Deep.choose_lt each
    have hL : ((List.range len).map F).length = len := by simp
    refine ⟨(List.range len).map F, hL, fun hne => ?_, fun o ho => ?_, (fun h => by cases h), hlc, Nat.le_trans hlc hcm⟩
    · have hpos : 0 < len := by
        rcases Nat.eq_zero_or_pos len with h | h
        · subst h; exact absurd rfl hne
        · exact h
      obtain ⟨blk, off, spot⟩ := a'
      have hsp : spot = none := by
        obtain ⟨h1, _⟩ := hF 0 hpos
        obtain ⟨_, _, h3⟩ := World.cells?_some h1
        have h4 := h3 0 (by decide)
        rw [List.getElem?_eq_getElem (by simp)] at h4
        simpa [Addr.add] using World.cell?_spot h4
      subst hsp
      refine ⟨blk, off, rfl, fun i hi => ?_⟩
      have hi' : i < len := by rwa [hL] at hi
      simp only [List.getElem_map, List.getElem_range]
      obtain ⟨h1, _⟩ := hF i hi'
      obtain ⟨_, _, h4⟩ := World.cells?_some h1
      have g0 := h4 0 (by decide)
      simpa only [add_plain, Nat.add_zero, List.getElem?_cons_zero] using g0
    · simp only [List.mem_map, List.mem_range] at ho
      obtain ⟨i, hi, rfl⟩ := ho
      exact (hF i hi).2
set_option maxRecDepth 100000 in
theorem open_ints {H : Type} {enc : TypeId × Value → H} {W : World} {base : Nat} {sp : Nat → Bool} {held : Bool} {m : Nat} {a : Option Addr} {len cap : Nat} {x : DataW H × List MemPlace} (hm : DataW.trod enc Tryd.prog W base sp held m 32 [.slice a len cap] = some x) :
    ∃ l : List Int, l.length = len ∧ Nums W a l ∧ (∀ v ∈ l, -9223372036854775808 ≤ v ∧ v ≤ 9223372036854775807) ∧ len ≤ 9223372036854775807 := by
  rcases DataW.trod_slice Tryd.underlying32 hm with ⟨e3, _⟩ | ⟨a', len', cap', elems, rest, n', hn', e3, hx, _, hlc, hcm, hel, hE, _⟩
  · obtain ⟨rfl, rfl, rfl⟩ : a = none ∧ len = 0 ∧ cap = 0 := by simpa using e3
    exact ⟨[], rfl, (fun h => absurd rfl h), (fun o (h : o ∈ ([] : List Int)) => by cases h), by decide⟩
  · obtain ⟨rfl, rfl, rfl⟩ : a = some a' ∧ len = len' ∧ cap = cap' := by simpa using e3
    have each : ∀ i, i < len → ∃ v : Int, W.cells? base (a'.add i) 1 = some [.int .i64 v] ∧ (-9223372036854775808 ≤ v ∧ v ≤ 9223372036854775807) := fun i hi => by
      have h1 := hE i hi
      rw [cellsInt, Nat.mul_one, List.getElem?_eq_getElem (by omega)] at h1
      obtain ⟨cs', h2, h3⟩ := Option.bind_eq_some_iff.1 h1
      obtain ⟨v, e2, _, hw⟩ := DataW.trod_int Tryd.underlying3 h3
      subst e2
      exact ⟨v, h2, bounds_i64 hw⟩
    obtain ⟨F, hF⟩ := Go.Deep.choose_lt each
    have hL : ((List.range len).map F).length = len := by simp
    refine ⟨(List.range len).map F, hL, fun hne => ?_, fun o ho => ?_, Nat.le_trans hlc hcm⟩
    · have hpos : 0 < len := by
        rcases Nat.eq_zero_or_pos len with h | h
        · subst h; exact absurd rfl hne
        · exact h
      obtain ⟨blk, off, spot⟩ := a'
      have hsp : spot = none := by
        obtain ⟨h1, _⟩ := hF 0 hpos
        obtain ⟨_, _, h3⟩ := World.cells?_some h1
        have h4 := h3 0 (by decide)
        rw [List.getElem?_eq_getElem (by simp)] at h4
        simpa [Addr.add] using World.cell?_spot h4
      subst hsp
      refine ⟨blk, off, rfl, fun i hi => ?_⟩
      have hi' : i < len := by rwa [hL] at hi
      simp only [List.getElem_map, List.getElem_range]
      obtain ⟨h1, _⟩ := hF i hi'
      obtain ⟨_, _, h4⟩ := World.cells?_some h1
      have g0 := h4 0 (by decide)
      simpa only [add_plain, Nat.add_zero, List.getElem?_cons_zero] using g0
    · simp only [List.mem_map, List.mem_range] at ho
      obtain ⟨i, hi, rfl⟩ := ho
      exact (hF i hi).2

end Go.Proofs.YtphegggekcjenaaDoor
