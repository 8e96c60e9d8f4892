/- OpenV. -/
import Derived.Deep.Slices
import Derived.ChangeArms
import Derived.ProofKit
import Derived.OpenShut
import Derived.SizedLaws
import Derived.Test.YtppgifaegnmciaaDoorM04
namespace Go.Proofs.YtppgifaegnmciaaDoor
open Go.RowKit Go.ChangeShapes Go.WideShapes Go.ChangeAt

theorem cellsVal : Tryd.prog.cellsOf 34 = 6 := by kernel_rfl
theorem cellsPair : Tryd.prog.cellsOf 83 = 2 := by kernel_rfl
theorem cellsPt : Tryd.prog.cellsOf 32 = 2 := by kernel_rfl
theorem cellsInt : Tryd.prog.cellsOf 3 = 1 := by kernel_rfl
theorem cellsStr1 : Tryd.prog.cellsOf 9 = 1 := by kernel_rfl
theorem cellsPairs : Tryd.prog.cellsOf 29 = 1 := by kernel_rfl
theorem cellsStrs : Tryd.prog.cellsOf 30 = 1 := by kernel_rfl
theorem bytesPair : Tryd.prog.bytesOf 83 = 32 := by kernel_rfl
theorem bytesStr : Tryd.prog.bytesOf 9 = 16 := by kernel_rfl
theorem two_of {α : Type} : ∀ {l : List α}, l.length = 2 → ∃ a b, l = [a, b]
  | [a, b], _ => ⟨a, b, rfl⟩
theorem five_of {α : Type} : ∀ {l : List α}, l.length = 5 → ∃ a b c d e, l = [a, b, c, d, e]
  | [a, b, c, d, e], _ => ⟨a, b, c, d, e, rfl⟩
theorem six_of {α : Type} : ∀ {l : List α}, l.length = 6 → ∃ a b c d e f, l = [a, b, c, d, e, f]
  | [a, b, c, d, e, f], _ => ⟨a, b, c, d, e, f, rfl⟩
theorem weights_all {H : Type} {P : Program} {e : TypeId} : ∀ {l : List (DataW H)} {d : DataW H} {n : Nat}, d ∈ l → n ∈ d.weights P e → n ∈ DataW.weightsAll P e l
  | x :: l, d, n, hd, hn => by
    simp only [DataW.weightsAll, List.mem_append]
    rcases List.mem_cons.1 hd with rfl | h
    · exact .inl hn
    · exact .inr (weights_all h hn)
theorem weights_slice {H : Type} {P : Program} {t e : TypeId} (hu : P.underlying t = some (.slice e)) {elems spare : List (DataW H)} {d : DataW H} {n : Nat} (hd : d ∈ elems) (hn : n ∈ d.weights P e) : n ∈ (DataW.slice elems spare).weights P t := by
  simp only [DataW.weights, hu, List.mem_cons, List.mem_append]
  exact .inr (.inl (weights_all hd hn))
theorem weights_row {H : Type} {P : Program} {t e : TypeId} (hu : P.underlying t = some (.slice e)) (elems spare : List (DataW H)) : (elems.length + spare.length) * P.bytesOf e ∈ (DataW.slice elems spare).weights P t := by
  simp only [DataW.weights, hu]
  exact List.mem_cons_self
set_option maxRecDepth 100000 in
theorem open_pair {H : Type} {enc : TypeId × Value → H} {W : World} {base : Nat} {sp : Nat → Bool} {held : Bool} {fuel : Nat} {cs : List Value} {x : DataW H × List MemPlace} (h : DataW.trod enc Tryd.prog W base sp held fuel 83 cs = some x) :
    ∃ p : Nm × Nm, cs = [txt p.1, txt p.2] ∧ p.1.length ∈ x.1.weights Tryd.prog 83 ∧ p.2.length ∈ x.1.weights Tryd.prog 83 := by
  obtain ⟨xs, n, rfl, rfl, hl, hlen, hf⟩ := DataW.trod_struct Tryd.underlying83 h
  rw [cellsPair] at hl
  obtain ⟨c0, c1, rfl⟩ := two_of hl
  obtain ⟨y0, y1, rfl⟩ := two_of (show xs.length = 2 from hlen)
  have f0 : DataW.trod enc Tryd.prog W base sp held n 9 (([c0, c1].drop 0).take (Tryd.prog.cellsOf 9)) = some y0 := hf 0 _ rfl
  have f1 : DataW.trod enc Tryd.prog W base sp held n 9 (([c0, c1].drop 1).take (Tryd.prog.cellsOf 9)) = some y1 := hf 1 _ rfl
  rw [cellsStr1] at f0 f1
  obtain ⟨s, e0, hy0, _⟩ := DataW.trod_string Tryd.underlying9 f0
  obtain ⟨t, e1, hy1, _⟩ := DataW.trod_string Tryd.underlying9 f1
  obtain rfl : c0 = .string s := by simpa using e0
  obtain rfl : c1 = .string t := by simpa using e1
  refine ⟨(s.data.toList, t.data.toList), rfl, ?_, ?_⟩
  all_goals rw [hy0, hy1]
  all_goals simp only [DataW.weights, Tryd.underlying83]
  · exact DataW.weights_mem_each (j := 0) (t := 9) (d := .lit (.string s.data.toList)) rfl rfl _ (by simp [DataW.weights])
  · exact DataW.weights_mem_each (j := 1) (t := 9) (d := .lit (.string t.data.toList)) rfl rfl _ (by simp [DataW.weights])
set_option maxRecDepth 100000 in
theorem open_pairs {H : Type} {enc : TypeId × Value → H} {W : World} {base : Nat} {sp : Nat → Bool} {held : Bool} {m : Nat} {a : Option Addr} {len cap : Nat} {x : DataW H × List MemPlace} (hm : DataW.trod enc Tryd.prog W base sp held m 29 [.slice a len cap] = some x) :
    ∃ l : List (Nm × Nm), l.length = len ∧ Rp W a cap l ∧ (∀ o ∈ l, o.1.length ∈ x.1.weights Tryd.prog 29 ∧ o.2.length ∈ x.1.weights Tryd.prog 29) ∧ (len = 0 ∨ ∃ k ∈ x.1.weights Tryd.prog 29, len * 32 ≤ k) := by
  rcases DataW.trod_slice Tryd.underlying29 hm with ⟨e3, _⟩ | ⟨a', len', cap', elems, rest, n', hn', e3, hx, _, hlc, hcm, hel, hE, _⟩
  · obtain ⟨rfl, rfl, rfl⟩ : a = none ∧ len = 0 ∧ cap = 0 := by simpa using e3
    exact ⟨[], rfl, Rp.nilRow W, (fun o (h : o ∈ ([] : List (Nm × Nm))) => by cases h), .inl rfl⟩
  · obtain ⟨rfl, rfl, rfl⟩ : a = some a' ∧ len = len' ∧ cap = cap' := by simpa using e3
    have each : ∀ i, i < len → ∃ o : Nm × Nm, W.cells? base (a'.add (i * 2)) 2 = some [txt o.1, txt o.2] ∧ o.1.length ∈ x.1.weights Tryd.prog 29 ∧ o.2.length ∈ x.1.weights Tryd.prog 29 := fun i hi => by
      have h1 := hE i hi
      rw [cellsPair, List.getElem?_eq_getElem (by omega)] at h1
      obtain ⟨cs', h2, h3⟩ := Option.bind_eq_some_iff.1 h1
      obtain ⟨o, rfl, ho1, ho2⟩ := open_pair h3
      refine ⟨o, h2, ?_, ?_⟩
      all_goals rw [hx]
      · exact weights_slice Tryd.underlying29 (List.mem_map.2 ⟨_, List.getElem_mem (by omega), rfl⟩) ho1
      · exact weights_slice Tryd.underlying29 (List.mem_map.2 ⟨_, List.getElem_mem (by omega), rfl⟩) ho2
    have _inh : Inhabited (Nm × Nm) := ⟨([], [])⟩
    obtain ⟨F, hF⟩ := Go.Deep.choose_lt each
    have hL : ((List.range len).map F).length = len := by simp
    refine ⟨(List.range len).map F, hL, ⟨fun hne => ?_, (fun h => by cases h), by rw [hL]; exact hlc⟩, fun o ho => ?_, .inr ?_⟩
    · have hpos : 0 < len := by
        rcases Nat.eq_zero_or_pos len with h | h
        · subst h; exact absurd rfl hne
        · exact h
      obtain ⟨blk, off, spot⟩ := a'
      have hsp : spot = none := by
        obtain ⟨h1, _⟩ := hF 0 hpos
        obtain ⟨_, _, h3⟩ := World.cells?_some h1
        have h4 := h3 0 (by decide)
        rw [List.getElem?_eq_getElem (by simp)] at h4
        simpa [Addr.add] using World.cell?_spot h4
      subst hsp
      refine ⟨blk, off, rfl, fun i hi => ?_⟩
      have hi' : i < len := by rwa [hL] at hi
      simp only [List.getElem_map, List.getElem_range]
      obtain ⟨h1, _⟩ := hF i hi'
      obtain ⟨_, _, h4⟩ := World.cells?_some h1
      have g0 := h4 0 (by decide)
      have g1 := h4 1 (by decide)
      simp only [add_plain, Nat.add_zero, List.getElem?_cons_zero, List.getElem?_cons_succ] at g0 g1
      exact ⟨g0, g1⟩
    · simp only [List.mem_map, List.mem_range] at ho
      obtain ⟨i, hi, rfl⟩ := ho
      exact (hF i hi).2
    · rw [hx]
      refine ⟨_, weights_row Tryd.underlying29 _ _, ?_⟩
      rw [bytesPair, List.length_map, hel]
      exact Nat.mul_le_mul_right _ (Nat.le_add_right _ _)
set_option maxRecDepth 100000 in
theorem open_texts {H : Type} {enc : TypeId × Value → H} {W : World} {base : Nat} {sp : Nat → Bool} {held : Bool} {m : Nat} {a : Option Addr} {len cap : Nat} {x : DataW H × List MemPlace} (hm : DataW.trod enc Tryd.prog W base sp held m 30 [.slice a len cap] = some x) :
    ∃ l : Row, l.length = len ∧ Rd W a cap l ∧ (∀ s ∈ l, s.length ∈ x.1.weights Tryd.prog 30) ∧ (len = 0 ∨ ∃ k ∈ x.1.weights Tryd.prog 30, len * 16 ≤ k) := by
  rcases DataW.trod_slice Tryd.underlying30 hm with ⟨e3, _⟩ | ⟨a', len', cap', elems, rest, n', hn', e3, hx, _, hlc, hcm, hel, hE, _⟩
  · obtain ⟨rfl, rfl, rfl⟩ : a = none ∧ len = 0 ∧ cap = 0 := by simpa using e3
    exact ⟨[], rfl, Rd.nilRow W, (fun o (h : o ∈ ([] : Row)) => by cases h), .inl rfl⟩
  · obtain ⟨rfl, rfl, rfl⟩ : a = some a' ∧ len = len' ∧ cap = cap' := by simpa using e3
    have each : ∀ i, i < len → ∃ s : Nm, W.cells? base (a'.add i) 1 = some [txt s] ∧ s.length ∈ x.1.weights Tryd.prog 30 := fun i hi => by
      have h1 := hE i hi
      rw [cellsStr1, Nat.mul_one, List.getElem?_eq_getElem (by omega)] at h1
      obtain ⟨cs', h2, h3⟩ := Option.bind_eq_some_iff.1 h1
      obtain ⟨s, e2, hy2, hs⟩ := DataW.trod_string Tryd.underlying9 h3
      subst e2
      refine ⟨s.data.toList, h2, ?_⟩
      rw [hx]
      exact weights_slice Tryd.underlying30 (List.mem_map.2 ⟨elems[i]'(by omega), List.getElem_mem _, rfl⟩) (by rw [hy2]; simp [DataW.weights])
    have _inh : Inhabited Nm := ⟨[]⟩
    obtain ⟨F, hF⟩ := Go.Deep.choose_lt each
    have hL : ((List.range len).map F).length = len := by simp
    refine ⟨(List.range len).map F, hL, ⟨fun hne => ?_, (fun h => by cases h), by rw [hL]; exact hlc⟩, fun o ho => ?_, .inr ?_⟩
    · have hpos : 0 < len := by
        rcases Nat.eq_zero_or_pos len with h | h
        · subst h; exact absurd rfl hne
        · exact h
      obtain ⟨blk, off, spot⟩ := a'
      have hsp : spot = none := by
        obtain ⟨h1, _⟩ := hF 0 hpos
        obtain ⟨_, _, h3⟩ := World.cells?_some h1
        have h4 := h3 0 (by decide)
        rw [List.getElem?_eq_getElem (by simp)] at h4
        simpa [Addr.add] using World.cell?_spot h4
      subst hsp
      refine ⟨blk, off, rfl, fun i hi => ?_⟩
      have hi' : i < len := by rwa [hL] at hi
      simp only [List.getElem_map, List.getElem_range]
      obtain ⟨h1, _⟩ := hF i hi'
      obtain ⟨_, _, h4⟩ := World.cells?_some h1
      have g0 := h4 0 (by decide)
      simpa only [add_plain, Nat.add_zero, List.getElem?_cons_zero] using g0
    · simp only [List.mem_map, List.mem_range] at ho
      obtain ⟨i, hi, rfl⟩ := ho
      exact (hF i hi).2
    · rw [hx]
      refine ⟨_, weights_row Tryd.underlying30 _ _, ?_⟩
      rw [bytesStr, List.length_map, hel]
      exact Nat.mul_le_mul_right _ (Nat.le_add_right _ _)
set_option maxRecDepth 100000 in
theorem open_pt {H : Type} {enc : TypeId × Value → H} {W : World} {base : Nat} {sp : Nat → Bool} {held : Bool} {fuel : Nat} {cs : List Value} {x : DataW H × List MemPlace} (h : DataW.trod enc Tryd.prog W base sp held fuel 32 cs = some x) :
    ∃ k m : Int, cs = [.int .i64 k, .int .i64 m] ∧ (-9223372036854775808 ≤ k ∧ k ≤ 9223372036854775807) ∧ -9223372036854775808 ≤ m ∧ m ≤ 9223372036854775807 := by
  obtain ⟨xs, n, rfl, rfl, hl, hlen, hf⟩ := DataW.trod_struct Tryd.underlying32 h
  rw [cellsPt] at hl
  obtain ⟨c0, c1, rfl⟩ := two_of hl
  obtain ⟨y0, y1, rfl⟩ := two_of (show xs.length = 2 from hlen)
  have f0 : DataW.trod enc Tryd.prog W base sp held n 3 (([c0, c1].drop 0).take (Tryd.prog.cellsOf 3)) = some y0 := hf 0 _ rfl
  have f1 : DataW.trod enc Tryd.prog W base sp held n 3 (([c0, c1].drop 1).take (Tryd.prog.cellsOf 3)) = some y1 := hf 1 _ rfl
  rw [cellsInt] at f0 f1
  obtain ⟨k, e0, _, w0⟩ := DataW.trod_int Tryd.underlying3 f0
  obtain ⟨m, e1, _, w1⟩ := DataW.trod_int Tryd.underlying3 f1
  obtain rfl : c0 = .int .i64 k := by simpa using e0
  obtain rfl : c1 = .int .i64 m := by simpa using e1
  exact ⟨k, m, rfl, bounds_i64 w0, bounds_i64 w1⟩
set_option maxHeartbeats 1000000 in
set_option maxRecDepth 100000 in
/-- a value that came in -/
theorem open_val {H : Type} {enc : TypeId × Value → H} {W : World} {base : Nat} {sp : Nat → Bool} {held : Bool} {fuel : Nat} {cs : List Value} {x : DataW H × List MemPlace} (h : DataW.trod enc Tryd.prog W base sp held fuel 34 cs = some x) (hsz : ∀ n ∈ x.1.weights Tryd.prog 34, n ≤ 140737488351232) :
    ∃ (m : Vl) (pp : Option Addr) (pc' : Nat) (ip : Option Addr) (ic : Nat), cs = (vcs m pp pc' ip ic).toList ∧ Came m ∧ (m.pairs.length * 32 ≤ 140737488351232 ∧ m.items.length * 16 ≤ 140737488351232) ∧ VI W m pp pc' ip ic := by
  obtain ⟨xs, n, rfl, rfl, hl, hlen, hf⟩ := DataW.trod_struct Tryd.underlying34 h
  rw [cellsVal] at hl
  obtain ⟨c0, c1, c2, c3, c4, c5, rfl⟩ := six_of hl
  obtain ⟨y0, y1, y2, y3, y4, rfl⟩ := five_of (show xs.length = 5 from hlen)
  have f0 : DataW.trod enc Tryd.prog W base sp held n 3 (([c0, c1, c2, c3, c4, c5].drop 0).take (Tryd.prog.cellsOf 3)) = some y0 := hf 0 _ rfl
  have f1 : DataW.trod enc Tryd.prog W base sp held n 9 (([c0, c1, c2, c3, c4, c5].drop 1).take (Tryd.prog.cellsOf 9)) = some y1 := hf 1 _ rfl
  have f2 : DataW.trod enc Tryd.prog W base sp held n 29 (([c0, c1, c2, c3, c4, c5].drop 2).take (Tryd.prog.cellsOf 29)) = some y2 := hf 2 _ rfl
  have f3 : DataW.trod enc Tryd.prog W base sp held n 30 (([c0, c1, c2, c3, c4, c5].drop 3).take (Tryd.prog.cellsOf 30)) = some y3 := hf 3 _ rfl
  have f4 : DataW.trod enc Tryd.prog W base sp held n 32 (([c0, c1, c2, c3, c4, c5].drop 4).take (Tryd.prog.cellsOf 32)) = some y4 := hf 4 _ rfl
  rw [cellsInt] at f0
  rw [cellsStr1] at f1
  rw [cellsPairs] at f2
  rw [cellsStrs] at f3
  rw [cellsPt] at f4
  obtain ⟨k, e0, _, w0⟩ := DataW.trod_int Tryd.underlying3 f0
  obtain ⟨s, e1, hy1, _⟩ := DataW.trod_string Tryd.underlying9 f1
  obtain rfl : c0 = .int .i64 k := by simpa using e0
  obtain rfl : c1 = .string s := by simpa using e1
  obtain ⟨pp, np, pc', rfl⟩ : ∃ a l c, c2 = .slice a l c := by
    rcases DataW.trod_slice Tryd.underlying29 f2 with ⟨e3, _⟩ | ⟨a', len', cap', _, _, _, _, e3, _⟩
    · exact ⟨none, 0, 0, by simpa using e3⟩
    · exact ⟨some a', len', cap', by simpa using e3⟩
  obtain ⟨ip, ni, ic, rfl⟩ : ∃ a l c, c3 = .slice a l c := by
    rcases DataW.trod_slice Tryd.underlying30 f3 with ⟨e3, _⟩ | ⟨a', len', cap', _, _, _, _, e3, _⟩
    · exact ⟨none, 0, 0, by simpa using e3⟩
    · exact ⟨some a', len', cap', by simpa using e3⟩
  obtain ⟨ps, hpl, hpr, hpw, hpk⟩ := open_pairs (show DataW.trod enc Tryd.prog W base sp held n 29 [.slice pp np pc'] = some y2 from f2)
  obtain ⟨is, hil, hir, hiw, hik⟩ := open_texts (show DataW.trod enc Tryd.prog W base sp held n 30 [.slice ip ni ic] = some y3 from f3)
  obtain ⟨px, py, e4, b4, b5⟩ := open_pt (show DataW.trod enc Tryd.prog W base sp held n 32 [c4, c5] = some y4 from f4)
  obtain ⟨rfl, rfl⟩ : c4 = .int .i64 px ∧ c5 = .int .i64 py := by simpa using e4
  subst hpl hil
  have hw : ∀ (j : Nat) (t : TypeId) (y : DataW H × List MemPlace) (z : Nat), [3, 9, 29, 30, 32][j]? = some t → [y0, y1, y2, y3, y4][j]? = some y → z ∈ y.1.weights Tryd.prog t → z ≤ 140737488351232 := fun j t y z h1 h2 h3 => by
    apply hsz
    simp only [DataW.weights, Tryd.underlying34]
    exact DataW.weights_mem_each (j := j) (t := t) (d := y.1) h1 (by rw [List.getElem?_map, h2]; rfl) _ h3
  have hP := fun z hz => hw 2 _ y2 z rfl rfl hz
  have hI := fun z hz => hw 3 _ y3 z rfl rfl hz
  have r1 : ps.length * 32 ≤ 140737488351232 := by
    rcases hpk with h | ⟨z, hz, hle⟩
    · rw [h]; decide
    · exact Nat.le_trans hle (hP z hz)
  have r2 : is.length * 16 ≤ 140737488351232 := by
    rcases hik with h | ⟨z, hz, hle⟩
    · rw [h]; decide
    · exact Nat.le_trans hle (hI z hz)
  have rt : s.data.toList.length ≤ 140737488351232 := hw 1 _ y1 _ rfl rfl (by rw [hy1]; simp [DataW.weights])
  refine ⟨⟨k, s.data.toList, ps, is, px, py⟩, pp, pc', ip, ic, rfl, ⟨?_, ?_, rt, fun z hz => ?_, fun z hz => ?_, fun z hz => hI _ (hiw z hz), bounds_i64 w0, b4, b5⟩, ⟨r1, r2⟩, ⟨hpr, hir⟩⟩
  · show ps.length ≤ _; omega
  · show is.length ≤ _; omega
  · obtain ⟨p, hp, rfl⟩ := List.mem_map.1 hz
    exact hP _ (hpw p hp).1
  · obtain ⟨p, hp, rfl⟩ := List.mem_map.1 hz
    exact hP _ (hpw p hp).2

end Go.Proofs.YtppgifaegnmciaaDoor
