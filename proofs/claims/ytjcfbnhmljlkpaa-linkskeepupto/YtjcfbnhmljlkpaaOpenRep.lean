/- A reply that came in, opened. -/
import Derived.Test.YtjcfbnhmljlkpaaRep
import Derived.Deep.Slices
import Derived.ChangeArms
import Derived.ProofKit
import Derived.OpenShut
namespace Go.Proofs.Ytjcfbnhmljlkpaa
open Go.RowKit Go.ChangeShapes Go.WideShapes Go.ChangeAt

theorem cells24 : Try.prog.cellsOf 31 = 4 := by kernel_rfl
theorem cellsInt : Try.prog.cellsOf 3 = 1 := by kernel_rfl
theorem cellsStr1 : Try.prog.cellsOf 9 = 1 := by kernel_rfl
theorem cellsRows : Try.prog.cellsOf 29 = 1 := by kernel_rfl
theorem int_wf {n : Int} (h : (Lit.int .i64 n).wf = true) : -9223372036854775808 ≤ n ∧ n ≤ 9223372036854775807 := bounds_i64 h
theorem four {α : Type} : ∀ {l : List α}, l.length = 4 → ∃ a b c d, l = [a, b, c, d]
  | [a, b, c, d], _ => ⟨a, b, c, d, rfl⟩
set_option maxRecDepth 100000 in
theorem open_rep {H : Type} {enc : TypeId × Value → H} {W : World} {base : Nat} {sp : Nat → Bool} {held : Bool} : ∀ (fuel : Nat) (cs : List Value) (x : DataW H × List MemPlace), DataW.trod enc Try.prog W base sp held fuel 31 cs = some x → cs.length = 4 ∧ ∃ (r : Rep) (d : Nat), Rp All W d (.agg cs.toArray) r := by
  intro fuel
  induction fuel using Nat.strongRecOn with
  | _ fuel ih =>
    intro cs x h
    obtain ⟨xs, n, rfl, rfl, hl, hlen, hf⟩ := DataW.trod_struct Try.underlying31 h
    rw [cells24] at hl
    refine ⟨hl, ?_⟩
    obtain ⟨c0, c1, c2, c3, rfl⟩ := four hl
    obtain ⟨y0, y1, y2, y3, rfl⟩ := four (show xs.length = 4 from hlen)
    · skip
      have f0 : DataW.trod enc Try.prog W base sp held n 3 (([c0, c1, c2, c3].drop 0).take (Try.prog.cellsOf 3)) = some y0 := hf 0 _ rfl
      have f1 : DataW.trod enc Try.prog W base sp held n 3 (([c0, c1, c2, c3].drop 1).take (Try.prog.cellsOf 3)) = some y1 := hf 1 _ rfl
      have f2 : DataW.trod enc Try.prog W base sp held n 9 (([c0, c1, c2, c3].drop 2).take (Try.prog.cellsOf 9)) = some y2 := hf 2 _ rfl
      have f3 : DataW.trod enc Try.prog W base sp held n 29 (([c0, c1, c2, c3].drop 3).take (Try.prog.cellsOf 29)) = some y3 := hf 3 _ rfl
      rw [cellsInt] at f0 f1
      rw [cellsStr1] at f2
      rw [cellsRows] at f3
      obtain ⟨k, e0, _, w0⟩ := DataW.trod_int Try.underlying3 f0
      obtain ⟨m, e1, _, w1⟩ := DataW.trod_int Try.underlying3 f1
      obtain ⟨s, e2, _, hs⟩ := DataW.trod_string Try.underlying9 f2
      obtain rfl : c0 = .int .i64 k := by simpa using e0
      obtain rfl : c1 = .int .i64 m := by simpa using e1
      obtain rfl : c2 = .string s := by simpa using e2
      have b0 := int_wf w0
      have b1 := int_wf w1
      have hs' : s.data.toList.length ≤ 9223372036854775807 := by rw [Array.length_toList]; exact hs
      have es : s = ⟨s.data.toList.toArray⟩ := rfl
      rcases DataW.trod_slice Try.underlying29 f3 with ⟨e3, _⟩ | ⟨a, len, cap, elems, rest, n', hn', e3, _, _, hlc, hcm, hel, hE, _⟩
      · obtain rfl : c3 = .slice none 0 0 := by simpa using e3
        exact ⟨.mk k m s.data.toList [], 1, none, 0, rfl, ⟨b0.1, b0.2, b1.1, b1.2, hs', Nat.zero_le _⟩, RowOf.nil _ _ _ _⟩
      · obtain rfl : c3 = .slice (some a) len cap := by simpa using e3
        have each : ∀ i, i < len → ∃ r : Rep, ∃ (cs' : List Value) (d : Nat), W.cells? base (a.add (i * 4)) 4 = some cs' ∧ cs'.length = 4 ∧ Rp All W d (.agg cs'.toArray) r := fun i hi => by
          have h1 := hE i hi
          rw [cells24, List.getElem?_eq_getElem (by omega)] at h1
          obtain ⟨cs', h2, h3⟩ := Option.bind_eq_some_iff.1 h1
          obtain ⟨h4, r, d, h5⟩ := ih n' (by omega) cs' _ h3
          exact ⟨r, cs', d, h2, h4, h5⟩
        have _inh : Inhabited Rep := ⟨.mk 0 0 [] []⟩
        obtain ⟨F, hF⟩ := Go.Deep.choose_lt each
        obtain ⟨D, hD⟩ := Go.Deep.fuel_lt (q := fun i d => ∃ cs' : List Value, W.cells? base (a.add (i * 4)) 4 = some cs' ∧ cs'.length = 4 ∧ Rp All W d (.agg cs'.toArray) (F i))
          (fun i _ _ hab ⟨cs', h1, h2, h3⟩ => ⟨cs', h1, h2, h3.all hab⟩) (fun i hi => let ⟨cs', d, h1, h2, h3⟩ := hF i hi; ⟨d, cs', h1, h2, h3⟩)
        have hL : ((List.range len).map F).length = len := by simp
        refine ⟨.mk k m s.data.toList ((List.range len).map F), D + 1, some a, cap, ?_, ⟨b0.1, b0.2, b1.1, b1.2, hs', ?_⟩, fun hne => ?_⟩
        · show Value.agg #[_, _, _, .slice (some a) len cap] = .agg #[_, _, _, .slice (some a) ((List.range len).map F).length cap]
          rw [hL]
          rfl
        · show ((List.range len).map F).length ≤ _
          rw [hL]
          exact Nat.le_trans hlc hcm
        · have hpos : 0 < len := by
            rcases Nat.eq_zero_or_pos len with h | h
            · subst h; exact absurd rfl hne
            · exact h
          obtain ⟨blk, off, spot⟩ := a
          have hsp : spot = none := by
            obtain ⟨cs', h1, h2, _⟩ := hD 0 hpos
            obtain ⟨_, _, h3⟩ := World.cells?_some h1
            have h4 := h3 0 (by omega)
            rw [List.getElem?_eq_getElem (by omega)] at h4
            simpa [Addr.add] using World.cell?_spot h4
          subst hsp
          refine ⟨blk, off, rfl, trivial, fun i hi => ?_⟩
          have hi' : i < len := by
            have : i < ((List.range len).map F).length := hi
            rwa [hL] at this
          have eF : (Rep.mk k m s.data.toList ((List.range len).map F)).list[i] = F i := by simp [Rep.list]
          obtain ⟨cs', h1, h2, h3⟩ := hD i hi'
          obtain ⟨_, _, h4⟩ := World.cells?_some h1
          obtain ⟨d', p, c, rfl, e, f, R⟩ := h3.open
          rw [eF]
          have ecs : cs' = [.int .i64 (F i).kind, .int .i64 (F i).int, .string ⟨(F i).text.toArray⟩, .slice p (F i).list.length c] := by
            have : cs'.toArray = #[.int .i64 (F i).kind, .int .i64 (F i).int, .string ⟨(F i).text.toArray⟩, .slice p (F i).list.length c] := by injection e
            simpa using congrArg Array.toList this
          subst ecs
          have g0 := h4 0 (by decide)
          have g1 := h4 1 (by decide)
          have g2 := h4 2 (by decide)
          have g3 := h4 3 (by decide)
          simp only [add_plain, Nat.add_zero, List.getElem?_cons_zero, List.getElem?_cons_succ] at g0 g1 g2 g3
          exact ⟨p, c, g0, g1, g2, g3, h3⟩

end Go.Proofs.Ytjcfbnhmljlkpaa
