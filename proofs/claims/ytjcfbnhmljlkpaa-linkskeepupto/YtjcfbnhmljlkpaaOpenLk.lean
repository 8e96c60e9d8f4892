/- Letters, rows of calls, rows of numbers that came in, opened. -/
import Derived.Test.YtjcfbnhmljlkpaaLkOps
import Derived.Test.YtjcfbnhmljlkpaaLawLk3
import Derived.Test.YtjcfbnhmljlkpaaOpenRep
namespace Go.Proofs.Ytjcfbnhmljlkpaa
open Go.RowKit Go.ChangeShapes Go.WideShapes Go.ChangeAt

section
variable {H : Type} {enc : TypeId × Value → H} {W : World} {base : Nat} {sp : Nat → Bool} {held : Bool}
theorem row_at {blk off k i : Nat} {cs : List Value} (h : W.cells? base ((⟨blk, off, none⟩ : Addr).add (i * k)) k = some cs) (j : Nat) (hj : j < k) : W.cell? ⟨blk, off + (i * k + j), none⟩ = cs[j]? := by
  obtain ⟨_, _, h3⟩ := World.cells?_some h
  have := h3 j hj
  simp only [add_plain] at this
  rw [← Nat.add_assoc]
  exact this
theorem row_spot {a : Addr} {k : Nat} {cs : List Value} (h : W.cells? base (a.add (0 * k)) k = some cs) (hk : 0 < k) (hl : cs.length = k) : ∃ b o, a = ⟨b, o, none⟩ := by
  obtain ⟨_, _, h3⟩ := World.cells?_some h
  have h4 := h3 0 hk
  rw [List.getElem?_eq_getElem (by omega)] at h4
  obtain ⟨b, o, s⟩ := a
  have : s = none := by simpa [Addr.add] using World.cell?_spot h4
  exact ⟨b, o, by rw [this]⟩
theorem pos_of_ne {α : Type} {n : Nat} {f : Nat → α} (h : (List.range n).map f ≠ []) : 0 < n := by
  rcases Nat.eq_zero_or_pos n with e | e
  · subst e; exact absurd rfl h
  · exact e
set_option maxRecDepth 100000 in
theorem open_txs {m : Nat} {v : Value} {x : DataW H × List MemPlace} (hm : DataW.trod enc Try.prog W base sp held m 28 [v] = some x) :
    ∃ (l : List (List UInt8)) (a : Option Addr) (c : Nat), v = .slice a l.length c ∧ TxR All W a l ∧ (a = none → c = 0) := by
  rcases DataW.trod_slice Try.underlying28 hm with ⟨e3, _⟩ | ⟨a', len', cap', elems, rest, n', hn', e3, _, _, hlc, hcm, hel, hE, _⟩
  · obtain rfl : v = .slice none 0 0 := by simpa using e3
    exact ⟨[], none, 0, rfl, (fun h => absurd rfl h), fun _ => rfl⟩
  · obtain rfl : v = .slice (some a') len' cap' := by simpa using e3
    have each : ∀ i, i < len' → ∃ s : List UInt8, W.cells? base (a'.add (i * 1)) 1 = some [txt s] := fun i hi => by
      have h1 := hE i hi
      rw [cellsStr1, List.getElem?_eq_getElem (by omega)] at h1
      obtain ⟨cs', h2, h3⟩ := Option.bind_eq_some_iff.1 h1
      obtain ⟨s, rfl, _⟩ := DataW.trod_string Try.underlying9 h3
      exact ⟨s.data.toList, h2⟩
    obtain ⟨F, hF⟩ := Go.Deep.choose_lt each
    refine ⟨(List.range len').map F, some a', cap', by simp, fun hne => ?_, fun h => by cases h⟩
    obtain ⟨blk, off, rfl⟩ := row_spot (hF 0 (pos_of_ne hne)) (by decide) rfl
    refine ⟨blk, off, rfl, trivial, fun i hi => ?_⟩
    have hi' : i < len' := by simpa using hi
    have := row_at (hF i hi') 0 (by decide)
    rw [Nat.mul_one, Nat.add_zero] at this
    rw [this]
    simp
set_option maxRecDepth 100000 in
theorem open_ints {m : Nat} {v : Value} {x : DataW H × List MemPlace} (hm : DataW.trod enc Try.prog W base sp held m 40 [v] = some x) :
    ∃ (l : List Int) (a : Option Addr) (c : Nat), v = .slice a l.length c ∧ GivenI W a l := by
  rcases DataW.trod_slice Try.underlying40 hm with ⟨e3, _⟩ | ⟨a', len', cap', elems, rest, n', hn', e3, _, _, hlc, hcm, hel, hE, _⟩
  · obtain rfl : v = .slice none 0 0 := by simpa using e3
    exact ⟨[], none, 0, rfl, (fun h => absurd rfl h)⟩
  · obtain rfl : v = .slice (some a') len' cap' := by simpa using e3
    have each : ∀ i, i < len' → ∃ z : Int, W.cells? base (a'.add (i * 1)) 1 = some [.int .i64 z] := fun i hi => by
      have h1 := hE i hi
      rw [cellsInt, List.getElem?_eq_getElem (by omega)] at h1
      obtain ⟨cs', h2, h3⟩ := Option.bind_eq_some_iff.1 h1
      obtain ⟨z, rfl, _⟩ := DataW.trod_int Try.underlying3 h3
      exact ⟨z, h2⟩
    obtain ⟨F, hF⟩ := Go.Deep.choose_lt each
    refine ⟨(List.range len').map F, some a', cap', by simp, fun hne => ?_⟩
    obtain ⟨blk, off, rfl⟩ := row_spot (hF 0 (pos_of_ne hne)) (by decide) rfl
    have at1 : ∀ i, i < len' → W.cell? ⟨blk, off + i, none⟩ = some (.int .i64 (F i)) := fun i hi => by
      have := row_at (hF i hi) 0 (by decide)
      rw [Nat.mul_one, Nat.add_zero] at this
      rw [this]
      rfl
    refine ⟨blk, off, rfl, block_lt_of_cell (at1 0 (pos_of_ne hne)), fun i hi => ?_⟩
    rw [at1 i (by simpa using hi)]
    simp
theorem cellsStrs : Try.prog.cellsOf 28 = 1 := by kernel_rfl
theorem cellsBool : Try.prog.cellsOf 4 = 1 := by kernel_rfl
theorem cellsLt : Try.prog.cellsOf 33 = 13 := by kernel_rfl
theorem cellsOp : Try.prog.cellsOf 35 = 16 := by kernel_rfl
set_option maxRecDepth 100000 in
theorem rep_none {fuel : Nat} {c0 c1 c2 : Value} {n c : Nat} {x : DataW H × List MemPlace} (h : DataW.trod enc Try.prog W base sp held fuel 31 [c0, c1, c2, .slice none n c] = some x) : c = 0 := by
  obtain ⟨xs, m, rfl, rfl, hl, hlen, hf⟩ := DataW.trod_struct Try.underlying31 h
  have hl4 : xs.length = 4 := hlen
  have f3 : DataW.trod enc Try.prog W base sp held m 29 (([c0, c1, c2, .slice none n c].drop 3).take (Try.prog.cellsOf 29)) = some xs[3] := (hf 3 _ rfl).trans (List.getElem?_eq_getElem (by omega))
  rw [cellsRows] at f3
  rcases DataW.trod_slice Try.underlying29 f3 with ⟨e3, _⟩ | ⟨a, len, cap, elems, rest, n', hn', e3, _⟩
  · simp at e3
    exact e3.2
  · simp at e3
theorem thirteen {α : Type} : ∀ {l : List α}, l.length = 13 → ∃ a b c d e f g h i j k m n, l = [a, b, c, d, e, f, g, h, i, j, k, m, n]
  | [a, b, c, d, e, f, g, h, i, j, k, m, n], _ => ⟨a, b, c, d, e, f, g, h, i, j, k, m, n, rfl⟩
set_option maxRecDepth 100000 in
set_option maxHeartbeats 1000000 in
/-- a letter -/
theorem open_lt {fuel : Nat} {cs : List Value} {x : DataW H × List MemPlace} (h : DataW.trod enc Try.prog W base sp held fuel 33 cs = some x) :
    ∃ (y : Lt) (ap : Option Addr) (ac : Nat) (rp : Option Addr) (rc : Nat), cs = (ltC y ap ac rp rc).toList ∧ LtR All W y ap rp ∧ (ap = none → ac = 0) ∧ (rp = none → rc = 0) := by
  obtain ⟨xs, n, rfl, rfl, hl, hlen, hf⟩ := DataW.trod_struct Try.underlying33 h
  rw [cellsLt] at hl
  obtain ⟨c0, c1, c2, c3, c4, c5, c6, c7, c8, c9, c10, c11, c12, rfl⟩ := thirteen hl
  have h10 : xs.length = 10 := hlen
  have f0 : DataW.trod enc Try.prog W base sp held n 3 (([c0, c1, c2, c3, c4, c5, c6, c7, c8, c9, c10, c11, c12].drop 0).take (Try.prog.cellsOf 3)) = some xs[0] := (hf 0 _ rfl).trans (List.getElem?_eq_getElem (by omega))
  have f1 : DataW.trod enc Try.prog W base sp held n 3 (([c0, c1, c2, c3, c4, c5, c6, c7, c8, c9, c10, c11, c12].drop 1).take (Try.prog.cellsOf 3)) = some xs[1] := (hf 1 _ rfl).trans (List.getElem?_eq_getElem (by omega))
  have f2 : DataW.trod enc Try.prog W base sp held n 3 (([c0, c1, c2, c3, c4, c5, c6, c7, c8, c9, c10, c11, c12].drop 2).take (Try.prog.cellsOf 3)) = some xs[2] := (hf 2 _ rfl).trans (List.getElem?_eq_getElem (by omega))
  have f3 : DataW.trod enc Try.prog W base sp held n 3 (([c0, c1, c2, c3, c4, c5, c6, c7, c8, c9, c10, c11, c12].drop 3).take (Try.prog.cellsOf 3)) = some xs[3] := (hf 3 _ rfl).trans (List.getElem?_eq_getElem (by omega))
  have f4 : DataW.trod enc Try.prog W base sp held n 9 (([c0, c1, c2, c3, c4, c5, c6, c7, c8, c9, c10, c11, c12].drop 4).take (Try.prog.cellsOf 9)) = some xs[4] := (hf 4 _ rfl).trans (List.getElem?_eq_getElem (by omega))
  have f5 : DataW.trod enc Try.prog W base sp held n 9 (([c0, c1, c2, c3, c4, c5, c6, c7, c8, c9, c10, c11, c12].drop 5).take (Try.prog.cellsOf 9)) = some xs[5] := (hf 5 _ rfl).trans (List.getElem?_eq_getElem (by omega))
  have f6 : DataW.trod enc Try.prog W base sp held n 28 (([c0, c1, c2, c3, c4, c5, c6, c7, c8, c9, c10, c11, c12].drop 6).take (Try.prog.cellsOf 28)) = some xs[6] := (hf 6 _ rfl).trans (List.getElem?_eq_getElem (by omega))
  have f7 : DataW.trod enc Try.prog W base sp held n 31 (([c0, c1, c2, c3, c4, c5, c6, c7, c8, c9, c10, c11, c12].drop 7).take (Try.prog.cellsOf 31)) = some xs[7] := (hf 7 _ rfl).trans (List.getElem?_eq_getElem (by omega))
  have f8 : DataW.trod enc Try.prog W base sp held n 4 (([c0, c1, c2, c3, c4, c5, c6, c7, c8, c9, c10, c11, c12].drop 11).take (Try.prog.cellsOf 4)) = some xs[8] := (hf 8 _ rfl).trans (List.getElem?_eq_getElem (by omega))
  have f9 : DataW.trod enc Try.prog W base sp held n 3 (([c0, c1, c2, c3, c4, c5, c6, c7, c8, c9, c10, c11, c12].drop 12).take (Try.prog.cellsOf 3)) = some xs[9] := (hf 9 _ rfl).trans (List.getElem?_eq_getElem (by omega))
  rw [cellsInt] at f0 f1 f2 f3 f9
  rw [cellsStr1] at f4 f5
  rw [cellsStrs] at f6
  rw [cells24] at f7
  rw [cellsBool] at f8
  simp only [List.drop_zero, List.drop_succ_cons, List.take_succ_cons, List.take_zero] at f0 f1 f2 f3 f4 f5 f6 f7 f8 f9
  obtain ⟨a0, e0, _, _⟩ := DataW.trod_int Try.underlying3 f0
  obtain ⟨a1, e1, _, _⟩ := DataW.trod_int Try.underlying3 f1
  obtain ⟨a2, e2, _, _⟩ := DataW.trod_int Try.underlying3 f2
  obtain ⟨a3, e3, _, _⟩ := DataW.trod_int Try.underlying3 f3
  obtain ⟨s4, e4, _, _⟩ := DataW.trod_string Try.underlying9 f4
  obtain ⟨s5, e5, _, _⟩ := DataW.trod_string Try.underlying9 f5
  obtain ⟨l, ap, ac, e6, hT, hap⟩ := open_txs f6
  obtain ⟨_, r, d, hR⟩ := open_rep _ _ _ f7
  obtain ⟨a8, e8, _⟩ := DataW.trod_bool Try.underlying4 f8
  obtain ⟨a9, e9, _, _⟩ := DataW.trod_int Try.underlying3 f9
  obtain ⟨d', p, c, _, e, fR, R⟩ := hR.open
  have e7 : c7 = .int .i64 r.kind ∧ c8 = .int .i64 r.int ∧ c9 = .string ⟨r.text.toArray⟩ ∧ c10 = .slice p r.list.length c := by
    have h1 : #[c7, c8, c9, c10] = #[.int .i64 r.kind, .int .i64 r.int, .string ⟨r.text.toArray⟩, .slice p r.list.length c] := by injection e
    simpa using congrArg Array.toList h1
  obtain ⟨rfl, rfl, rfl, rfl⟩ := e7
  simp only [List.cons.injEq, and_true] at e0 e1 e2 e3 e4 e5 e8 e9
  subst e0 e1 e2 e3 e4 e5 e6 e8 e9
  refine ⟨⟨a0, a1, a2, a3, s4.data.toList, s5.data.toList, l, r, a8, a9⟩, ap, ac, p, c, rfl, ⟨hT, ⟨d', R⟩, fR⟩, hap, fun hp => ?_⟩
  subst hp
  exact rep_none f7
set_option maxRecDepth 100000 in
set_option maxHeartbeats 1000000 in
/-- a call -/
theorem open_op {fuel : Nat} {cs : List Value} {x : DataW H × List MemPlace} (h : DataW.trod enc Try.prog W base sp held fuel 35 cs = some x) :
    ∃ m : Om, cs = m.cells.toList ∧ LtR All W m.o.x m.ap m.rp ∧ IE m.o.frm m.o.dst := by
  obtain ⟨xs, n, rfl, rfl, hl, hlen, hf⟩ := DataW.trod_struct Try.underlying35 h
  rw [cellsOp] at hl
  match cs, hl with
  | c0 :: c1 :: c2 :: rs, hl =>
    have h4 : xs.length = 4 := hlen
    have f0 : DataW.trod enc Try.prog W base sp held n 3 (((c0 :: c1 :: c2 :: rs).drop 0).take (Try.prog.cellsOf 3)) = some xs[0] := (hf 0 _ rfl).trans (List.getElem?_eq_getElem (by omega))
    have f1 : DataW.trod enc Try.prog W base sp held n 3 (((c0 :: c1 :: c2 :: rs).drop 1).take (Try.prog.cellsOf 3)) = some xs[1] := (hf 1 _ rfl).trans (List.getElem?_eq_getElem (by omega))
    have f2 : DataW.trod enc Try.prog W base sp held n 3 (((c0 :: c1 :: c2 :: rs).drop 2).take (Try.prog.cellsOf 3)) = some xs[2] := (hf 2 _ rfl).trans (List.getElem?_eq_getElem (by omega))
    have f3 : DataW.trod enc Try.prog W base sp held n 33 (((c0 :: c1 :: c2 :: rs).drop 3).take (Try.prog.cellsOf 33)) = some xs[3] := (hf 3 _ rfl).trans (List.getElem?_eq_getElem (by omega))
    have hr : rs.length = 13 := by simpa using hl
    rw [cellsInt] at f0 f1 f2
    rw [cellsLt] at f3
    simp only [List.drop_zero, List.drop_succ_cons, List.take_succ_cons, List.take_zero] at f0 f1 f2 f3
    rw [List.take_of_length_le (by omega)] at f3
    obtain ⟨a0, e0, _, _⟩ := DataW.trod_int Try.underlying3 f0
    obtain ⟨a1, e1, _, w1⟩ := DataW.trod_int Try.underlying3 f1
    obtain ⟨a2, e2, _, w2⟩ := DataW.trod_int Try.underlying3 f2
    obtain ⟨y, ap, ac, rp, rc, rfl, hL, _, _⟩ := open_lt f3
    simp only [List.cons.injEq, and_true] at e0 e1 e2
    subst e0 e1 e2
    exact ⟨⟨⟨a0, a1, a2, y⟩, ap, ac, rp, rc⟩, rfl, hL, w1, w2⟩
set_option maxRecDepth 100000 in
/-- a row of calls -/
theorem open_ops {m : Nat} {v : Value} {x : DataW H × List MemPlace} (hm : DataW.trod enc Try.prog W base sp held m 22 [v] = some x) :
    ∃ (l : List Om) (a : Option Addr) (c : Nat), v = .slice a l.length c ∧ GivenO W a l := by
  rcases DataW.trod_slice Try.underlying22 hm with ⟨e3, _⟩ | ⟨a', len', cap', elems, rest, n', hn', e3, _, _, hlc, hcm, hel, hE, _⟩
  · obtain rfl : v = .slice none 0 0 := by simpa using e3
    exact ⟨[], none, 0, rfl, (fun h => absurd rfl h), (fun _ h => by cases h), (fun _ h => by cases h)⟩
  · obtain rfl : v = .slice (some a') len' cap' := by simpa using e3
    have each : ∀ i, i < len' → ∃ o : Om, W.cells? base (a'.add (i * 16)) 16 = some o.cells.toList ∧ LtR All W o.o.x o.ap o.rp ∧ IE o.o.frm o.o.dst := fun i hi => by
      have h1 := hE i hi
      rw [cellsOp, List.getElem?_eq_getElem (by omega)] at h1
      obtain ⟨cs', h2, h3⟩ := Option.bind_eq_some_iff.1 h1
      obtain ⟨o, rfl, ho⟩ := open_op h3
      exact ⟨o, h2, ho⟩
    have _inh : Inhabited Om := ⟨⟨⟨0, 0, 0, zeroLt⟩, none, 0, none, 0⟩⟩
    obtain ⟨F, hF⟩ := Go.Deep.choose_lt each
    refine ⟨(List.range len').map F, some a', cap', by simp, fun hne => ?_, fun o ho => ?_, fun o ho => ?_⟩
    · obtain ⟨blk, off, rfl⟩ := row_spot (hF 0 (pos_of_ne hne)).1 (by decide) rfl
      have at16 : ∀ i, i < len' → ∀ j, j < 16 → W.cell? ⟨blk, off + (i * 16 + j), none⟩ = (F i).cells[j]? := fun i hi j hj => by
        rw [row_at (hF i hi).1 j hj, Array.getElem?_toList]
      refine ⟨blk, off, rfl, block_lt_of_cell (at16 0 (pos_of_ne hne) 0 (by decide)), fun i hi j hj => ?_⟩
      rw [at16 i (by simpa using hi) j hj]
      simp
    · simp only [List.mem_map, List.mem_range] at ho
      obtain ⟨i, hi, rfl⟩ := ho
      exact (hF i hi).2.1
    · simp only [List.mem_map, List.mem_range] at ho
      obtain ⟨i, hi, rfl⟩ := ho
      exact (hF i hi).2.2
end

end Go.Proofs.Ytjcfbnhmljlkpaa
