/- How great the texts of a letter are whose bulk is small. -/
import Derived.Test.YtjcfbnhmljlkpaaRows
import Derived.Test.YtjcfbnhmljlkpaaOpenLk
namespace Go.Proofs.Ytjcfbnhmljlkpaa
open Go.RowKit Go.WideShapes Go.ChangeAt
variable {H : Type} {enc : TypeId × Value → H} {W : World} {base : Nat} {sp : Nat → Bool} {held : Bool}

theorem bulk_mem {l : List (DataW H)} {d : DataW H} (h : d ∈ l) : Rows.uptoBulk d ≤ Rows.uptoBulkAll l := by
  induction l with
  | nil => cases h
  | cons e r ih =>
    simp only [Rows.uptoBulkAll]
    rcases List.mem_cons.1 h with rfl | h
    · omega
    · have := ih h; omega
theorem bulk_elem {elems rest : List (DataW H × List MemPlace)} {N : Nat} (hb : Rows.uptoBulk (.slice (elems.map (·.1)) (rest.map (·.1)) : DataW H) ≤ N) {i : Nat} (hi : i < elems.length) : Rows.uptoBulk elems[i].1 ≤ N := by
  simp only [Rows.uptoBulk] at hb
  have := bulk_mem (List.mem_map_of_mem (f := (·.1)) (List.getElem_mem hi))
  omega
set_option maxRecDepth 100000 in
theorem txs_bulk {m n c N : Nat} {a : Option Addr} {x : DataW H × List MemPlace} (hm : DataW.trod enc Try.prog W base sp held m 28 [.slice a n c] = some x) (hb : Rows.uptoBulk x.1 ≤ N) {l : List (List UInt8)} (hT : TxR All W a l) (hn : l.length = n) : ∀ s ∈ l, s.length ≤ N := by
  intro s hs
  obtain ⟨i, hi, rfl⟩ := List.getElem_of_mem hs
  rcases DataW.trod_slice Try.underlying28 hm with ⟨e3, _⟩ | ⟨a', len', cap', elems, rest, n', hn', e3, rfl, _, hlc, hcm, hel, hE, _⟩
  · injection e3 with e3
    injection e3 with _ e3
    omega
  · injection e3 with e3
    injection e3 with e1 e2 e4
    subst e1 e2
    have hil : i < elems.length := by omega
    have h1 := hE i (by omega)
    rw [cellsStr1, List.getElem?_eq_getElem hil] at h1
    obtain ⟨cs', h2, h3⟩ := Option.bind_eq_some_iff.1 h1
    obtain ⟨s', rfl, e5, _⟩ := DataW.trod_string Try.underlying9 h3
    obtain ⟨b, o, e6, _, hc⟩ := hT (fun e => by rw [e] at hi; simp at hi)
    injection e6 with e6
    subst e6
    have h4 := row_at h2 0 (by decide)
    rw [show i * 1 + 0 = i by omega, hc i hi] at h4
    have h5 : txt l[i] = .string s' := by simpa using h4
    have h6 := bulk_elem hb hil
    rw [e5] at h6
    simp only [Rows.uptoBulk] at h6
    injection h5 with h5
    rw [← h5] at h6
    have h6 : l[i].length + 1 ≤ N := h6
    omega
set_option maxRecDepth 100000 in
theorem reps_bulk {m n c N d : Nat} {a : Option Addr} {x : DataW H × List MemPlace} (hm : DataW.trod enc Try.prog W base sp held m 29 [.slice a n c] = some x) (hb : Rows.uptoBulk x.1 ≤ N) {l : List Rep} (hT : RowOf All W (Rp All W d) a l) (hn : l.length = n) : ∀ r ∈ l, r.text.length ≤ N := by
  intro r hr
  obtain ⟨i, hi, rfl⟩ := List.getElem_of_mem hr
  rcases DataW.trod_slice Try.underlying29 hm with ⟨e3, _⟩ | ⟨a', len', cap', elems, rest, n', hn', e3, rfl, _, hlc, hcm, hel, hE, _⟩
  · injection e3 with e3
    injection e3 with _ e3
    omega
  · injection e3 with e3
    injection e3 with e1 e2 e4
    subst e1 e2
    have hil : i < elems.length := by omega
    have h1 := hE i (by omega)
    rw [cells24, List.getElem?_eq_getElem hil] at h1
    obtain ⟨cs', h2, h3⟩ := Option.bind_eq_some_iff.1 h1
    obtain ⟨xs, k, _, e5, hl4, hlen, hf⟩ := DataW.trod_struct Try.underlying31 h3
    rw [cells24] at hl4
    obtain ⟨c0, c1, c2, c3, rfl⟩ := four hl4
    have hx4 : xs.length = 4 := hlen
    have f2 : DataW.trod enc Try.prog W base sp held k 9 (([c0, c1, c2, c3].drop 2).take (Try.prog.cellsOf 9)) = some xs[2] := (hf 2 _ rfl).trans (List.getElem?_eq_getElem (by omega))
    rw [cellsStr1] at f2
    obtain ⟨s', e6, e7, _⟩ := DataW.trod_string Try.underlying9 f2
    obtain rfl : c2 = .string s' := by simpa using e6
    obtain ⟨b, o, e8, _, hc⟩ := hT (fun e => by rw [e] at hi; simp at hi)
    injection e8 with e8
    subst e8
    obtain ⟨_, _, _, _, hc2, _⟩ := hc i hi
    have h4 := row_at h2 2 (by decide)
    rw [← Nat.add_assoc, hc2] at h4
    have h5 : (Value.string ⟨l[i].text.toArray⟩) = .string s' := by simpa using h4
    have h6 := bulk_elem hb hil
    rw [e5] at h6
    simp only [Rows.uptoBulk] at h6
    have h7 := bulk_mem (List.mem_map_of_mem (f := (·.1)) (List.getElem_mem (l := xs) (n := 2) (by omega)))
    rw [e7] at h7
    simp only [Rows.uptoBulk] at h7
    injection h5 with h5
    rw [← h5] at h7
    have h7 : l[i].text.length + 1 ≤ Rows.uptoBulkAll (xs.map (·.1)) := h7
    omega
set_option maxRecDepth 100000 in
theorem lt_bulk {fuel N : Nat} {y : Lt} {ap : Option Addr} {ac : Nat} {rp : Option Addr} {rc : Nat} {x : DataW H × List MemPlace} (h : DataW.trod enc Try.prog W base sp held fuel 33 (ltC y ap ac rp rc).toList = some x) (hb : Rows.uptoBulk x.1 ≤ N) (hL : LtR All W y ap rp) : (∀ s ∈ y.args, s.length ≤ N) ∧ ∀ r ∈ y.reply.list, r.text.length ≤ N := by
  obtain ⟨xs, n, rfl, rfl, hl, hlen, hf⟩ := DataW.trod_struct Try.underlying33 h
  have h10 : xs.length = 10 := hlen
  have f6 : DataW.trod enc Try.prog W base sp held n 28 (((ltC y ap ac rp rc).toList.drop 6).take (Try.prog.cellsOf 28)) = some xs[6] := (hf 6 _ rfl).trans (List.getElem?_eq_getElem (by omega))
  have f7 : DataW.trod enc Try.prog W base sp held n 31 (((ltC y ap ac rp rc).toList.drop 7).take (Try.prog.cellsOf 31)) = some xs[7] := (hf 7 _ rfl).trans (List.getElem?_eq_getElem (by omega))
  rw [cellsStrs] at f6
  rw [cells24] at f7
  simp only [ltC, List.drop_zero, List.drop_succ_cons, List.take_succ_cons, List.take_zero] at f6 f7
  simp only [Rows.uptoBulk] at hb
  have b6 := bulk_mem (List.mem_map_of_mem (f := (·.1)) (List.getElem_mem (l := xs) (n := 6) (by omega)))
  have b7 := bulk_mem (List.mem_map_of_mem (f := (·.1)) (List.getElem_mem (l := xs) (n := 7) (by omega)))
  refine ⟨txs_bulk f6 (by omega) hL.args rfl, ?_⟩
  obtain ⟨zs, k, rfl, e5, hl4, hlen4, hf4⟩ := DataW.trod_struct Try.underlying31 f7
  have hz4 : zs.length = 4 := hlen4
  have f3 := (hf4 3 _ rfl).trans (List.getElem?_eq_getElem (by omega))
  rw [e5] at b7
  simp only [Rows.uptoBulk] at b7
  have b3 := bulk_mem (List.mem_map_of_mem (f := (·.1)) (List.getElem_mem (l := zs) (n := 3) (by omega)))
  obtain ⟨dd, hR⟩ := hL.list
  refine reps_bulk (enc := enc) (base := base) (sp := sp) (held := held) (a := rp) (n := y.reply.list.length) (c := rc) (m := k) ?_ (show _ ≤ N from Nat.le_trans b3 (by omega)) hR rfl
  have e9 : Try.prog.cellsOf 29 = 1 := cellsRows
  simpa [e9] using f3

end Go.Proofs.Ytjcfbnhmljlkpaa
