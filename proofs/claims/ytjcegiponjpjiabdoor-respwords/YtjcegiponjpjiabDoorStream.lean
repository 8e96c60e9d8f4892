/- The stream in memory, and what is fed to it. -/
import Derived.Test.YtjcegiponjpjiabDoorWrite
import Derived.Deep.Upon
namespace Go.Proofs.YtjcegiponjpjiabDoor
open Go.RowKit

/-- a row of bytes that grows at its end, from an offset of its block on -/
def Strm (w : World) (v : Value) (s : List UInt8) : Prop := ∃ a cap, v = .slice a s.length cap ∧ s.length ≤ cap ∧ cap ≤ maxLen ∧ (cap = 0 ∨ ∃ g off cur, a = some ⟨g, off, none⟩ ∧ w.heap[g]? = some (.cells cur 5 (0, 0)) ∧ off + cap ≤ cur.size ∧ ∀ i (h : i < s.length), cur[off + i]? = some (.int .u8 (s[i].toNat : Int)))
theorem Strm.nil (w : World) : Strm w (.slice none 0 0) [] := ⟨none, 0, rfl, Nat.le_refl _, Nat.zero_le _, .inl rfl⟩
theorem Strm.at {w : World} {a : Option Addr} {n cap : Nat} {s : List UInt8} (h : Strm w (.slice a n cap) s) : n = s.length ∧ s.length ≤ cap ∧ At w a s := by
  obtain ⟨a', cap', e, h1, _, h2⟩ := h
  injection e with e1 e2 e3
  subst e1
  subst e2
  subst e3
  refine ⟨rfl, h1, fun hne => ?_⟩
  rcases h2 with h2 | ⟨g, off, cur, rfl, hg, _, hc⟩
  · exact absurd (List.eq_nil_of_length_eq_zero (by omega)) hne
  · exact ⟨g, off, rfl, fun i hi => by rw [cell_of_row w g (off + i) _ _ _ hg]; exact hc i hi, _, _, hg⟩
/-- all but the value's own block is as it was -/
structure Grew (v : Value) (w w' : World) : Prop where
  os : w'.os = w.os
  tape : w'.tape = w.tape
  output : w'.output = w.output
  size : w.heap.size ≤ w'.heap.size
  block : ∀ k, k < w.heap.size → (∀ a n c, v = .slice (some a) n c → 0 < c → a.block ≠ k) → w'.heap[k]? = w.heap[k]?
/-- where a grown row lies: where it lay, or in a new block -/
def Near (w : World) (v v' : Value) : Prop := ∀ a n c, v' = .slice (some a) n c → (∃ a0 n0 c0, v = .slice (some a0) n0 c0 ∧ a.block = a0.block) ∨ w.heap.size ≤ a.block
theorem room_at (w : World) (g off sLen sCap : Nat) (cur : Array Value) (hg : w.heap[g]? = some (.cells cur 5 (0, 0))) (q : Addr) (t : List UInt8) (c : Nat) (hq : At w (some q) t) (hroom : sLen + t.length ≤ sCap) (hfit : off + sCap ≤ cur.size) :
    (Builtin.append_ #[26, 26] 26 #[.slice (some ⟨g, off, none⟩) sLen sCap, .slice (some q) t.length c]).run Tryd.prog w = .ok (.slice (some ⟨g, off, none⟩) (sLen + t.length) sCap) (w.setRow g (cur.toList.take (off + sLen) ++ Lib.byteCells t ++ cur.toList.drop (off + sLen + t.length)).toArray) := by
  obtain ⟨i0, hi, hz0, hz1, hz2⟩ := info_parts info5
  have hbl : (Lib.byteCells t).length = t.length := by simp [Lib.byteCells]
  have hnews : ∀ j u, (Lib.byteCells t)[j]? = some u → w.cell? (q.add j) = some u := fun j u hj => by
    have hlt : j < t.length := by
      rcases Nat.lt_or_ge j t.length with h | h
      · exact h
      · rw [List.getElem?_eq_none (by omega)] at hj; cases hj
    rw [hq.cells j hlt, ← hj]
    simp [Lib.byteCells, nums, hlt]
  have hf := run_firstCells_some (P := Tryd.prog) w i0.size t.length q t.length c (Lib.byteCells t) (by rw [hbl, hz1]; omega) hnews
  have hst := run_storeCells_at Tryd.prog g (off + sLen) 5 (Lib.byteCells t) 0 cur w hg (by rw [hbl]; omega) (fun u hu => by
    simp only [Lib.byteCells, List.mem_map] at hu
    obtain ⟨x, _, rfl⟩ := hu
    rfl)
  simp only [Nat.add_zero, hbl] at hst
  rw [hz1] at hf
  simp [Builtin.append_, run_underlying (P := Tryd.prog) Tryd.underlying26, sizeOf, typeInfo, hi, hz1, Builtin.lenOf, hroom, Addr.add_lit, hf, hst]
theorem getElem_bytes (t : List UInt8) (i : Nat) (h : i < t.length) : (Lib.byteCells t)[i]? = some (.int .u8 (t[i].toNat : Int)) := by simp [Lib.byteCells, h]
theorem src_of {w : World} {q : Option Addr} {t : List UInt8} (c : Nat) (hq : At w q t) : Src Tryd.prog 1 26 (.slice q t.length c) t.length (Lib.byteCells t) w := by
  cases q with
  | none =>
    obtain rfl := hq.void
    exact Src.ofNil w Tryd.underlying26 c
  | some q =>
    refine Src.ofSlice w Tryd.underlying26 q t.length c (Lib.byteCells t) (by simp [Lib.byteCells]) (fun j u hj => ?_) (fun u hu => ?_)
    · have hlt : j < t.length := by
        rcases Nat.lt_or_ge j t.length with h | h
        · exact h
        · rw [List.getElem?_eq_none (by simp [Lib.byteCells]; omega)] at hj; cases hj
      rw [hq.cells j hlt, ← hj]
      simp [Lib.byteCells, nums, hlt]
    · simp only [Lib.byteCells, List.mem_map] at hu
      obtain ⟨x, _, rfl⟩ := hu
      rfl

set_option maxHeartbeats 1000000 in
theorem strm_append {w : World} {v : Value} {s t : List UInt8} {q : Option Addr} (c : Nat) (h : Strm w v s) (hq : At w q t) (hlen : s.length + t.length ≤ 140737488300000) :
    ∃ v' w', (Builtin.append_ #[26, 26] 26 #[v, .slice q t.length c]).run Tryd.prog w = .ok v' w' ∧ Strm w' v' (s ++ t) ∧ Grew v w w' ∧ Near w v v' := by
  obtain ⟨i0, hi, hz0, hz1, hz2⟩ := info_parts info5
  obtain ⟨a, cap, rfl, h1, hcm, h2⟩ := h
  have hst : Strm w (.slice a s.length cap) s := ⟨a, cap, rfl, h1, hcm, h2⟩
  have hsrc := src_of (w := w) c hq
  have hA := (Strm.at hst).2.2
  by_cases hroom : s.length + t.length ≤ cap
  · by_cases ht : t = []
    · subst ht
      rw [List.append_nil]
      refine ⟨_, _, run_append_nothing (P := Tryd.prog) w 26 26 26 5 i0 Tryd.underlying26 hi a s.length cap h1 (.slice q 0 c) (by rw [hz1]; exact hsrc), hst, ⟨rfl, rfl, rfl, Nat.le_refl _, fun _ _ _ => rfl⟩, fun a n c e => .inl ⟨a, n, c, e, rfl⟩⟩
    · obtain ⟨qb, qo, rfl⟩ := hq.plain ht
      have htp : 0 < t.length := List.length_pos_iff.2 ht
      rcases h2 with h2 | ⟨g, off, cur, rfl, hg, hfit, hc⟩
      · omega
      · refine ⟨_, _, room_at w g off s.length cap cur hg ⟨qb, qo, none⟩ t c hq hroom hfit, ?_, ?_, fun a n c e => .inl ⟨_, _, _, rfl, by injection e with e _ _; injection e with e; rw [← e]⟩⟩
        · have hcl : off + s.length ≤ cur.toList.length := by have : cur.toList.length = cur.size := Array.length_toList; omega
          have htl : (cur.toList.take (off + s.length)).length = off + s.length := by rw [List.length_take]; omega
          refine ⟨some ⟨g, off, none⟩, cap, by rw [List.length_append], by rw [List.length_append]; omega, hcm, .inr ⟨g, off, _, rfl, setRow_heap w g cur _ _ _ hg, ?_, fun i hi => ?_⟩⟩
          · simp only [List.size_toArray, List.length_append, htl, List.length_drop, Array.length_toList, Lib.byteCells, List.length_map]
            omega
          · rw [List.length_append] at hi
            rw [List.getElem?_toArray, List.append_assoc]
            by_cases hin : i < s.length
            · rw [List.getElem?_append_left (by rw [htl]; omega), List.getElem?_take, if_pos (by omega), Array.getElem?_toList, hc i hin, List.getElem_append_left hin]
            · rw [List.getElem?_append_right (by rw [htl]; omega), htl, show off + i - (off + s.length) = i - s.length by omega, List.getElem?_append_left (by simp [Lib.byteCells]; omega), getElem_bytes t (i - s.length) (by omega), List.getElem_append_right (by omega)]
        · exact ⟨rfl, rfl, rfl, by simp [World.setRow], fun k _ hne => setRow_other _ _ _ _ (fun e => hne _ _ _ rfl (by omega) e.symm)⟩
  · have hold := (src_of (w := w) cap hA).cellsD
    refine ⟨_, _, run_append_grow_src (P := Tryd.prog) w 26 26 26 5 i0 (.int .u8 0) Tryd.underlying26 hi hz0 a s.length cap (Lib.byteCells s) (by rw [hz1]; exact hold) (.slice q t.length c) t.length (Lib.byteCells t) (by rw [hz1]; exact hsrc) (by omega) (by omega) (growslice_fits (by omega) (by rw [hz2]; omega)), ?_, ?_, fun a n c e => .inr (by injection e with e _ _; injection e with e; rw [← e]; exact Nat.le_refl _)⟩
    · have hge := grownCap_ge w (s.length + t.length) cap 5
      have hle := grownCap_le_maxLen w (s.length + t.length) cap 5 (by unfold maxLen; omega)
      refine ⟨some ⟨w.heap.size, 0, none⟩, _, by rw [List.length_append], by rw [List.length_append]; omega, hle, .inr ⟨w.heap.size, 0, _, rfl, heap_alloc_new w.drew _, ?_, fun i hi => ?_⟩⟩
      · simp only [Array.size_append, List.size_toArray, List.length_append, size_zeroCells, Lib.byteCells, List.length_map]
        simp only [Value.cells, List.size_toArray, List.length_cons, List.length_nil]
        omega
      · rw [List.length_append] at hi
        rw [Array.getElem?_append_left (by simp [Lib.byteCells]; omega), List.getElem?_toArray, Nat.zero_add]
        by_cases hin : i < s.length
        · rw [List.getElem?_append_left (by simp [Lib.byteCells]; omega), getElem_bytes s i hin, List.getElem_append_left hin]
        · rw [List.getElem?_append_right (by simp [Lib.byteCells]; omega), show (Lib.byteCells s).length = s.length by simp [Lib.byteCells], getElem_bytes t (i - s.length) (by omega), List.getElem_append_right (by omega)]
    · exact ⟨rfl, rfl, rfl, by simp, fun k hk _ => heap_alloc_old w.drew _ hk⟩

set_option maxHeartbeats 1000000 in
set_option maxRecDepth 100000 in
/-- Feed, of a parser that has told no error -/
theorem feed_any (b : Nat) (v : Value) (s t : List UInt8) (q : Option Addr) (c : Nat) (w : World) (hP : Pars w b v 0) (h : Strm w v s) (hne : ∀ a n c, v = .slice (some a) n c → a.block ≠ b) (hq : At w q t) (hlen : s.length + t.length ≤ 140737488300000) :
    Calls Tryd.prog 6 #[.pointer (some ⟨b, 0, none⟩), .slice q t.length c] w fun r w' => r = .returned (.tuple #[]) ∧ Hid (∃ v' W, Strm W v' (s ++ t) ∧ Grew v w W ∧ Near w v v' ∧ w' = W.setCell ⟨b, 0, none⟩ v') := by
  obtain ⟨v', W, hrun, hs', hg, hnr⟩ := strm_append c h hq hlen
  have hP' : Pars W b v 0 := (hg.block b hP.lt fun a n c e _ => hne a n c e).trans hP
  have c0 := hP.cell0
  have c1 := hP.cell1
  have d0 := hP'.cell0
  have f0 := hP'.froz 0
  have HR := hid hrun
  have hs2 := hs'
  obtain ⟨a', cap', e', _⟩ := hs2
  subst e'
  have HS := hid (And.intro hs' (And.intro hg hnr))
  clear h hq hrun hs' hg hP hP' hne hnr
  go_enter Tryd.func6, Tryd.ntmps6
  go_wp2_with (at_builtin; refine wpList_append_runs rfl _ _ 26 26 rfl _ _ _ _ rfl rfl HR.out ?_)
  go_end0
  exact ⟨rfl, _, W, HS.out.1, HS.out.2.1, HS.out.2.2, by rw [List.length_append]⟩

end Go.Proofs.YtjcegiponjpjiabDoor
