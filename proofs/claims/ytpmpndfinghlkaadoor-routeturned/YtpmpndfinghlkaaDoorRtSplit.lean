/- A text cut at its first four blanks: strings.SplitN at a blank and five. -/
import Derived.Test.YtpmpndfinghlkaaDoorRtBase
import Derived.Test.YtpmpndfinghlkaaDoorRtPlain
import Derived.Laws.MakeOwn
import Derived.Laws.Strings2
import Derived.Deep.RegionHeld
namespace Go.Proofs.YtpmpndfinghlkaaDoor
open Go.RowKit

/-- how texts are cut -/
theorem str_to (l : List UInt8) (n : Nat) (W : World) (h : n ≤ l.length) : (Instr.slice 9 (.string ⟨l.toArray⟩) none (some (.int .i64 (n : Int))) none).run Tryd.prog W = .ok (.string ⟨(l.take n).toArray⟩) W := by
  rw [run_slice_string_h (P := Tryd.prog) W 9 ⟨l.toArray⟩ Tryd.underlying9 .i64 n (by omega) (by simp [ByteArray.size]; omega), ByteArray.extract_mk]
  simp
theorem str_from (l : List UInt8) (n : Nat) (W : World) (h : n ≤ l.length) : (Instr.slice 9 (.string ⟨l.toArray⟩) (some (.int .i64 (n : Int))) none none).run Tryd.prog W = .ok (.string ⟨(l.drop n).toArray⟩) W := by
  rw [run_slice_string_l (P := Tryd.prog) W 9 ⟨l.toArray⟩ Tryd.underlying9 .i64 n (by omega) (by simp [ByteArray.size]; omega), ByteArray.extract_mk]
  simp [ByteArray.size, List.take_of_length_le]
theorem str_mid (l : List UInt8) (a b : Nat) (W : World) (h0 : a ≤ b) (h : b ≤ l.length) : (Instr.slice 9 (.string ⟨l.toArray⟩) (some (.int .i64 (a : Int))) (some (.int .i64 (b : Int))) none).run Tryd.prog W = .ok (.string ⟨((l.drop a).take (b - a)).toArray⟩) W := by
  rw [run_slice_string (P := Tryd.prog) W 9 ⟨l.toArray⟩ .i64 .i64 a b Tryd.underlying9 (by omega) (by omega) (by simp [ByteArray.size]; omega), ByteArray.extract_mk]
  simp
def txtC (s : List UInt8) : Value := .string ⟨s.toArray⟩
theorem infoS : (Tryd.prog.info? 9).map (fun i => (i.zero, i.size, i.bytes)) = some (some (.string ⟨#[]⟩), 1, 16) := by kernel_rfl
theorem make_strs (n : Nat) (k : Int) (hk : k = n) (hn : n ≤ 256) (u : World) : (Instr.makeSlice 42 (.int .i64 k) (.int .i64 k)).run Tryd.prog u =
    .ok (.slice (some ⟨u.heap.size, 0, none⟩) n n) (u.alloc (.cells (List.replicate n (txtC [])).toArray 9)) := by
  subst hk
  obtain ⟨i0, hi, hz0, hz1, hz2⟩ := info_parts infoS
  have h := run_make (P := Tryd.prog) u 42 9 i0 (.string ⟨#[]⟩) Tryd.underlying42 hi hz0 .i64 .i64 (n : Int) (n : Int) (by omega) (Int.le_refl _) (by rw [hz2]; omega) (by omega)
  have e : madeCells (Value.string ⟨#[]⟩).cells n = (List.replicate n (txtC [])).toArray := by
    apply Array.ext'
    rw [show (Value.string ⟨#[]⟩).cells = #[Value.string ⟨#[]⟩] from rfl, toList_madeCells_one]
    rfl
  rw [hz1, Nat.mul_one, Int.toNat_natCast, e] at h
  exact h
/-- a row of texts on its way: what is laid so far -/
structure Rw (w W : World) (N : Nat) (D : List (List UInt8)) : Prop where
  row : ∃ C, W.heap[w.heap.size]? = some (.cells C 9 (0, 0)) ∧ C.size = N ∧ (∀ j, j < N → ∃ s, C[j]? = some (.string s)) ∧ ∀ j (h : j < D.length), C[j]? = some (txtC D[j])
  bel : Below w.heap.size w W
theorem Rw.cell {w W : World} {N : Nat} {D : List (List UInt8)} (h : Rw w W N D) (j : Nat) (hj : j < N) : (∃ s, W.cell? ⟨w.heap.size, j, none⟩ = some (.string s)) ∧ W.frozen? ⟨w.heap.size, j, none⟩ = false := by
  obtain ⟨C, h1, h2, h3, -⟩ := h.row
  obtain ⟨s, hs⟩ := h3 j hj
  exact ⟨⟨s, by rw [cell_of_row _ _ j _ _ _ h1]; exact hs⟩, by simp [World.frozen?, h1]⟩
theorem Rw.put {w W : World} {N : Nat} {D : List (List UInt8)} (h : Rw w W N D) (p : List UInt8) (hD : D.length < N) : Rw w (W.setCell ⟨w.heap.size, D.length, none⟩ (.string ⟨p.toArray⟩)) N (D ++ [p]) := by
  obtain ⟨C, h1, h2, h3, h4⟩ := h.row
  refine ⟨⟨C.setIfInBounds D.length (txtC p), heap_setCell_same W _ _ _ _ _ h1, by simpa using h2, fun j hj => ?_, fun j hj => ?_⟩, Below.setCell h.bel (p := ⟨w.heap.size, D.length, none⟩) (Nat.le_refl _) _⟩
  · by_cases e : j = D.length
    · subst e; exact ⟨⟨p.toArray⟩, by rw [Array.getElem?_setIfInBounds_self_of_lt (by omega)]; rfl⟩
    · rw [Array.getElem?_setIfInBounds_ne (by omega)]; exact h3 j hj
  · by_cases e : j = D.length
    · subst e; rw [Array.getElem?_setIfInBounds_self_of_lt (by omega)]; simp
    · rw [Array.getElem?_setIfInBounds_ne (by omega)]
      have hj' : j < D.length := by simp at hj; omega
      rw [h4 j hj', List.getElem_append_left hj']
/-- the pieces -/
def SplP (l : List UInt8) (w : World) (e : Ending) (w' : World) : Prop :=
  ∃ c, e = .returned (.slice (some ⟨w.heap.size, 0, none⟩) (spl 4 l).length c) ∧ (spl 4 l).length ≤ c ∧ (∀ j (h : j < (spl 4 l).length), w'.cell? ⟨w.heap.size, j, none⟩ = some (txtC (spl 4 l)[j])) ∧ w.heap.size < w'.heap.size ∧ Below w.heap.size w w'
theorem Rw.fin {l : List UInt8} {w W : World} {N : Nat} {D : List (List UInt8)} (h : Rw w W N D) (hD : D = spl 4 l) (hN : D.length ≤ N) {c : Nat} (hc : N ≤ c) {n : Nat} (hn : n = D.length) : SplP l w (.returned (.slice (some ⟨w.heap.size, 0, none⟩) n c)) W := by
  subst hD
  obtain ⟨C, h1, h2, h3, h4⟩ := h.row
  exact ⟨c, by rw [hn], by omega, fun j hj => by rw [cell_of_row _ _ j _ _ _ h1]; exact h4 j hj, (Array.getElem?_eq_some_iff.1 h1).1, h.bel⟩
theorem index_lt (r : List UInt8) : Lib.indexByte r 32 < 0 ∧ (∀ k, spl k r = [r]) ∨ ∃ m : Nat, Lib.indexByte r 32 = m ∧ m < r.length ∧ ∀ k, spl (k + 1) r = r.take m :: spl k (r.drop (m + 1)) := by
  rcases index_cases 32 r with ⟨e, h⟩ | ⟨p, q, rfl, h, e⟩
  · exact .inl ⟨by rw [e]; decide, fun k => spl_none h⟩
  · refine .inr ⟨p.length, e, by simp, fun k => ?_⟩
    rw [spl_cut k p q h, drop_cut, List.take_left]
theorem spl_nil (k : Nat) : spl k [] = [[]] := spl_none (by simp)
theorem infoStr1 : (Tryd.prog.info? 9).map (·.size) = some 1 := by kernel_rfl
set_option maxHeartbeats 4000000 in
set_option maxRecDepth 100000 in
theorem genSplit_any (l : List UInt8) (w : World) (hl : l.length ≤ 281474976710656) : Calls Tryd.prog 25 #[.string ⟨l.toArray⟩, .string ⟨#[32]⟩, .int .i64 0, .int .i64 5] w (SplP l w) := by
  obtain ⟨N, hN⟩ : ∃ N, min 4 l.length = N := ⟨_, rfl⟩
  have hmin : min (5 : Int) ((l.length : Int) + 1) = ((N + 1 : Nat) : Int) := by omega
  have hM := make_strs (N + 1) ((N + 1 : Nat) : Int) rfl (by omega) w
  have HR0 : Hid (Rw w (w.alloc (.cells (List.replicate (N + 1) (txtC [])).toArray 9)) (N + 1) []) := ⟨⟨_, heap_alloc_new w _, by simp, fun j hj => ⟨⟨#[]⟩, by rw [List.getElem?_toArray, List.getElem?_replicate, if_pos hj]; rfl⟩, fun j hj => absurd hj (by simp)⟩, below_alloc w _⟩
  generalize w.alloc (.cells (List.replicate (N + 1) (txtC [])).toArray 9) = w1 at *
  have hlz : (l.length : Int) ≤ 281474976710656 := by omega
  have hN4 : N ≤ 4 := by omega
  have hNl : N ≤ l.length := by omega
  have hNs : N < 4 → N = l.length := by omega
  have HNs := hid hNs
  have hNz : (N : Int) ≤ 4 := by omega
  clear hN hNs
  obtain ⟨n5, hn5⟩ : ∃ n5 : Int, ((N + 1 : Nat) : Int) = n5 := ⟨_, rfl⟩
  rw [hn5] at hmin hM
  have hn1 : n5 - 1 = (N : Int) := by omega
  have hn0 : 1 ≤ n5 := by omega
  have hn6 : n5 ≤ 5 := by omega
  clear hn5
  have HI := hid fun (r : List UInt8) (W : World) => Tryd.strings_Index_one ⟨r.toArray⟩ 32 W
  go_enter Tryd.func25, Tryd.ntmps25
  go_wp2_with fail
  go_loopw [0, 10, 11] (fun v0 v10 _ W => ∃ (i : Nat) (r : List UInt8) (D : List (List UInt8)), i ≤ N ∧ v10 = .int .i64 (i : Int) ∧ v0 = .string ⟨r.toArray⟩ ∧ D.length = i ∧ r.length + i ≤ l.length ∧ Hid (spl 4 l = D ++ spl (4 - i) r) ∧ Hid (Rw w W (N + 1) D)) (fun _ v10 _ _ => N - (intOf v10).toNat)
  case atStart => exact ⟨0, l, [], Nat.zero_le _, rfl, rfl, rfl, by omega, rfl, HR0.out⟩
  case round =>
    obtain ⟨i, r, D, hi, rfl, rfl, hD, hr, HS, HR⟩ := hrel
    have hrz : (r.length : Int) ≤ 281474976710656 := by omega
    by_cases hlt : i < N
    · have hltz : (i : Int) < (N : Int) := by omega
      rcases index_lt r with ⟨he, hs⟩ | ⟨m, he, hm, hs⟩
      · have HS1 : Hid (spl 4 l = D ++ [r]) := by show _ = _; rw [HS.out, hs]
        have HI1 := hid (HI.out r wr)
        have he2 : Lib.indexByte (⟨r.toArray⟩ : ByteArray).data.toList 32 < 0 := he
        obtain ⟨z, hz⟩ : ∃ z, Lib.indexByte (⟨r.toArray⟩ : ByteArray).data.toList 32 = z := ⟨_, rfl⟩
        rw [hz] at HI1 he2
        obtain ⟨⟨s, q0⟩, q1⟩ := HR.out.cell i (by omega)
        have HR2 := HR.out.put r (by omega)
        rw [hD] at HR2
        have HR3 := hid HR2
        have hl1 : (i : Int) + 1 ≤ n5 := by omega
        have hl2 : (i : Int) < n5 := by omega
        clear he hs hz HR2
        go_wp2_with fail
        refine HI1.out.mono ?_; rintro e w2 ⟨rfl, rfl⟩
        go_wp2
        go_ret
        exact HR3.out.fin HS1.out.symm (by simp; omega) (Nat.le_refl _) (by simp; omega)
      · have HS1 : Hid (spl 4 l = (D ++ [r.take m]) ++ spl (4 - (i + 1)) (r.drop (m + 1))) := by
          show _ = _
          rw [HS.out, show 4 - i = 4 - (i + 1) + 1 by omega, hs]; simp
        have HI1 := hid (HI.out r wr)
        rw [show Lib.indexByte (⟨r.toArray⟩ : ByteArray).data.toList 32 = (m : Int) from he] at HI1
        obtain ⟨⟨s, q0⟩, q1⟩ := HR.out.cell i (by omega)
        have HR2 := HR.out.put (r.take m) (by omega)
        rw [hD] at HR2
        have HR3 := hid HR2
        have t1 := fun W => str_to r m W (by omega)
        have t2 : ∀ W : World, (Instr.slice 9 (.string ⟨r.toArray⟩) (some (.int .i64 ((m : Int) + 1))) none none).run Tryd.prog W = .ok (.string ⟨(r.drop (m + 1)).toArray⟩) W := fun W => by
          rw [show ((m : Int) + 1) = ((m + 1 : Nat) : Int) by omega]
          exact str_from r (m + 1) W (by omega)
        have hmz : (m : Int) < (r.length : Int) := by omega
        have hrd : (r.drop (m + 1)).length + (i + 1) ≤ l.length := by simp; omega
        obtain ⟨P1, hP1⟩ : ∃ P, r.take m = P := ⟨_, rfl⟩
        obtain ⟨P2, hP2⟩ : ∃ P, r.drop (m + 1) = P := ⟨_, rfl⟩
        rw [hP1] at HS1 HR3 t1
        rw [hP2] at HS1 t2 hrd
        clear he hs HR2 hP1 hP2
        go_wp2_with fail
        refine HI1.out.mono ?_; rintro e w2 ⟨rfl, rfl⟩
        go_wp2
        exact ⟨⟨i + 1, P2, D ++ [P1], by omega, by go_num, rfl, by simp; omega, hrd, HS1.out, HR3.out⟩, by simp [intOf]; omega⟩
    · have hiN : i = N := by omega
      subst hiN
      have hsr : spl (4 - i) r = [r] := by
        by_cases h4 : i = 4
        · rw [h4]; rfl
        · have := HNs.out (by omega)
          rw [show r = [] from List.length_eq_zero_iff.1 (by omega)]
          exact spl_nil _
      have HS1 : Hid (spl 4 l = D ++ [r]) := by show _ = _; rw [HS.out, hsr]
      obtain ⟨⟨s, q0⟩, q1⟩ := HR.out.cell i (by omega)
      have HR2 := HR.out.put r (by omega)
      rw [hD] at HR2
      have HR3 := hid HR2
      have hl2 : (i : Int) < n5 := by omega
      have hl1 : (i : Int) + 1 ≤ n5 := by omega
      clear HR2 hsr
      go_wp2
      go_ret
      exact HR3.out.fin HS1.out.symm (by simp; omega) (Nat.le_refl _) (by simp; omega)
set_option maxHeartbeats 1000000 in
/-- strings.SplitN, at a blank and five -/
theorem splitN_any (l : List UInt8) (w : World) (hl : l.length ≤ 281474976710656) : Calls Tryd.prog 20 #[.string ⟨l.toArray⟩, .string ⟨#[32]⟩, .int .i64 5] w (SplP l w) := by
  have HG := hid (genSplit_any l w hl)
  clear hl
  go_enter Tryd.func20, Tryd.ntmps20
  go_wp2_with fail
  refine HG.out.mono ?_; rintro e w2 ⟨c, rfl, h1, h2, h3, h4⟩
  have H2 := hid h2
  have H4 := hid h4
  clear h2 h4
  go_wp2
  go_ret
  exact ⟨c, rfl, h1, H2.out, h3, H4.out⟩

end Go.Proofs.YtpmpndfinghlkaaDoor
