/- The document's Right, and its numbers in bytes. -/
import Derived.Test.YtgpdbcigogkkbaaDoorPkEnc
import Derived.Test.YtgpdbcigogkkbaaDoorRefPrint
import Derived.Test.YtgpdbcigogkkbaaDoorCrcRef
namespace Go.Proofs.YtgpdbcigogkkbaaDoor
open Go.RowKit
open Slot

set_option maxHeartbeats 2000000 in
theorem rright_core (k f o : Int) (ep cu : Nat) (S : Nat → Bool) (w : World) : Calls Tryd.prog 13 #[.agg (pkCells ⟨k, f, o, ep, cu, S⟩)] w fun e w' => e = .returned (.bool (rightP ⟨k, f, o, ep, cu, S⟩)) ∧ Below w.heap.size w w' := by
  have HP := hid (pbox_new w ⟨k, f, o, ep, cu, S⟩)
  have HW := hid (below_alloc w (.cells (pkCells ⟨k, f, o, ep, cu, S⟩) 26))
  obtain ⟨c0, c1, c2, c3, c4⟩ := HP.out.cells
  dsimp only at c0 c1 c2 c3 c4
  have HF : Hid (rightP ⟨k, f, o, ep, cu, S⟩ = decide ((k = 1 ∨ k = 2 ∨ k = 3 ∨ k = 4) ∧ (0 ≤ f ∧ f < 64) ∧ (0 ≤ o ∧ o < 64) ∧ (k = 3 ∨ o = 0) ∧ ep ≤ cu)) := rfl
  generalize rightP ⟨k, f, o, ep, cu, S⟩ = R at HF ⊢
  generalize pkCells ⟨k, f, o, ep, cu, S⟩ = PC at *
  by_cases h1 : k < 1
  · obtain rfl : R = false := by rw [HF.out]; exact decide_eq_false (by omega)
    go_enter Tryd.func13, Tryd.ntmps13
    go_wp2
    go_ret
    exact ⟨rfl, HW.out⟩
  by_cases h2 : 4 < k
  · obtain rfl : R = false := by rw [HF.out]; exact decide_eq_false (by omega)
    go_enter Tryd.func13, Tryd.ntmps13
    go_wp2
    go_ret
    exact ⟨rfl, HW.out⟩
  by_cases h3 : f < 0
  · obtain rfl : R = false := by rw [HF.out]; exact decide_eq_false (by omega)
    go_enter Tryd.func13, Tryd.ntmps13
    go_wp2
    go_ret
    exact ⟨rfl, HW.out⟩
  by_cases h4 : 63 < f
  · obtain rfl : R = false := by rw [HF.out]; exact decide_eq_false (by omega)
    go_enter Tryd.func13, Tryd.ntmps13
    go_wp2
    go_ret
    exact ⟨rfl, HW.out⟩
  by_cases h5 : (cu : Int) < (ep : Int)
  · obtain rfl : R = false := by rw [HF.out]; exact decide_eq_false (by omega)
    go_enter Tryd.func13, Tryd.ntmps13
    go_wp2
    go_ret
    exact ⟨rfl, HW.out⟩
  by_cases h6 : k = 3
  · subst h6
    by_cases h7 : 0 ≤ o
    · by_cases h8 : o ≤ 63
      · obtain rfl : R = true := by rw [HF.out]; exact decide_eq_true (by omega)
        go_enter Tryd.func13, Tryd.ntmps13
        go_wp2
        go_ret
        exact ⟨rfl, HW.out⟩
      · obtain rfl : R = false := by rw [HF.out]; exact decide_eq_false (by omega)
        go_enter Tryd.func13, Tryd.ntmps13
        go_wp2
        go_ret
        exact ⟨rfl, HW.out⟩
    · obtain rfl : R = false := by rw [HF.out]; exact decide_eq_false (by omega)
      go_enter Tryd.func13, Tryd.ntmps13
      go_wp2
      go_ret
      exact ⟨rfl, HW.out⟩
  · by_cases h7 : o = 0
    · obtain rfl : R = true := by rw [HF.out]; exact decide_eq_true (by omega)
      subst h7
      go_enter Tryd.func13, Tryd.ntmps13
      go_wp2
      go_ret
      exact ⟨rfl, HW.out⟩
    · obtain rfl : R = false := by rw [HF.out]; exact decide_eq_false (by omega)
      have h7' : (o == 0) = false := by simpa using h7
      go_enter Tryd.func13, Tryd.ntmps13
      go_wp2
      go_ret
      exact ⟨rfl, HW.out⟩
/-- the document's Right -/
theorem rright_any (p : Pk) (w : World) : Calls Tryd.prog 13 #[.agg (pkCells p)] w fun e w' => e = .returned (.bool (rightP p)) ∧ Below w.heap.size w w' :=
  rright_core p.kind p.frm p.of_ p.epoch p.cur p.cl w

theorem owns_base {w : World} {B N : Nat} {v : Value} {n : Nat} {xs : List Value} (h : w.ownsRow N 5 1 v n xs) (hB : B ≤ N) : w.ownsRow B 5 1 v n xs := by
  refine ⟨h.1, ?_⟩
  rcases h.2 with h | ⟨g, cap, cur, e, hb, rest⟩
  · exact .inl h
  · exact .inr ⟨g, cap, cur, e, Nat.le_trans hB hb, rest⟩
/-- a byte ahead of a text -/
theorem Txt.front {B : Nat} {w1 W : World} {v : Value} {T : Bs} (h : Txt B w1 W v T) (c : UInt8) (z : Int) (hz : (c.toNat : Int) = z) (hT : T.length ≤ 300000) :
    ∃ v' W', (Builtin.append_ #[36, 36] 36 #[.slice (some ⟨W.heap.size, 0, none⟩) 1 1, v]).run Tryd.prog (W.alloc (.cells #[.int .u8 z] 5)) = .ok v' W' ∧ Txt B w1 W' v' (c :: T) := by
  subst hz
  obtain ⟨i0, hi, hz0, hz1, hz2⟩ := info_parts info5
  have hs := h.size
  have hd : (W.alloc (.cells #[.int .u8 (c.toNat : Int)] 5)).ownsRow W.heap.size 5 1 (.slice (some ⟨W.heap.size, 0, none⟩) 1 1) 1 (Lib.byteCells [c]) :=
    ⟨rfl, .inr ⟨W.heap.size, 1, _, rfl, Nat.le_refl _, heap_alloc_new W _, Nat.le_refl _, by unfold maxLen; omega, rfl, rfl⟩⟩
  have hb := below_alloc W (.cells #[.int .u8 (c.toNat : Int)] 5)
  have hown' := owns_below h.own hb
  rcases hown'.2 with ⟨rfl, h0⟩ | ⟨g, cap, cur, rfl, _⟩
  · obtain rfl : T = [] := List.length_eq_zero_iff.1 h0
    exact ⟨_, _, run_append_owned_none (P := Tryd.prog) _ W.heap.size 36 36 5 i0 1 Tryd.underlying36 hi _ _ _ hd, owns_base hd hs, h.bel.alloc hs _, Nat.le_trans hs hb.size⟩
  · obtain ⟨v', w', hrun, ho, hgr, _⟩ := run_append_own (P := Tryd.prog) (W.alloc (.cells #[.int .u8 (c.toNat : Int)] 5)) W.heap.size 36 36 5 i0 (.int .u8 0) 1 1 Tryd.underlying36 hi hz0 hz1 hz2 rfl (by decide) _ _ _ hd ⟨g, 0, none⟩ T.length cap (Lib.byteCells T) (by rw [Lib.byteCells_length]; omega)
      (fun j u hj => World.ownsRow.cells hown' (g := g) rfl j u hj) (fun u hu => by
        unfold Lib.byteCells at hu
        obtain ⟨b, _, rfl⟩ := List.mem_map.1 hu
        rfl) (by unfold maxLen; omega) (by omega) hb.size
    refine ⟨v', w', hrun, ?_, ?_, ?_⟩
    · have := owns_base ho hs
      rw [← Lib.byteCells_append] at this
      rw [List.length_cons, Nat.add_comm]
      exact this
    · exact (h.bel.alloc hs _).grown hgr (Nat.le_trans hs hb.size) (fun k hk => Nat.le_trans hs (World.ownsRow.lt hd k hk).1)
    · exact Nat.le_trans hs (Nat.le_trans hb.size hgr.size)
/-- a row of bytes behind a text -/
theorem Txt.row {B N : Nat} {w1 W : World} {v u : Value} {T S : Bs} (h : Txt B w1 W v T) (h2 : W.ownsRow N 5 1 u S.length (Lib.byteCells S)) (hT : T.length + S.length ≤ 300000) :
    ∃ v' W', (Builtin.append_ #[36, 36] 36 #[v, u]).run Tryd.prog W = .ok v' W' ∧ Txt B w1 W' v' (T ++ S) := by
  obtain ⟨i0, hi, hz0, hz1, hz2⟩ := info_parts info5
  have hs := h.size
  rcases h2.2 with ⟨rfl, h0⟩ | ⟨g, cap, cur, rfl, _⟩
  · obtain rfl : S = [] := List.length_eq_zero_iff.1 h0
    exact ⟨_, _, run_append_owned_none (P := Tryd.prog) _ B 36 36 5 i0 1 Tryd.underlying36 hi _ _ _ h.own, by rw [List.append_nil]; exact h⟩
  · obtain ⟨v', w', hrun, ho, hgr, _⟩ := run_append_own (P := Tryd.prog) W B 36 36 5 i0 (.int .u8 0) 1 1 Tryd.underlying36 hi hz0 hz1 hz2 rfl (by decide) _ _ _ h.own ⟨g, 0, none⟩ S.length cap (Lib.byteCells S) (by rw [Lib.byteCells_length]; omega)
      (fun j u hj => World.ownsRow.cells h2 (g := g) rfl j u hj) (fun u hu => by
        unfold Lib.byteCells at hu
        obtain ⟨b, _, rfl⟩ := List.mem_map.1 hu
        rfl) (by unfold maxLen; omega) (by omega) hs
    refine ⟨v', w', hrun, ?_, ?_, ?_⟩
    · rw [Lib.byteCells_append, List.length_append]
      exact ho
    · exact h.bel.grown hgr hs (fun k hk => (World.ownsRow.lt h.own k hk).1)
    · exact Nat.le_trans hs hgr.size
/-- a row of bytes behind one that is full: the row is a new one -/
theorem row_grow {B N g cap : Nat} {W : World} {u : Value} {T S : Bs} (h : W.ownsRow B 5 1 (.slice (some ⟨g, 0, none⟩) T.length cap) T.length (Lib.byteCells T)) (hB : B ≤ W.heap.size) (h2 : W.ownsRow N 5 1 u S.length (Lib.byteCells S)) (hS : S ≠ []) (hc : cap < T.length + S.length) (hT : T.length + S.length ≤ 300000) :
    ∃ v' W', (Builtin.append_ #[36, 36] 36 #[.slice (some ⟨g, 0, none⟩) T.length cap, u]).run Tryd.prog W = .ok v' W' ∧ Txt W.heap.size W W' v' (T ++ S) := by
  obtain ⟨i0, hi, hz0, hz1, hz2⟩ := info_parts info5
  rcases h2.2 with ⟨rfl, h0⟩ | ⟨g2, cap2, cur2, rfl, _⟩
  · exact absurd (List.length_eq_zero_iff.1 h0) hS
  · have hone : ∀ u ∈ Lib.byteCells S, u.oneCell' = true := fun u hu => by
      unfold Lib.byteCells at hu
      obtain ⟨b, _, rfl⟩ := List.mem_map.1 hu
      rfl
    have hcl : ∀ j u, (Lib.byteCells S)[j]? = some u → W.cell? ((⟨g2, 0, none⟩ : Addr).add j) = some u := fun j u hj => World.ownsRow.cells h2 (g := g2) rfl j u hj
    obtain ⟨v', w', hrun, ho, hgr, _⟩ := run_append_own (P := Tryd.prog) W B 36 36 5 i0 (.int .u8 0) 1 1 Tryd.underlying36 hi hz0 hz1 hz2 rfl (by decide) _ _ _ h ⟨g2, 0, none⟩ S.length cap2 (Lib.byteCells S) (by rw [Lib.byteCells_length]; omega) hcl hone (by unfold maxLen; omega) (by omega) hB
    have hr := run_append_grow (P := Tryd.prog) W 36 36 5 i0 _ Tryd.underlying36 hi hz0 ⟨g, 0, none⟩ T.length cap (Lib.byteCells T) (by rw [hz1, Lib.byteCells_length]; omega) (World.ownsRow.cells h (g := g) rfl) ⟨g2, 0, none⟩ S.length cap2 (Lib.byteCells S) (by rw [hz1, Lib.byteCells_length]; omega) hcl hc (by omega) (growslice_fits (by omega) (by rw [hz2]; omega))
    rw [hr] at hrun
    injection hrun with e1 e2
    subst e1
    subst e2
    refine ⟨_, _, hr, ⟨?_, ?_⟩, ?_, ?_⟩
    · rw [Lib.byteCells_length]; omega
    · rcases ho.2 with ⟨e, _⟩ | ⟨g', cap', cur', e, _, h3, h4, h5, h6, h7⟩
      · cases e
      · injection e with e e8 e9
        injection e with e
        injection e with e
        refine .inr ⟨g', cap', cur', ?_, by omega, h3, ?_, h5, h6, ?_⟩
        · rw [← e, ← e9, List.length_append]
        · rw [List.length_append]; exact h4
        · rw [Lib.byteCells_append, List.length_append]; exact h7
    · exact (Below.refl _ _).drew.alloc (Nat.le_refl _) _
    · simp
theorem div_pow (n j : Nat) : n / 256 ^ (j + 1) = n / 256 ^ j / 256 := by rw [Nat.pow_succ, Nat.div_div_eq_div_mul]
set_option maxHeartbeats 2000000 in
/-- the document's bytes -/
theorem rbytes_any (k n : Nat) (hk : k ≤ 8) (hn : n < 18446744073709551616) (w : World) : Calls Tryd.prog 20 #[.int .u64 n, .int .i64 k] w fun e w' => ∃ v, e = .returned v ∧ Txt w.heap.size w w' v (be k n) := by
  have HN : Hid (n / 256 ^ 0 = n) := by show _ = _; simp
  go_enter Tryd.func20, Tryd.ntmps20
  go_wp2
  go_loopw [0, 5, 6] (fun x v i W => ∃ j : Nat, j ≤ k ∧ i = .int .i64 j ∧ (∃ M : Nat, x = .int .u64 (M : Int) ∧ Hid (M = n / 256 ^ j)) ∧ Hid (Txt w.heap.size w W v (be j n))) (fun _ _ i _ => k - (intOf i).toNat)
  case atStart => exact ⟨0, Nat.zero_le _, rfl, ⟨n, rfl, HN.out.symm⟩, ⟨World.ownsRow_nil _ _ _ _, Below.refl _ _, Nat.le_refl _⟩⟩
  case round =>
    obtain ⟨j, hj, rfl, ⟨M, rfl, HM⟩, HO⟩ := hrel
    by_cases hlt : j < k
    · have hM : M < 18446744073709551616 := by rw [HM.out]; exact Nat.lt_of_le_of_lt (Nat.div_le_self _ _) hn
      obtain ⟨x, hx⟩ : ∃ x, x = M % 256 := ⟨_, rfl⟩
      obtain ⟨q, hq⟩ : ∃ q, q = M / 256 := ⟨_, rfl⟩
      have x1 : (M : Int) % 256 = (x : Int) := by omega
      have x2 : (M : Int).tmod 256 = (x : Int) := by rw [Int.tmod_eq_emod_of_nonneg (by omega)]; omega
      have x3 : IntKind.u8.wrap (x : Int) = (x : Int) := by rw [IntKind.wrap_u8]; omega
      have x4 : (x : Int) ≤ 255 := by omega
      have q1 : (M : Int) / 256 = (q : Int) := by omega
      have q2 : (M : Int).tdiv 256 = (q : Int) := by rw [Int.tdiv_eq_ediv_of_nonneg (by omega)]; omega
      have HQ : Hid (q = n / 256 ^ (j + 1)) := by show _ = _; rw [div_pow, ← HM.out, hq]
      have hlb : (be j n).length ≤ 8 := by rw [be_len]; omega
      obtain ⟨v', W', hr, hT⟩ := HO.out.front (UInt8.ofNat (n / 256 ^ j)) (x : Int) (by rw [UInt8.toNat_ofNat', ← HM.out, hx]) (by omega)
      have HR := hid hr
      have HT : Hid (Txt w.heap.size w W' v' (be (j + 1) n)) := hT
      clear hr hT hx hq hlb
      go_wp2_with (at_builtin; refine wpList_append_run rfl _ _ 36 rfl _ _ _ _ rfl rfl HR.out (Hid.out ?_))
      refine hid ?_
      go_wp2_with fail
      go_roundw
      case rel => exact ⟨j + 1, by omega, by go_num, ⟨q, rfl, HQ.out⟩, HT.out⟩
      case measure => simp [intOf]; omega
    · obtain rfl : j = k := by omega
      go_wp2
      go_ret
      exact ⟨_, rfl, HO.out⟩

end Go.Proofs.YtgpdbcigogkkbaaDoor
