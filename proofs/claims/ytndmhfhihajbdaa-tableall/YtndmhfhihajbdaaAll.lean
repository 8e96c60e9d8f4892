/- The program's All: a row of commands of the call's own. -/
import Derived.Test.YtndmhfhihajbdaaRFind
namespace Go.Proofs.Ytndmhfhihajbdaa
open Go.RowKit

theorem infoS7 : (Try.prog.info? 25).map (fun i => (i.zero, i.size, i.bytes)) = some (some (.agg #[.string ⟨#[]⟩, .int .i64 0, .int .i64 0, .int .i64 0, .int .i64 0, .int .i64 0, .bool false]), 7, 64) := by kernel_rfl
/-- a row of commands of the call's own -/
abbrev OwnS (B : Nat) (w : World) (v : Value) (L : List Sp) : Prop := w.ownsRow B 25 7 v L.length (flat L)
theorem OwnS.shape {B : Nat} {w : World} {v : Value} {L : List Sp} (h : OwnS B w v L) : ∃ q d, v = .slice q L.length d := by
  rcases h.2 with ⟨rfl, h0⟩ | ⟨g, cap, cur, rfl, _⟩
  · exact ⟨none, 0, by rw [h0]⟩
  · exact ⟨_, cap, rfl⟩
theorem OwnS.push {B : Nat} {W : World} {v : Value} {L : List Sp} (h : OwnS B W v L) (hB : B ≤ W.heap.size) (x : Sp) (hl : L.length ≤ 1000000) :
    ∃ v' W', (Builtin.append_ #[22, 22] 22 #[v, .slice (some ⟨W.heap.size, 0, none⟩) 1 1]).run Try.prog (W.alloc (.cells x.cs 25)) = .ok v' W' ∧ OwnS B W' v' (L ++ [x]) ∧ Below B W W' := by
  obtain ⟨i0, hi, hz0, hz1, hz2⟩ := info_parts infoS7
  have hb := below_alloc W (.cells x.cs 25)
  have ho := owns_below h hb
  have hnews : ∀ j u, x.cl[j]? = some u → (W.alloc (.cells x.cs 25)).cell? ((⟨W.heap.size, 0, none⟩ : Addr).add j) = some u := fun j u hj => by
    rw [Go.WideShapes.add_plain, cell_of_row _ _ _ _ _ _ (heap_alloc_new W _), Sp.cs_eq]
    simpa using hj
  have hone : ∀ u ∈ x.cl, u.oneCell' = true := by
    intro u hu
    simp only [Sp.cl, List.mem_cons, List.not_mem_nil, or_false] at hu
    rcases hu with rfl | rfl | rfl | rfl | rfl | rfl | rfl <;> rfl
  obtain ⟨v', w', hrun, ho', hgr, _⟩ := run_append_own (P := Try.prog) (W.alloc (.cells x.cs 25)) B 22 22 25 i0 (.agg #[.string ⟨#[]⟩, .int .i64 0, .int .i64 0, .int .i64 0, .int .i64 0, .int .i64 0, .bool false]) 7 64 Try.underlying22 hi hz0 hz1 hz2 rfl (by decide) _ _ _ ho ⟨W.heap.size, 0, none⟩ 1 1 x.cl rfl hnews hone (by unfold maxLen; omega) (by omega) (Nat.le_trans hB hb.size)
  refine ⟨v', w', hrun, ?_, (hb.mono hB).trans ((Below.refl B _).grown hgr (Nat.le_trans hB hb.size) (fun k hk => (World.ownsRow.lt ho k hk).1))⟩
  show w'.ownsRow B _ 7 v' (L ++ [x]).length (flat (L ++ [x]))
  rw [List.length_append, flat_append]
  have e : flat [x] = x.cl := by simp [flat]
  rw [e]
  exact ho'
/-- what a round of All finds -/
theorem each_row (i : Nat) (hi : i < 48) : ∃ nm le mo fi la st wr, (∀ w, (Instr.index 42 (.agg rowCells) (.int .i64 i)).run Try.prog w = .ok (.agg #[txt nm, .int .i64 le, .int .i64 mo, .int .i64 fi, .int .i64 la, .int .i64 st, .bool wr]) w) ∧ (i ≠ 0 → allL.take i = allL.take (i - 1) ++ [⟨nm, le, mo, fi, la, st, wr⟩]) := by
  have hi' : i < rowsL.length := by rw [rowsL_len]; exact hi
  refine ⟨rowsL[i].nm, rowsL[i].le, rowsL[i].mo, rowsL[i].fi, rowsL[i].la, rowsL[i].st, rowsL[i].wr, fun w => index_rows i hi' w, fun h => ?_⟩
  obtain ⟨j, rfl⟩ : ∃ j, i = j + 1 := ⟨i - 1, by omega⟩
  have hj : j < allL.length := by rw [allL_len]; omega
  rw [List.take_succ_eq_append_getElem hj]
  rfl
set_option maxHeartbeats 8000000 in
set_option maxRecDepth 100000 in
/-- All -/
theorem all_any (w : World) : Calls Try.prog 9 #[] w fun e w' => ∃ q d, e = .returned (.slice q 47 d) ∧ Hid (OwnS w.heap.size w' (.slice q 47 d) allL ∧ Below w.heap.size w w') := by
  have HE := hid each_row
  have HT : Hid (allL.take 47 = allL) := List.take_of_length_le (by rw [allL_len]; decide)
  have HLn : Hid (∀ i, i ≤ 47 → (allL.take i).length = i) := fun i hi => by rw [List.length_take, allL_len]; omega
  generalize allL = AL at *
  go_enter Try.func9, Try.ntmps9
  go_wp2_with fail
  refine (rows_any _).mono ?_
  rintro _ W1 ⟨rfl, HW1⟩
  generalize rowCells = RC at *
  go_wp2_with fail
  go_loopw [1, 5] (fun v1 v5 W => ∃ (i m : Nat) (q : Option Addr) (d : Nat), v5 = .int .i64 i ∧ v1 = .slice q m d ∧ i ≤ 48 ∧ m = i - 1 ∧ Hid (OwnS w.heap.size W (.slice q m d) (AL.take m)) ∧ Hid (Below w.heap.size w W)) (fun _ v5 _ => 48 - (intOf v5).toNat)
  case atStart => exact ⟨0, 0, none, 0, rfl, rfl, by decide, rfl, World.ownsRow_nil _ _ _ _, HW1.out⟩
  case round =>
    obtain ⟨i, m, q, d, rfl, rfl, hi, hm, HO, HW⟩ := hrel
    by_cases hlt : i < 48
    · have hiz : (i : Int) < 48 := by omega
      obtain ⟨nm, le, mo, fi, la, st, wrt, hidx, htk⟩ := HE.out i hlt
      have HTk := hid htk
      clear htk
      have hb1 := below_alloc wr (.cells #[txt nm, .int .i64 le, .int .i64 mo, .int .i64 fi, .int .i64 la, .int .i64 st, .bool wrt] 41)
      have HB1 := hid (HW.out.trans (hb1.mono HW.out.size))
      have HO1 := hid (owns_below HO.out hb1)
      have hs1 : (wr.alloc (.cells #[txt nm, .int .i64 le, .int .i64 mo, .int .i64 fi, .int .i64 la, .int .i64 st, .bool wrt] 41)).heap.size = wr.heap.size + 1 := by simp
      by_cases h0 : i = 0
      · have hz : ((i : Int) != 0) = false := by subst h0; rfl
        obtain rfl : m = 0 := by omega
        clear hm hb1 hs1
        have h1 : i + 1 - 1 = 0 := by omega
        have H1 := hid h1
        clear h0 h1
        go_wp2_with fail
        exact ⟨⟨i + 1, 0, q, d, by go_num, rfl, by omega, H1.out.symm, HO1.out, HB1.out⟩, by simp [intOf]; omega⟩
      · have hz : ((i : Int) != 0) = true := by rw [bne_iff_ne]; omega
        have HT2 := HTk.out h0
        obtain ⟨v2, W2, hrun2, ho2, hb2⟩ := OwnS.push (L := AL.take m) HO1.out HB1.out.size ⟨nm, le, mo, fi, la, st, wrt⟩ (by rw [HLn.out m (by omega)]; omega)
        rw [hm, ← HT2] at ho2
        obtain ⟨q2, d2, rfl⟩ := ho2.shape
        rw [HLn.out i (by omega)] at hrun2 ho2
        rw [hs1] at hrun2
        have HO2 := hid ho2
        have HR2 := hid hrun2
        have HW2 := hid (HB1.out.trans hb2)
        have H1 : Hid (i = i + 1 - 1) := by show i = i + 1 - 1; omega
        clear ho2 hrun2 hb2 hb1 hs1 HT2 HTk h0 hm
        go_wp2_with (refine wpList_append_runs rfl _ _ 22 22 rfl _ _ _ _ rfl rfl HR2.out (Hid.out ?_))
        refine hid ?_
        go_wp2_with fail
        exact ⟨⟨i + 1, i, q2, d2, by go_num, rfl, by omega, H1.out, HO2.out, HW2.out⟩, by simp [intOf]; omega⟩
    · obtain rfl : m = 47 := by omega
      have hiz : ¬ (i : Int) < 48 := by omega
      have HO2 := HO.out
      rw [HT.out] at HO2
      have HO3 := hid HO2
      clear HO2 hm
      go_wp2_with fail
      go_ret
      exact ⟨q, d, rfl, HO3.out, HW.out⟩

end Go.Proofs.Ytndmhfhihajbdaa
