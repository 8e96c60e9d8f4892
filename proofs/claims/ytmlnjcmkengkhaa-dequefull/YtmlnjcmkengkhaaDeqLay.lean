/- The program's deque: lay. -/
import Derived.Test.YtmlnjcmkengkhaaDeqBase
import Derived.Laws.CopyOwn
namespace Go.Proofs.Ytmlnjcmkengkhaa
open Go.RowKit

theorem splice_two {Z X1 X2 : List Value} {n : Nat} (h1 : X1.length = n) (h : n + X2.length ≤ Z.length) : splice (splice Z 0 X1) n X2 = X1 ++ X2 ++ Z.drop (n + X2.length) := by
  subst h1
  unfold splice
  have e1 : Z.take 0 ++ (X1 ++ Z.drop (0 + X1.length)) = X1 ++ Z.drop X1.length := by simp
  rw [e1, List.take_left' rfl, List.drop_append, List.drop_eq_nil_of_le (by omega), List.nil_append, List.drop_drop, List.append_assoc]
  congr 3; omega
theorem info_str : (Try.prog.info? 9).map (·.size) = some 1 := by kernel_rfl
theorem ring_from (b k : Nat) (h : k < 256) (w : World) : (Instr.sliceAt 46 (.pointer (some ⟨b, 0, none⟩)) (some (.int .i64 k)) none none).run Try.prog w = .ok (.slice (some ⟨b, k, none⟩) (256 - k) (256 - k)) w := by
  have hkz : (k : Int) ≤ 256 := by omega
  have hne : ¬ 256 = k := by omega
  have ha : (⟨b, 0, none⟩ : Addr).add k = ⟨b, 0 + k, none⟩ := Go.WideShapes.add_plain b 0 k
  go_simp
theorem ring_all (b : Nat) (w : World) : (Instr.sliceAt 46 (.pointer (some ⟨b, 0, none⟩)) none none none).run Try.prog w = .ok (.slice (some ⟨b, 0, none⟩) 256 256) w := by
  go_simp
theorem list_from (g m c n : Nat) (h : n ≤ m) (w : World) : (Instr.slice 26 (.slice (some ⟨g, 0, none⟩) m c) (some (.int .i64 n)) none none).run Try.prog w = .ok (.slice (some (if c = n then ⟨g, 0, none⟩ else ⟨g, n, none⟩)) (m - n) (c - n)) w := by
  have hkz : (n : Int) ≤ (m : Int) := by omega
  have ha : (⟨g, 0, none⟩ : Addr).add n = ⟨g, 0 + n, none⟩ := Go.WideShapes.add_plain g 0 n
  by_cases hc : c = n
  · go_simp
  · go_simp
/-- a copy into a block that is known whole -/
theorem copy_into (w : World) (dp sp : Option Addr) (dLen dCap sLen sCap g off : Nat) (cur cs : List Value) (t : TypeId) (hg : w.heap[g]? = some (.cells cur.toArray t (0, 0))) (hn : cs.length = Nat.min sLen dLen)
    (hpos : 0 < cs.length → dp = some ⟨g, off, none⟩ ∧ ∃ ad, sp = some ad ∧ ∀ j v, cs[j]? = some v → w.cell? (ad.add j) = some v) (hfit : off + cs.length ≤ cur.length) (h1 : ∀ v ∈ cs, v.oneCell' = true) :
    ∃ w', (Builtin.copy_ #[26, 26] 3 #[.slice dp dLen dCap, .slice sp sLen sCap]).run Try.prog w = .ok (.int .i64 cs.length) w' ∧ w'.heap[g]? = some (.cells (splice cur off cs).toArray t (0, 0)) ∧ Below g w w' := by
  by_cases h0 : cs.length = 0
  · obtain rfl : cs = [] := List.eq_nil_of_length_eq_zero h0
    exact ⟨w, run_copy_none (P := Try.prog) w 26 26 3 9 dp sp dLen dCap sLen sCap Try.underlying26 info_str (by simpa using hn.symm), by simpa [splice] using hg, Below.refl _ _⟩
  · obtain ⟨rfl, ad, rfl, hsrc⟩ := hpos (by omega)
    exact ⟨_, run_copy_row (P := Try.prog) w 26 26 3 9 g off dLen dCap ad sLen sCap cur.toArray t cs Try.underlying26 info_str hg hn hsrc (by simpa using hfit) h1, by simpa [splice] using setRow_heap w g _ _ t _ hg, below_setRow (Below.refl _ _) (Nat.le_refl _) _⟩
set_option maxHeartbeats 2000000 in
set_option maxRecDepth 100000 in
/-- lay -/
theorem lay_any (b f fr m c g : Nat) (cs : Array Value) (L : Row) (Z : List Value) (t : TypeId) (w : World) (hc : w.heap[b]? = some (.cells cs 48 (0, 0))) (h1 : cs[256]? = some (.int .i64 f)) (hr : Ring cs f L) (hfr : fr + m ≤ L.length)
    (hg : w.heap[g]? = some (.cells Z.toArray t (0, 0))) (hbg : b < g) (hmZ : m ≤ Z.length) (hmc : m ≤ c) (hcm : c ≤ 256) :
    Calls Try.prog 22 #[ptr b, .slice (some ⟨g, 0, none⟩) m c, .int .i64 fr] w fun e w' => e = .returned (.tuple #[]) ∧ Hid (w'.heap[g]? = some (.cells (((L.drop fr).take m).map txt ++ Z.drop m).toArray t (0, 0)) ∧ Below g w w') := by
  have c1 : w.cell? ⟨b, 256, none⟩ = some (.int .i64 f) := by rw [dq_cells hc]; exact h1
  have hf := hr.beg
  have hl := hr.len
  obtain ⟨k, hk⟩ : ∃ k, k = (f + fr) % 256 := ⟨_, rfl⟩
  have HW := hid (fun w' c1 => where_any b f k fr w' c1 hf (by omega) (by omega) (by omega) (by omega))
  obtain ⟨n, hn⟩ : ∃ n, n = Nat.min (256 - k) m := ⟨_, rfl⟩
  have hnm : n ≤ m := by rw [hn]; exact Nat.min_le_right _ _
  have hnk : n ≤ 256 - k := by rw [hn]; exact Nat.min_le_left _ _
  have hn2 : n < m → n = 256 - k := by rw [hn]; show min (256 - k) m < m → min (256 - k) m = 256 - k; omega
  obtain ⟨X, hX⟩ : ∃ X, X = ((L.drop fr).take m).map txt := ⟨_, rfl⟩
  have hXg : ∀ j, j < m → X[j]? = cs[(f + (fr + j)) % 256]? := fun j hj => by
    rw [hX, hr.at_ (fr + j) (by omega), List.getElem?_map, List.getElem?_take, if_pos hj, List.getElem?_drop, List.getElem?_eq_getElem (by omega)]
    rfl
  have hone : ∀ v ∈ X, v.oneCell' = true := fun v hv => by
    rw [hX] at hv
    obtain ⟨s, _, rfl⟩ := List.mem_map.1 hv
    rfl
  have hXl : X.length = m := by rw [hX]; simp; omega
  rw [← hX]
  obtain ⟨X1, hX1⟩ : ∃ X1, X1 = X.take n := ⟨_, rfl⟩
  obtain ⟨X2, hX2⟩ : ∃ X2, X2 = X.drop n := ⟨_, rfl⟩
  have HX1 : Hid (∀ j v, X1[j]? = some v → w.cell? ⟨b, k + j, none⟩ = some v) := fun j v hv => by
    rw [hX1, List.getElem?_take] at hv
    split at hv
    · rw [dq_cells hc, ← hv, hXg j (by omega)]; congr 1; omega
    · cases hv
  have HX2 : Hid (∀ j v, X2[j]? = some v → w.cell? ⟨b, j, none⟩ = some v) := fun j v hv => by
    rw [hX2, List.getElem?_drop] at hv
    have hj : n + j < m := by rw [← hXl]; exact (List.getElem?_eq_some_iff.1 hv).1
    rw [dq_cells hc, ← hv, hXg (n + j) hj]; congr 1
    have := hn2 (by omega)
    omega
  have hL1 : X1.length = n := by rw [hX1]; simp; omega
  have hL2 : X2.length = m - n := by rw [hX2]; simp; omega
  have HO1 : Hid (∀ v ∈ X1, v.oneCell' = true) := fun v hv => hone v (by rw [hX1] at hv; exact List.mem_of_mem_take hv)
  have HO2 : Hid (∀ v ∈ X2, v.oneCell' = true) := fun v hv => hone v (by rw [hX2] at hv; exact List.mem_of_mem_drop hv)
  have HF : Hid (splice (splice Z 0 X1) n X2 = X ++ Z.drop m) := by
    unfold Hid
    rw [splice_two hL1 (by omega), hX1, hX2, List.take_append_drop, ← hX2, hL2]; congr 2; omega
  have HG := hid hg
  have HC := hid hc
  have hkz : (k : Int) < 256 := by omega
  have S1 := ring_from b k (by omega)
  have S2 := ring_all b
  have S3 : ∀ w0, (Instr.slice 26 (.slice (some ⟨g, 0, none⟩) m c) (some (.int .i64 X1.length)) none none).run Try.prog w0 = .ok (.slice (some (if c = n then ⟨g, 0, none⟩ else ⟨g, n, none⟩)) (m - n) (c - n)) w0 := fun w0 => by rw [hL1]; exact list_from g m c n hnm w0
  obtain ⟨p2, hp2⟩ : ∃ p2, p2 = some (if c = n then (⟨g, 0, none⟩ : Addr) else ⟨g, n, none⟩) := ⟨_, rfl⟩
  rw [← hp2] at S3
  have HP2 : Hid (0 < X2.length → p2 = some ⟨g, n, none⟩) := fun h => by rw [hp2, if_neg (by omega)]
  have HM1 : Hid (X1.length = Nat.min (256 - k) m) := by unfold Hid; rw [hL1]; exact hn
  have HM2 : Hid (X2.length = Nat.min 256 (m - n)) := by unfold Hid; rw [hL2]; show m - n = min 256 (m - n); omega
  have HF1 : Hid (0 + X1.length ≤ Z.length) := by unfold Hid; omega
  have HF2 : Hid (n + X2.length ≤ (splice Z 0 X1).length) := by unfold Hid; rw [length_splice _ _ _ (by omega)]; omega
  clear hp2
  have HN := hid hn2
  have HL1 := hid hL1
  have HL2 := hid hL2
  clear hX1 hX2 hX hXl hXg hone hk h1 hr hc hg hf hn2 hL1 hL2 hn
  go_enter Try.func22, Try.ntmps22
  go_wp2_with fail
  go_region_law (first
    | (refine step_copy_splice rfl _ _ 26 26 rfl 9 Try.underlying26 info_str _ _ _ _ _ _ rfl rfl g 0 Z t HG.out X1 HM1.out (fun _ => ⟨rfl, ⟨b, k, none⟩, rfl, fun j v h => by rw [Go.WideShapes.add_plain]; exact HX1.out j v h⟩) HF1.out HO1.out g w (Below.refl g w).drew (Nat.le_refl _) ?_; intro w2 HG2 hb2)
    | (go_simp; go_at_call 23; refine (HW.out _ (by simpa using c1)).mono ?_; rintro e w1 ⟨rfl, rfl⟩))
  all_goals
    have HB2 := hid hb2
    obtain ⟨w3, hrun, hg3, hb3⟩ := copy_into w2.drew p2 (some ⟨b, 0, none⟩) (m - n) (c - n) 256 256 g n (splice Z 0 X1) X2 t HG2.out HM2.out (fun h => ⟨HP2.out h, ⟨b, 0, none⟩, rfl, fun j v h => by rw [Go.WideShapes.add_plain, Nat.zero_add]; exact (hb2.cell (p := ⟨b, j, none⟩) hbg).trans (HX2.out j v h)⟩) HF2.out HO2.out
    have HG3 := hid hg3
    have HB3 := hid hb3
    clear hb2 hg3 hb3
    go_wp2_with fail
    clear S1 HW HX1 HM1 HF1 HO1 HX2 HC
    go_region
    all_goals go_wp2_with fail
    all_goals go_end0
    all_goals exact ⟨rfl, by rw [← HF.out]; exact HG3.out, HB2.out.drew.trans HB3.out⟩

end Go.Proofs.Ytmlnjcmkengkhaa
