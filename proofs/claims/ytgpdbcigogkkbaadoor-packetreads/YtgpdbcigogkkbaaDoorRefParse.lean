/- A text read, by the document: ref Parse. -/
import Derived.Test.YtgpdbcigogkkbaaDoorRefPrint
import Derived.Test.YtgpdbcigogkkbaaDoorRefMake
import Derived.Test.YtgpdbcigogkkbaaDoorScan
namespace Go.Proofs.YtgpdbcigogkkbaaDoor
open Go.RowKit
open Slot

theorem flat_set (l : List (Nat × Nat)) (f t n : Nat) : (flat (l ++ [(f, t)])).set (l.length * 2 + 1) (.int .i64 n) = flat (l ++ [(f, n)]) := by
  rw [flat_append, flat_append]
  have := flat_length l
  rw [List.set_append_right _ _ (by omega), this]
  congr 1
  simp [flat]
theorem numGo_step {s : List UInt8} {k n : Nat} (hk : k < s.length) (h1 : 48 ≤ s[k].toNat) (h2 : s[k].toNat ≤ 57) (h3 : n < 100000) : numGo n (s.drop k) = numGo (n * 10 + (s[k].toNat - 48)) (s.drop (k + 1)) := by
  rw [List.drop_eq_getElem_cons hk]
  simp only [numGo]
  rw [if_pos ⟨by unfold isDig; simp; omega, h3⟩]
theorem numGo_out {s : List UInt8} {k n : Nat} (h : ¬ ∃ h : k < s.length, 48 ≤ s[k].toNat ∧ s[k].toNat ≤ 57 ∧ n < 100000) : numGo n (s.drop k) = (n, s.drop k) := by
  by_cases hk : k < s.length
  · rw [List.drop_eq_getElem_cons hk]
    simp only [numGo]
    rw [if_neg]
    rintro ⟨h1, h2⟩
    unfold isDig at h1
    simp at h1
    exact h ⟨hk, h1.1, h1.2, h2⟩
  · rw [List.drop_eq_nil_of_le (by omega)]; rfl
theorem byteAt {l : List UInt8} {n : Nat} (h : n < l.length) : ((((⟨l.toArray⟩ : ByteArray)[n]'(by simpa [ByteArray.size] using h)).toNat : Nat) : Int) = (l[n].toNat : Int) := rfl
theorem byte_is45 {l : List UInt8} {n : Nat} (h : n < l.length) : ((((⟨l.toArray⟩ : ByteArray)[n]'(by simpa [ByteArray.size] using h)).toNat : Int) == 45) = decide (l[n] = 45) := by
  have e : ((⟨l.toArray⟩ : ByteArray)[n]'(by simpa [ByteArray.size] using h)) = l[n] := rfl
  rw [e]
  by_cases hc : l[n] = 45
  · simp [hc]
  · rw [decide_eq_false hc, beq_eq_false_iff_ne]
    intro h2
    exact hc (UInt8.toNat_inj.1 (by have : (45 : UInt8).toNat = 45 := rfl; omega))
theorem owns_form {w : World} {B : Nat} {e : TypeId} {size : Nat} {v : Value} {n : Nat} {xs : List Value} (h : w.ownsRow B e size v n xs) (hn : 0 < n) : ∃ g cap, v = .slice (some ⟨g, 0, none⟩) n cap := by
  rcases h.2 with ⟨_, h0⟩ | ⟨g, cap, cur, hu, _⟩
  · omega
  · exact ⟨g, cap, hu⟩
/-- a way out of the digits -/
def Out (s : List UInt8) (k : Nat) (z : Int) : Prop := ¬ k < s.length ∨ ∃ (h : k < s.length) (m : Int), ((((⟨s.toArray⟩ : ByteArray)[k]'(by simpa [ByteArray.size] using h)).toNat : Nat) : Int) = m ∧ (m < 48 ∨ (48 ≤ m ∧ 57 < m) ∨ (48 ≤ m ∧ m ≤ 57 ∧ 100000 ≤ z))
theorem out_of {s : List UInt8} {k n : Nat} {z : Int} (hz : (n : Int) = z) (h : ¬ ∃ h : k < s.length, 48 ≤ s[k].toNat ∧ s[k].toNat ≤ 57 ∧ n < 100000) : Out s k z := by
  by_cases hk : k < s.length
  · refine .inr ⟨hk, _, byteAt hk, ?_⟩
    by_cases h1 : 48 ≤ s[k].toNat
    · by_cases h2 : s[k].toNat ≤ 57
      · exact .inr (.inr ⟨by omega, by omega, by have : ¬ n < 100000 := fun h3 => h ⟨hk, h1, h2, h3⟩; omega⟩)
      · exact .inr (.inl ⟨by omega, by omega⟩)
    · exact .inl (by omega)
  · exact .inl hk
/-- what a text of which nothing is read is told -/
theorem none_of {s : List UInt8} (h : ∀ L : List (Nat × Nat), s = print L → Chain 0 L → False) : parseVal s = .tuple #[.agg (cellsOf (fun _ => false)), .int .i64 20] := by
  cases hp : parseAll s with
  | none => exact parseVal_bad hp
  | some L => exact absurd (parseAll_sound hp) fun ⟨a, b⟩ => h L a b
set_option maxHeartbeats 4000000 in
set_option maxRecDepth 100000 in
theorem rParse_any (s : List UInt8) (w : World) (hl : s.length ≤ 20000) :
    Calls Tryd.prog 26 #[.string ⟨s.toArray⟩] w fun e w' => e = .returned (parseVal s) ∧ Below w.heap.size w w' := by
  have hz := zeroBits
  have HZ0 := hid (box_new w (fun _ => false))
  have HW0 := hid (below_alloc w (.cells (cellsOf fun _ => false) 24))
  have HG0 : Hid (∀ L, s = print L → Chain 0 L → Slot.Good s 0 [] L) := fun (L : List (Nat × Nat)) h _ => by rw [h]; exact good_first L
  go_enter Tryd.func26, Tryd.ntmps26
  go_wp2
  go_loopw [4, 5, 6, 7] (fun v4 v5 _ _ W => ∃ (l : List (Nat × Nat)) (i : Nat), v5 = .int .i64 i ∧ i ≤ s.length + 1 ∧ 2 * l.length ≤ i ∧ Hid (W.ownsRow (w.heap.size + 1) 53 2 v4 l.length (flat l)) ∧ Hid (∀ p ∈ l, p.1 < 1000000 ∧ p.2 < 1000000) ∧ Hid (Box W w.heap.size (fun _ => false)) ∧ Hid (Below w.heap.size w W) ∧ Hid (∀ L : List (Nat × Nat), s = print L → Chain 0 L → Slot.Good s i l L)) (fun _ v5 _ _ _ => s.length + 1 - (intOf v5).toNat)
  case atStart => exact ⟨[], 0, rfl, by omega, by simp, ⟨rfl, .inl ⟨rfl, rfl⟩⟩, (fun p h => by cases h), HZ0.out, HW0.out, HG0.out⟩
  case round =>
    obtain ⟨l, i, rfl, hi1, hi2, HO, HV, HZ, HW, HG⟩ := hrel
    obtain ⟨a, cap, ha, hrow⟩ := owns_rowR HO.out (by omega)
    subst ha
    by_cases hlt : i < s.length
    · clear hrow
      go_wp2
      go_loop [6, 7] (fun v6 v7 => ∃ (z : Int) (k : Nat), v6 = .int .i64 z ∧ v7 = .int .i64 k ∧ i ≤ k ∧ k ≤ s.length ∧ 0 ≤ z ∧ z < 1000000 ∧ Hid (∃ n : Nat, (n : Int) = z ∧ numGo 0 (s.drop i) = numGo n (s.drop k))) (fun _ v7 => s.length - (intOf v7).toNat)
      case atStart => exact ⟨0, i, rfl, rfl, Nat.le_refl _, by omega, by omega, by omega, 0, rfl, rfl⟩
      case round =>
        obtain ⟨z, k, rfl, rfl, hk1, hk2, hz0, hz1, HNz⟩ := hrel
        obtain ⟨n, hnz, hN⟩ := HNz.out
        have HN := hid hN
        have Hnz := hid hnz
        clear hN HNz
        by_cases hgo : ∃ h : k < s.length, 48 ≤ s[k].toNat ∧ s[k].toNat ≤ 57 ∧ n < 100000
        · obtain ⟨hk, h1, h2, h3⟩ := hgo
          have hby : ((⟨s.toArray⟩ : ByteArray)[k]'(by simpa [ByteArray.size] using hk)) = s[k] := rfl
          have HS := hid (HN.out.trans (numGo_step hk h1 h2 h3))
          generalize s[k] = c at hby h1 h2 HS
          obtain ⟨m, hm⟩ : ∃ m : Int, m = (c.toNat : Int) := ⟨_, rfl⟩
          have hb0 : ((((⟨s.toArray⟩ : ByteArray)[k]'(by simpa [ByteArray.size] using hk)).toNat : Nat) : Int) = m := by rw [hby, hm]
          have hb1 : (48 : Int) ≤ m := by omega
          have hb2 : m ≤ 57 := by omega
          have HH := hid (And.intro h1 (And.intro h2 (And.intro h3 (And.intro hnz hm))))
          have hn3 : z < 100000 := by omega
          clear h1 h2 h3 hnz hm hby
          go_wp2_with (at_builtin; fail)
          obtain ⟨h1, h2, h3, hn, hm⟩ := HH.out
          refine ⟨⟨z * 10 + m - 48, k + 1, rfl, by go_num, by omega, by omega, by omega, by omega, n * 10 + (c.toNat - 48), by omega, HS.out⟩, by simp [intOf]; omega⟩
        · have HX := hid (HN.out.trans (numGo_out hgo))
          have HOut := hid (out_of hnz hgo)
          clear hgo hnz
          rcases Nat.lt_or_ge i k with hik | hik
          · have hB : i = 0 ∨ (∃ (j : Nat) (h : j < s.length), i = j + 1 ∧ s[j] ≠ 45) ∨ (∃ (j : Nat) (h : j < s.length), i = j + 1 ∧ s[j] = 45 ∧ l = []) ∨ (∃ (j : Nat) (h : j < s.length) (l0 : List (Nat × Nat)) (f t : Nat), i = j + 1 ∧ s[j] = 45 ∧ l = l0 ++ [(f, t)]) := by
              by_cases h0 : i = 0
              · exact .inl h0
              · have hj : i - 1 < s.length := by omega
                by_cases h45 : s[i - 1] = 45
                · rcases List.eq_nil_or_concat l with h | ⟨l0, ⟨f, t⟩, h⟩
                  · exact .inr (.inr (.inl ⟨i - 1, hj, by omega, h45, h⟩))
                  · exact .inr (.inr (.inr ⟨i - 1, hj, l0, f, t, by omega, h45, by rw [h, List.concat_eq_append]⟩))
                · exact .inr (.inl ⟨i - 1, hj, by omega, h45⟩)
            have hwr : w.heap.size < wr.heap.size := HZ.out.lt
            have HSt := hid (fun L h1 h2 => (good_step (HG.out L h1 h2) hlt h2 HX.out).2)
            rcases hB with h | ⟨j, hj, rfl, hne⟩ | ⟨j, hj, rfl, h45, h⟩ | ⟨j, hj, l0, f, t, rfl, h45, h⟩
            · subst h
              have HNot : Hid (¬ (0 < 0 ∧ s[0 - 1]? = some 45 ∧ l ≠ [])) := fun h => absurd h.1 (by omega)
              obtain ⟨v', w3, hrun, ho3, hg3⟩ := push_run (w.heap.size + 1) wr (.slice a l.length cap) l n n HO.out (by omega) (by omega)
              rw [Hnz.out] at hrun hg3
              have HRun := hid hrun
              have hb3 : Below (w.heap.size + 1) (wr.alloc (.cells #[.int .i64 z, .int .i64 z] 53)) w3 := (Below.refl _ _).grown hg3 (by simp; omega) (fun q hq => (World.ownsRow.lt HO.out q hq).1)
              have HO3 := hid ho3
              have HZ3 := hid ((HZ.out.below (below_alloc wr _) HZ.out.lt).below hb3 (by omega))
              have HW3 := hid ((HW.out.alloc (by omega) (.cells #[.int .i64 z, .int .i64 z] 53)).trans (hb3.mono (by omega)))
              have HV3 : Hid (∀ p ∈ l ++ [(n, n)], p.1 < 1000000 ∧ p.2 < 1000000) := fun p hp => by
                rcases List.mem_append.1 hp with hp | hp
                · exact HV.out p hp
                · rw [List.mem_singleton.1 hp]; have := Hnz.out; exact ⟨by simp only; omega, by simp only; omega⟩
              have HG3 : Hid (∀ L : List (Nat × Nat), s = print L → Chain 0 L → Slot.Good s (k + 1) (l ++ [(n, n)]) L) := fun L h1 h2 => (HSt.out L h1 h2).2 HNot.out
              have hlen : (l ++ [(n, n)]).length = l.length + 1 := by simp
              clear hrun ho3 hg3 hb3
              rcases HOut.out with hk | ⟨hk, m, hb0, hm | ⟨hm, hm2⟩ | ⟨hm, hm2, hn3⟩⟩
              all_goals
                go_wp2_with (at_builtin; refine wpList_append_run rfl _ _ 50 rfl _ _ _ _ rfl rfl HRun.out ?_)
                refine ⟨⟨l ++ [(n, n)], k + 1, by go_num, ?_, ?_, HO3.out, HV3, HZ3.out, HW3.out, HG3⟩, ?_⟩
                · omega
                · omega
                · simp [intOf]; omega
            · have HNot : Hid (¬ (0 < j + 1 ∧ s[j + 1 - 1]? = some 45 ∧ l ≠ [])) := fun h => by
                have := h.2.1
                rw [Nat.add_sub_cancel, List.getElem?_eq_getElem hj] at this
                exact hne (by injection this)
              have hbj := byte_is45 hj
              rw [decide_eq_false hne] at hbj
              clear hne
              obtain ⟨v', w3, hrun, ho3, hg3⟩ := push_run (w.heap.size + 1) wr (.slice a l.length cap) l n n HO.out (by omega) (by omega)
              rw [Hnz.out] at hrun hg3
              have HRun := hid hrun
              have hb3 : Below (w.heap.size + 1) (wr.alloc (.cells #[.int .i64 z, .int .i64 z] 53)) w3 := (Below.refl _ _).grown hg3 (by simp; omega) (fun q hq => (World.ownsRow.lt HO.out q hq).1)
              have HO3 := hid ho3
              have HZ3 := hid ((HZ.out.below (below_alloc wr _) HZ.out.lt).below hb3 (by omega))
              have HW3 := hid ((HW.out.alloc (by omega) (.cells #[.int .i64 z, .int .i64 z] 53)).trans (hb3.mono (by omega)))
              have HV3 : Hid (∀ p ∈ l ++ [(n, n)], p.1 < 1000000 ∧ p.2 < 1000000) := fun p hp => by
                rcases List.mem_append.1 hp with hp | hp
                · exact HV.out p hp
                · rw [List.mem_singleton.1 hp]; have := Hnz.out; exact ⟨by simp only; omega, by simp only; omega⟩
              have HG3 : Hid (∀ L : List (Nat × Nat), s = print L → Chain 0 L → Slot.Good s (k + 1) (l ++ [(n, n)]) L) := fun L h1 h2 => (HSt.out L h1 h2).2 HNot.out
              have hlen : (l ++ [(n, n)]).length = l.length + 1 := by simp
              clear hrun ho3 hg3 hb3
              rcases HOut.out with hk | ⟨hk, m, hb0, hm | ⟨hm, hm2⟩ | ⟨hm, hm2, hn3⟩⟩
              all_goals
                go_wp2_with (at_builtin; refine wpList_append_run rfl _ _ 50 rfl _ _ _ _ rfl rfl HRun.out ?_)
                refine ⟨⟨l ++ [(n, n)], k + 1, by go_num, ?_, ?_, HO3.out, HV3, HZ3.out, HW3.out, HG3⟩, ?_⟩
                · omega
                · omega
                · simp [intOf]; omega
            · have HNot : Hid (¬ (0 < j + 1 ∧ s[j + 1 - 1]? = some 45 ∧ l ≠ [])) := fun hh => hh.2.2 h
              have hbj := byte_is45 hj
              rw [decide_eq_true h45] at hbj
              have hl0 : l.length = 0 := by rw [h]; rfl
              clear h45 h
              obtain ⟨v', w3, hrun, ho3, hg3⟩ := push_run (w.heap.size + 1) wr (.slice a l.length cap) l n n HO.out (by omega) (by omega)
              rw [Hnz.out] at hrun hg3
              have HRun := hid hrun
              have hb3 : Below (w.heap.size + 1) (wr.alloc (.cells #[.int .i64 z, .int .i64 z] 53)) w3 := (Below.refl _ _).grown hg3 (by simp; omega) (fun q hq => (World.ownsRow.lt HO.out q hq).1)
              have HO3 := hid ho3
              have HZ3 := hid ((HZ.out.below (below_alloc wr _) HZ.out.lt).below hb3 (by omega))
              have HW3 := hid ((HW.out.alloc (by omega) (.cells #[.int .i64 z, .int .i64 z] 53)).trans (hb3.mono (by omega)))
              have HV3 : Hid (∀ p ∈ l ++ [(n, n)], p.1 < 1000000 ∧ p.2 < 1000000) := fun p hp => by
                rcases List.mem_append.1 hp with hp | hp
                · exact HV.out p hp
                · rw [List.mem_singleton.1 hp]; have := Hnz.out; exact ⟨by simp only; omega, by simp only; omega⟩
              have HG3 : Hid (∀ L : List (Nat × Nat), s = print L → Chain 0 L → Slot.Good s (k + 1) (l ++ [(n, n)]) L) := fun L h1 h2 => (HSt.out L h1 h2).2 HNot.out
              have hlen : (l ++ [(n, n)]).length = l.length + 1 := by simp
              clear hrun ho3 hg3 hb3
              rw [hl0] at HRun hlen hi2
              rw [hl0]
              clear hl0
              rcases HOut.out with hk | ⟨hk, m, hb0, hm | ⟨hm, hm2⟩ | ⟨hm, hm2, hn3⟩⟩
              all_goals
                go_wp2_with (at_builtin; refine wpList_append_run rfl _ _ 50 rfl _ _ _ _ rfl rfl HRun.out ?_)
                refine ⟨⟨l ++ [(n, n)], k + 1, by go_num, ?_, ?_, HO3.out, HV3, HZ3.out, HW3.out, HG3⟩, ?_⟩
                · omega
                · omega
                · simp [intOf]; omega
            · subst h
              have hbj := byte_is45 hj
              rw [decide_eq_true h45] at hbj
              have ln : (l0 ++ [(f, t)]).length = l0.length + 1 := by simp
              obtain ⟨g, cp, hv4⟩ := owns_form HO.out (by rw [ln]; omega)
              injection hv4 with ea el ec
              subst ea
              subst ec
              have hOw : wr.ownsRow (w.heap.size + 1) 53 2 (.slice (some ⟨g, 0, none⟩) (l0 ++ [(f, t)]).length cap) (l0 ++ [(f, t)]).length (flat (l0 ++ [(f, t)])) := HO.out
              obtain ⟨ho3, hg3⟩ := World.ownsRow.stored hOw (l0.length * 2 + 1) (.int .i64 (n : Int))
              rw [flat_set, Hnz.out] at ho3
              rw [Hnz.out] at hg3
              have hgl := World.ownsRow.lt HO.out g rfl
              have hfr : wr.frozen? ⟨g, l0.length * 2 + 1, none⟩ = false := World.ownsRow.frozenAt hOw _
              have hcl : wr.cell? ⟨g, l0.length * 2 + 1, none⟩ = some (.int .i64 t) := by
                rw [World.ownsRow.cellAt hOw _ (by rw [ln]; omega), flat_append, List.getElem?_append_right (by rw [flat_length]; omega), flat_length]
                simp [flat]
              have HO3 : Hid ((wr.setCell ⟨g, l0.length * 2 + 1, none⟩ (.int .i64 z)).ownsRow (w.heap.size + 1) 53 2 (.slice (some ⟨g, 0, none⟩) (l0 ++ [(f, t)]).length cap) (l0 ++ [(f, n)]).length (flat (l0 ++ [(f, n)]))) := by
                have e : (l0 ++ [(f, n)]).length = (l0 ++ [(f, t)]).length := by simp
                rw [e]
                exact ho3
              have HZ3 := hid (HZ.out.below ((Below.refl (w.heap.size + 1) wr).setCell (p := ⟨g, l0.length * 2 + 1, none⟩) hgl.1 (.int .i64 z)) (by omega))
              have HW3 := hid (HW.out.setCell (p := ⟨g, l0.length * 2 + 1, none⟩) (by show w.heap.size ≤ g; omega) (.int .i64 z))
              have HV3 : Hid (∀ p ∈ l0 ++ [(f, n)], p.1 < 1000000 ∧ p.2 < 1000000) := fun p hp => by
                rcases List.mem_append.1 hp with hp | hp
                · exact HV.out p (List.mem_append_left _ hp)
                · rw [List.mem_singleton.1 hp]
                  have h1 := HV.out (f, t) (by simp)
                  have := Hnz.out
                  exact ⟨h1.1, by simp only; omega⟩
              have HG3 : Hid (∀ L : List (Nat × Nat), s = print L → Chain 0 L → Slot.Good s (k + 1) (l0 ++ [(f, n)]) L) := fun L h1 h2 => by
                have := (HSt.out L h1 h2).1 ⟨Nat.succ_pos _, by rw [Nat.add_sub_cancel, List.getElem?_eq_getElem hj, h45], by simp⟩
                rwa [setLast_snoc] at this
              have hlen : (l0 ++ [(f, n)]).length = l0.length + 1 := by simp
              have HO3b := HO3
              rw [ln] at hi2 HO3b
              clear h45 ho3 hg3 hOw HO HSt HG HV el
              rcases HOut.out with hk | ⟨hk, m, hb0, hm | ⟨hm, hm2⟩ | ⟨hm, hm2, hn3⟩⟩
              all_goals
                go_wp2_with (at_builtin; fail)
                refine ⟨⟨l0 ++ [(f, n)], k + 1, by go_num, ?_, ?_, (by first | exact HO3 | exact HO3b), HV3, HZ3.out, HW3.out, HG3⟩, ?_⟩
                · omega
                · omega
                · simp [intOf]; omega
          · obtain rfl : k = i := by omega
            have HP := hid (none_of (s := s) fun L h1 h2 => by
              have := (good_step (HG.out L h1 h2) hlt h2 HX.out).1
              omega)
            rcases HOut.out with hk | ⟨hk, m, hb0, hm | ⟨hm, hm2⟩ | ⟨hm, hm2, hn3⟩⟩
            · exact absurd hlt hk
            · go_wp2_with (first | (at_builtin; fail) | (refine wpList_store_row rfl 24 _ _ rfl w.heap.size _ rfl rfl 24 _ HZ.out (infoBits _) (sizes _ _) (oneCells _) ?_))
              exact bodyPost_ret (v := .tuple #[.agg (cellsOf fun _ => false), .int .i64 20]) (ret_box2 rfl rfl rfl (box_size HZ.out)) rfl ⟨by rw [HP.out], below_setRow HW.out (Nat.le_refl _) _⟩
            · go_wp2_with (first | (at_builtin; fail) | (refine wpList_store_row rfl 24 _ _ rfl w.heap.size _ rfl rfl 24 _ HZ.out (infoBits _) (sizes _ _) (oneCells _) ?_))
              exact bodyPost_ret (v := .tuple #[.agg (cellsOf fun _ => false), .int .i64 20]) (ret_box2 rfl rfl rfl (box_size HZ.out)) rfl ⟨by rw [HP.out], below_setRow HW.out (Nat.le_refl _) _⟩
            · go_wp2_with (first | (at_builtin; fail) | (refine wpList_store_row rfl 24 _ _ rfl w.heap.size _ rfl rfl 24 _ HZ.out (infoBits _) (sizes _ _) (oneCells _) ?_))
              exact bodyPost_ret (v := .tuple #[.agg (cellsOf fun _ => false), .int .i64 20]) (ret_box2 rfl rfl rfl (box_size HZ.out)) rfl ⟨by rw [HP.out], below_setRow HW.out (Nat.le_refl _) _⟩
    · have hbnd : ∀ q (h : q < (l.map intR).length), -9223372036854775808 ≤ (l.map intR)[q].1 ∧ (l.map intR)[q].1 ≤ 9223372036854775807 ∧ -9223372036854775808 ≤ (l.map intR)[q].2 ∧ (l.map intR)[q].2 ≤ 9223372036854775807 := fun q hq => by
        have hq' : q < l.length := by simpa using hq
        have := HV.out l[q] (List.getElem_mem hq')
        simp only [List.getElem_map, intR]
        omega
      have hmk := rMake_any a cap (l.map intR) wr hrow hbnd
      rw [List.length_map] at hmk
      have hcase : (∃ e : Int, e ≠ 0 ∧ makeVal (l.map intR) = .tuple #[.agg (cellsOf fun _ => false), .int .i64 e] ∧ parseAll s = none) ∨ makeVal (l.map intR) = .tuple #[.agg (cellsOf (ofList l)), .int .i64 0] := by
        by_cases hall : (l.map intR).all validR = true
        · exact .inr (by rw [makeVal_ok hall, natR_intR])
        · refine .inl ⟨20, by decide, makeVal_bad (by simpa using hall), ?_⟩
          cases hp : parseAll s with
          | none => rfl
          | some L =>
            exfalso
            obtain ⟨h1, h2⟩ := parseAll_sound hp
            have hlL := good_last (HG.out L h1 h2) (by omega)
            subst hlL
            apply hall
            rw [List.all_eq_true]
            intro p hp'
            obtain ⟨q, hq, rfl⟩ := List.mem_map.1 hp'
            have := (chain_runs h2).valid q hq
            unfold top at this
            show decide (0 ≤ (q.1 : Int) ∧ (q.1 : Int) ≤ (q.2 : Int) ∧ (q.2 : Int) ≤ 16383) = true
            exact decide_eq_true (by omega)
      have hwr : w.heap.size < wr.heap.size := HZ.out.lt
      have HG' := HG
      clear hrow hbnd HG HV HO
      rcases hcase with ⟨e, hne, hX, hpn⟩ | hX
      · rw [hX] at hmk
        have HM := hid hmk
        have HP := hid (parseVal_bad hpn)
        clear hmk hX hpn
        go_wp2_with fail
        refine HM.out.mono ?_; rintro e1 w1 ⟨rfl, hb1⟩
        have Z1 := hid (HZ.out.below hb1 HZ.out.lt)
        have W1 := hid (HW.out.trans (hb1.mono (by omega)))
        have hw1 : w.heap.size < w1.heap.size := Z1.out.lt
        have B1 : Hid (Box (w1.alloc (.cells (cellsOf fun _ => false) 24)) w1.heap.size (fun _ => false)) := box_new w1 _
        clear hb1
        go_wp2_with (first | (at_builtin; fail) | (refine wpList_store_row rfl 24 _ _ rfl w1.heap.size _ rfl rfl 24 _ B1.out (infoBits _) (sizes _ _) (oneCells _) (Hid.out ?_)))
        have B2 : Hid (Box ((w1.alloc (.cells (cellsOf fun _ => false) 24)).setRow w1.heap.size (cellsOf fun _ => false)) w1.heap.size (fun _ => false)) := box_size B1.out
        have W2 : Hid (Below w.heap.size w ((w1.alloc (.cells (cellsOf fun _ => false) 24)).setRow w1.heap.size (cellsOf fun _ => false))) := below_setRow (W1.out.alloc (by omega) _) (by omega) _
        have Z2 : Hid (Box ((w1.alloc (.cells (cellsOf fun _ => false) 24)).setRow w1.heap.size (cellsOf fun _ => false)) w.heap.size (fun _ => false)) := (setRow_other _ _ _ _ (by omega)).trans (Z1.out.below (below_alloc w1 _) Z1.out.lt)
        generalize (w1.alloc (.cells (cellsOf fun _ => false) 24)).setRow w1.heap.size (cellsOf fun _ => false) = w2 at B2 W2 Z2 ⊢
        refine hid ?_
        clear B1 W1 Z1 HM
        go_wp2_with (first | (at_builtin; fail) | (refine wpList_store_row rfl 24 _ _ rfl w.heap.size _ rfl rfl 24 _ Z2.out (infoBits _) (sizes _ _) (oneCells _) ?_))
        exact bodyPost_ret (v := .tuple #[.agg (cellsOf fun _ => false), .int .i64 20]) (ret_box2 rfl rfl rfl (box_size Z2.out)) rfl ⟨by rw [HP.out], below_setRow W2.out (Nat.le_refl _) _⟩
      · rw [hX] at hmk
        have HM := hid hmk
        clear hmk hX
        obtain ⟨X, hXe⟩ : ∃ X, X = ofList l := ⟨_, rfl⟩
        rw [← hXe] at HM
        have HPr : Hid (∀ W, Calls Tryd.prog 19 #[.agg (cellsOf X)] W fun e w' => (∃ T : List UInt8, e = .returned (.string ⟨T.toArray⟩) ∧ ((T = s ∧ parseVal s = .tuple #[.agg (cellsOf X), .int .i64 0]) ∨ (T ≠ s ∧ parseVal s = .tuple #[.agg (cellsOf fun _ => false), .int .i64 20]))) ∧ Below W.heap.size W w') := fun W => by
          refine (rPrint_any X W).mono ?_
          rintro e w' ⟨⟨k, hk, rfl⟩, hb⟩
          refine ⟨⟨_, rfl, ?_⟩, hb⟩
          have hpk := parseAll_print hk.chain
          by_cases hs : print k = s
          · rw [hs] at hpk
            have hlk := good_last (HG'.out k hs.symm hk.chain) (by omega)
            exact .inl ⟨hs, by rw [parseVal_ok hpk, hXe, hlk]⟩
          · refine .inr ⟨hs, ?_⟩
            cases hp : parseAll s with
            | none => exact parseVal_bad hp
            | some L =>
              exfalso
              obtain ⟨h1, h2⟩ := parseAll_sound hp
              have hlL := good_last (HG'.out L h1 h2) (by omega)
              subst hlL
              rw [hXe] at hk
              exact hs (by rw [hk.unique (chain_runs h2)]; exact h1.symm)
        clear hXe HG'
        go_wp2_with fail
        refine HM.out.mono ?_; rintro e1 w1 ⟨rfl, hb1⟩
        have Z1 := hid (HZ.out.below hb1 HZ.out.lt)
        have W1 := hid (HW.out.trans (hb1.mono (by omega)))
        have hw1 : w.heap.size < w1.heap.size := Z1.out.lt
        have B1 : Hid (Box (w1.alloc (.cells (cellsOf fun _ => false) 24)) w1.heap.size (fun _ => false)) := box_new w1 _
        clear hb1
        go_wp2_with (first | (at_builtin; fail) | (refine wpList_store_row rfl 24 _ _ rfl w1.heap.size _ rfl rfl 24 _ B1.out (infoBits _) (sizes _ _) (oneCells _) (Hid.out ?_)))
        have B2 : Hid (Box ((w1.alloc (.cells (cellsOf fun _ => false) 24)).setRow w1.heap.size (cellsOf X)) w1.heap.size X) := box_size B1.out
        have W2 : Hid (Below w.heap.size w ((w1.alloc (.cells (cellsOf fun _ => false) 24)).setRow w1.heap.size (cellsOf X))) := below_setRow (W1.out.alloc (by omega) _) (by omega) _
        have Z2 : Hid (Box ((w1.alloc (.cells (cellsOf fun _ => false) 24)).setRow w1.heap.size (cellsOf X)) w.heap.size (fun _ => false)) := (setRow_other _ _ _ _ (by omega)).trans (Z1.out.below (below_alloc w1 _) Z1.out.lt)
        generalize (w1.alloc (.cells (cellsOf fun _ => false) 24)).setRow w1.heap.size (cellsOf X) = w2 at B2 W2 Z2 ⊢
        generalize w1.heap.size = b2 at B2 hw1 ⊢
        refine hid ?_
        clear B1 W1 Z1 HM
        go_wp2_with (first | (at_builtin; fail) | (refine wpList_load_want rfl 24 _ rfl b2 rfl 24 _ (0, 0) _ B2.out Tryd.underlying24 rfl (infoBits _) (Hid.out ?_)))
        refine hid ?_
        go_wp2_with fail
        refine (HPr.out w2).mono ?_; rintro e1 w3 ⟨⟨T, rfl, hT⟩, hb3⟩
        have B3 := hid (B2.out.below hb3 B2.out.lt)
        have Z3 := hid (Z2.out.below hb3 Z2.out.lt)
        have W3 := hid (W2.out.trans (hb3.mono (by have := Z2.out.lt; omega)))
        clear hb3 HPr
        rcases hT with ⟨rfl, hpv⟩ | ⟨hne, hpv⟩
        · have HPV := hid hpv
          clear hpv
          go_wp2_with (first | (at_builtin; fail) | (refine wpList_load_row rfl 24 _ rfl b2 rfl 24 _ (0, 0) _ B3.out Tryd.underlying24 rfl (infoBits _) ?_) | (refine wpList_store_row rfl 24 _ _ rfl w.heap.size _ rfl rfl 24 _ Z3.out (infoBits _) (sizes _ _) (oneCells _) ?_))
          exact bodyPost_ret (v := .tuple #[.agg (cellsOf X), .int .i64 0]) (ret_box2 rfl rfl rfl (box_size Z3.out)) rfl ⟨by rw [HPV.out], below_setRow W3.out (Nat.le_refl _) _⟩
        · have HPV := hid hpv
          have hneq : (T == s) = false := beq_eq_false_iff_ne.2 hne
          clear hpv hne
          go_wp2_with (first | (at_builtin; fail) | (refine wpList_store_row rfl 24 _ _ rfl w.heap.size _ rfl rfl 24 _ Z3.out (infoBits _) (sizes _ _) (oneCells _) ?_))
          exact bodyPost_ret (v := .tuple #[.agg (cellsOf fun _ => false), .int .i64 20]) (ret_box2 rfl rfl rfl (box_size Z3.out)) rfl ⟨by rw [HPV.out], below_setRow W3.out (Nat.le_refl _) _⟩

end Go.Proofs.YtgpdbcigogkkbaaDoor
