/- The document's sets: Make, Without, Right, Union, Some. -/
import Derived.Test.YtpbokncojemihaaRefSets
import Derived.BigQuiet
namespace Go.Proofs.Ytpbokncojemihaa
open Go.RowKit

set_option maxHeartbeats 2000000 in
set_option maxRecDepth 100000 in
/-- ref Make -/
theorem rmake_any (p : Option Addr) (c : Nat) (l : Row) (w : World) (h : Rd w p c l) (hl : l.length ≤ 700000) :
    Calls Try.prog 15 #[.slice p l.length c] w fun e w' => ∃ q d, e = .returned (.slice q (mk l).length d) ∧ Hid (Own w.heap.size w' (.slice q (mk l).length d) (mk l) ∧ Below w.heap.size w w') := by
  have H := hid h.strs
  have hlz : (l.length : Int) ≤ 700000 := by omega
  clear h
  go_enter Try.func15, Try.ntmps15
  go_wp2_with fail
  go_loopw [3, 4] (fun v3 v4 W => ∃ (i : Nat) (q : Option Addr) (d : Nat), v4 = .int .i64 i ∧ v3 = .slice q (mk (l.take i)).length d ∧ i ≤ l.length ∧ Hid (Own w.heap.size W (.slice q (mk (l.take i)).length d) (mk (l.take i))) ∧ Hid (Below w.heap.size w W)) (fun _ v4 _ => l.length - (intOf v4).toNat)
  case atStart => exact ⟨0, none, 0, rfl, rfl, Nat.zero_le _, World.ownsRow_nil _ _ _ _, Below.refl _ _⟩
  case round =>
    obtain ⟨i, q, d, rfl, rfl, hi, HO, HW⟩ := hrel
    by_cases hlt : i < l.length
    · have hiz : (i : Int) < (l.length : Int) := by omega
      obtain ⟨b, o, rfl, hc⟩ := H.out (fun e => by rw [e] at hlt; simp at hlt)
      have x0 := cell_turn (hc i hlt) (HW.out.block b (block_lt_of_cell (hc i hlt)))
      have HNx : Hid (mk (l.take (i + 1)) = ins l[i] (mk (l.take i))) := insAll_take hlt
      have hlm := len_mk (l.take i)
      have hlm2 : (mk (l.take i)).length ≤ 700000 := by simp at hlm; omega
      have HWi := hid (rwith_any q d (mk (l.take i)) l[i] wr HO.out.rd (by omega))
      rw [← HNx.out] at HWi
      generalize l[i] = t at *
      generalize hM2 : mk (l.take (i + 1)) = M2 at *
      generalize mk (l.take i) = M1 at *
      clear hc hlm
      go_wp2_with fail
      refine HWi.out.mono ?_; rintro e w2 ⟨q2, d2, rfl, hh⟩
      have HO2 := hid (hh.out.1.base HW.out.size)
      have HW2 := hid (HW.out.trans (hh.out.2.mono HW.out.size))
      clear hh
      go_wp2_with fail
      exact ⟨⟨i + 1, q2, d2, by go_num, by rw [hM2], by omega, by rw [hM2]; exact HO2.out, HW2.out⟩, by simp [intOf]; omega⟩
    · obtain rfl : i = l.length := by omega
      rw [List.take_length] at HO ⊢
      go_wp2_with fail
      go_ret
      exact ⟨q, d, rfl, HO.out, HW.out⟩

theorem del_take {l : Row} {i : Nat} (h : i < l.length) (s : Nm) : del s (l.take (i + 1)) = if l[i] = s then del s (l.take i) else del s (l.take i) ++ [l[i]] := by
  rw [List.take_succ_eq_append_getElem h]
  unfold del
  rw [List.filter_append]
  by_cases e : l[i] = s <;> simp [e]
set_option maxHeartbeats 2000000 in
set_option maxRecDepth 100000 in
/-- ref Without -/
theorem rwithout_any (p : Option Addr) (c : Nat) (l : Row) (s : Nm) (w : World) (h : Rd w p c l) (hl : l.length ≤ 800000) :
    Calls Try.prog 21 #[.slice p l.length c, txt s] w fun e w' => ∃ q d, e = .returned (.slice q (del s l).length d) ∧ Hid (Own w.heap.size w' (.slice q (del s l).length d) (del s l) ∧ Below w.heap.size w w') := by
  have H := hid h.strs
  have hlz : (l.length : Int) ≤ 800000 := by omega
  clear h
  go_enter Try.func21, Try.ntmps21
  go_wp2_with fail
  go_loopw [5, 6] (fun v5 v6 W => ∃ (i m : Nat) (q : Option Addr) (d : Nat), v6 = .int .i64 i ∧ v5 = .slice q m d ∧ i ≤ l.length ∧ Hid (m = (del s (l.take i)).length) ∧ Hid (Own w.heap.size W (.slice q m d) (del s (l.take i))) ∧ Hid (Below w.heap.size w W)) (fun _ v6 _ => l.length - (intOf v6).toNat)
  case atStart => exact ⟨0, 0, none, 0, rfl, rfl, Nat.zero_le _, rfl, World.ownsRow_nil _ _ _ _, Below.refl _ _⟩
  case round =>
    obtain ⟨i, m, q, d, rfl, rfl, hi, HM, HO, HW⟩ := hrel
    by_cases hlt : i < l.length
    · have hiz : (i : Int) < (l.length : Int) := by omega
      obtain ⟨b, o, rfl, hc⟩ := H.out (fun e => by rw [e] at hlt; simp at hlt)
      have x0 := cell_turn (hc i hlt) (HW.out.block b (block_lt_of_cell (hc i hlt)))
      have HDt := hid (del_take hlt s)
      generalize l[i] = t at *
      clear hc
      by_cases e : t = s
      · rw [if_pos e] at HDt
        have heq : (t == s) = true := beq_iff_eq.2 e
        clear e
        go_wp2_with fail
        exact ⟨⟨i + 1, m, q, d, by go_num, rfl, by omega, by rw [HDt.out]; exact HM.out, by rw [HDt.out]; exact HO.out, HW.out⟩, by simp [intOf]; omega⟩
      · rw [if_neg e] at HDt
        have hne : (t == s) = false := beq_eq_false_iff_ne.2 e
        obtain ⟨v3, W3, hrun3, ho3, hb3⟩ := HO.out.push HW.out.size t (by have := len_del s (l.take i); simp at this; omega)
        obtain ⟨q3, d3, rfl, -⟩ := ho3.shape
        have hl3 : (del s (l.take i) ++ [t]).length = m + 1 := by rw [List.length_append, ← HM.out]; rfl
        rw [hl3] at hrun3 ho3
        have HL3 := hid hl3
        have HR3 := hid hrun3
        have HO3 := hid ho3
        have HW3 := hid (HW.out.trans hb3)
        clear hrun3 ho3 hb3 hl3 e
        go_wp2_with (refine wpList_append_runs rfl _ _ 22 22 rfl _ _ _ _ rfl rfl HR3.out (Hid.out ?_))
        refine hid ?_
        go_wp2_with fail
        exact ⟨⟨i + 1, m + 1, q3, d3, by go_num, rfl, by omega, by rw [HDt.out]; exact HL3.out.symm, by rw [HDt.out]; exact HO3.out, HW3.out⟩, by simp [intOf]; omega⟩
    · obtain rfl : i = l.length := by omega
      rw [List.take_length] at HM HO
      obtain rfl := HM.out
      go_wp2_with fail
      go_ret
      exact ⟨q, d, rfl, HO.out, HW.out⟩
/-- those of a that are in b, or are not -/
def someL (a b : Row) (i : Bool) : Row := if i then meet a b else less a b
theorem some_take {a b : Row} {i : Nat} (h : i < a.length) (f : Bool) : someL (a.take (i + 1)) b f = if (decide (a[i] ∈ b) == f) = true then someL (a.take i) b f ++ [a[i]] else someL (a.take i) b f := by
  rw [List.take_succ_eq_append_getElem h]
  unfold someL meet less
  cases f
  · simp only [Bool.false_eq_true, if_false, List.filter_append]
    by_cases e : a[i] ∈ b <;> simp [e]
  · simp only [if_true, List.filter_append]
    by_cases e : a[i] ∈ b <;> simp [e]
theorem len_some (a b : Row) (f : Bool) : (someL a b f).length ≤ a.length := by unfold someL; split; exact len_meet a b; exact len_less a b
set_option maxHeartbeats 2000000 in
set_option maxRecDepth 100000 in
/-- ref Some -/
theorem rsome_any (p : Option Addr) (c : Nat) (a : Row) (p' : Option Addr) (c' : Nat) (b : Row) (f : Bool) (w : World) (h : Rd w p c a) (h' : Rd w p' c' b) (hl : a.length ≤ 800000) (hl' : b.length ≤ 1000000) :
    Calls Try.prog 22 #[.slice p a.length c, .slice p' b.length c', .bool f] w fun e w' => ∃ q d, e = .returned (.slice q (someL a b f).length d) ∧ Hid (Own w.heap.size w' (.slice q (someL a b f).length d) (someL a b f) ∧ Below w.heap.size w w') := by
  have H := hid h.strs
  have H' := hid h'
  have hlz : (a.length : Int) ≤ 800000 := by omega
  clear h h'
  go_enter Try.func22, Try.ntmps22
  go_wp2_with fail
  go_loopw [7, 8] (fun v7 v8 W => ∃ (i m : Nat) (q : Option Addr) (d : Nat), v8 = .int .i64 i ∧ v7 = .slice q m d ∧ i ≤ a.length ∧ Hid (m = (someL (a.take i) b f).length) ∧ Hid (Own w.heap.size W (.slice q m d) (someL (a.take i) b f)) ∧ Hid (Below w.heap.size w W)) (fun _ v8 _ => a.length - (intOf v8).toNat)
  case atStart => exact ⟨0, 0, none, 0, rfl, rfl, Nat.zero_le _, by cases f <;> rfl, by rw [show someL (a.take 0) b f = [] by cases f <;> rfl]; exact World.ownsRow_nil _ _ _ _, Below.refl _ _⟩
  case round =>
    obtain ⟨i, m, q, d, rfl, rfl, hi, HM, HO, HW⟩ := hrel
    by_cases hlt : i < a.length
    · have hiz : (i : Int) < (a.length : Int) := by omega
      obtain ⟨g, o, rfl, hc⟩ := H.out (fun e => by rw [e] at hlt; simp at hlt)
      have hgl : g < w.heap.size := block_lt_of_cell (hc i hlt)
      have x0 := cell_turn (hc i hlt) (HW.out.block g hgl)
      have HDt := hid (some_take (b := b) hlt f)
      have HHas := hid (rhas_any p' c' b a[i] wr (H'.out.below HW.out) hl')
      generalize a[i] = t at *
      clear hc
      generalize decide (t ∈ b) = B0 at *
      by_cases e : (B0 == f) = true
      · rw [if_pos e] at HDt
        obtain ⟨v3, W3, hrun3, ho3, hb3⟩ := HO.out.push HW.out.size t (by have := len_some (a.take i) b f; simp at this; omega)
        obtain ⟨q3, d3, rfl, -⟩ := ho3.shape
        have hl3 : (someL (a.take i) b f ++ [t]).length = m + 1 := by rw [List.length_append, ← HM.out]; rfl
        rw [hl3] at hrun3 ho3
        have HL3 := hid hl3
        have HR3 := hid hrun3
        have HO3 := hid ho3
        have HW3 := hid (HW.out.trans hb3)
        clear hrun3 ho3 hb3 hl3
        go_wp2_with fail
        refine HHas.out.mono ?_; rintro e' w2 ⟨rfl, rfl⟩
        go_wp2_with (refine wpList_append_runs rfl _ _ 22 22 rfl _ _ _ _ rfl rfl HR3.out (Hid.out ?_))
        refine hid ?_
        go_wp2_with fail
        exact ⟨⟨i + 1, m + 1, q3, d3, by go_num, rfl, by omega, by rw [HDt.out]; exact HL3.out.symm, by rw [HDt.out]; exact HO3.out, HW3.out⟩, by simp [intOf]; omega⟩
      · rw [if_neg e] at HDt
        have hne : (B0 == f) = false := by simpa using e
        clear e
        go_wp2_with fail
        refine HHas.out.mono ?_; rintro e' w2 ⟨rfl, rfl⟩
        go_wp2_with fail
        exact ⟨⟨i + 1, m, q, d, by go_num, rfl, by omega, by rw [HDt.out]; exact HM.out, by rw [HDt.out]; exact HO.out, HW.out⟩, by simp [intOf]; omega⟩
    · obtain rfl : i = a.length := by omega
      rw [List.take_length] at HM HO
      obtain rfl := HM.out
      go_wp2_with fail
      go_ret
      exact ⟨q, d, rfl, HO.out, HW.out⟩
set_option maxHeartbeats 2000000 in
set_option maxRecDepth 100000 in
/-- ref Union -/
theorem runion_any (p : Option Addr) (c : Nat) (a : Row) (p' : Option Addr) (c' : Nat) (b : Row) (w : World) (h : Rd w p c a) (h' : Rd w p' c' b) (hl : a.length + b.length ≤ 700000) :
    Calls Try.prog 24 #[.slice p a.length c, .slice p' b.length c'] w fun e w' => ∃ q d, e = .returned (.slice q (insAll a b).length d) ∧ Hid (Own w.heap.size w' (.slice q (insAll a b).length d) (insAll a b) ∧ Below w.heap.size w w') := by
  have HBa := hid (below_alloc w (.cells #[] 9))
  obtain ⟨v1, w1, hrun, ho1, hb1⟩ := Own.app0 (B := w.heap.size) (W := w.alloc (.cells #[] 9)) (v := .slice (some ⟨w.heap.size, 0, none⟩) 0 0) (l := []) (World.ownsRow_lit w #[] 0 (Nat.le_refl _) (by decide) rfl) (by simp) p c a (h.strs.below HBa.out) h.nil h.cap (by simp; omega)
  rw [List.nil_append] at ho1
  obtain ⟨q1, d1, rfl, -⟩ := ho1.shape
  have HR := hid hrun
  have HO1 := hid ho1
  have HW1 := hid (HBa.out.trans hb1)
  have H := hid h'.strs
  have hlz : (b.length : Int) ≤ 700000 := by omega
  clear h h' hrun ho1 hb1
  go_enter Try.func24, Try.ntmps24
  go_wp2_with (refine wpList_append_runs rfl _ _ 22 22 rfl _ _ _ _ rfl rfl HR.out (Hid.out ?_))
  refine hid ?_
  go_wp2_with fail
  go_loopw [5, 6] (fun v5 v6 W => ∃ (i : Nat) (q : Option Addr) (d : Nat), v6 = .int .i64 i ∧ v5 = .slice q (insAll a (b.take i)).length d ∧ i ≤ b.length ∧ Hid (Own w.heap.size W (.slice q (insAll a (b.take i)).length d) (insAll a (b.take i))) ∧ Hid (Below w.heap.size w W)) (fun _ v6 _ => b.length - (intOf v6).toNat)
  case atStart => exact ⟨0, q1, d1, rfl, rfl, Nat.zero_le _, HO1.out, HW1.out⟩
  case round =>
    obtain ⟨i, q, d, rfl, rfl, hi, HO, HW⟩ := hrel
    by_cases hlt : i < b.length
    · have hiz : (i : Int) < (b.length : Int) := by omega
      obtain ⟨g, o, rfl, hc⟩ := H.out (fun e => by rw [e] at hlt; simp at hlt)
      have hgl : g < w.heap.size := block_lt_of_cell (hc i hlt)
      have x0 := cell_turn (hc i hlt) (HW.out.block g hgl)
      have HNx : Hid (insAll a (b.take (i + 1)) = ins b[i] (insAll a (b.take i))) := insAll_take hlt
      have hlm := len_insAll (b.take i) a
      have hlm2 : (insAll a (b.take i)).length ≤ 700000 := by simp at hlm; omega
      have HWi := hid (rwith_any q d (insAll a (b.take i)) b[i] wr HO.out.rd (by omega))
      rw [← HNx.out] at HWi
      generalize b[i] = t at *
      generalize hM2 : insAll a (b.take (i + 1)) = M2 at *
      generalize insAll a (b.take i) = M1 at *
      clear hc hlm
      go_wp2_with fail
      refine HWi.out.mono ?_; rintro e w2 ⟨q2, d2, rfl, hh⟩
      have HO2 := hid (hh.out.1.base HW.out.size)
      have HW2 := hid (HW.out.trans (hh.out.2.mono HW.out.size))
      clear hh
      go_wp2_with fail
      exact ⟨⟨i + 1, q2, d2, by go_num, by rw [hM2], by omega, by rw [hM2]; exact HO2.out, HW2.out⟩, by simp [intOf]; omega⟩
    · obtain rfl : i = b.length := by omega
      rw [List.take_length] at HO ⊢
      go_wp2_with fail
      go_ret
      exact ⟨q, d, rfl, HO.out, HW.out⟩

end Go.Proofs.Ytpbokncojemihaa
