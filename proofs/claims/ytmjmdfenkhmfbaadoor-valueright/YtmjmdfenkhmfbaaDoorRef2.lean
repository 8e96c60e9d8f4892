/- The document's names and values. -/
import Derived.Test.YtmjmdfenkhmfbaaDoorRef1
namespace Go.Proofs.YtmjmdfenkhmfbaaDoor
open Go.RowKit

set_option maxHeartbeats 2000000 in
set_option maxRecDepth 100000 in
/-- ref names -/
theorem names_any (p : Option Addr) (c : Nat) (l : List (Nm × Nm)) (w : World) (h : Prs w p l) (hl : l.length ≤ 1000000) :
    Calls Tryd.prog 28 #[.slice p l.length c] w fun e w' => ∃ q d, e = .returned (.slice q l.length d) ∧ Hid (Own w.heap.size w' (.slice q l.length d) (l.map (·.1)) ∧ Below w.heap.size w w') := by
  have H := hid h
  have hlz : (l.length : Int) ≤ 1000000 := by omega
  clear h
  go_enter Tryd.func28, Tryd.ntmps28
  go_wp2_with fail
  go_loopw [3, 4] (fun v3 v4 W => ∃ (i : Nat) (q : Option Addr) (d : Nat), v4 = .int .i64 i ∧ v3 = .slice q i d ∧ i ≤ l.length ∧ Hid (Own w.heap.size W (.slice q i d) ((l.take i).map (·.1))) ∧ Hid (Below w.heap.size w W)) (fun _ v4 _ => l.length - (intOf v4).toNat)
  case atStart => exact ⟨0, none, 0, rfl, rfl, Nat.zero_le _, World.ownsRow_nil _ _ _ _, Below.refl _ _⟩
  case round =>
    obtain ⟨i, q, d, rfl, rfl, hi, HO, HW⟩ := hrel
    by_cases hlt : i < l.length
    · have hiz : (i : Int) < (l.length : Int) := by omega
      obtain ⟨b, o, rfl, hc⟩ := H.out (fun e => by rw [e] at hlt; simp at hlt)
      have x0 := (hc i hlt).1
      have hblt : b < w.heap.size := block_lt_of_cell x0
      have HS : Hid ((l.take (i + 1)).map (·.1) = (l.take i).map (·.1) ++ [l[i].1]) := by
        rw [Hid, List.take_succ_eq_append_getElem hlt, List.map_append]; rfl
      have y0 := cell_turn x0 (HW.out.block b hblt)
      have hlen : ((l.take i).map (·.1)).length = i := by simp; omega
      obtain ⟨v2, W2, hrun2, ho2, hb2⟩ := HO.out.push HW.out.size l[i].1 (by omega)
      obtain ⟨q2, d2, rfl, -⟩ := ho2.shape
      rw [← HS.out] at ho2 hrun2
      have hl2 : ((l.take (i + 1)).map (·.1)).length = i + 1 := by simp; omega
      rw [hl2] at hrun2 ho2
      have HR2 := hid hrun2
      have HO2 := hid ho2
      have HW2 := hid (HW.out.trans hb2)
      generalize l[i].1 = t at *
      clear hc x0 hrun2 ho2 hb2 hlen hl2 HS
      go_wp2_with (refine wpList_append_runs rfl _ _ 23 23 rfl _ _ _ _ rfl rfl HR2.out (Hid.out ?_))
      refine hid ?_
      go_wp2_with fail
      exact ⟨⟨i + 1, q2, d2, by go_num, rfl, by omega, HO2.out, HW2.out⟩, by simp [intOf]; omega⟩
    · have hil : i = l.length := by omega
      subst hil
      rw [List.take_length] at HO
      go_wp2_with fail
      go_ret
      exact ⟨q, d, rfl, HO.out, HW.out⟩

set_option maxHeartbeats 2000000 in
set_option maxRecDepth 100000 in
/-- ref values -/
theorem values_any (p : Option Addr) (c : Nat) (l : List (Nm × Nm)) (w : World) (h : Prs w p l) (hl : l.length ≤ 1000000) :
    Calls Tryd.prog 31 #[.slice p l.length c] w fun e w' => ∃ q d, e = .returned (.slice q l.length d) ∧ Hid (Own w.heap.size w' (.slice q l.length d) (l.map (·.2)) ∧ Below w.heap.size w w') := by
  have H := hid h
  have hlz : (l.length : Int) ≤ 1000000 := by omega
  clear h
  go_enter Tryd.func31, Tryd.ntmps31
  go_wp2_with fail
  go_loopw [3, 4] (fun v3 v4 W => ∃ (i : Nat) (q : Option Addr) (d : Nat), v4 = .int .i64 i ∧ v3 = .slice q i d ∧ i ≤ l.length ∧ Hid (Own w.heap.size W (.slice q i d) ((l.take i).map (·.2))) ∧ Hid (Below w.heap.size w W)) (fun _ v4 _ => l.length - (intOf v4).toNat)
  case atStart => exact ⟨0, none, 0, rfl, rfl, Nat.zero_le _, World.ownsRow_nil _ _ _ _, Below.refl _ _⟩
  case round =>
    obtain ⟨i, q, d, rfl, rfl, hi, HO, HW⟩ := hrel
    by_cases hlt : i < l.length
    · have hiz : (i : Int) < (l.length : Int) := by omega
      obtain ⟨b, o, rfl, hc⟩ := H.out (fun e => by rw [e] at hlt; simp at hlt)
      have x0 := (hc i hlt).2
      have hblt : b < w.heap.size := block_lt_of_cell x0
      have HS : Hid ((l.take (i + 1)).map (·.2) = (l.take i).map (·.2) ++ [l[i].2]) := by
        rw [Hid, List.take_succ_eq_append_getElem hlt, List.map_append]; rfl
      have y0 := cell_turn x0 (HW.out.block b hblt)
      have hlen : ((l.take i).map (·.2)).length = i := by simp; omega
      obtain ⟨v2, W2, hrun2, ho2, hb2⟩ := HO.out.push HW.out.size l[i].2 (by omega)
      obtain ⟨q2, d2, rfl, -⟩ := ho2.shape
      rw [← HS.out] at ho2 hrun2
      have hl2 : ((l.take (i + 1)).map (·.2)).length = i + 1 := by simp; omega
      rw [hl2] at hrun2 ho2
      have HR2 := hid hrun2
      have HO2 := hid ho2
      have HW2 := hid (HW.out.trans hb2)
      generalize l[i].2 = t at *
      clear hc x0 hrun2 ho2 hb2 hlen hl2 HS
      go_wp2_with (refine wpList_append_runs rfl _ _ 23 23 rfl _ _ _ _ rfl rfl HR2.out (Hid.out ?_))
      refine hid ?_
      go_wp2_with fail
      exact ⟨⟨i + 1, q2, d2, by go_num, rfl, by omega, HO2.out, HW2.out⟩, by simp [intOf]; omega⟩
    · have hil : i = l.length := by omega
      subst hil
      rw [List.take_length] at HO
      go_wp2_with fail
      go_ret
      exact ⟨q, d, rfl, HO.out, HW.out⟩

end Go.Proofs.YtmjmdfenkhmfbaaDoor
