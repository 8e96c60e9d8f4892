/- The document's dict: Names, Delete. -/
import Derived.Test.YtphegggekcjenaaDoorRefStep
namespace Go.Proofs.YtphegggekcjenaaDoor
open Go.RowKit

/-- the names -/
def namesL {α : Type} (l : Its α) : Row := l.map (·.1)
theorem names_take {l : Its Int} {i : Nat} (h : i < l.length) : (namesL l).take (i + 1) = (namesL l).take i ++ [l[i].1] := by
  rw [List.take_succ_eq_append_getElem (by simpa [namesL] using h)]
  simp [namesL]
set_option maxHeartbeats 2000000 in
set_option maxRecDepth 100000 in
/-- ref Names -/
theorem rnames_any (P : Nat → Prop) (v : Value) (l : Its Int) (r k : Nat) (w : World) (h : It P w v l) (hl : l.length ≤ 800000) :
    Calls Tryd.prog 30 #[rdV v r k] w fun e w' => ∃ q d, e = .returned (.slice q l.length d) ∧ Hid (Tl (fun j => w.heap.size ≤ j) w' (.slice q l.length d) (namesL l) ∧ Below w.heap.size w w') := by
  obtain ⟨p, c, rfl, -⟩ := h.shape
  have hba := below_alloc w (.cells #[.slice p l.length c, .int .i64 r, .int .i64 k] 26)
  have H := hid (h.below hba)
  have H0 := hid (heap_alloc_new w (.cells #[.slice p l.length c, .int .i64 r, .int .i64 k] 26))
  have HB := hid hba
  have hnl : (namesL l).length = l.length := by simp [namesL]
  have HN := hid hnl
  have hsz1 : (w.alloc (.cells #[.slice p l.length c, .int .i64 r, .int .i64 k] 26)).heap.size = w.heap.size + 1 := by simp
  have HS1 := hid hsz1
  clear h hba hnl hsz1
  go_enter Tryd.func30, Tryd.ntmps30
  go_wp2_with fail
  go_loopw [3, 4] (fun v3 v4 W => ∃ (i : Nat) (q : Option Addr) (d : Nat), v4 = .int .i64 i ∧ v3 = .slice q i d ∧ i ≤ l.length ∧ Hid (Own (w.heap.size + 1) W (.slice q i d) ((namesL l).take i)) ∧ Hid (Below (w.heap.size + 1) (w.alloc (.cells #[.slice p l.length c, .int .i64 r, .int .i64 k] 26)) W)) (fun _ v4 _ => l.length - (intOf v4).toNat)
  case atStart => exact ⟨0, none, 0, rfl, rfl, Nat.zero_le _, World.ownsRow_nil _ _ _ _, Below.refl _ _⟩
  case round =>
    obtain ⟨i, q, d, rfl, rfl, hi, HO, HW⟩ := hrel
    have hrd := (HW.out.block w.heap.size (by omega)).trans H0.out
    have y0 : wr.cell? ⟨w.heap.size, 0, none⟩ = some (.slice p l.length c) := cell_of_row wr _ 0 _ _ _ hrd
    clear hrd
    by_cases hlt : i < l.length
    · have hlz : (i : Int) < (l.length : Int) := by omega
      obtain ⟨g, o, rfl, hg, -, hc⟩ := H.out.cells i hlt
      have x0 : wr.cell? ⟨g, o + i * 2, none⟩ = some (txt l[i].1) := cell_turn (hc i hlt).1 (HW.out.block g (by have := HS1.out; omega))
      have hws : w.heap.size + 1 ≤ wr.heap.size := by have := HW.out.size; have := HS1.out; omega
      obtain ⟨v', W', hrun, ho', hb'⟩ := HO.out.push hws l[i].1 (by simp; omega)
      rw [← names_take hlt] at ho'
      obtain ⟨q', d', rfl, -⟩ := ho'.shape
      have hl' : ((namesL l).take (i + 1)).length = i + 1 := by have := HN.out; simp; omega
      rw [hl'] at hrun ho'
      have HR := hid hrun
      have HO' : Hid (Own (w.heap.size + 1) W' (.slice q' (i + 1) d') ((namesL l).take (i + 1))) := ho'
      have HW' := hid (HW.out.trans hb')
      generalize l[i].1 = t at *
      clear hc hrun ho' hb' hl'
      go_wp2_with (refine wpList_append_runs rfl _ _ 40 40 rfl _ _ _ _ rfl rfl HR.out (Hid.out ?_))
      refine hid ?_
      go_wp2_with fail
      exact ⟨⟨i + 1, q', d', by go_num, rfl, by omega, HO'.out, HW'.out⟩, by simp [intOf]; omega⟩
    · obtain rfl : i = l.length := by omega
      rw [List.take_of_length_le (by have := HN.out; omega)] at HO
      go_wp2_with fail
      go_ret
      exact ⟨q, d, rfl, HO.out.tl (fun k hk => by show w.heap.size ≤ k; omega), HB.out.trans (HW.out.mono (by omega))⟩

end Go.Proofs.YtphegggekcjenaaDoor
