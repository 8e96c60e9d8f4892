/- The program's dict: New, Len, Rooms, begin. -/
import Derived.Test.YtphegggekcjenaaDoorDIStep
import Derived.Laws.MakeOwn
namespace Go.Proofs.YtphegggekcjenaaDoor.DI
open Go.RowKit

theorem infoR : (Tryd.prog.info? 73).map (fun i => (i.zero, i.size, i.bytes)) = some (some (.slice none 0 0), 1, 24) := by kernel_rfl
theorem make_tab (n : Nat) (k : Int) (hk : k = n) (hn : n ≤ 1000000) (u : World) : (Instr.makeSlice 66 (.int .i64 k) (.int .i64 k)).run Tryd.prog u =
    .ok (.slice (some ⟨u.heap.size, 0, none⟩) n n) (u.alloc (.cells (List.replicate n (.slice none 0 0)).toArray 73)) := by
  subst hk
  obtain ⟨i0, hi, hz0, hz1, hz2⟩ := info_parts infoR
  have h := run_make (P := Tryd.prog) u 66 73 i0 (.slice none 0 0) Tryd.underlying66 hi hz0 .i64 .i64 (n : Int) (n : Int) (by omega) (Int.le_refl _) (by rw [hz2]; omega) (by omega)
  have e : madeCells (Value.slice none 0 0).cells n = (List.replicate n (.slice none 0 0)).toArray := by
    apply Array.ext'
    rw [show (Value.slice none 0 0).cells = #[Value.slice none 0 0] from rfl, toList_madeCells_one]
  rw [hz1, Nat.mul_one, Int.toNat_natCast, e] at h
  exact h
theorem TabIs.empty (w : World) (g : Tg) (e : Bool) (nb k : Nat) (h : w.heap[nb]? = some (.cells (List.replicate k (.slice none 0 0)).toArray 73 (0, 0))) (hg : g nb = some (.tab e)) : TabIs w g e nb (List.replicate k []) :=
  ⟨_, h, by simp, hg, fun i hi => ⟨.slice none 0 0, by simp at hi; simp [hi], by simpa using Room.nil w, fun k h => by cases h⟩⟩
theorem TabIs.retag {w w' : World} {g g' : Tg} {e e' : Bool} {nb : Nat} {l : Tb Int} (h : TabIs w g e nb l) (h1 : ∀ k, g k = some (.tab e) → g' k = some (.tab e') ∧ w'.heap[k]? = w.heap[k]?) (h2 : ∀ k i, g k = some (.room e i) → g' k = some (.room e' i) ∧ w'.heap[k]? = w.heap[k]?) : TabIs w' g' e' nb l := by
  obtain ⟨rv, a, b, c, d⟩ := h
  refine ⟨rv, (h1 nb c).2.trans a, b, (h1 nb c).1, fun i hi => ?_⟩
  obtain ⟨u, x, y, z⟩ := d i hi
  exact ⟨u, x, y.turn (fun k hk => (h2 k i (z k hk)).2), fun k hk => (h2 k i (z k hk)).1⟩
set_option maxHeartbeats 2000000 in
set_option maxRecDepth 100000 in
/-- Len -/
theorem len_any {B : Nat} {w : World} {g : Tg} {b nb : Nat} {ev : Value} {T : TM Int} {many : Nat} (h : Lies B w g b nb ev T many) :
    Calls Tryd.prog 18 #[.pointer (some ⟨b, 0, none⟩)] w fun e w' => e = .returned (.int .i64 many) ∧ w' = w := by
  obtain ⟨_, _, _, c3⟩ := h.cells
  clear h
  go_enter Tryd.func18, Tryd.ntmps18
  go_wp2
  go_ret
  exact ⟨rfl, rfl⟩
set_option maxHeartbeats 2000000 in
set_option maxRecDepth 100000 in
/-- New -/
theorem new_any (w : World) :
    Calls Tryd.prog 12 #[] w fun e w' => e = .returned (.pointer (some ⟨w.heap.size + 1, 0, none⟩)) ∧ Hid (w' = (w.alloc (.cells (List.replicate 4 (.slice none 0 0)).toArray 73)).alloc (.cells #[.slice (some ⟨w.heap.size, 0, none⟩) 4 4, .slice none 0 0, .int .i64 0, .int .i64 0] 68)) := by
  have k1 := make_tab 4 4 rfl (by omega)
  generalize (List.replicate 4 (Value.slice none 0 0)).toArray = Z at *
  go_enter Tryd.func12, Tryd.ntmps12
  go_wp2
  go_ret
  exact ⟨rfl, rfl⟩
def newT (m : Nat) : Tg := fun k => if k = m then some (.tab false) else if k = m + 1 then some .dict else none
theorem new_lies (B : Nat) (w : World) (hB : B ≤ w.heap.size) : Lies B ((w.alloc (.cells (List.replicate 4 (.slice none 0 0)).toArray 73)).alloc (.cells #[.slice (some ⟨w.heap.size, 0, none⟩) 4 4, .slice none 0 0, .int .i64 0, .int .i64 0] 68)) (newT w.heap.size) (w.heap.size + 1) w.heap.size (.slice none 0 0) ⟨List.replicate 4 [], [], 0⟩ 0 where
  head := heap_alloc2_new w _ _
  tag := by unfold newT; rw [if_neg (by omega), if_pos rfl]
  nw := TabIs.empty _ _ _ _ 4 (heap_alloc2_old w _ _) (if_pos rfl)
  el := .inl ⟨rfl, rfl⟩
  lt := fun k hk => by
    unfold newT at hk
    split at hk
    · simp; omega
    · split at hk
      · simp; omega
      · exact absurd rfl hk
set_option maxHeartbeats 2000000 in
set_option maxRecDepth 100000 in
/-- begin -/
theorem begin_run {B : Nat} {w : World} {g : Tg} {b nb : Nat} {T : TM Int} {many : Nat} (h : Lies B w g b nb (.slice none 0 0) T many) (k : Nat) (hk : k ≤ 1000000) :
    Calls Tryd.prog 39 #[.pointer (some ⟨b, 0, none⟩), .int .i64 k] w fun e w' => e = .returned (.tuple #[]) ∧ Hid (w' = (((w.setCell ⟨b, 1, none⟩ (.slice (some ⟨nb, 0, none⟩) T.nw.length T.nw.length)).setCell ⟨b, 0, none⟩ (.slice (some ⟨w.heap.size, 0, none⟩) k k)).alloc (.cells (List.replicate k (.slice none 0 0)).toArray 73)).drew) := by
  have k1 := make_tab k k rfl hk
  obtain ⟨c0, c1, _, _⟩ := h.cells
  have f0 := h.frozen 0
  have f1 := h.frozen 1
  have hbl := (h.lt b (by rw [h.tag]; simp)).1
  generalize (List.replicate k (Value.slice none 0 0)).toArray = Z at *
  clear h
  go_enter Tryd.func39, Tryd.ntmps39
  go_wp2_with fail
  go_region
  all_goals go_wp2_with fail
  all_goals go_end0
  all_goals exact ⟨rfl, rfl⟩
/-- the newer table is the elder one -/
def Tg.next (g : Tg) (m : Nat) : Tg := fun k => if k = m then some (.tab false) else match g k with
  | some .dict => some .dict
  | some (.tab false) => some (.tab true)
  | some (.room false i) => some (.room true i)
  | _ => none
theorem Tg.next_some {g : Tg} {m k : Nat} (h : Tg.next g m k ≠ none) : k = m ∨ g k ≠ none := by
  unfold Tg.next at h
  split at h
  · exact .inl ‹_›
  · refine .inr (fun e => ?_)
    rw [e] at h
    exact h rfl
theorem begin_any {B : Nat} {w : World} {g : Tg} {b nb : Nat} {T : TM Int} {many : Nat} (h : Lies B w g b nb (.slice none 0 0) T many) (hB : B ≤ w.heap.size) (h0 : T.nw ≠ []) (k : Nat) (hk : k ≤ 1000000) :
    Calls Tryd.prog 39 #[.pointer (some ⟨b, 0, none⟩), .int .i64 k] w fun e w' => e = .returned (.tuple #[]) ∧ Hid (∃ g' nb' ev', Lies B w' g' b nb' ev' ⟨List.replicate k [], T.nw, T.tk⟩ many ∧ Turn g g' w w') := by
  refine (begin_run h k hk).mono fun e w' ⟨he, hw⟩ => ⟨he, ?_⟩
  have hw : w' = _ := hw
  subst hw
  have hbl := (h.lt b (by rw [h.tag]; simp)).1
  have hlt : ∀ i, g i ≠ none → i ≠ w.heap.size := fun i hi e => by have := (h.lt i hi).1; omega
  have hother : ∀ i, i ≠ b → i < w.heap.size → ((((w.setCell ⟨b, 1, none⟩ (.slice (some ⟨nb, 0, none⟩) T.nw.length T.nw.length)).setCell ⟨b, 0, none⟩ (.slice (some ⟨w.heap.size, 0, none⟩) k k)).alloc (.cells (List.replicate k (.slice none 0 0)).toArray 73)).drew).heap[i]? = w.heap[i]? := fun i hi hil => by
    show (((w.setCell _ _).setCell _ _).alloc _).heap[i]? = _
    rw [heap_alloc_old _ _ (by simpa using hil), heap_setCell_other _ _ _ _ hi, heap_setCell_other _ _ _ _ hi]
  have hnb : ∀ i, g i = some (.tab false) → (Tg.next g w.heap.size) i = some (.tab true) ∧ ((((w.setCell ⟨b, 1, none⟩ (.slice (some ⟨nb, 0, none⟩) T.nw.length T.nw.length)).setCell ⟨b, 0, none⟩ (.slice (some ⟨w.heap.size, 0, none⟩) k k)).alloc (.cells (List.replicate k (.slice none 0 0)).toArray 73)).drew).heap[i]? = w.heap[i]? := fun i hi =>
    ⟨by unfold Tg.next; rw [if_neg (hlt i (by rw [hi]; simp)), hi], hother i (fun e => by rw [e, h.tag] at hi; cases hi) (h.lt i (by rw [hi]; simp)).1⟩
  refine ⟨Tg.next g w.heap.size, w.heap.size, .slice (some ⟨nb, 0, none⟩) T.nw.length T.nw.length, ⟨?_, ?_, ?_, .inr ⟨nb, rfl, h0, ?_⟩, ?_⟩, ⟨⟨rfl, rfl, rfl, by simp, fun i hi hg => hother i (fun e => by rw [e, h.tag] at hg; cases hg) hi⟩, fun i hi => ?_⟩⟩
  · show (((w.setCell _ _).setCell _ _).alloc _).heap[b]? = _
    rw [heap_alloc_old _ _ (by simpa using hbl)]
    have := heap_setCell_same _ b 0 _ _ (.slice (some ⟨w.heap.size, 0, none⟩) k k) (heap_setCell_same _ b 1 _ _ (.slice (some ⟨nb, 0, none⟩) T.nw.length T.nw.length) h.head)
    simpa [headC] using this
  · unfold Tg.next; rw [if_neg (by omega), h.tag]
  · refine TabIs.empty _ _ _ _ k ?_ (if_pos rfl)
    have := heap_alloc_new ((w.setCell ⟨b, 1, none⟩ (.slice (some ⟨nb, 0, none⟩) T.nw.length T.nw.length)).setCell ⟨b, 0, none⟩ (.slice (some ⟨w.heap.size, 0, none⟩) k k)) (.cells (List.replicate k (.slice none 0 0)).toArray 73)
    rwa [show ((w.setCell ⟨b, 1, none⟩ (.slice (some ⟨nb, 0, none⟩) T.nw.length T.nw.length)).setCell ⟨b, 0, none⟩ (.slice (some ⟨w.heap.size, 0, none⟩) k k)).heap.size = w.heap.size by simp] at this
  · exact h.nw.retag hnb (fun i j hi => ⟨by unfold Tg.next; rw [if_neg (hlt i (by rw [hi]; simp)), hi], hother i (fun e => by rw [e, h.tag] at hi; cases hi) (h.lt i (by rw [hi]; simp)).1⟩)
  · intro i hi
    rcases Tg.next_some hi with rfl | hi
    · simp; omega
    · have := h.lt i hi
      simp; omega
  · rcases Tg.next_some hi with rfl | hi
    · exact .inr (Nat.le_refl _)
    · exact .inl hi
set_option maxHeartbeats 2000000 in
set_option maxRecDepth 100000 in
/-- Rooms -/
theorem rooms_any {B : Nat} {w : World} {g : Tg} {b nb : Nat} {ev : Value} {T : TM Int} {many : Nat} (h : Lies B w g b nb ev T many) (hF : Fit T) (htk : T.tk ≤ T.el.length) :
    Calls Tryd.prog 24 #[.pointer (some ⟨b, 0, none⟩)] w fun e w' => e = .returned (.tuple #[.int .i64 T.nw.length, .int .i64 (T.el.length - T.tk : Nat)]) ∧ Hid (Below w.heap.size w w') := by
  obtain ⟨c0, c1, c2, _⟩ := h.cells
  obtain ⟨p, c, rfl⟩ : ∃ p c, ev = .slice p T.el.length c := by
    rcases h.el with ⟨rfl, e⟩ | ⟨eb, rfl, _⟩
    · exact ⟨none, 0, by rw [e]; rfl⟩
    · exact ⟨_, _, rfl⟩
  have h1 := hF.nN
  have h2 := hF.eN
  have hd : (T.el.length : Int) - (T.tk : Int) = ((T.el.length - T.tk : Nat) : Int) := by omega
  generalize ((T.el.length - T.tk : Nat) : Int) = d at *
  clear h
  have HB := hid (Below.refl w.heap.size w).drew
  go_enter Tryd.func24, Tryd.ntmps24
  go_wp2_with fail
  go_region
  all_goals go_wp2_with fail
  all_goals go_ret2
  all_goals exact ⟨rfl, HB⟩

end Go.Proofs.YtphegggekcjenaaDoor.DI
