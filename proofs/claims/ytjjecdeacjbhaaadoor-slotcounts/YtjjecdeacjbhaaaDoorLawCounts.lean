/- The walk of the law SlotCounts. -/
import Derived.Test.YtjjecdeacjbhaaaDoorRefAll
import Derived.Test.YtjjecdeacjbhaaaDoorAlive
import Derived.RegionTactic
namespace Go.Proofs.YtjjecdeacjbhaaaDoor
open Go.RowKit
open Slot

/-- a whole array is read: one step of a region that draws -/
theorem step_load {P : Program} {ops : Array Oper} {o : Oper} {a : Act} {w : World} {K : Act → World → Prop} {Q : Exit → Act → World → Prop} {E : Prop} (hw : Region.wanted o (yielded ops a.tmps) = true) (ty : TypeId) (x : Operand) (ho : o.op = .load ty x)
    (g : Nat) (hx : a.eval x = .pointer (some ⟨g, 0, none⟩)) (t : TypeId) (cs : Array Value) (fr : Nat × Nat) (d : TypeDesc) (hg : w.heap[g]? = some (.cells cs t fr))
    (hu : P.underlying ty = some d) (hd : (match d with | .struct _ | .array _ _ => true | _ => false) = true) (hi : (P.info? ty).map (·.size) = some cs.size)
    (h : K (a.put o.dst (.agg cs)) w) : if Region.wanted o (yielded ops a.tmps) = true then o.wp P a w K Q else E := by
  rw [if_pos hw]
  exact wp_load_row ty x ho g hx t cs fr d hg hu hd hi h
theorem owns_len {w : World} {B : Nat} {e : TypeId} {size : Nat} {v : Value} {n : Nat} {xs : List Value} (h : w.ownsRow B e size v n xs) : ∃ a cap, v = .slice a n cap := by
  rcases h.2 with ⟨rfl, rfl⟩ | ⟨g, cap, cur, rfl, _⟩
  · exact ⟨none, 0, rfl⟩
  · exact ⟨_, cap, rfl⟩
theorem upto_count (S : Nat → Bool) : (upto S 16384).length = count S 16384 := count_filter S 16384

set_option maxHeartbeats 2000000 in
set_option maxRecDepth 100000 in
theorem slotCounts_walk (S : Nat → Bool) (w : World) (hE : Env w) :
    Calls Tryd.prog 7 #[.agg (cellsOf S)] w fun e w' => e = .returned (.bool true) ∧ Below w.heap.size w w' := by
  have HB0 := hid (box_new w S)
  have HW0 := hid (below_alloc w (.cells (cellsOf S) 30))
  have HA : Hid (∀ W, Below w.heap.size w W → Calls Tryd.prog 9 #[] W fun e w' => e = .returned (.bool true) ∧ Below W.heap.size W w') := fun W hb => alive_any W (hE.below hb hE.room)
  have HCt := hid fun W => count_any S W
  have HAl := hid fun W => rAll_any S W
  have HCo := hid (upto_count S)
  have hco := count_le S 16384
  clear hE
  go_enter Tryd.func7, Tryd.ntmps7
  go_wp2_with fail
  generalize w.alloc (.cells (cellsOf S) 30) = w0 at *
  refine wp_region_any (by kernel_rfl) ?_
  change wpAny _ _ _ _ _ _ _ (World.drew _)
  refine wpAny_ready (rs := [0]) (by kernel_rfl) (by simp) ?_
  refine AllReady.cons rfl (fun K hK => ?_) ?_
  rotate_left
  · exact AllReady.nil
  go_simp
  go_wp2_with (go_at_call 9; refine (HA.out _ (Below.drew HW0.out)).mono ?_; rintro e w1 ⟨rfl, hb1⟩)
  have B1 := hid (HB0.out.below (n := w0.heap.size) (w := w0.drew) hb1 HB0.out.lt)
  have W1 := hid ((Below.drew HW0.out).trans (hb1.mono HW0.out.size))
  clear hb1
  refine wpAny_ready (rs := [1]) (by kernel_rfl) (by simp) ?_
  refine AllReady.cons rfl (fun K hK => ?_) ?_
  rotate_left
  · exact AllReady.nil
  go_simp
  refine hK _ _ ?_
  clear hK K
  refine wpAny_ready (rs := [2, 4]) (by kernel_rfl) (by simp) ?_
  refine AllReady.cons rfl (fun K hK => ?_) ?_
  · refine step_load rfl 30 _ rfl w.heap.size rfl 30 _ (0, 0) _ B1.out Tryd.underlying30 rfl (infoBits _) (hK _ _ ?_)
    clear hK K
    refine wpAny_ready (rs := [3, 4]) (by kernel_rfl) (by simp) ?_
    refine AllReady.cons rfl (fun K hK => ?_) ?_
    · go_simp
      go_wp2_with (go_at_call 18; refine (HCt.out _).mono ?_; rintro e w2 ⟨rfl, hb2⟩)
      have B2 := hid (B1.out.below hb2 B1.out.lt)
      have W2 := hid (W1.out.trans (hb2.mono W1.out.size))
      clear hb2
      refine wpAny_ready (rs := [4]) (by kernel_rfl) (by simp) ?_
      refine AllReady.cons rfl (fun K hK => ?_) ?_
      rotate_left
      · exact AllReady.nil
      refine step_load rfl 30 _ rfl w.heap.size rfl 30 _ (0, 0) _ B2.out Tryd.underlying30 rfl (infoBits _) (hK _ _ ?_)
      clear hK K
      refine wpAny_ready (rs := [5]) (by kernel_rfl) (by simp) ?_
      refine AllReady.cons rfl (fun K hK => ?_) ?_
      rotate_left
      · exact AllReady.nil
      go_simp
      go_wp2_with (go_at_call 19; refine (HAl.out _).mono ?_; rintro e w3 ⟨⟨v, rfl, ho⟩, hb3⟩)
      have W3 := hid (W2.out.trans (hb3.mono W2.out.size))
      obtain ⟨a, cap, hv⟩ := owns_len ho
      rw [HCo.out] at hv
      subst hv
      clear hb3 ho
      refine wpAny_ready (rs := [6]) (by kernel_rfl) (by simp) ?_
      refine AllReady.cons rfl (fun K hK => ?_) ?_
      rotate_left
      · exact AllReady.nil
      go_simp
      refine hK _ _ ?_
      clear hK K
      refine wpAny_ready (rs := [7]) (by kernel_rfl) (by simp) ?_
      refine AllReady.cons rfl (fun K hK => ?_) ?_
      rotate_left
      · exact AllReady.nil
      go_simp
      refine hK _ _ ?_
      clear hK K
      refine wpAny_ready (rs := [8]) (by kernel_rfl) (by simp) ?_
      refine AllReady.cons rfl (fun K hK => ?_) ?_
      rotate_left
      · exact AllReady.nil
      go_simp
      refine hK _ _ ?_
      clear hK K
      refine wpAny_ready (rs := [9]) (by kernel_rfl) (by simp) ?_
      refine AllReady.cons rfl (fun K hK => ?_) ?_
      rotate_left
      · exact AllReady.nil
      go_simp
      refine hK _ _ ?_
      clear hK K
      refine wpAny_done (by kernel_rfl) ?_ _
      go_wp2
      go_ret
      exact ⟨ret_bool (by simp), W3.out⟩
    · refine AllReady.cons rfl (fun K hK => ?_) ?_
      rotate_left
      · exact AllReady.nil
      refine step_load rfl 30 _ rfl w.heap.size rfl 30 _ (0, 0) _ B1.out Tryd.underlying30 rfl (infoBits _) (hK _ _ ?_)
      clear hK K
      refine wpAny_ready (rs := [3]) (by kernel_rfl) (by simp) ?_
      refine AllReady.cons rfl (fun K hK => ?_) ?_
      rotate_left
      · exact AllReady.nil
      go_simp
      go_wp2_with (go_at_call 18; refine (HCt.out _).mono ?_; rintro e w2 ⟨rfl, hb2⟩)
      have B2 := hid (B1.out.below hb2 B1.out.lt)
      have W2 := hid (W1.out.trans (hb2.mono W1.out.size))
      clear hb2
      refine wpAny_ready (rs := [5]) (by kernel_rfl) (by simp) ?_
      refine AllReady.cons rfl (fun K hK => ?_) ?_
      rotate_left
      · exact AllReady.nil
      go_simp
      go_wp2_with (go_at_call 19; refine (HAl.out _).mono ?_; rintro e w3 ⟨⟨v, rfl, ho⟩, hb3⟩)
      have W3 := hid (W2.out.trans (hb3.mono W2.out.size))
      obtain ⟨a, cap, hv⟩ := owns_len ho
      rw [HCo.out] at hv
      subst hv
      clear hb3 ho
      refine wpAny_ready (rs := [6]) (by kernel_rfl) (by simp) ?_
      refine AllReady.cons rfl (fun K hK => ?_) ?_
      rotate_left
      · exact AllReady.nil
      go_simp
      refine hK _ _ ?_
      clear hK K
      refine wpAny_ready (rs := [7]) (by kernel_rfl) (by simp) ?_
      refine AllReady.cons rfl (fun K hK => ?_) ?_
      rotate_left
      · exact AllReady.nil
      go_simp
      refine hK _ _ ?_
      clear hK K
      refine wpAny_ready (rs := [8]) (by kernel_rfl) (by simp) ?_
      refine AllReady.cons rfl (fun K hK => ?_) ?_
      rotate_left
      · exact AllReady.nil
      go_simp
      refine hK _ _ ?_
      clear hK K
      refine wpAny_ready (rs := [9]) (by kernel_rfl) (by simp) ?_
      refine AllReady.cons rfl (fun K hK => ?_) ?_
      rotate_left
      · exact AllReady.nil
      go_simp
      refine hK _ _ ?_
      clear hK K
      refine wpAny_done (by kernel_rfl) ?_ _
      go_wp2
      go_ret
      exact ⟨ret_bool (by simp), W3.out⟩
  · refine AllReady.cons rfl (fun K hK => ?_) ?_
    rotate_left
    · exact AllReady.nil
    refine step_load rfl 30 _ rfl w.heap.size rfl 30 _ (0, 0) _ B1.out Tryd.underlying30 rfl (infoBits _) (hK _ _ ?_)
    clear hK K
    refine wpAny_ready (rs := [2]) (by kernel_rfl) (by simp) ?_
    refine AllReady.cons rfl (fun K hK => ?_) ?_
    rotate_left
    · exact AllReady.nil
    refine step_load rfl 30 _ rfl w.heap.size rfl 30 _ (0, 0) _ B1.out Tryd.underlying30 rfl (infoBits _) (hK _ _ ?_)
    clear hK K
    refine wpAny_ready (rs := [3]) (by kernel_rfl) (by simp) ?_
    refine AllReady.cons rfl (fun K hK => ?_) ?_
    rotate_left
    · exact AllReady.nil
    go_simp
    go_wp2_with (go_at_call 18; refine (HCt.out _).mono ?_; rintro e w2 ⟨rfl, hb2⟩)
    have B2 := hid (B1.out.below hb2 B1.out.lt)
    have W2 := hid (W1.out.trans (hb2.mono W1.out.size))
    clear hb2
    refine wpAny_ready (rs := [5]) (by kernel_rfl) (by simp) ?_
    refine AllReady.cons rfl (fun K hK => ?_) ?_
    rotate_left
    · exact AllReady.nil
    go_simp
    go_wp2_with (go_at_call 19; refine (HAl.out _).mono ?_; rintro e w3 ⟨⟨v, rfl, ho⟩, hb3⟩)
    have W3 := hid (W2.out.trans (hb3.mono W2.out.size))
    obtain ⟨a, cap, hv⟩ := owns_len ho
    rw [HCo.out] at hv
    subst hv
    clear hb3 ho
    refine wpAny_ready (rs := [6]) (by kernel_rfl) (by simp) ?_
    refine AllReady.cons rfl (fun K hK => ?_) ?_
    rotate_left
    · exact AllReady.nil
    go_simp
    refine hK _ _ ?_
    clear hK K
    refine wpAny_ready (rs := [7]) (by kernel_rfl) (by simp) ?_
    refine AllReady.cons rfl (fun K hK => ?_) ?_
    rotate_left
    · exact AllReady.nil
    go_simp
    refine hK _ _ ?_
    clear hK K
    refine wpAny_ready (rs := [8]) (by kernel_rfl) (by simp) ?_
    refine AllReady.cons rfl (fun K hK => ?_) ?_
    rotate_left
    · exact AllReady.nil
    go_simp
    refine hK _ _ ?_
    clear hK K
    refine wpAny_ready (rs := [9]) (by kernel_rfl) (by simp) ?_
    refine AllReady.cons rfl (fun K hK => ?_) ?_
    rotate_left
    · exact AllReady.nil
    go_simp
    refine hK _ _ ?_
    clear hK K
    refine wpAny_done (by kernel_rfl) ?_ _
    go_wp2
    go_ret
    exact ⟨ret_bool (by simp), W3.out⟩

end Go.Proofs.YtjjecdeacjbhaaaDoor
