/- XH. -/
import Derived.Test.YtcbncdigejjcpaaGreatDoorM43
import Derived.Test.YtcbncdigejjcpaaGreatDoorM25
import Derived.Test.YtcbncdigejjcpaaGreatDoorM15
namespace Go.Proofs.YtcbncdigejjcpaaGreatDoor.Ex
open Re (Rep)
open Go.RowKit

theorem dq_turn {w w' : World} {g : Nat} {l : Row} (h : Dk.Dq w g l) (he : w'.heap[g]? = w.heap[g]?) : Dk.Dq w' g l := by
  obtain ⟨cs, f, h1, h2⟩ := h
  exact ⟨cs, f, he.trans h1, h2⟩
theorem dq_lt {w : World} {g : Nat} {l : Row} (h : Dk.Dq w g l) : g < w.heap.size := by
  obtain ⟨cs, f, h1, _⟩ := h
  exact (Array.getElem?_eq_some_iff.1 h1).1
theorem dq_below {w w' : World} {g : Nat} {l : Row} (h : Dk.Dq w g l) (hb : Below w.heap.size w w') : Dk.Dq w' g l := dq_turn h (hb.block g (dq_lt h))
theorem keep_below {N g : Nat} {w w' : World} (h : Keep (Dk.But g) w w') (hN : N ≤ g) (hs : N ≤ w.heap.size) : Below N w w' := ⟨h.os, h.tape, h.output, h.size, fun k hk => h.block k (by omega) (by show k ≠ g; omega)⟩
set_option maxHeartbeats 4000000 in
set_option maxRecDepth 100000 in
/-- rowOf -/
theorem rowOf_any (p : Option Addr) (c : Nat) (l : Row) (w : World) (h : Rd w p c l) (hl : l.length ≤ 256) :
    Calls Tryz.prog 161 #[.slice p l.length c] w fun e w' => ∃ g, e = .returned (pt g) ∧ Hid (w.heap.size ≤ g ∧ Dk.Dq w' g l ∧ Below w.heap.size w w') := by
  have HN := hid (Dk.new_any w)
  have HR := hid h
  have HP := hid (fun g L s W h => Dk.push_any g L false s W h)
  have hlz : (l.length : Int) ≤ 256 := by omega
  clear h
  go_enter Tryz.func161, Tryz.ntmps161
  go_wp2_with fail
  refine HN.out.mono ?_; rintro e w1 ⟨rfl, rfl⟩
  have HB1 := hid (below_alloc w (.cells Dk.zeros 170))
  have HD1 := hid (Dk.zeros_dq w)
  generalize w.alloc (.cells Dk.zeros 170) = w1 at *
  go_wp2_with fail
  go_loopw [9] (fun v9 W => ∃ i : Nat, v9 = .int .i64 i ∧ i ≤ l.length ∧ Hid (Dk.Dq W w.heap.size (l.take i)) ∧ Hid (Below w.heap.size w W)) (fun v9 _ => l.length - (intOf v9).toNat)
  case atStart => exact ⟨0, rfl, Nat.zero_le _, by simpa [Hid] using HD1.out, HB1.out⟩
  case round =>
    obtain ⟨i, rfl, hi, HD, HB⟩ := hrel
    by_cases hlt : i < l.length
    · have hiz : (i : Int) < (l.length : Int) := by omega
      obtain ⟨b, o, rfl, hc⟩ := HR.out.strs (fun e => by rw [e] at hlt; simp at hlt)
      have hci : wr.cell? ⟨b, o + i, none⟩ = some (txt l[i]) := cell_turn (hc i hlt) (HB.out.block b (block_lt_of_cell (hc i hlt)))
      have HX := hid (show Dk.pushL (l.take i) false l[i] = l.take (i + 1) by
        unfold Dk.pushL
        rw [if_neg (by simp; omega), List.take_succ_eq_append_getElem hlt]
        rfl)
      have HP1 := hid (HP.out w.heap.size (l.take i) l[i] wr HD.out)
      rw [HX.out] at HP1
      clear hc
      generalize l[i] = s at *
      go_wp2_with fail
      refine HP1.out.mono ?_; rintro e w2 ⟨rfl, hh⟩
      have HD2 := hid hh.out.1
      have HB2 := hid (HB.out.trans (keep_below hh.out.2 (Nat.le_refl _) HB.out.size))
      clear hh
      go_wp2_with fail
      exact ⟨⟨i + 1, by go_num, by omega, HD2.out, HB2.out⟩, by simp [intOf]; omega⟩
    · have et : l.take i = l := List.take_of_length_le (by omega)
      rw [et] at HD
      go_wp2_with fail
      go_ret
      exact ⟨_, rfl, Nat.le_refl _, HD.out, HB.out⟩
/-- a closure that works on a row -/
abbrev RowDo (w : World) (F : Nat) (cb : Array Value) (l l' : Row) (r : Rep) : Prop := ∀ (N : Nat) (W : World) (g : Nat), w.heap.size ≤ N → Below w.heap.size w W → N ≤ g → Dk.Dq W g l →
  Calls Tryz.prog F (#[pt g] ++ cb) W fun e w' => ∃ q d, e = .returned (rval r q d) ∧ Hid (∃ lx, Re.Rp (fun k => W.heap.size ≤ k) w' 2 (rval r q d) r ∧ Dk.Dq w' g lx ∧ (r.kind ≠ 2 → lx = l') ∧ Below N W w')
set_option maxHeartbeats 4000000 in
set_option maxRecDepth 100000 in
theorem lookRow_1 (m : Vl) (pp : Option Addr) (pc' : Nat) (ip : Option Addr) (ic : Nat) (is : Bool) (w w0 : World) (tb F : Nat) (cb : Array Value) (l' : Row) (r : Rep) (hw0 : Below w0.heap.size w0 w) (eg : ∀ args w, (callFunc F args).run Tryz.prog w = .ok (.enter F args) w) (ht : w.cell? ⟨tb, 0, none⟩ = some (.func (.func F) #[] cb)) (hV : Rd w ip ic m.items) (hl : m.items.length ≤ 256) (hD : RowDo w0 F cb m.items l' r) :
    Tell w.heap.size 163 #[vv m pp pc' ip ic, .bool is, pt tb] w r := by
  have HA := hid (al_two w (vob m pp pc' ip ic) rob0)
  obtain ⟨a0, a1, a2, a3, a4, a5⟩ := val_facts HA.out.2.1
  have htl := block_lt_of_cell ht
  have ht0 : ((w.alloc (vob m pp pc' ip ic)).alloc rob0).drew.cell? ⟨tb, 0, none⟩ = some (.func (.func F) #[] cb) := cell_turn ht (HA.out.1.block tb htl)
  have HR := hid (rowOf_any ip ic m.items ((w.alloc (vob m pp pc' ip ic)).alloc rob0).drew ((hV.below HA.out.1).below (Below.refl _ _).drew) hl)
  have HD := hid hD
  have HB0 := hid hw0
  have HS0 : Hid (((w.alloc (vob m pp pc' ip ic)).alloc rob0).drew.heap.size = w.heap.size + 2) := HA.out.2.2.2
  have HBd : Hid (Below w.heap.size w ((w.alloc (vob m pp pc' ip ic)).alloc rob0).drew) := HA.out.1.drew
  have Ht := hid ht
  clear hV hD hw0 ht
  go_enter Tryz.func163, Tryz.ntmps163
  go_wp2_with fail
  go_region_law
    (first
      | (go_simp; go_at_call 161; (with_reducible refine HR.out.mono ?_); rintro e w1 ⟨g, rfl, hh⟩; have hs1 : w.heap.size + 2 ≤ w1.heap.size := (by have := hh.out.2.2.size; rw [HS0.out] at this; exact this); have HG1 : Hid (w.heap.size + 2 ≤ g) := (by have := hh.out.1; rw [HS0.out] at this; exact this); have HD1 := hid hh.out.2.1; have HB1 := hid (HBd.out.trans (hh.out.2.2.mono HBd.out.size)); have HZ1 := hid ((hh.out.2.2.block (w.heap.size + 1) (by rw [HS0.out]; omega)).trans HA.out.2.2.1); have ht1 := cell_turn Ht.out (HB1.out.block tb htl); clear hh)
      | (go_simp; (with_reducible refine (HD.out (w.heap.size + 2) w1 g (by have := HB0.out.size; omega) (HB0.out.trans (HB1.out.mono HB0.out.size)) HG1.out HD1.out).mono ?_); rintro e w2 ⟨q, d, rfl, hh⟩; obtain ⟨lx, hr2, hd2, hl2, hb2⟩ := hh.out; have HZ2 := hid ((hb2.block (w.heap.size + 1) (by omega)).trans HZ1.out); have HB2 := hid (HB1.out.trans (hb2.mono (by omega))); have HR2 := hid hr2; obtain ⟨c0, c1, c2, c3⟩ := rep_facts HZ2.out; obtain ⟨f0, f1, f2, f3⟩ := rep_frozen HZ2.out; clear hh hr2 hd2 hl2 hb2))
  all_goals
    go_wp2_with fail
    refine bodyPost_ret (v := rval r q d) ?_ rfl ?_
    · exact Re.ret_rep1 rfl rfl (set4_same _ _ _ _ HZ2.out)
    · have hk := set4_keep w2 (w.heap.size + 1) (.int .i64 r.kind) (.int .i64 r.int) (txt r.text) (.slice q r.list.length d)
      exact ⟨q, d, rfl, HR2.out.turn (fun j hj hl => ⟨by omega, hk.block j hl (by show j ≠ _; omega)⟩) (Nat.le_refl _), keep_one HB2.out hk (by omega) HB2.out.size⟩

end Go.Proofs.YtcbncdigejjcpaaGreatDoor.Ex
