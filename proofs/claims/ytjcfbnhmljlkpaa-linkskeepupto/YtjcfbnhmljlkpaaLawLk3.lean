/- The walk of the law LinksOrder. -/
import Derived.Test.YtjcfbnhmljlkpaaLawLk2
namespace Go.Proofs.Ytjcfbnhmljlkpaa
open Go.RowKit

/-- links alone, on their way -/
structure Go1 (LB : World → Nat → (Nat → Prop) → (Nat → Prop) → List Wy → Prop) (w W : World) (b : Nat) (F Rr : Nat → Prop) (ws : List Wy) : Prop where
  lb : LB W b F Rr ws
  low : ∀ k, F k ∨ Rr k → w.heap.size ≤ k
  bel : Below w.heap.size w W
theorem Go1.below {LB : World → Nat → (Nat → Prop) → (Nat → Prop) → List Wy → Prop} (C : LinksIs LB) {w W W' : World} {b : Nat} {F Rr : Nat → Prop} {ws : List Wy} (h : Go1 LB w W b F Rr ws) (hb : Below W.heap.size W W') : Go1 LB w W' b F Rr ws :=
  ⟨C.keep h.lb (fun k hk => hb.block k (C.lt h.lb k hk)) hb.size, h.low, h.bel.trans (hb.mono h.bel.size)⟩
theorem Go1.kp {LB : World → Nat → (Nat → Prop) → (Nat → Prop) → List Wy → Prop} {w W W' : World} {b : Nat} {F Rr F' R' : Nat → Prop} {ws ws' : List Wy} (h : Go1 LB w W b F Rr ws) (hlb : LB W' b F' R' ws') (hk : Kp F F' Rr R' W W') : Go1 LB w W' b F' R' ws' :=
  ⟨hlb, fun k hc => by
    have := h.bel.size
    rcases hc with hc | hc
    · exact (hk.foot k hc).elim (fun e => h.low k (.inl e)) (fun e => by omega)
    · exact (hk.rows k hc).elim (fun e => h.low k (.inr e)) (fun e => by omega), h.bel.trans (hk.below (fun k hf => h.low k (.inl hf)) h.bel.size)⟩
theorem Go1.num {LB : World → Nat → (Nat → Prop) → (Nat → Prop) → List Wy → Prop} (C : LinksIs LB) {w W : World} {b : Nat} {F Rr : Nat → Prop} {ws : List Wy} (h : Go1 LB w W b F Rr ws) (f t n : Int) (hie : IE f t) (hl : ws.length ≤ 100000) :
    Calls Try.prog 14 #[ptr b, .int .i64 f, .int .i64 t, .agg (numC n)] W fun e W' => e = .returned (.tuple #[]) ∧ Hid (∃ F' R', Go1 LB w W' b F' R' (ws ++ [⟨f, t, numLt n⟩])) := by
  refine (C.num h.lb f t n hie hl).mono ?_
  rintro e W' ⟨rfl, hh⟩
  obtain ⟨F', R', h1, h2⟩ := hh.out
  exact ⟨rfl, F', R', h.kp h1 h2⟩
theorem Go1.next {LB : World → Nat → (Nat → Prop) → (Nat → Prop) → List Wy → Prop} (C : LinksIs LB) {w W : World} {b : Nat} {F Rr : Nat → Prop} {ws : List Wy} (h : Go1 LB w W b F Rr ws) (f t : Int) (hie : IE f t) (hl : ws.length ≤ 100000) :
    Calls Try.prog 15 #[ptr b, .int .i64 f, .int .i64 t] W fun e W' => ∃ ap ac rp rc, e = .returned (.tuple #[.agg (ltC (headV ws f t) ap ac rp rc), .bool (!(onV ws f t).isEmpty)]) ∧ Hid (∃ F' R', LtR R' W' (headV ws f t) ap rp ∧ Go1 LB w W' b F' R' (cutV ws f t)) := by
  refine (C.next h.lb f t hie hl).mono ?_
  rintro e W' ⟨ap, ac, rp, rc, rfl, hh⟩
  obtain ⟨F', R', h1, h2, h3⟩ := hh.out
  exact ⟨ap, ac, rp, rc, rfl, F', R', h1, h.kp h2 h3⟩
/-- a row of numbers that was handed in -/
def GivenI (w : World) (p : Option Addr) (l : List Int) : Prop := l ≠ [] → ∃ b o, p = some ⟨b, o, none⟩ ∧ b < w.heap.size ∧ ∀ i (h : i < l.length), w.cell? ⟨b, o + i, none⟩ = some (.int .i64 l[i])
theorem GivenI.below {w w' : World} {p : Option Addr} {l : List Int} (h : GivenI w p l) (k : Below w.heap.size w w') : GivenI w' p l := fun hne => by
  obtain ⟨b, o, rfl, hl, hc⟩ := h hne
  exact ⟨b, o, rfl, Nat.lt_of_lt_of_le hl k.size, fun i hi => cell_turn (hc i hi) (k.block b hl)⟩
theorem cutV_len (l : List Wy) (f t : Int) : (cutV l f t).length ≤ l.length := by
  induction l with
  | nil => simp [cutV]
  | cons y l ih => simp only [cutV]; split <;> simp <;> omega
set_option maxHeartbeats 8000000 in
set_option maxRecDepth 100000 in
/-- LinksOrder -/
theorem order_any {LB : World → Nat → (Nat → Prop) → (Nat → Prop) → List Wy → Prop} (C : LinksIs LB) (p : Option Addr) (l : List Int) (c : Nat) (f t : Int) (w : World) (hG : GivenI w p l) (hie : IE f t) :
    Calls Try.prog 5 #[.slice p l.length c, .agg #[.int .i64 f, .int .i64 t]] w fun e w' => e = .returned (.bool true) ∧ Below w.heap.size w w' := by
  have hb0 := below_alloc w (.cells (prC (f, t)) 41)
  have hX0 : (w.alloc (.cells (prC (f, t)) 41)).heap[w.heap.size]? = some (.cells (prC (f, t)) 41 (0, 0)) := heap_alloc_new w _
  obtain ⟨w0, hw0⟩ : ∃ W, w.alloc (.cells (prC (f, t)) 41) = W := ⟨_, rfl⟩
  rw [hw0] at hb0 hX0
  have hs0 : w0.heap.size = w.heap.size + 1 := by rw [← hw0]; simp
  have HW := hid hw0
  have HB0 := hid hb0
  have HX := hid hX0
  have HNew := hid (C.new w0)
  have HG := hid (hG.below hb0)
  have HAl := hid (fun W => alive_any C W)
  obtain ⟨n, hn⟩ : ∃ n, l.length = n := ⟨_, rfl⟩
  have HN := hid hn
  rw [hn]
  clear hG hn hw0 hb0 hX0
  go_enter Try.func5, Try.ntmps5
  go_upto_region 1 with fail
  rw [HW.out]
  clear HW
  go_wp2_with fail
  refine HNew.out.mono ?_; rintro e w1 ⟨b, F1, R1, rfl, hh⟩
  obtain ⟨hlb, hlow, hb1⟩ := hh.out
  have HS1 : Hid (Go1 LB w0 w1 b F1 R1 []) := ⟨hlb, hlow, hb1⟩
  clear hh hlb hlow hb1 HNew
  by_cases h5 : n ≤ 500
  case neg =>
    have hz : (500 : Int) < (n : Int) := by omega
    go_wp2_with fail
    refine (HAl.out w1).mono ?_; rintro e w2 ⟨rfl, hb⟩
    have HB2 := hid (HB0.out.trans ((HS1.out.bel.trans (hb.out.mono HS1.out.bel.size)).mono HB0.out.size))
    clear hb
    go_wp2_with fail
    go_ret
    exact ⟨rfl, HB2.out⟩
  have hz : ¬ (500 : Int) < (n : Int) := by omega
  go_wp2_with fail
  go_loopw [29] (fun v29 W => ∃ (i : Nat) (F Rr : Nat → Prop) (ws : List Wy), v29 = .int .i64 (i : Int) ∧ i ≤ n ∧ Hid (ws.length ≤ 2 * i ∧ onV ws f t = (l.take i).map numLt) ∧ Hid (Go1 LB w0 W b F Rr ws)) (fun v29 _ => n - (intOf v29).toNat)
  case atStart => exact ⟨0, F1, R1, [], rfl, Nat.zero_le _, ⟨Nat.zero_le _, rfl⟩, HS1.out⟩
  case round =>
    obtain ⟨i, F, Rr, ws, rfl, hi, HV, HS⟩ := hrel
    by_cases hlt : i < n
    · have hiz : (i : Int) < (n : Int) := by omega
      have hiL : i < l.length := by have := HN.out; omega
      have hX := (HS.out.bel.block w.heap.size (by omega)).trans HX.out
      obtain ⟨x0, x1⟩ : wr.cell? ⟨w.heap.size, 0, none⟩ = some (.int .i64 f) ∧ wr.cell? ⟨w.heap.size, 1, none⟩ = some (.int .i64 t) := pr_facts hX
      obtain ⟨g, o, rfl, hgl, hc⟩ := (HG.out.below HS.out.bel) (fun e => by rw [e] at hiL; simp at hiL)
      have y0 := hc i hiL
      have HTk := hid (List.take_succ_eq_append_getElem hiL)
      generalize l[i] = k at *
      have HSe := hid (HS.out.num C f t k hie (by have := HV.out.1; omega))
      clear hc hX
      go_wp2_with fail
      refine HSe.out.mono ?_; rintro e w3 ⟨rfl, hh⟩
      obtain ⟨F3, R3, h3⟩ := hh.out
      have HS3 := hid h3
      have HV3 : Hid (onV (ws ++ [⟨f, t, numLt k⟩]) f t = (l.take (i + 1)).map numLt) := by
        unfold Hid
        rw [onV_send, if_pos ⟨rfl, rfl⟩, HV.out.2, HTk.out, List.map_append]
        rfl
      have hX := (h3.bel.block w.heap.size (by omega)).trans HX.out
      clear hh h3 x0 x1 y0 HSe HS
      obtain ⟨x0, x1⟩ : w3.cell? ⟨w.heap.size, 0, none⟩ = some (.int .i64 f) ∧ w3.cell? ⟨w.heap.size, 1, none⟩ = some (.int .i64 t) := pr_facts hX
      clear hX
      by_cases hft : f = t
      · have hne : (f != t) = false := by rw [hft]; simp
        clear hft
        go_wp2_with fail
        exact ⟨⟨i + 1, F3, R3, _, by go_num, by omega, ⟨by have := HV.out.1; simp; omega, HV3.out⟩, HS3.out⟩, by simp [intOf]; omega⟩
      · have hne : (f != t) = true := bne_iff_ne.2 hft
        have HSe := hid (HS3.out.num C t f (-7) ⟨hie.2, hie.1⟩ (by have := HV.out.1; simp; omega))
        go_wp2_with fail
        refine HSe.out.mono ?_; rintro e w4 ⟨rfl, hh⟩
        obtain ⟨F4, R4, h4⟩ := hh.out
        have HS4 := hid h4
        have HV4 : Hid (onV (ws ++ [⟨f, t, numLt k⟩] ++ [⟨t, f, numLt (-7)⟩]) f t = (l.take (i + 1)).map numLt) := by
          unfold Hid
          rw [onV_send, if_neg (fun e => hft e.1)]
          exact HV3.out
        clear hh h4 x0 x1 HSe HS3
        go_wp2_with fail
        exact ⟨⟨i + 1, F4, R4, _, by go_num, by omega, ⟨by have := HV.out.1; simp; omega, HV4.out⟩, HS4.out⟩, by simp [intOf]; omega⟩
    · obtain rfl : i = n := by omega
      have HV0 : Hid (ws.length ≤ 1000 ∧ onV ws f t = l.map numLt) := by
        refine ⟨by have := HV.out.1; omega, ?_⟩
        rw [HV.out.2, List.take_of_length_le (Nat.le_of_eq HN.out)]
      clear HS1 HV
      go_wp2_with fail
      go_loopw [56] (fun v56 W => ∃ (j : Nat) (F Rr : Nat → Prop) (ws : List Wy), v56 = .int .i64 (j : Int) ∧ j ≤ i ∧ Hid (ws.length ≤ 1000 ∧ onV ws f t = (l.drop j).map numLt) ∧ Hid (Go1 LB w0 W b F Rr ws)) (fun v56 _ => i - (intOf v56).toNat)
      case atStart => exact ⟨0, F, Rr, ws, rfl, Nat.zero_le _, HV0.out, HS.out⟩
      case round =>
        obtain ⟨j, F', Rr', ws', rfl, hj, HVj, HSj⟩ := hrel
        have hX := (HSj.out.bel.block w.heap.size (by omega)).trans HX.out
        obtain ⟨x0, x1⟩ : wr.cell? ⟨w.heap.size, 0, none⟩ = some (.int .i64 f) ∧ wr.cell? ⟨w.heap.size, 1, none⟩ = some (.int .i64 t) := pr_facts hX
        have HNx := hid (HSj.out.next C f t hie (by have := HVj.out.1; omega))
        by_cases hlj : j < i
        · have hjz : (j : Int) < (i : Int) := by omega
          have hjL : j < l.length := by have := HN.out; omega
          obtain ⟨g, o, rfl, hgl, hc⟩ := (HG.out.below HSj.out.bel) (fun e => by rw [e] at hjL; simp at hjL)
          have y0 := hc j hjL
          have HDr := hid (List.drop_eq_getElem_cons hjL)
          generalize l[j] = k at *
          have HVk : Hid (onV ws' f t = numLt k :: (l.drop (j + 1)).map numLt) := by
            have h := HVj.out.2
            rw [HDr.out] at h
            exact h
          have HH : Hid (headV ws' f t = numLt k ∧ (!(onV ws' f t).isEmpty) = true) := by
            unfold Hid headV
            rw [HVk.out]
            exact ⟨rfl, rfl⟩
          rw [HH.out.1, HH.out.2] at HNx
          clear hc hX HS
          go_wp2_with fail
          refine HNx.out.mono ?_; rintro e w3 ⟨ap, ac, rp, rc, rfl, hh⟩
          obtain ⟨F3, R3, -, h3⟩ := hh.out
          have HS3 := hid h3
          obtain ⟨CL, hCL⟩ : ∃ C, ltC (numLt k) ap ac rp rc = C := ⟨_, rfl⟩
          have hCs : CL.size = 13 := by rw [← hCL]; rfl
          have hC1 : CL.all (·.oneCell') = true := by rw [← hCL]; exact ltC_one _ _ _ _ _
          have hc1 : CL[1]? = some (.int .i64 k) := by rw [← hCL]; rfl
          rw [hCL]
          have iC := infoLt CL hCs
          obtain ⟨w5, hw5⟩ : ∃ W, (w3.alloc (.cells zeroL 33)).setRow w3.heap.size CL = W := ⟨_, rfl⟩
          have HW5 := hid hw5
          have hr5 : w5.heap[w3.heap.size]? = some (.cells CL 33 (0, 0)) := by rw [← hw5]; exact setRow_heap _ _ _ _ _ _ (heap_alloc_new w3 _)
          have hb5 : Below w3.heap.size w3 w5 := by rw [← hw5]; exact below_setRow (below_alloc w3 _) (Nat.le_refl _) _
          have y1 : w5.cell? ⟨w3.heap.size, 1, none⟩ = some (.int .i64 k) := by rw [cell_of_row w5 _ 1 _ _ _ hr5]; exact hc1
          have HS5 := hid (h3.below C hb5)
          have hkk : (k != k) = false := by simp
          clear hh h3 hCL hw5 hr5 hb5 hc1 HNx x0 x1 HSj HS3
          go_wp2_with (refine wpList_store_row rfl 33 _ _ rfl w3.heap.size CL rfl rfl 33 zeroL (heap_alloc_new w3 _) iC (by rw [hCs]; rfl) hC1 (Hid.out ?_))
          rw [HW5.out]
          refine hid ?_
          go_wp2_with fail
          exact ⟨⟨j + 1, F3, R3, _, by go_num, by omega, ⟨Nat.le_trans (cutV_len _ _ _) HVj.out.1, by rw [onV_cut, if_pos ⟨rfl, rfl⟩, HVk.out]; rfl⟩, HS5.out⟩, by simp [intOf]; omega⟩
        · have HVe : Hid (onV ws' f t = []) := by
            have h := HVj.out.2
            rw [List.drop_eq_nil_of_le (by have := HN.out; omega)] at h
            exact h
          rw [show (!(onV ws' f t).isEmpty) = false by rw [HVe.out]; rfl] at HNx
          clear hX HS
          go_wp2_with fail
          refine HNx.out.mono ?_; rintro e w3 ⟨ap, ac, rp, rc, rfl, hh⟩
          obtain ⟨F3, R3, -, h3⟩ := hh.out
          obtain ⟨CL, hCL⟩ : ∃ C, ltC (headV ws' f t) ap ac rp rc = C := ⟨_, rfl⟩
          have hCs : CL.size = 13 := by rw [← hCL]; rfl
          have hC1 : CL.all (·.oneCell') = true := by rw [← hCL]; exact ltC_one _ _ _ _ _
          rw [hCL]
          have iC := infoLt CL hCs
          obtain ⟨w5, hw5⟩ : ∃ W, (w3.alloc (.cells zeroL 33)).setRow w3.heap.size CL = W := ⟨_, rfl⟩
          have HW5 := hid hw5
          have hb5 : Below w3.heap.size w3 w5 := by rw [← hw5]; exact below_setRow (below_alloc w3 _) (Nat.le_refl _) _
          have HS5 := hid (h3.below C hb5)
          clear hh h3 hCL hw5 hb5 HNx x0 x1 HSj
          go_wp2_with (refine wpList_store_row rfl 33 _ _ rfl w3.heap.size CL rfl rfl 33 zeroL (heap_alloc_new w3 _) iC (by rw [hCs]; rfl) hC1 (Hid.out ?_))
          rw [HW5.out]
          refine hid ?_
          go_wp2_with fail
          refine (HAl.out w5).mono ?_; rintro e w6 ⟨rfl, hb⟩
          have HB6 := hid (HB0.out.trans ((HS5.out.bel.trans (hb.out.mono HS5.out.bel.size)).mono HB0.out.size))
          clear hb
          go_wp2_with fail
          go_ret
          exact ⟨rfl, HB6.out⟩

end Go.Proofs.Ytjcfbnhmljlkpaa
