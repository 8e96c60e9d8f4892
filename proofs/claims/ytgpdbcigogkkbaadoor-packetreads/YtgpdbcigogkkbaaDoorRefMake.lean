/- Ranges made a set, by the document: ref Make. -/
import Derived.Test.YtgpdbcigogkkbaaDoorRefWith
namespace Go.Proofs.YtgpdbcigogkkbaaDoor
open Go.RowKit
open Slot

/-- from f up to m, m not -/
def fillTo (A : Nat → Bool) (f m : Nat) : Nat → Bool := fun j => if f ≤ j ∧ j < m then true else A j
theorem fill_first (A : Nat → Bool) (f : Nat) : fillTo A f f = A := by funext j; unfold fillTo; rw [if_neg (by omega)]
theorem fill_next (A : Nat → Bool) (f m : Nat) (h : f ≤ m) : put (fillTo A f m) m m true = fillTo A f (m + 1) := by
  funext j
  unfold put fillTo
  by_cases e : m ≤ j ∧ j ≤ m
  · rw [if_pos e, if_pos (by omega)]
  · rw [if_neg e]
    by_cases c : f ≤ j ∧ j < m
    · rw [if_pos c, if_pos (by omega)]
    · rw [if_neg c, if_neg (by omega)]
theorem fill_last (A : Nat → Bool) (f t : Nat) : fillTo A f (t + 1) = put A f t true := by
  funext j
  unfold put fillTo
  by_cases c : f ≤ j ∧ j ≤ t
  · rw [if_pos c, if_pos (by omega)]
  · rw [if_neg c, if_neg (by omega)]

set_option maxHeartbeats 4000000 in
set_option maxRecDepth 100000 in
theorem rMake_core (b off cap : Nat) (l : List (Int × Int)) (w : World) (hl : l.length ≤ 140737488355328) (hlt : b < w.heap.size)
    (hc : ∀ j (h : j < l.length), w.cell? ⟨b, off + j * 2, none⟩ = some (.int .i64 l[j].1) ∧ w.cell? ⟨b, off + j * 2 + 1, none⟩ = some (.int .i64 l[j].2))
    (hr : ∀ j (h : j < l.length), -9223372036854775808 ≤ l[j].1 ∧ l[j].1 ≤ 9223372036854775807 ∧ -9223372036854775808 ≤ l[j].2 ∧ l[j].2 ≤ 9223372036854775807) :
    Calls Tryd.prog 37 #[.slice (some ⟨b, off, none⟩) l.length cap] w fun e w' => e = .returned (makeVal l) ∧ Below w.heap.size w w' := by
  have hz := zeroBits
  have HR0 : Hid (Box ((w.alloc (.cells (cellsOf (fun _ => false)) 24)).alloc (.cells (cellsOf (fun _ => false)) 24)) w.heap.size (fun _ => false)) := heap_alloc2_old w _ _
  have HB0 : Hid (Box ((w.alloc (.cells (cellsOf (fun _ => false)) 24)).alloc (.cells (cellsOf (fun _ => false)) 24)) (w.heap.size + 1) (fun _ => false)) := heap_alloc2_new w _ _
  have HW0 : Hid (Below w.heap.size w ((w.alloc (.cells (cellsOf (fun _ => false)) 24)).alloc (.cells (cellsOf (fun _ => false)) 24))) := (below_alloc w _).alloc (by simp) _
  have HC := hid hc
  have HRg := hid hr
  clear hc hr
  go_enter Tryd.func37, Tryd.ntmps37
  go_wp2
  go_loopw [5, 6] (fun i _ W => ∃ k : Nat, k ≤ l.length ∧ i = .int .i64 k ∧ Hid (Box W w.heap.size (fun _ => false)) ∧ Hid (Box W (w.heap.size + 1) (ofList ((l.take k).map natR))) ∧ Hid ((l.take k).all validR = true) ∧ Hid (Below w.heap.size w W)) (fun i _ _ => l.length - (intOf i).toNat)
  case atStart => exact ⟨0, Nat.zero_le _, rfl, HR0.out, HB0.out, rfl, HW0.out⟩
  case round =>
    obtain ⟨k, hk, rfl, HR, HB, HV, HW⟩ := hrel
    by_cases hlk : k < l.length
    · obtain ⟨c0, c1⟩ := HC.out k hlk
      obtain ⟨r0, r1, r2, r3⟩ := HRg.out k hlk
      obtain ⟨X, hX⟩ : ∃ X, X = wr := ⟨_, rfl⟩
      subst hX
      have hdk : decide ((k : Int) < (l.length : Int)) = true := decide_eq_true (by omega)
      have HCell : Hid (∀ W, Below w.heap.size w W → W.cell? ⟨b, off + k * 2, none⟩ = some (.int .i64 l[k].1) ∧ W.cell? ⟨b, off + k * 2 + 1, none⟩ = some (.int .i64 l[k].2)) := fun W hW => ⟨by rw [hW.cell (p := ⟨b, off + k * 2, none⟩) hlt]; exact c0, by rw [hW.cell (p := ⟨b, off + k * 2 + 1, none⟩) hlt]; exact c1⟩
      generalize hx : l[k].1 = x at HCell r0 r1
      generalize hy : l[k].2 = y at HCell r2 r3
      have HX := hid hx
      have HY := hid hy
      obtain ⟨hd0, hd1⟩ := HCell.out X HW.out
      clear c0 c1 hx hy
      by_cases hv : 0 ≤ x ∧ x ≤ y ∧ y ≤ 16383
      · obtain ⟨h1, h2, h3⟩ := hv
        obtain ⟨f, rfl⟩ := Int.eq_ofNat_of_zero_le h1
        obtain ⟨t, rfl⟩ := Int.eq_ofNat_of_zero_le (Int.le_trans h1 h2)
        have HE : Hid (ofList ((l.take (k + 1)).map natR) = put (ofList ((l.take k).map natR)) f t true) := by
          rw [take_map hlk]
          have : natR l[k] = (f, t) := by unfold natR; rw [HX.out, HY.out]; simp
          rw [this]
          exact ofList_snoc _ _ _
        have HV1 : Hid ((l.take (k + 1)).all validR = true) := by
          rw [take_all hlk HV.out]; unfold validR; rw [HX.out, HY.out]; exact decide_eq_true ⟨by omega, by omega, by omega⟩
        have d1 : decide ((f : Int) < 0) = false := decide_eq_false (by omega)
        have d2 : decide ((t : Int) < (f : Int)) = false := decide_eq_false (by omega)
        have d3 : decide (16383 < (t : Int)) = false := decide_eq_false (by omega)
        have d4 : decide (t < f) = false := decide_eq_false (by omega)
        have d5 : decide (16383 < t) = false := decide_eq_false (by omega)
        have d6 : f ≤ t := by omega
        have d7 : t ≤ 16383 := by omega
        generalize ofList ((l.take k).map natR) = A at HB HE
        go_wp2_with fail
        go_quiet ((fail))
        have HRd := hid (show Box (X.drewN nq) w.heap.size (fun _ => false) from HR.out)
        have HBd : Hid (Box (X.drewN nq) (w.heap.size + 1) (fillTo A f f)) := by unfold Hid; rw [fill_first]; exact HB.out
        have HWd := hid (Below.drewN HW.out nq)
        go_wp2
        go_loopw [6] (fun v W => ∃ m : Nat, f ≤ m ∧ m ≤ t + 1 ∧ v = .int .i64 m ∧ Hid (Box W w.heap.size (fun _ => false)) ∧ Hid (Box W (w.heap.size + 1) (fillTo A f m)) ∧ Hid (Below w.heap.size w W)) (fun v _ => t + 1 - (intOf v).toNat)
        case atStart => exact ⟨f, Nat.le_refl _, by omega, rfl, HRd.out, HBd.out, HWd.out⟩
        case round =>
          obtain ⟨m, hm1, hm2, rfl, HR1, HB1, HW1⟩ := hrel
          obtain ⟨Y, hY⟩ : ∃ Y, Y = wr := ⟨_, rfl⟩
          subst hY
          obtain ⟨e0, e1⟩ := HCell.out Y HW1.out
          by_cases hmt : m ≤ t
          · have HWt : Hid (Calls Tryd.prog 48 #[.agg (cellsOf (fillTo A f m)), .int .i64 m, .bool true] Y fun e w' => e = .returned (.agg (cellsOf (fillTo A f (m + 1)))) ∧ Below Y.heap.size Y w') := by
              have := rWith_any (fillTo A f m) m true Y
              rw [if_pos ⟨by omega, by omega⟩, Int.toNat_natCast, fill_next A f m hm1] at this
              exact this
            go_wp2_with (refine wpList_load_row rfl 24 _ rfl (w.heap.size + 1) rfl 24 _ (0, 0) _ HB1.out Tryd.underlying24 rfl (infoBits _) (Hid.out ?_))
            refine hid ?_
            go_wp2_with fail
            refine HWt.out.mono ?_; rintro e w2 ⟨rfl, hb2⟩
            have HR2 := hid (HR1.out.below hb2 HR1.out.lt)
            have HB2 := hid (HB1.out.below hb2 HB1.out.lt)
            have HW2 := hid (HW1.out.trans (hb2.mono HW1.out.size))
            clear hb2
            have HR3 : Hid (Box (w2.setRow (w.heap.size + 1) (cellsOf (fillTo A f (m + 1)))) w.heap.size (fun _ => false)) := (setRow_other _ _ _ _ (by omega)).trans HR2.out
            have HB3 : Hid (Box (w2.setRow (w.heap.size + 1) (cellsOf (fillTo A f (m + 1)))) (w.heap.size + 1) (fillTo A f (m + 1))) := box_size HB2.out
            have HW3 := hid (below_setRow HW2.out (show w.heap.size ≤ w.heap.size + 1 by omega) (cellsOf (fillTo A f (m + 1))))
            go_wp2_with (refine wpList_store_row rfl 24 _ _ rfl (w.heap.size + 1) (cellsOf (fillTo A f (m + 1))) rfl rfl 24 _ HB2.out (infoBits _) (sizes _ _) (oneCells _) ?_)
            go_roundw
            case rel =>
              have hrel : ∃ m1 : Nat, f ≤ m1 ∧ m1 ≤ t + 1 ∧ Value.int .i64 ((m : Int) + 1) = .int .i64 m1 ∧ Hid (Box (w2.setRow (w.heap.size + 1) (cellsOf (fillTo A f (m + 1)))) w.heap.size (fun _ => false)) ∧ Hid (Box (w2.setRow (w.heap.size + 1) (cellsOf (fillTo A f (m + 1)))) (w.heap.size + 1) (fillTo A f m1)) ∧ Hid (Below w.heap.size w (w2.setRow (w.heap.size + 1) (cellsOf (fillTo A f (m + 1))))) := ⟨m + 1, by omega, by omega, by go_num, HR3.out, HB3.out, HW3.out⟩
              first | exact hrel | ((repeat apply Exists.intro); exact ⟨hrel, rfl⟩)
            case measure => simp [intOf]; omega
          · have em : m = t + 1 := by omega
            subst em
            rw [fill_last, ← HE.out] at HB1
            go_wp2
            go_roundw
            case rel => exact ⟨k + 1, by omega, by go_num, HR1.out, HB1.out, HV1.out, HW1.out⟩
            case measure => simp [intOf]; omega
      · have HN : Hid (l.all validR = false) := not_all hlk (by unfold validR; rw [HX.out, HY.out]; exact decide_eq_false hv)
        have HRa : Hid (∀ n, Box (X.drewN n) w.heap.size (fun _ => false)) := fun n => HR.out
        have fin : Hid (∀ n, Box ((X.drewN n).setRow w.heap.size (cellsOf fun _ => false)) w.heap.size (fun _ => false) ∧ Below w.heap.size w ((X.drewN n).setRow w.heap.size (cellsOf fun _ => false))) := fun n => ⟨box_size (HRa.out n), below_setRow (Below.drewN HW.out n) (Nat.le_refl _) _⟩
        by_cases h1 : x < 0
        · have d1 : decide (x < 0) = true := decide_eq_true h1
          go_wp2_with fail
          go_quiet ((fail))
          go_wp2_with (refine wpList_store_row rfl 24 _ _ rfl w.heap.size _ rfl rfl 24 _ (HRa.out nq) (infoBits _) (sizes _ _) (oneCells _) ?_)
          exact bodyPost_ret (v := .tuple #[.agg (cellsOf fun _ => false), .int .i64 20]) (ret_box2 rfl rfl rfl (fin.out nq).1) rfl ⟨by rw [makeVal_bad HN.out], (fin.out nq).2⟩
        · have d1 : decide (x < 0) = false := decide_eq_false h1
          by_cases h2 : y < x
          · have d2 : decide (y < x) = true := decide_eq_true h2
            go_wp2_with fail
            go_quiet ((fail))
            go_wp2_with (refine wpList_store_row rfl 24 _ _ rfl w.heap.size _ rfl rfl 24 _ (HRa.out nq) (infoBits _) (sizes _ _) (oneCells _) ?_)
            exact bodyPost_ret (v := .tuple #[.agg (cellsOf fun _ => false), .int .i64 20]) (ret_box2 rfl rfl rfl (fin.out nq).1) rfl ⟨by rw [makeVal_bad HN.out], (fin.out nq).2⟩
          · have d2 : decide (y < x) = false := decide_eq_false h2
            have h3 : 16383 < y := by omega
            have d3 : decide (16383 < y) = true := decide_eq_true h3
            clear hv
            go_wp2_with fail
            go_quiet ((fail))
            go_wp2_with (refine wpList_store_row rfl 24 _ _ rfl w.heap.size _ rfl rfl 24 _ (HRa.out nq) (infoBits _) (sizes _ _) (oneCells _) ?_)
            exact bodyPost_ret (v := .tuple #[.agg (cellsOf fun _ => false), .int .i64 20]) (ret_box2 rfl rfl rfl (fin.out nq).1) rfl ⟨by rw [makeVal_bad HN.out], (fin.out nq).2⟩
    · have e : l.take k = l := List.take_of_length_le (by omega)
      rw [e] at HB HV
      go_wp2_with (first | (refine wpList_load_row rfl 24 _ rfl (w.heap.size + 1) rfl 24 _ (0, 0) _ HB.out Tryd.underlying24 rfl (infoBits _) ?_) | (refine wpList_store_row rfl 24 _ _ rfl w.heap.size _ rfl rfl 24 _ HR.out (infoBits _) (sizes _ _) (oneCells _) ?_))
      exact bodyPost_ret (v := .tuple #[.agg (cellsOf (ofList (l.map natR))), .int .i64 0]) (ret_box2 rfl rfl rfl (box_size HR.out)) rfl ⟨by rw [makeVal_ok HV.out], below_setRow HW.out (Nat.le_refl _) _⟩

set_option maxHeartbeats 1000000 in
set_option maxRecDepth 100000 in
theorem rMake_none (a : Option Addr) (cap : Nat) (w : World) :
    Calls Tryd.prog 37 #[.slice a 0 cap] w fun e w' => e = .returned (makeVal []) ∧ Below w.heap.size w w' := by
  have hz := zeroBits
  have HR0 : Hid (Box ((w.alloc (.cells (cellsOf (fun _ => false)) 24)).alloc (.cells (cellsOf (fun _ => false)) 24)) w.heap.size (fun _ => false)) := heap_alloc2_old w _ _
  have HB0 : Hid (Box ((w.alloc (.cells (cellsOf (fun _ => false)) 24)).alloc (.cells (cellsOf (fun _ => false)) 24)) (w.heap.size + 1) (fun _ => false)) := heap_alloc2_new w _ _
  have HW0 : Hid (Below w.heap.size w ((w.alloc (.cells (cellsOf (fun _ => false)) 24)).alloc (.cells (cellsOf (fun _ => false)) 24))) := (below_alloc w _).alloc (by simp) _
  go_enter Tryd.func37, Tryd.ntmps37
  go_wp2
  refine wp_loop_rounds 1 ?_
  rw [rounds_succ]
  go_wp2_with (first | (refine wpList_load_row rfl 24 _ rfl (w.heap.size + 1) rfl 24 _ (0, 0) _ HB0.out Tryd.underlying24 rfl (infoBits _) ?_) | (refine wpList_store_row rfl 24 _ _ rfl w.heap.size _ rfl rfl 24 _ HR0.out (infoBits _) (sizes _ _) (oneCells _) ?_))
  exact bodyPost_ret (v := .tuple #[.agg (cellsOf (fun _ => false)), .int .i64 0]) (ret_box2 rfl rfl rfl (box_size HR0.out)) rfl ⟨rfl, below_setRow HW0.out (Nat.le_refl _) _⟩
/-- ref Make -/
theorem rMake_any (a : Option Addr) (cap : Nat) (l : List (Int × Int)) (w : World) (hr : RowR w a l)
    (hi : ∀ j (h : j < l.length), -9223372036854775808 ≤ l[j].1 ∧ l[j].1 ≤ 9223372036854775807 ∧ -9223372036854775808 ≤ l[j].2 ∧ l[j].2 ≤ 9223372036854775807) :
    Calls Tryd.prog 37 #[.slice a l.length cap] w fun e w' => e = .returned (makeVal l) ∧ Below w.heap.size w w' := by
  by_cases h : l = []
  · subst h
    exact rMake_none a cap w
  · obtain ⟨b, off, rfl, hc⟩ := hr.2 h
    have hp : 0 < l.length := List.length_pos_iff.2 h
    exact rMake_core b off cap l w hr.1 (block_lt_of_cell (hc 0 hp).1) hc hi
theorem RowR.below {w w' : World} {a : Option Addr} {l : List (Int × Int)} (h : RowR w a l) (hb : Below w.heap.size w w') : RowR w' a l := by
  refine ⟨h.1, fun hl => ?_⟩
  obtain ⟨b, off, ha, hc⟩ := h.2 hl
  exact ⟨b, off, ha, fun j hj => ⟨by rw [hb.cell (p := ⟨b, off + j * 2, none⟩) (block_lt_of_cell (hc j hj).1)]; exact (hc j hj).1, by rw [hb.cell (p := ⟨b, off + j * 2 + 1, none⟩) (block_lt_of_cell (hc j hj).2)]; exact (hc j hj).2⟩⟩
theorem makeVal_form (l : List (Int × Int)) : ∃ X e, makeVal l = .tuple #[.agg (cellsOf X), .int .i64 e] := by
  cases h : l.all validR
  · exact ⟨_, _, makeVal_bad h⟩
  · exact ⟨_, _, makeVal_ok h⟩

end Go.Proofs.YtgpdbcigogkkbaaDoor
