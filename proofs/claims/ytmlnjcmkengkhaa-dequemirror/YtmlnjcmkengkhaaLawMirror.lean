/- The law of front and back turned about. -/
import Derived.Test.YtmlnjcmkengkhaaLawAll
namespace Go.Proofs.Ytmlnjcmkengkhaa
open Go.RowKit

/-- a call with front and back turned about -/
def turnO (o : OpL) : OpL := { o with front := !o.front }
theorem push_mirror (L : Row) (f : Bool) (s : List UInt8) : pushL L.reverse (!f) s = (pushL L f s).reverse := by
  unfold pushL
  rw [List.length_reverse]
  split
  · rfl
  · cases f <;> simp
theorem pop_mirror (L : Row) (f : Bool) : popL L.reverse (!f) = (popL L f).reverse := by
  unfold popL
  cases f <;> simp
theorem popS_mirror (L : Row) (f : Bool) : popS L.reverse (!f) = popS L f := by
  unfold popS
  cases f <;> simp [List.getLastD_eq_getLast?, List.headD_eq_head?_getD]
theorem doR_mirror (L : Row) (o : OpL) (h : o.kind = 0 ∨ o.kind = 1) : doR L.reverse (turnO o) = (doR L o).reverse := by
  rcases h with h | h
  · simp [doR, turnO, h, push_mirror]
  · simp [doR, turnO, h, pop_mirror]
theorem doA_mirror (L : Row) (o : OpL) (h : o.kind = 0 ∨ o.kind = 1) : doA L.reverse (turnO o) = doA L o := by
  rcases h with h | h
  · simp [doA, turnO, h, pushB]
  · simp [doA, turnO, h, popS_mirror, popB]
theorem turnO_fit {o : OpL} (h : OpFit o) : OpFit (turnO o) := ⟨h.k0, h.k1, h.a0, h.a1, h.b0, h.b1⟩
set_option maxHeartbeats 4000000 in
set_option maxRecDepth 100000 in
theorem mirror_any {Dq : World → Nat → Row → Prop} (M : Meth Dq) (p : Option Addr) (ops : List OpL) (cp : Nat) (w : World) (hO : Ops (Old w) w p ops) (hF : ∀ o ∈ ops, OpFit o) (hn : ops.length ≤ 9223372036854775807) :
    Calls Try.prog 7 #[.slice p ops.length cp] w fun e w' => e = .returned (.bool true) ∧ Below w.heap.size w w' := by
  have HM := hid M
  have HN := hid M.new
  have HO := hid hO
  have HF := hid hF
  clear M hO hF
  by_cases hbig : 1000 < ops.length
  · have hz : (1000 : Int) < (ops.length : Int) := by omega
    go_enter Try.func7, Try.ntmps7
    go_wp2_with fail
    refine (HN.out _).mono ?_; rintro e w1 ⟨b, rfl, hh⟩
    have H1 := hid hh.out
    clear hh
    go_wp2_with fail
    refine (HN.out _).mono ?_; rintro e w2 ⟨m, rfl, hh⟩
    have K2 := hid (H1.out.2.2.trans (hh.out.2.2.mono H1.out.2.2.size))
    clear hh
    go_wp2_with fail
    refine (alive_any HM.out _).mono ?_; rintro e w3 ⟨rfl, hb3⟩
    have HB := hid (K2.out.trans (hb3.out.mono K2.out.size))
    clear hb3
    go_wp2_with fail
    go_ret
    exact ⟨rfl, HB.out⟩
  · have hz : ¬ (1000 : Int) < (ops.length : Int) := by omega
    go_enter Try.func7, Try.ntmps7
    go_wp2_with fail
    refine (HN.out _).mono ?_; rintro e w1 ⟨b, rfl, hh⟩
    have H1 := hid hh.out
    clear hh
    go_wp2_with fail
    refine (HN.out _).mono ?_; rintro e w2 ⟨m, rfl, hh⟩
    have K2 := hid (H1.out.2.2.trans (hh.out.2.2.mono H1.out.2.2.size))
    have hwb : w.heap.size ≤ b := H1.out.1
    have hwm : w.heap.size ≤ m := Nat.le_trans H1.out.2.2.size hh.out.1
    have hbm : b ≠ m := by have := HM.out.lt H1.out.2.1; have := hh.out.1; omega
    have HD0 := hid (HM.out.below H1.out.2.1 hh.out.2.2)
    have HE0 := hid hh.out.2.1
    clear hh
    go_wp2_with fail
    go_loopw [6, 7, 8, 36] (fun _ _ _ v36 W => ∃ (i : Nat) (R : Row), v36 = .int .i64 i ∧ i ≤ ops.length ∧ Hid (Dq W b R) ∧ Hid (Dq W m R.reverse) ∧ Hid (Below w.heap.size w W)) (fun _ _ _ v36 _ => ops.length - (intOf v36).toNat)
    case atStart => exact ⟨0, [], rfl, Nat.zero_le _, HD0.out, HE0.out, K2.out⟩
    case round =>
      obtain ⟨i, R, rfl, hi, HDi, HEi, HBi⟩ := hrel
      by_cases hlt : i < ops.length
      · have hlz : (i : Int) < (ops.length : Int) := by omega
        obtain ⟨g, o, rfl, hg, hcs⟩ := (HO.out.keep (Keep.of_below HBi.out) (fun _ h => h)) (fun e => by rw [e] at hlt; simp at hlt)
        obtain ⟨x0, x1, x2, x3, x4⟩ := hcs i hlt
        have HFi := hid (HF.out ops[i] (List.getElem_mem hlt))
        generalize ops[i] = op at *
        clear hcs
        by_cases hk : op.kind = 0 ∨ op.kind = 1
        · have HR' := hid (doR_mirror R op hk)
          have HA' := hid (doA_mirror R op hk)
          have HDo := hid fun (W : World) (hD : Dq W b R) => does_any HM.out b R op HFi.out W hD
          have HDm := hid fun (W : World) (hD : Dq W m R.reverse) => does_any HM.out m R.reverse (turnO op) (turnO_fit HFi.out) W hD
          rw [HR'.out, HA'.out] at HDm
          generalize doR R op = R' at *
          generalize (doA R op).s = asx at *
          generalize (doA R op).is = ai at *
          generalize (doA R op).list = al at *
          have hkb : (op.kind != 0) = false ∨ ((op.kind != 0) = true ∧ (op.kind != 1) = false) := by
            rcases hk with h | h <;> simp [h]
          have HB1 := hid (below_alloc wr (.cells #[.int .i64 op.kind, .int .i64 op.a, .int .i64 op.b, .bool op.front, txt op.s] 40))
          have hblt := HM.out.lt HDi.out
          have hmlt := HM.out.lt HEi.out
          clear hk
          rcases hkb with hk0 | ⟨hk0, hk1⟩
          all_goals
            go_wp2_with fail
            refine (HDo.out _ (HM.out.below HDi.out HB1.out)).mono ?_
            rintro e w3 ⟨q3, d3, rfl, hh⟩
            have hs3 := hh.out.2.2.size
            rw [show (wr.alloc (.cells #[.int .i64 op.kind, .int .i64 op.a, .int .i64 op.b, .bool op.front, txt op.s] 40)).heap.size = wr.heap.size + 1 by simp] at hs3
            have hop3 := (hh.out.2.2.block wr.heap.size (by simp) (show wr.heap.size ≠ b by omega)).trans (heap_alloc_new wr _)
            have hop4 := (heap_alloc_old w3 (.cells #[txt asx, .bool ai, .slice q3 al.length d3] 42) (by omega)).trans hop3
            have y3 := cell_of_row _ wr.heap.size 3 _ _ _ hop4
            have z3 := frozen_of_row _ wr.heap.size 3 _ _ hop4
            have HOp5 := hid (heap_setCell_same _ wr.heap.size 3 _ _ (.bool (!op.front)) hop4)
            have H3 := hid hh.out
            have K3 := hid (Keep.end (HBi.out.trans (HB1.out.mono HBi.out.size)) hh.out.2.2 hwb (Nat.le_trans HBi.out.size HB1.out.size))
            have HE3 := hid (HM.out.keep (HM.out.below HEi.out HB1.out) hh.out.2.2 hbm.symm)
            clear hh hop3 hop4 x0 x1 x2 x3 x4
            go_wp2_with (refine wpList_load_row rfl 40 _ rfl wr.heap.size rfl 40 _ (0, 0) _ HOp5.out Try.underlying40 rfl (infoO _ _ _ _ _) (Hid.out ?_))
            refine hid ?_
            go_wp2_with fail
            have hwr : w.heap.size ≤ wr.heap.size := HBi.out.size
            have K5 := hid ((K3.out.trans ((below_alloc w3 (.cells #[txt asx, .bool ai, .slice q3 al.length d3] 42)).mono K3.out.size)).setCell (p := ⟨wr.heap.size, 3, none⟩) hwr (.bool (!op.front)))
            have HE5 : Hid (Dq ((w3.alloc (.cells #[txt asx, .bool ai, .slice q3 al.length d3] 42)).setCell ⟨wr.heap.size, 3, none⟩ (.bool (!op.front))) m R.reverse) := HM.out.turn HE3.out ((heap_setCell_other _ _ _ _ (by simp; omega)).trans (heap_alloc_old w3 _ (by omega)))
            have HD5 : Hid (Dq ((w3.alloc (.cells #[txt asx, .bool ai, .slice q3 al.length d3] 42)).setCell ⟨wr.heap.size, 3, none⟩ (.bool (!op.front))) b R') := HM.out.turn H3.out.1 ((heap_setCell_other _ _ _ _ (by simp; omega)).trans (heap_alloc_old w3 _ (by omega)))
            have hans5 : ((w3.alloc (.cells #[txt asx, .bool ai, .slice q3 al.length d3] 42)).setCell ⟨wr.heap.size, 3, none⟩ (.bool (!op.front))).heap[w3.heap.size]? = some (.cells #[txt asx, .bool ai, .slice q3 al.length d3] 42 (0, 0)) := (heap_setCell_other _ _ _ _ (by simp; omega)).trans (heap_alloc_new w3 _)
            have hsz5 : ((w3.alloc (.cells #[txt asx, .bool ai, .slice q3 al.length d3] 42)).setCell ⟨wr.heap.size, 3, none⟩ (.bool (!op.front))).heap.size = w3.heap.size + 1 := by simp
            refine (HDm.out _ HE5.out).mono ?_
            rintro e w6 ⟨q6, d6, rfl, hh⟩
            have hs6 := hh.out.2.2.size
            rw [hsz5] at hs6
            have hans6 := (hh.out.2.2.block w3.heap.size (by rw [hsz5]; omega) (show w3.heap.size ≠ m by omega)).trans hans5
            obtain ⟨⟨v0, v1, v2⟩, -⟩ := ans_facts ((heap_alloc_old w6 (.cells #[txt asx, .bool ai, .slice q6 al.length d6] 42) (by omega)).trans hans6)
            have H6 := hid hh.out
            have K6 := hid (Keep.end K5.out hh.out.2.2 hwm K5.out.size)
            have HD6 := hid (HM.out.keep HD5.out hh.out.2.2 hbm)
            have HB7 := hid (below_alloc w6 (.cells #[txt asx, .bool ai, .slice q6 al.length d6] 42))
            clear hh hans5 hans6 hsz5 y3 z3
            go_wp2_with fail
            exact ⟨⟨i + 1, R', by go_num, by omega, HM.out.below HD6.out HB7.out, HM.out.below H6.out.1 HB7.out, K6.out.trans (HB7.out.mono K6.out.size)⟩, by simp [intOf]; omega⟩
        · have hk0 : (op.kind != 0) = true := by simp; omega
          have hk1 : (op.kind != 1) = true := by simp; omega
          have HB1 := hid (below_alloc wr (.cells #[.int .i64 op.kind, .int .i64 op.a, .int .i64 op.b, .bool op.front, txt op.s] 40))
          clear hk
          go_wp2_with fail
          exact ⟨⟨i + 1, R, by go_num, by omega, HM.out.below HDi.out HB1.out, HM.out.below HEi.out HB1.out, HBi.out.trans (HB1.out.mono HBi.out.size)⟩, by simp [intOf]; omega⟩
      · have hRl := HM.out.len HDi.out
        have HR1 := hid fun (W : World) (h : Dq W b R) => HM.out.range b R 0 (-1) W h (by decide) (by decide) (by decide) (by decide)
        have HR2 := hid fun (W : World) (h : Dq W m R.reverse) => HM.out.range m R.reverse 0 (-1) W h (by decide) (by decide) (by decide) (by decide)
        rw [rangeL_all] at HR1 HR2
        rw [List.length_reverse] at HR2
        go_wp2_with fail
        refine (HR1.out _ HDi.out).mono ?_
        rintro e w3 ⟨p3, c3, rfl, hh⟩
        have H3 := hid hh.out
        have K3 := hid (Keep.end HBi.out hh.out.2.2 hwb HBi.out.size)
        have HE3 := hid (HM.out.keep HEi.out hh.out.2.2 hbm.symm)
        have HT3 : Hid (Tl (But m) w3 (.slice p3 R.length c3) R) := hh.out.1.mono (fun k hk => by
          have := HM.out.lt HEi.out
          have : wr.heap.size ≤ k := hk
          show k ≠ m
          omega)
        clear hh
        go_wp2_with fail
        refine (HR2.out _ HE3.out).mono ?_
        rintro e w4 ⟨p4, c4, rfl, hh⟩
        have K4 := hid (Keep.end K3.out hh.out.2.2 hwm K3.out.size)
        have HT4 := hid (HT3.out.keep (Q := But m) hh.out.2.2 (fun _ h => h))
        have HS4 := hid hh.out.1
        clear hh
        go_wp2_with fail
        go_loopw [11, 77] (fun _ v77 W => ∃ j : Nat, v77 = .int .i64 j ∧ j ≤ R.length ∧ Hid (Below w4.heap.size w4 W)) (fun _ v77 _ => R.length - (intOf v77).toNat)
        case atStart => exact ⟨0, rfl, Nat.zero_le _, Below.refl _ _⟩
        case round =>
          obtain ⟨j, rfl, hj, HBj⟩ := hrel
          by_cases hlt2 : j < R.length
          · have hlz : (j : Int) < (R.length : Int) := by omega
            obtain ⟨g1, o1, rfl, hg1, -, hc1⟩ := (HT4.out.below HBj.out).cells j hlt2
            obtain ⟨g2, o2, rfl, hg2, -, hc2⟩ := (HS4.out.below HBj.out).cells j (by simpa using hlt2)
            obtain ⟨k, hk⟩ : ∃ k, k = R.length - 1 - j := ⟨_, rfl⟩
            have x1 := hc1 j hlt2
            have x2 := hc2 k (by simp; omega)
            rw [show R.reverse[k]'(by simp; omega) = R[j] by rw [List.getElem_reverse]; congr 1; omega] at x2
            have hkz : (R.length : Int) - 1 - (j : Int) = (k : Int) := by omega
            have hkz2 : (k : Int) < (R.length : Int) := by omega
            generalize R[j] = t at *
            clear hc1 hc2 hk
            go_wp2_with fail
            go_quiet (fail)
            go_wp2_with fail
            exact ⟨⟨j + 1, by go_num, by omega, by first | exact HBj.out | exact HBj.out.drew | exact below_redrawn HBj.out _⟩, by simp [intOf]; omega⟩
          · go_wp2_with fail
            refine (alive_any HM.out _).mono ?_; rintro e w5 ⟨rfl, hb5⟩
            have K5 := hid ((K4.out.trans (HBj.out.mono K4.out.size)).trans (hb5.out.mono (Nat.le_trans K4.out.size HBj.out.size)))
            clear hb5
            go_wp2_with fail
            go_ret
            exact ⟨rfl, K5.out⟩

end Go.Proofs.Ytmlnjcmkengkhaa
