/- VwRef3. -/
import Derived.Test.YtbfllifgmlkndaaGreatDoorM16
namespace Go.Proofs.YtbfllifgmlkndaaGreatDoor
open Go.RowKit
open Slot

/-- the slots that others than n keep, of the first o nodes -/
def kpK (K : Nat → Nat → Bool) (E : Nat → Nat) (n e : Nat) : Nat → Nat → Bool
  | 0, _ => false
  | o + 1, t => kpK K E n e o t || (decide (o ≠ n) && decide (e ≤ E o) && K o t)
def wonK (K : Nat → Nat → Bool) (E : Nat → Nat) (n : Nat) (p : Pk) : Nat → Bool := fun t => p.cl t && !kpK K E n p.epoch 64 t
def clK (K : Nat → Nat → Bool) (n : Nat) (X : Nat → Bool) : Nat → Nat → Bool := fun m t => if m = n then X t else K m t && !X t
def mixK (K L : Nat → Nat → Bool) (i : Nat) : Nat → Nat → Bool := fun m t => if t / 64 < i then L m t else K m t
def twoK (K L : Nat → Nat → Bool) (X : Nat → Bool) (i o : Nat) : Nat → Nat → Bool := fun m t => if t / 64 = i ∧ m < o then K m t && !X t else mixK K L i m t
theorem mix_zero (K L : Nat → Nat → Bool) : mixK K L 0 = K := by
  funext m t; unfold mixK; rw [if_neg (Nat.not_lt_zero _)]
theorem mix_at (K L : Nat → Nat → Bool) (i m : Nat) : word (mixK K L i m) i = word (K m) i := word_congr fun k hk => by
  unfold mixK; rw [if_neg (by omega)]
theorem mix_all (K L : Nat → Nat → Bool) {w : World} {g : Nat} {E : Nat → Nat} (h : Nd w g E (mixK K L 256)) : Nd w g E L :=
  h.congr (fun _ _ => rfl) (fun m i _ hi => word_congr fun k hk => by unfold mixK; rw [if_pos (by omega)])
theorem two_zero (K L : Nat → Nat → Bool) (X : Nat → Bool) (i : Nat) : twoK K L X i 0 = mixK K L i := by
  funext m t; unfold twoK; rw [if_neg (fun c => Nat.not_lt_zero _ c.2)]
theorem two_at (K L : Nat → Nat → Bool) (X : Nat → Bool) (i o : Nat) : word (twoK K L X i o o) i = word (K o) i := word_congr fun k hk => by
  unfold twoK mixK; rw [if_neg (fun c => Nat.lt_irrefl _ c.2), if_neg (by omega)]
theorem two_next (K L : Nat → Nat → Bool) (X : Nat → Bool) (i o : Nat) : word (twoK K L X i (o + 1) o) i = word (fun t => K o t && !X t) i := word_congr fun k hk => by
  unfold twoK; rw [if_pos ⟨by omega, by omega⟩]
theorem two_else (K L : Nat → Nat → Bool) (X : Nat → Bool) (i o : Nat) : ∀ m j, m < 64 → j < 256 → ¬ (m = o ∧ j = i) → word (twoK K L X i (o + 1) m) j = word (twoK K L X i o m) j := fun m j _ _ h => word_congr fun k hk => by
  have ht : (64 * j + k) / 64 = j := by omega
  by_cases e : j = i
  · unfold twoK
    rw [ht]
    by_cases e2 : m < o
    · rw [if_pos ⟨e, by omega⟩, if_pos ⟨e, e2⟩]
    · rw [if_neg (fun c => h ⟨by omega, e⟩), if_neg (fun c => e2 c.2)]
  · unfold twoK
    rw [ht, if_neg (fun c => e c.1), if_neg (fun c => e c.1)]
theorem last_at (K : Nat → Nat → Bool) (X : Nat → Bool) (i n : Nat) : word (mixK K (clK K n X) (i + 1) n) i = word X i := word_congr fun k hk => by
  unfold mixK clK; rw [if_pos (by omega), if_pos rfl]
theorem last_else (K : Nat → Nat → Bool) (X : Nat → Bool) (i n : Nat) : ∀ m j, m < 64 → j < 256 → ¬ (m = n ∧ j = i) → word (mixK K (clK K n X) (i + 1) m) j = word (twoK K (clK K n X) X i 64 m) j := fun m j hm _ h => word_congr fun k hk => by
  have ht : (64 * j + k) / 64 = j := by omega
  by_cases e : j = i
  · have h1 : mixK K (clK K n X) (i + 1) m (64 * j + k) = clK K n X m (64 * j + k) := by unfold mixK; rw [ht, if_pos (by omega)]
    have h2 : twoK K (clK K n X) X i 64 m (64 * j + k) = (K m (64 * j + k) && !X (64 * j + k)) := by unfold twoK; rw [ht, if_pos ⟨e, hm⟩]
    rw [h1, h2]
    unfold clK
    rw [if_neg (fun c => h ⟨c, e⟩)]
  · have h2 : twoK K (clK K n X) X i 64 m (64 * j + k) = mixK K (clK K n X) i m (64 * j + k) := by unfold twoK; rw [ht, if_neg (fun c => e c.1)]
    rw [h2]
    unfold mixK
    rw [ht]
    by_cases e2 : j < i
    · rw [if_pos (by omega), if_pos e2]
    · rw [if_neg (by omega), if_neg e2]
theorem kp_step (K : Nat → Nat → Bool) (E : Nat → Nat) (n e o i : Nat) (h : o ≠ n ∧ e ≤ E o) : bits BinOp.or IntKind.u64 (word (kpK K E n e o) i : Int) (word (K o) i : Int) = (word (kpK K E n e (o + 1)) i : Int) := by
  rw [or_bits]
  refine congrArg (fun x : Nat => (x : Int)) (word_congr fun k _ => ?_)
  show _ = (kpK K E n e o _ || (decide (o ≠ n) && decide (e ≤ E o) && K o _))
  rw [decide_eq_true h.1, decide_eq_true h.2]
  rfl
theorem kp_skip (K : Nat → Nat → Bool) (E : Nat → Nat) (n e o : Nat) (h : ¬ (o ≠ n ∧ e ≤ E o)) : kpK K E n e (o + 1) = kpK K E n e o := by
  funext t
  show (kpK K E n e o t || (decide (o ≠ n) && decide (e ≤ E o) && K o t)) = _
  by_cases e1 : o ≠ n
  · rw [decide_eq_false (fun c => h ⟨e1, c⟩)]; simp
  · rw [decide_eq_false e1]; simp
theorem PBox.word {w : World} {b : Nat} {p : Pk} (h : PBox w b p) (i : Nat) (hi : i < 256) : w.cell? ⟨b, 5 + i, none⟩ = some (.int .u64 (Slot.word p.cl i : Int)) := by
  rw [cell_of_row w b _ _ _ _ h, pk_hi, cellsOf_get _ i hi]
/-- what stays as it is while the nodes are written -/
structure Stys (w wr : World) (g me cap cur : Nat) (p : Pk) : Prop where
  only : Only g w wr
  rv : RVb wr w.heap.size me g cap cur
  pk : PBox wr (w.heap.size + 1) p
  res : wr.heap[w.heap.size + 2]? = some (.cells #[.int .i64 0, .slice none 0 0, .int .u64 0] 34 (0, 0))
theorem Stys.drew {w wr : World} {g self cap cur : Nat} {p : Pk} (h : Stys w wr g self cap cur p) : Stys w wr.drew g self cap cur p := ⟨h.only.drew, h.rv, h.pk, h.res⟩
theorem Stys.set {w wr : World} {g self cap cur : Nat} {p : Pk} (h : Stys w wr g self cap cur p) (hg : g < w.heap.size) (j : Nat) (y : Value) : Stys w (wr.setCell ⟨g, j, none⟩ y) g self cap cur p :=
  ⟨h.only.setCell j y, (Below.heap_setCell wr ⟨g, j, none⟩ y _ (by show w.heap.size ≠ g; omega)).trans h.rv, (Below.heap_setCell wr ⟨g, j, none⟩ y _ (by show w.heap.size + 1 ≠ g; omega)).trans h.pk, (Below.heap_setCell wr ⟨g, j, none⟩ y _ (by show w.heap.size + 2 ≠ g; omega)).trans h.res⟩
theorem stay_new (w : World) (g self cap cur : Nat) (p : Pk) : Stys w (((w.alloc (.cells (rvc self g cap cur) 34)).alloc (.cells (pkCells p) 53)).alloc (.cells #[.int .i64 0, .slice none 0 0, .int .u64 0] 34)) g self cap cur p := by
  have e1 : (w.alloc (.cells (rvc self g cap cur) 34)).heap.size = w.heap.size + 1 := by simp
  have e2 : ((w.alloc (.cells (rvc self g cap cur) 34)).alloc (.cells (pkCells p) 53)).heap.size = w.heap.size + 2 := by simp
  refine ⟨(((Only.refl g w).alloc _).alloc _).alloc _, ?_, ?_, ?_⟩
  · exact (heap_alloc_old _ _ (by omega)).trans (heap_alloc2_old w _ _)
  · exact (heap_alloc_old _ _ (by omega)).trans (heap_alloc2_new w _ _)
  · have := heap_alloc_new ((w.alloc (.cells (rvc self g cap cur) 34)).alloc (.cells (pkCells p) 53)) (.cells #[.int .i64 0, .slice none 0 0, .int .u64 0] 34)
    rwa [e2] at this
set_option maxHeartbeats 8000000 in
set_option maxRecDepth 100000 in
/-- the document's claim -/
theorem rclaim_any (self g cap cur n : Nat) (p : Pk) (E : Nat → Nat) (K : Nat → Nat → Bool) (w : World) (hn : n < 64) (hep : p.epoch < 18446744073709551616) (hN : Nd w g E K) : Calls Tryz.prog 77 #[.agg (rvc self g cap cur), .int .i64 (n : Int), .agg (pkCells p)] w fun e w' => e = .returned (.agg (rvc self g cap cur)) ∧ Nd w' g (fun m => if m = n then p.epoch else E m) (clK K n (wonK K E n p)) ∧ Only g w w' := by
  have hg := hN.lt
  have HS0 := hid (stay_new w g self cap cur p)
  have HN0 : Hid (Nd (((w.alloc (.cells (rvc self g cap cur) 34)).alloc (.cells (pkCells p) 53)).alloc (.cells #[.int .i64 0, .slice none 0 0, .int .u64 0] 34)) g E K) := hN.below (((below_alloc w _).alloc (by simp) _).alloc (by simp; omega) _) hg
  have HG := hid hg
  have HEE : Hid (∀ o, o ≠ n → (fun m => if m = n then p.epoch else E m) o = E o) := fun o ho => by show (if o = n then p.epoch else E o) = E o; rw [if_neg ho]
  generalize hRC : rvc self g cap cur = RC at *
  have HRC : Hid (Ending.returned (.agg (rvc self g cap cur)) = .returned (.agg RC)) := by rw [hRC]; exact rfl
  clear hRC
  generalize pkCells p = PC at *
  go_enter Tryz.func77, Tryz.ntmps77
  go_upto_region 1 with fail
  generalize (((w.alloc (.cells RC 34)).alloc (.cells PC 53)).alloc (.cells #[.int .i64 0, .slice none 0 0, .int .u64 0] 34)) = w2 at *
  obtain ⟨c0, c1, c2⟩ := rv_cells HS0.out.rv
  obtain ⟨-, -, -, p3, -⟩ := HS0.out.pk.cells
  have ce := HN0.out.ep hn
  have fe := HN0.out.frozen (n * 257)
  have hnz : (n : Int) < 64 := by omega
  have HN1 := hid (HN0.out.setE hn p.epoch)
  have HS1 := hid (HS0.out.set HG.out (n * 257) (.int .u64 (p.epoch : Int)))
  rw [show (K : Nat → Nat → Bool) = mixK K (clK K n (wonK K E n p)) 0 from (mix_zero _ _).symm] at HN1
  go_upto_region 2 with fail
  generalize w2.setCell ⟨g, n * 257, none⟩ (.int .u64 (p.epoch : Int)) = w3 at HN1 HS1 ⊢
  clear c0 c1 c2 p3 ce fe HN0 HS0
  generalize hE : (fun m => if m = n then p.epoch else E m) = E' at *
  have HX0 : Hid (∀ a, (0 : Int) = (word (kpK K E n p.epoch 0) a : Int)) := fun a => by rw [show word (kpK K E n p.epoch 0) a = 0 from (word_ext (S := kpK K E n p.epoch 0) (x := 0) (by decide) (fun k _ => by simp [kpK])).symm]; rfl
  have HWon : Hid (∀ a, bits BinOp.andNot IntKind.u64 (word p.cl a : Int) (word (kpK K E n p.epoch 64) a : Int) = (word (wonK K E n p) a : Int)) := fun a => andNot_bits p.cl (kpK K E n p.epoch 64) a
  have HKs : Hid (∀ o a, o ≠ n ∧ p.epoch ≤ E o → bits BinOp.or IntKind.u64 (word (kpK K E n p.epoch o) a : Int) (word (K o) a : Int) = (word (kpK K E n p.epoch (o + 1)) a : Int)) := fun o a h => kp_step K E n p.epoch o a h
  have HKn : Hid (∀ o, ¬ (o ≠ n ∧ p.epoch ≤ E o) → kpK K E n p.epoch (o + 1) = kpK K E n p.epoch o) := fun o h => kp_skip K E n p.epoch o h
  have hepz : (p.epoch : Int) ≤ 18446744073709551615 := by omega
  generalize hX : wonK K E n p = X at *
  generalize kpK K E n p.epoch = KP at *
  generalize hep2 : p.epoch = ee at *
  have HEq := hid hE
  have HXq := hid hX
  have HPe := hid hep2
  clear hE hX hep
  go_wp2_with fail
  go_loopw [7, 8, 9, 10, 11] (fun i _ _ _ _ wr => ∃ a : Nat, a ≤ 256 ∧ i = .int .i64 a ∧ Hid (Nd wr g E' (mixK K (clK K n X) a)) ∧ Hid (Stys w wr g self cap cur p)) (fun i _ _ _ _ _ => 256 - (intOf i).toNat)
  case atStart => exact ⟨0, by omega, rfl, HN1.out, HS1.out⟩
  case round =>
    obtain ⟨a, ha, rfl, HN2, HS2⟩ := hrel
    by_cases hlt : a < 256
    · have haz : (a : Int) < 256 := by omega
      go_wp2
      go_loopw [8, 9] (fun kv ov wr => ∃ o : Nat, o ≤ 64 ∧ ov = .int .i64 o ∧ kv = .int .u64 (word (KP o) a : Int) ∧ Hid (Nd wr g E' (mixK K (clK K n X) a)) ∧ Hid (Stys w wr g self cap cur p)) (fun _ ov _ => 64 - (intOf ov).toNat)
      case atStart => exact ⟨0, by omega, rfl, congrArg (Value.int .u64) (HX0.out a), HN2.out, HS2.out⟩
      case round =>
        obtain ⟨o, ho, rfl, rfl, HN3, HS3⟩ := hrel
        obtain ⟨c0, c1, c2⟩ := rv_cells HS3.out.rv
        obtain ⟨-, -, -, p3, -⟩ := HS3.out.pk.cells
        rw [hep2] at p3
        by_cases hol : o < 64
        · have hoz : (o : Int) < 64 := by omega
          have ce := HN3.out.ep hol
          have cw := HN3.out.wd (i := a) hol hlt
          rw [mix_at] at cw
          by_cases hon : o = n
          · subst hon
            have HK := hid (HKn.out o (fun c => c.1 rfl))
            generalize hkx : word (KP o) a = kx at *
            have HX1 : Hid (Value.int .u64 (kx : Int) = .int .u64 (word (KP (o + 1)) a : Int)) := by show _ = _; rw [HK.out, hkx]
            clear hkx HK
            go_wp2
            go_region
            go_wp2
            go_roundw
            case rel => exact ⟨o + 1, by omega, by go_num, HX1.out, HN3.out.turn rfl, HS3.out.drew⟩
            case measure => simp [intOf]; omega
          · have hon2 : ((o : Int) == (n : Int)) = false := by rw [beq_eq_false_iff_ne]; omega
            have hon3 : ¬ (o : Int) = (n : Int) := by omega
            have hon4 : ((o : Int) != (n : Int)) = true := by rw [bne, hon2]; rfl
            rw [HEE.out o hon] at ce
            by_cases hge : ee ≤ E o
            · have hgz : (ee : Int) ≤ (E o : Int) := by omega
              have hor := HKs.out o a ⟨hon, hge⟩
              generalize hky : (word (KP (o + 1)) a : Int) = ky at *
              have HX1 : Hid (Value.int .u64 ky = .int .u64 (word (KP (o + 1)) a : Int)) := by show _ = _; rw [hky]
              clear hky
              generalize (word (KP o) a : Int) = kx at *
              generalize (word (K o) a : Int) = kk at *
              generalize (E o : Int) = eo at *
              go_wp2
              go_region
              go_wp2
              go_roundw
              case rel => exact ⟨o + 1, by omega, by go_num, HX1.out, HN3.out.turn rfl, HS3.out.drew⟩
              case measure => simp [intOf]; omega
            · have hgz : ¬ (ee : Int) ≤ (E o : Int) := by omega
              have HK := hid (HKn.out o (fun c => hge c.2))
              generalize hkx : word (KP o) a = kx at *
              have HX1 : Hid (Value.int .u64 (kx : Int) = .int .u64 (word (KP (o + 1)) a : Int)) := by show _ = _; rw [HK.out, hkx]
              clear hkx HK
              generalize (E o : Int) = eo at *
              go_wp2
              go_region
              go_wp2
              go_roundw
              case rel => exact ⟨o + 1, by omega, by go_num, HX1.out, HN3.out.turn rfl, HS3.out.drew⟩
              case measure => simp [intOf]; omega
        · obtain rfl : o = 64 := by omega
          have hwon := HWon.out a
          have hpw := HS3.out.pk.word a hlt
          rw [hep2] at *
          generalize hXa : (word X a : Int) = xa at *
          generalize (word p.cl a : Int) = pa at *
          generalize (word (KP 64) a : Int) = ka at *
          have HXA := hid hXa
          clear hXa
          go_wp2_with fail
          clear c0 c1 c2 p3 hpw hwon
          go_loopw [11] (fun ov wr => ∃ o : Nat, o ≤ 64 ∧ ov = .int .i64 o ∧ Hid (Nd wr g E' (twoK K (clK K n X) X a o)) ∧ Hid (Stys w wr g self cap cur p)) (fun ov _ => 64 - (intOf ov).toNat)
          case atStart => exact ⟨0, by omega, rfl, by rw [two_zero]; exact HN3.out, HS3.out⟩
          case round =>
            obtain ⟨o, ho, rfl, HN4, HS4⟩ := hrel
            obtain ⟨c0, c1, c2⟩ := rv_cells HS4.out.rv
            by_cases hol : o < 64
            · have hoz : (o : Int) < 64 := by omega
              have cw := HN4.out.wd (i := a) hol hlt
              have fw := HN4.out.frozen (o * 257 + 1 + a)
              rw [two_at] at cw
              have hand := andNot_bits (K o) X a
              rw [HXA.out, ← two_next K (clK K n X) X a o] at hand
              have HN5 := hid (HN4.out.setW (L := twoK K (clK K n X) X a (o + 1)) hol hlt (fun m j hm hj h => two_else K (clK K n X) X a o m j hm hj h))
              have HS5 := hid (HS4.out.set HG.out (o * 257 + 1 + a) (.int .u64 (word (twoK K (clK K n X) X a (o + 1) o) a : Int)))
              generalize (word (twoK K (clK K n X) X a (o + 1) o) a : Int) = y1 at *
              generalize (word (K o) a : Int) = kk at *
              go_wp2
              go_region
              go_wp2
              go_roundw
              case rel => exact ⟨o + 1, by omega, by go_num, HN5.out.turn rfl, HS5.out.drew⟩
              case measure => simp [intOf]; omega
            · obtain rfl : o = 64 := by omega
              have cw := HN4.out.wd (i := a) hn hlt
              have fw := HN4.out.frozen (n * 257 + 1 + a)
              have HN6 := hid (HN4.out.setW (L := mixK K (clK K n X) (a + 1)) hn hlt (fun m j hm hj h => last_else K X a n m j hm hj h))
              have HS6 := hid (HS4.out.set HG.out (n * 257 + 1 + a) (.int .u64 (word (mixK K (clK K n X) (a + 1) n) a : Int)))
              rw [last_at, HXA.out] at HN6 HS6
              generalize (word (twoK K (clK K n X) X a 64 n) a : Int) = y1 at *
              go_wp2
              go_roundw
              case rel => exact ⟨a + 1, by omega, by go_num, HN6.out, HS6.out⟩
              case measure => simp [intOf]; omega
    · obtain rfl : a = 256 := by omega
      have HN9 := hid (mix_all K (clK K n X) HN2.out)
      have HS9 := HS2
      have hne2 : g ≠ w.heap.size + 2 := by have := HG.out; omega
      go_wp2_with (refine wpList_load_row rfl 34 _ rfl w.heap.size rfl 34 _ (0, 0) _ HS9.out.rv Tryz.underlying34 rfl (infoRV rfl) (Hid.out ?_))
      refine hid ?_
      go_wp2_with (refine wpList_store_row rfl 34 _ _ rfl (w.heap.size + 2) (rvc self g cap cur) rfl rfl 34 _ HS9.out.res (infoRV rfl) rfl (rvc_one _ _ _ _) (Hid.out ?_))
      refine hid ?_
      go_wp2_with fail
      refine bodyPost_ret (v := .agg (rvc self g cap cur)) ?_ rfl ?_
      · exact ret_rv rfl rfl (setRow_heap _ _ _ _ _ _ HS9.out.res)
      · have e1 : E' = fun m => if m = n then p.epoch else E m := by rw [HPe.out]; exact HEq.out.symm
        have hfin := HN9.out.turn (setRow_other wr (w.heap.size + 2) g (rvc self g cap cur) hne2)
        rw [e1, ← HXq.out] at hfin
        exact ⟨HRC.out, hfin, HS9.out.only.setRowNew (by omega) _⟩

end Go.Proofs.YtbfllifgmlkndaaGreatDoor
