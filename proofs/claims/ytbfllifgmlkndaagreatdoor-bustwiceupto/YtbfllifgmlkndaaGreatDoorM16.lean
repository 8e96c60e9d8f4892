/- VwRef2. -/
import Derived.Test.YtbfllifgmlkndaaGreatDoorM14
namespace Go.Proofs.YtbfllifgmlkndaaGreatDoor
open Go.RowKit
open Slot

/-- the slot s is n's alone -/
def ownK (K : Nat → Nat → Bool) (s n : Nat) : Nat → Nat → Bool := fun m t => if t = s then m == n else K m t
def partK (K : Nat → Nat → Bool) (s n k : Nat) : Nat → Nat → Bool := fun m t => if m < k then ownK K s n m t else K m t
theorem part_zero (K : Nat → Nat → Bool) (s n : Nat) : partK K s n 0 = K := by
  funext m t; unfold partK; rw [if_neg (Nat.not_lt_zero _)]
theorem part_at (K : Nat → Nat → Bool) (s n k : Nat) : partK K s n k k = K k := by
  funext t; unfold partK; rw [if_neg (Nat.lt_irrefl _)]
/-- with the slot taken away -/
def lessK (K : Nat → Nat → Bool) (s n k : Nat) : Nat → Nat → Bool := fun m t => if m = k then K k t && !oneS s t else partK K s n k m t
theorem less_at (K : Nat → Nat → Bool) (s n k : Nat) : lessK K s n k k = fun t => K k t && !oneS s t := by
  funext t; unfold lessK; rw [if_pos rfl]
theorem less_else (K : Nat → Nat → Bool) (s n k : Nat) : ∀ m j, m < 64 → j < 256 → ¬ (m = k ∧ j = s / 64) → word (lessK K s n k m) j = word (partK K s n k m) j := fun m j _ _ h => by
  by_cases e : m = k
  · subst e
    rw [less_at, part_at]
    refine word_congr fun t ht => ?_
    have : ¬ 64 * j + t = s := fun c => h ⟨rfl, by omega⟩
    simp [oneS, this]
  · unfold lessK
    simp only [if_neg e]
theorem part_less (K : Nat → Nat → Bool) (s n k : Nat) (hkn : k ≠ n) : partK K s n (k + 1) = lessK K s n k := by
  funext m t
  unfold lessK partK ownK oneS
  by_cases e : m = k
  · subst e
    rw [if_pos (by omega), if_pos rfl]
    by_cases e2 : t = s
    · simp [e2, hkn]
    · simp [e2]
  · rw [if_neg e]
    by_cases e2 : m < k
    · rw [if_pos (by omega), if_pos e2]
    · rw [if_neg (by omega), if_neg e2]
theorem part_more (K : Nat → Nat → Bool) (s n : Nat) : partK K s n (n + 1) n = fun t => lessK K s n n n t || oneS s t := by
  funext t
  rw [less_at]
  unfold partK ownK oneS
  rw [if_pos (by omega)]
  by_cases e : t = s
  · simp [e]
  · have e2 : (t == s) = false := beq_eq_false_iff_ne.2 e
    simp [e, e2]
theorem wrap_pow (r : Nat) (h : r < 64) : IntKind.u64.wrap ((2 ^ r : Nat) : Int) = ((2 ^ r : Nat) : Int) := by
  have : (2 : Nat) ^ r < 2 ^ 64 := Nat.pow_lt_pow_right (by decide) h
  rw [IntKind.wrap_u64]
  generalize (2 : Nat) ^ r = x at *
  omega
theorem part_else (K : Nat → Nat → Bool) (s n : Nat) : ∀ m j, m < 64 → j < 256 → ¬ (m = n ∧ j = s / 64) → word (partK K s n (n + 1) m) j = word (lessK K s n n m) j := fun m j _ _ h => by
  by_cases e : m = n
  · subst e
    rw [part_more]
    refine word_congr fun t ht => ?_
    have : ¬ 64 * j + t = s := fun c => h ⟨rfl, by omega⟩
    simp [oneS, this]
  · refine word_congr fun t ht => ?_
    unfold lessK partK
    rw [if_neg e]
    by_cases e2 : m < n
    · rw [if_pos (by omega), if_pos e2]
    · rw [if_neg (by omega), if_neg e2]
theorem part_all (K : Nat → Nat → Bool) (s n : Nat) {w : World} {g : Nat} {E : Nat → Nat} (h : Nd w g E (partK K s n 64)) : Nd w g E (ownK K s n) :=
  h.congr (fun _ _ => rfl) (fun m i hm _ => word_congr fun t _ => by unfold partK; rw [if_pos hm])
set_option maxHeartbeats 4000000 in
set_option maxRecDepth 100000 in
/-- the document's owned -/
theorem rowned_any (self g cap cur s n : Nat) (E : Nat → Nat) (K : Nat → Nat → Bool) (w : World) (hs : s < 16384) (hn : n < 64) (hN : Nd w g E K) : Calls Tryz.prog 56 #[.agg (rvc self g cap cur), .int .i64 (s : Int), .int .i64 (n : Int)] w fun e w' => e = .returned (.agg (rvc self g cap cur)) ∧ Nd w' g E (ownK K s n) ∧ Only g w w' := by
  have hg := hN.lt
  have HB0 : Hid (RVb ((w.alloc (.cells (rvc self g cap cur) 34)).alloc (.cells #[.int .i64 0, .slice none 0 0, .int .u64 0] 34)) w.heap.size self g cap cur) := heap_alloc2_old w _ _
  have HR0 : Hid (((w.alloc (.cells (rvc self g cap cur) 34)).alloc (.cells #[.int .i64 0, .slice none 0 0, .int .u64 0] 34)).heap[w.heap.size + 1]? = some (.cells #[.int .i64 0, .slice none 0 0, .int .u64 0] 34 (0, 0))) := heap_alloc2_new w _ _
  have HO0 : Hid (Only g w ((w.alloc (.cells (rvc self g cap cur) 34)).alloc (.cells #[.int .i64 0, .slice none 0 0, .int .u64 0] 34))) := ((Only.refl g w).alloc _).alloc _
  have HN0 : Hid (Nd ((w.alloc (.cells (rvc self g cap cur) 34)).alloc (.cells #[.int .i64 0, .slice none 0 0, .int .u64 0] 34)) g E (partK K s n 0)) := by rw [part_zero]; exact hN.below ((below_alloc w _).alloc (by simp) _) hg
  have hne : g ≠ w.heap.size := by omega
  have hne1 : g ≠ w.heap.size + 1 := by omega
  obtain ⟨q, hq⟩ : ∃ q : Nat, q = s / 64 := ⟨_, rfl⟩
  obtain ⟨r, hr⟩ : ∃ r : Nat, r = s % 64 := ⟨_, rfl⟩
  have q1 : (s : Int) / 64 = (q : Int) := by omega
  have q2 : (s : Int).tdiv 64 = (q : Int) := by rw [Int.tdiv_eq_ediv_of_nonneg (by omega)]; omega
  have q3 : IntKind.i64.wrap (q : Int) = q := by rw [IntKind.wrap_i64]; omega
  have r1 : (s : Int) % 64 = (r : Int) := by omega
  have q256 : q < 256 := by omega
  have r64 : r < 64 := by omega
  have q256' : (q : Int) < 256 := by omega
  have ho := one_word s
  rw [← hq, ← hr] at ho
  have ho1 := wrap_pow r r64
  rw [ho] at ho1
  rw [show ((2 ^ r : Nat) : Int) = (2 : Int) ^ r by rw [Int.natCast_pow]; rfl] at ho
  have HQ := hid hq
  clear hq hr
  generalize hRC : rvc self g cap cur = RC at *
  have HRC : Hid (Ending.returned (.agg (rvc self g cap cur)) = .returned (.agg RC)) := by rw [hRC]; exact rfl
  clear hRC
  go_enter Tryz.func56, Tryz.ntmps56
  go_upto_region 1 with fail
  generalize (w.alloc (.cells RC 34)).alloc (.cells #[.int .i64 0, .slice none 0 0, .int .u64 0] 34) = w2 at *
  go_wp2_with fail
  generalize hOB : (word (oneS s) q : Int) = OB at *
  have HOB := hid hOB
  clear hOB
  go_loopw [8] (fun i wr => ∃ k : Nat, k ≤ 64 ∧ i = .int .i64 k ∧ Hid (Nd wr g E (partK K s n k)) ∧ Hid (Only g w wr) ∧ Hid (RVb wr w.heap.size self g cap cur) ∧ Hid (wr.heap[w.heap.size + 1]? = some (.cells #[.int .i64 0, .slice none 0 0, .int .u64 0] 34 (0, 0)))) (fun i _ => 64 - (intOf i).toNat)
  case atStart => exact ⟨0, by omega, rfl, HN0.out, HO0.out, HB0.out, HR0.out⟩
  case round =>
    obtain ⟨k, hk, rfl, HN, HO, HB, HR⟩ := hrel
    obtain ⟨c0, c1, c2⟩ := rv_cells HB.out
    by_cases hlt : k < 64
    · have hkz : (k : Int) < 64 := by omega
      have cw := HN.out.wd (i := q) hlt q256
      have fw := HN.out.frozen (k * 257 + 1 + q)
      rw [part_at] at cw
      have hand := andNot_bits (K k) (oneS s) q
      rw [HOB.out, ← less_at K s n k] at hand
      have HN1 := hid (HN.out.setW (L := lessK K s n k) hlt q256 (fun m j hm hj h => less_else K s n k m j hm hj (by rw [← HQ.out]; exact h)))
      have HO1 := hid (HO.out.setCell (k * 257 + 1 + q) (.int .u64 (word (lessK K s n k k) q : Int)))
      have HN4 : Hid (Nd (wr.setCell ⟨g, k * 257 + 1 + q, none⟩ (.int .u64 (word (lessK K s n k k) q : Int))).drew g E (lessK K s n k)) := HN1.out.turn rfl
      have HO4 := hid HO1.out.drew
      have HB4 : Hid (RVb (wr.setCell ⟨g, k * 257 + 1 + q, none⟩ (.int .u64 (word (lessK K s n k k) q : Int))).drew w.heap.size self g cap cur) := (Below.heap_setCell wr ⟨g, k * 257 + 1 + q, none⟩ _ _ hne.symm).trans HB.out
      have HR4 : Hid ((wr.setCell ⟨g, k * 257 + 1 + q, none⟩ (.int .u64 (word (lessK K s n k k) q : Int))).drew.heap[w.heap.size + 1]? = some (.cells #[.int .i64 0, .slice none 0 0, .int .u64 0] 34 (0, 0))) := (Below.heap_setCell wr ⟨g, k * 257 + 1 + q, none⟩ _ _ hne1.symm).trans HR.out
      clear HN1 HO1
      have HA := hid hand
      generalize hy1 : (word (lessK K s n k k) q : Int) = y1 at *
      have HY := hid hy1
      generalize (word (K k) q : Int) = x at *
      clear hy1
      by_cases hkn : k = n
      · subst hkn
        go_wp2
        go_region
        generalize (wr.setCell ⟨g, k * 257 + 1 + q, none⟩ (.int .u64 y1)).drew = w4 at HN4 HO4 HB4 HR4 ⊢
        have hor := or_bits (lessK K s k k k) (oneS s) q
        rw [HOB.out, ← part_more K s k, HY.out] at hor
        have HN5 := hid (HN4.out.setW (L := partK K s k (k + 1)) hlt q256 (fun m j hm hj h => part_else K s k m j hm hj (by rw [← HQ.out]; exact h)))
        have HO5 := hid (HO4.out.setCell (k * 257 + 1 + q) (.int .u64 (word (partK K s k (k + 1) k) q : Int)))
        obtain ⟨d0, d1, d2⟩ := rv_cells HB4.out
        have dw := HN4.out.wd (i := q) hlt q256
        rw [HY.out] at dw
        have gw := HN4.out.frozen (k * 257 + 1 + q)
        have HB5 : Hid (∀ y, RVb (w4.setCell ⟨g, k * 257 + 1 + q, none⟩ y).drew w.heap.size self g cap cur) := fun y => (Below.heap_setCell w4 ⟨g, k * 257 + 1 + q, none⟩ y _ hne.symm).trans HB4.out
        have HR5 : Hid (∀ y, (w4.setCell ⟨g, k * 257 + 1 + q, none⟩ y).drew.heap[w.heap.size + 1]? = some (.cells #[.int .i64 0, .slice none 0 0, .int .u64 0] 34 (0, 0))) := fun y => (Below.heap_setCell w4 ⟨g, k * 257 + 1 + q, none⟩ y _ hne1.symm).trans HR4.out
        generalize (word (partK K s k (k + 1) k) q : Int) = y2 at *
        clear c0 c1 c2 cw fw hand
        go_wp2
        go_region
        go_wp2
        go_roundw
        case rel => exact ⟨k + 1, by omega, by go_num, HN5.out.turn rfl, HO5.out.drew, HB5.out _, HR5.out _⟩
        case measure => simp [intOf]; omega
      · have hkn2 : ((k : Int) == (n : Int)) = false := by rw [beq_eq_false_iff_ne]; omega
        have hkn3 : ¬ (k : Int) = (n : Int) := by omega
        rw [← part_less K s n k hkn] at HN4
        go_wp2
        go_region
        go_wp2
        go_roundw
        case rel => exact ⟨k + 1, by omega, by go_num, HN4.out, HO4.out, HB4.out, HR4.out⟩
        case measure => simp [intOf]; omega
    · obtain rfl : k = 64 := by omega
      have HN9 := hid (part_all K s n HN.out)
      go_wp2_with (refine wpList_load_row rfl 34 _ rfl w.heap.size rfl 34 _ (0, 0) _ HB.out Tryz.underlying34 rfl (infoRV rfl) (Hid.out ?_))
      refine hid ?_
      go_wp2_with (refine wpList_store_row rfl 34 _ _ rfl (w.heap.size + 1) (rvc self g cap cur) rfl rfl 34 _ HR.out (infoRV rfl) rfl (rvc_one _ _ _ _) (Hid.out ?_))
      refine hid ?_
      go_wp2_with fail
      refine bodyPost_ret (v := .agg (rvc self g cap cur)) ?_ rfl ?_
      · exact ret_rv rfl rfl (setRow_heap _ _ _ _ _ _ HR.out)
      · exact ⟨HRC.out, HN9.out.turn (setRow_other _ _ _ _ hne1), HO.out.setRowNew (by omega) _⟩

end Go.Proofs.YtbfllifgmlkndaaGreatDoor
