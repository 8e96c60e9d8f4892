/- VwMem, VwRef1. -/
import Derived.Test.YtbfllifgmlkndaaGreatDoorM05
import Derived.Test.YtbfllifgmlkndaaGreatDoorM11
import Derived.Deep.DeepCutAuto
import Derived.Test.YtbfllifgmlkndaaGreatDoorM07
namespace Go.Proofs.YtbfllifgmlkndaaGreatDoor
open Go.RowKit
open Slot

/-- the nodes: their epochs, and their slots in words, in block g -/
def Nd (w : World) (g : Nat) (E : Nat → Nat) (K : Nat → Nat → Bool) : Prop := ∃ C : Array Value, w.heap[g]? = some (.cells C 79 (0, 0)) ∧ ∀ n, n < 64 → C[n * 257]? = some (.int .u64 (E n : Int)) ∧ ∀ i, i < 256 → C[n * 257 + 1 + i]? = some (.int .u64 (word (K n) i : Int))
theorem Nd.lt {w : World} {g : Nat} {E : Nat → Nat} {K : Nat → Nat → Bool} (h : Nd w g E K) : g < w.heap.size := by
  obtain ⟨C, h1, _⟩ := h
  exact (Array.getElem?_eq_some_iff.1 h1).1
theorem Nd.turn {w w' : World} {g : Nat} {E : Nat → Nat} {K : Nat → Nat → Bool} (h : Nd w g E K) (hb : w'.heap[g]? = w.heap[g]?) : Nd w' g E K := by
  obtain ⟨C, h1, h2⟩ := h
  exact ⟨C, hb.trans h1, h2⟩
theorem Nd.below {w w' : World} {n g : Nat} {E : Nat → Nat} {K : Nat → Nat → Bool} (h : Nd w g E K) (hb : Below n w w') (hn : g < n) : Nd w' g E K := h.turn (hb.block g hn)
theorem Nd.ep {w : World} {g : Nat} {E : Nat → Nat} {K : Nat → Nat → Bool} (h : Nd w g E K) {n : Nat} (hn : n < 64) : w.cell? ⟨g, n * 257, none⟩ = some (.int .u64 (E n : Int)) := by
  obtain ⟨C, h1, h2⟩ := h
  rw [cell_of_row w g _ _ _ _ h1]
  exact (h2 n hn).1
theorem Nd.wd {w : World} {g : Nat} {E : Nat → Nat} {K : Nat → Nat → Bool} (h : Nd w g E K) {n i : Nat} (hn : n < 64) (hi : i < 256) : w.cell? ⟨g, n * 257 + 1 + i, none⟩ = some (.int .u64 (word (K n) i : Int)) := by
  obtain ⟨C, h1, h2⟩ := h
  rw [cell_of_row w g _ _ _ _ h1]
  exact (h2 n hn).2 i hi
theorem Nd.frozen {w : World} {g : Nat} {E : Nat → Nat} {K : Nat → Nat → Bool} (h : Nd w g E K) (j : Nat) : w.frozen? ⟨g, j, none⟩ = false := by
  obtain ⟨C, h1, _⟩ := h
  simp [World.frozen?, h1]
theorem Nd.setE {w : World} {g : Nat} {E : Nat → Nat} {K : Nat → Nat → Bool} (h : Nd w g E K) {n : Nat} (hn : n < 64) (x : Nat) : Nd (w.setCell ⟨g, n * 257, none⟩ (.int .u64 (x : Int))) g (fun m => if m = n then x else E m) K := by
  obtain ⟨C, h1, h2⟩ := h
  refine ⟨_, heap_setCell_same w g (n * 257) C _ _ h1, fun m hm => ⟨?_, fun i hi => ?_⟩⟩
  · by_cases e : m = n
    · subst e
      rw [Array.getElem?_setIfInBounds_self_of_lt (Array.getElem?_eq_some_iff.1 (h2 m hm).1).1]
      simp
    · rw [Array.getElem?_setIfInBounds_ne (by omega), (h2 m hm).1]
      simp [e]
  · rw [Array.getElem?_setIfInBounds_ne (by omega)]
    exact (h2 m hm).2 i hi
/-- a word of a node's slots is written -/
theorem Nd.setW {w : World} {g : Nat} {E : Nat → Nat} {K L : Nat → Nat → Bool} (h : Nd w g E K) {n i : Nat} (hn : n < 64) (hi : i < 256) (hL : ∀ m j, m < 64 → j < 256 → ¬ (m = n ∧ j = i) → word (L m) j = word (K m) j) : Nd (w.setCell ⟨g, n * 257 + 1 + i, none⟩ (.int .u64 (word (L n) i : Int))) g E L := by
  obtain ⟨C, h1, h2⟩ := h
  refine ⟨_, heap_setCell_same w g (n * 257 + 1 + i) C _ _ h1, fun m hm => ⟨?_, fun j hj => ?_⟩⟩
  · rw [Array.getElem?_setIfInBounds_ne (by omega)]
    exact (h2 m hm).1
  · by_cases e : m = n ∧ j = i
    · obtain ⟨rfl, rfl⟩ := e
      rw [Array.getElem?_setIfInBounds_self_of_lt (Array.getElem?_eq_some_iff.1 ((h2 m hm).2 j hj)).1]
    · rw [Array.getElem?_setIfInBounds_ne (by omega), hL m j hm hj e]
      exact (h2 m hm).2 j hj
theorem Nd.congr {w : World} {g : Nat} {E F : Nat → Nat} {K L : Nat → Nat → Bool} (h : Nd w g E K) (hE : ∀ n, n < 64 → F n = E n) (hK : ∀ n i, n < 64 → i < 256 → word (L n) i = word (K n) i) : Nd w g F L := by
  obtain ⟨C, h1, h2⟩ := h
  refine ⟨C, h1, fun n hn => ⟨?_, fun i hi => ?_⟩⟩
  · rw [hE n hn]; exact (h2 n hn).1
  · rw [hK n i hn hi]; exact (h2 n hn).2 i hi

/-! words of sets -/
theorem word_ext {S : Nat → Bool} {i x : Nat} (hx : x < 18446744073709551616) (h : ∀ k, k < 64 → x.testBit k = S (64 * i + k)) : x = word S i := by
  unfold word
  rw [← num_congr h]
  exact eq_num (n := 64) hx
theorem word_at (S : Nat → Bool) (i k : Nat) (hk : k < 64) : (word S i).testBit k = S (64 * i + k) := by
  unfold word
  rw [testBit_num]
  simp [hk]
theorem andNot_bit (b k : Nat) (hk : k < 64) (hb : b < 18446744073709551616) : (18446744073709551615 - b).testBit k = !b.testBit k := by
  have := Nat.testBit_two_pow_sub_succ (x := b) (n := 64) hb k
  rw [show 2 ^ 64 - (b + 1) = 18446744073709551615 - b by omega] at this
  rw [this]
  simp [hk]
theorem andNot_bits (S T : Nat → Bool) (i : Nat) : bits BinOp.andNot IntKind.u64 (word S i : Int) (word T i : Int) = (word (fun n => S n && !T n) i : Int) := by
  rw [u64_andNot_nat _ _ (word_lt S i) (word_lt T i)]
  refine congrArg Int.ofNat (word_ext (Nat.lt_of_le_of_lt Nat.and_le_left (word_lt S i)) fun k hk => ?_)
  rw [Nat.testBit_and, andNot_bit _ k hk (word_lt T i), word_at S i k hk, word_at T i k hk]
theorem or_bits (S T : Nat → Bool) (i : Nat) : bits BinOp.or IntKind.u64 (word S i : Int) (word T i : Int) = (word (fun n => S n || T n) i : Int) := by
  rw [u64_or_nat _ _ (word_lt S i) (word_lt T i)]
  refine congrArg Int.ofNat (word_ext (Nat.or_lt_two_pow (n := 64) (word_lt S i) (word_lt T i)) fun k hk => ?_)
  rw [Nat.testBit_or, word_at S i k hk, word_at T i k hk]
/-- one slot alone -/
def oneS (s : Nat) : Nat → Bool := fun n => n == s
theorem one_word (s : Nat) : ((2 ^ (s % 64) : Nat) : Int) = (word (oneS s) (s / 64) : Int) := by
  refine congrArg Int.ofNat (word_ext ?_ fun k hk => ?_)
  · exact Nat.lt_of_lt_of_le (Nat.pow_lt_pow_right (by decide) (Nat.mod_lt s (by decide : 0 < 64))) (Nat.le_refl (2 ^ 64))
  · rw [Nat.testBit_two_pow]
    unfold oneS
    by_cases e : s % 64 = k
    · rw [decide_eq_true e]
      have : 64 * (s / 64) + k = s := by omega
      simp [this]
    · rw [decide_eq_false e]
      have : ¬ 64 * (s / 64) + k = s := by omega
      simp [this]

/-- the document's view, as a value -/
def rvc (self g cap cur : Nat) : Array Value := #[.int .i64 (self : Int), .slice (some ⟨g, 0, none⟩) 64 cap, .int .u64 (cur : Int)]
theorem rv_cells {w : World} {b self g cap cur : Nat} (h : w.heap[b]? = some (.cells (rvc self g cap cur) 34 (0, 0))) : w.cell? ⟨b, 0, none⟩ = some (.int .i64 (self : Int)) ∧ w.cell? ⟨b, 1, none⟩ = some (.slice (some ⟨g, 0, none⟩) 64 cap) ∧ w.cell? ⟨b, 2, none⟩ = some (.int .u64 (cur : Int)) :=
  ⟨cell_of_row w b 0 _ _ _ h, cell_of_row w b 1 _ _ _ h, cell_of_row w b 2 _ _ _ h⟩
/-- who owns a slot, as it is told -/
def ownI (v : Vw) (s : Int) : Int := if slotB s = true ∧ v.own s.toNat < 64 then (v.own s.toNat : Int) else -1
set_option maxHeartbeats 2000000 in
set_option maxRecDepth 100000 in
theorem rowner_in (self g cap cur : Nat) (v : Vw) (s : Nat) (w : World) (hs : s < 16384) (hN : Nd w g v.ep v.cl) : Calls Tryz.prog 95 #[.agg (rvc self g cap cur), .int .i64 (s : Int)] w fun e w' => e = .returned (.int .i64 (ownI v s)) ∧ Below w.heap.size w w' := by
  have hb := below_alloc w (.cells (rvc self g cap cur) 34)
  have HW := hid hb
  have HN := hid (hN.below hb hN.lt)
  obtain ⟨c0, c1, c2⟩ := rv_cells (heap_alloc_new w (.cells (rvc self g cap cur) 34))
  have HO : Hid (ownI v s = if v.own s < 64 then (v.own s : Int) else -1) := by
    show _ = _
    unfold ownI slotB
    rw [decide_eq_true (show (0 : Int) ≤ (s : Int) ∧ (s : Int) < 16384 by omega), Int.toNat_natCast]
    simp
  generalize ownI v s = R at *
  have hz : (s : Int) < 16384 := by omega
  have hz2 : ¬ (16383 : Int) < (s : Int) := by omega
  have hz3 : ¬ (s : Int) < 0 := by omega
  obtain ⟨q, hq⟩ : ∃ q : Nat, q = s / 64 := ⟨_, rfl⟩
  obtain ⟨r, hr⟩ : ∃ r : Nat, r = s % 64 := ⟨_, rfl⟩
  have q1 : (s : Int) / 64 = (q : Int) := by omega
  have r1 : (s : Int) % 64 = (r : Int) := by omega
  have q256 : q < 256 := by omega
  have r64 : r < 64 := by omega
  have HB : Hid (∀ n, (word (v.cl n) q).testBit r = (v.own s == n)) := fun n => by
    rw [hq, hr]; exact word_bit (v.cl n) s
  have HL : Hid (∀ n, word (v.cl n) q < 18446744073709551616) := fun n => word_lt _ _
  clear hb hN hq hr
  generalize rvc self g cap cur = RC at *
  go_enter Tryz.func95, Tryz.ntmps95
  go_wp2
  go_loop [5] (fun i => ∃ n : Nat, n ≤ 64 ∧ i = .int .i64 n ∧ Hid (∀ m, m < n → v.own s ≠ m)) (fun i => 64 - (intOf i).toNat)
  case atStart => exact ⟨0, by omega, rfl, fun m hm => absurd hm (Nat.not_lt_zero _)⟩
  case round =>
    obtain ⟨n, hn, rfl, HM⟩ := hrel
    by_cases hlt : n < 64
    · have cw := HN.out.wd (i := q) hlt q256
      have hbit := bit_one (word (v.cl n) q) r (HL.out n)
      rw [HB.out n] at hbit
      generalize (word (v.cl n) q : Int) = x at cw hbit
      have hnz : (n : Int) < 64 := by omega
      by_cases e : v.own s = n
      · rw [e] at hbit
        simp only [beq_self_eq_true, if_true] at hbit
        have HR : Hid (R = n) := by
          show _ = _
          rw [HO.out, e, if_pos hlt]
        clear HO
        go_wp2
        go_ret
        exact ⟨by rw [HR.out]; rfl, HW.out⟩
      · rw [show (v.own s == n) = false from beq_eq_false_iff_ne.2 e] at hbit
        simp only [Bool.false_eq_true, if_false] at hbit
        have HM2 : Hid (∀ m, m < n + 1 → v.own s ≠ m) := fun m hm => by
          by_cases e2 : m = n
          · rw [e2]; exact e
          · exact HM.out m (by omega)
        clear HO
        go_wp2
        go_round
        case rel => exact ⟨n + 1, by omega, by go_num, HM2.out⟩
        case measure => simp [intOf]; omega
    · obtain rfl : n = 64 := by omega
      have HR : Hid (R = -1) := by
        show _ = _
        rw [HO.out, if_neg (fun c => HM.out _ c rfl)]
      clear HO
      go_wp2
      go_ret
      exact ⟨by rw [HR.out]; rfl, HW.out⟩
end Go.Proofs.YtbfllifgmlkndaaGreatDoor

namespace Go.Proofs.YtbfllifgmlkndaaGreatDoor
open Go.RowKit
open Slot

theorem infoRV {C : Array Value} (h : C.size = 3) : (Tryz.prog.info? 34).map (·.size) = some C.size := by rw [h]; kernel_rfl
theorem rvc_one (self g cap cur : Nat) : (rvc self g cap cur).all (·.oneCell') = true := by simp [rvc, Value.oneCell']
def zrv : Array Value := #[.int .i64 0, .slice none 0 0, .int .u64 0]
/-- a document's view in a block of its own -/
def RVb (w : World) (b self g cap cur : Nat) : Prop := w.heap[b]? = some (.cells (rvc self g cap cur) 34 (0, 0))
theorem RVb.lt {w : World} {b self g cap cur : Nat} (h : RVb w b self g cap cur) : b < w.heap.size := (Array.getElem?_eq_some_iff.1 h).1
theorem RVb.below {w w' : World} {n b self g cap cur : Nat} (h : RVb w b self g cap cur) (hb : Below n w w') (hn : b < n) : RVb w' b self g cap cur := (hb.block b hn).trans h
theorem RVb.only {w w' : World} {c b self g cap cur : Nat} (h : RVb w b self g cap cur) (hb : Only c w w') (hn : b ≠ c) : RVb w' b self g cap cur := (hb.block b h.lt hn).trans h
theorem RVb.frozen {w : World} {b self g cap cur : Nat} (h : RVb w b self g cap cur) (j : Nat) : w.frozen? ⟨b, j, none⟩ = false := by
  unfold RVb at h
  simp [World.frozen?, h]
theorem RVb.setCur {w : World} {b self g cap cur : Nat} (h : RVb w b self g cap cur) (x : Nat) : RVb (w.setCell ⟨b, 2, none⟩ (.int .u64 (x : Int))) b self g cap x := heap_setCell_same w b 2 _ _ _ h
theorem ret_rv {fn : Func} {p : Tmp} (h : fn.results = #[.cell p 34]) {tmps : Array Value} {w : World} {b self g cap cur : Nat} (hp : tmps.getD p undef = .pointer (some ⟨b, 0, none⟩)) (hB : RVb w b self g cap cur) :
    (results fn tmps).run Tryz.prog w = .ok (.agg (rvc self g cap cur)) w :=
  results_cell_row h tmps w b 34 (rvc self g cap cur) (0, 0) _ hp hB Tryz.underlying34 rfl (infoRV rfl)
theorem Nd.only {w w' : World} {c g : Nat} {E : Nat → Nat} {K : Nat → Nat → Bool} (h : Nd w g E K) (hb : Only c w w') (hn : g ≠ c) : Nd w' g E K := h.turn (hb.block g h.lt hn)
theorem Only.setRowNew {b c : Nat} {a w : World} (h : Only b a w) (hc : a.heap.size ≤ c) (C : Array Value) : Only b a (w.setRow c C) :=
  ⟨h.os, h.tape, h.output, by simpa using h.size, fun k hk hne => (setRow_other w c k C (by omega)).trans (h.block k hk hne)⟩
theorem Only.setCellNew {b c j : Nat} {a w : World} (h : Only b a w) (hc : a.heap.size ≤ c) (v : Value) : Only b a (w.setCell ⟨c, j, none⟩ v) :=
  ⟨h.os, h.tape, h.output, by simpa using h.size, fun k hk hne => (Below.heap_setCell _ _ _ _ (by show k ≠ c; omega)).trans (h.block k hk hne)⟩
set_option maxHeartbeats 2000000 in
set_option maxRecDepth 100000 in
/-- the document's raise -/
theorem rraise_any (self g cap cur : Nat) (E : Nat → Nat) (K : Nat → Nat → Bool) (w : World) (hs : self < 64) (hc : cur < 9223372036854775808) (hN : Nd w g E K) : Calls Tryz.prog 58 #[.agg (rvc self g cap cur)] w fun e w' => e = .returned (.agg (rvc self g cap (cur + 1))) ∧ Nd w' g (fun m => if m = self then cur + 1 else E m) K ∧ Only g w w' := by
  have hg := hN.lt
  have HB0 : Hid (RVb ((w.alloc (.cells (rvc self g cap cur) 34)).alloc (.cells #[.int .i64 0, .slice none 0 0, .int .u64 0] 34)) w.heap.size self g cap cur) := heap_alloc2_old w _ _
  have HR0 : Hid (((w.alloc (.cells (rvc self g cap cur) 34)).alloc (.cells #[.int .i64 0, .slice none 0 0, .int .u64 0] 34)).heap[w.heap.size + 1]? = some (.cells #[.int .i64 0, .slice none 0 0, .int .u64 0] 34 (0, 0))) := heap_alloc2_new w _ _
  have HO0 : Hid (Only g w ((w.alloc (.cells (rvc self g cap cur) 34)).alloc (.cells #[.int .i64 0, .slice none 0 0, .int .u64 0] 34))) := ((Only.refl g w).alloc _).alloc _
  have HN0 : Hid (Nd ((w.alloc (.cells (rvc self g cap cur) 34)).alloc (.cells #[.int .i64 0, .slice none 0 0, .int .u64 0] 34)) g E K) := hN.below ((below_alloc w _).alloc (by simp) _) hg
  have HRC : Hid (rvc self g cap cur = #[.int .i64 (self : Int), .slice (some ⟨g, 0, none⟩) 64 cap, .int .u64 (cur : Int)]) := rfl
  obtain ⟨c0, c1, c2⟩ := rv_cells HB0.out
  have f2 := HB0.out.frozen 2
  have ce := HN0.out.ep hs
  have fe := HN0.out.frozen (self * 257)
  have hne : ¬ g = w.heap.size := by omega
  have hne1 : ¬ g = w.heap.size + 1 := by omega
  have hsz : (self : Int) < 64 := by omega
  obtain ⟨M, hM⟩ : ∃ M, M = cur + 1 := ⟨_, rfl⟩
  have hM1 : (cur : Int) + 1 = (M : Int) := by omega
  have hM2 : IntKind.u64.wrap (M : Int) = M := by rw [IntKind.wrap_u64]; omega
  rw [← hM]
  have HM := hid hM
  clear hM
  generalize rvc self g cap cur = RC at *
  go_enter Tryz.func58, Tryz.ntmps58
  go_upto_region 1 with fail
  have HO1 := hid (Only.setCell (Only.setCellNew (c := w.heap.size) (j := 2) HO0.out (Nat.le_refl _) (.int .u64 (M : Int))) (self * 257) (.int .u64 (M : Int)))
  have HN1 := hid ((HN0.out.turn (w' := ((w.alloc (.cells RC 34)).alloc (.cells #[.int .i64 0, .slice none 0 0, .int .u64 0] 34)).setCell ⟨w.heap.size, 2, none⟩ (.int .u64 (M : Int))) (Below.heap_setCell _ _ _ _ hne)).setE hs M)
  have HR1 : Hid (((((w.alloc (.cells RC 34)).alloc (.cells #[.int .i64 0, .slice none 0 0, .int .u64 0] 34)).setCell ⟨w.heap.size, 2, none⟩ (.int .u64 (M : Int))).setCell ⟨g, self * 257, none⟩ (.int .u64 (M : Int))).heap[w.heap.size + 1]? = some (.cells #[.int .i64 0, .slice none 0 0, .int .u64 0] 34 (0, 0))) :=
    (Below.heap_setCell _ _ _ _ (by show w.heap.size + 1 ≠ g; omega)).trans ((Below.heap_setCell _ _ _ _ (by show w.heap.size + 1 ≠ w.heap.size; omega)).trans HR0.out)
  generalize (w.alloc (.cells RC 34)).alloc (.cells #[.int .i64 0, .slice none 0 0, .int .u64 0] 34) = w2 at *
  go_wp2_with (refine wpList_store_row rfl 34 _ _ rfl (w.heap.size + 1) (rvc self g cap M) rfl rfl 34 _ HR1.out (infoRV rfl) rfl (rvc_one _ _ _ _) (Hid.out ?_))
  refine hid ?_
  generalize hX : (w2.setCell ⟨w.heap.size, 2, none⟩ (.int .u64 (M : Int))).setCell ⟨g, self * 257, none⟩ (.int .u64 (M : Int)) = w3 at *
  clear hX
  go_wp2_with fail
  refine bodyPost_ret (v := .agg (rvc self g cap M)) ?_ rfl ?_
  · exact ret_rv rfl rfl (setRow_heap _ _ _ _ _ _ HR1.out)
  · exact ⟨rfl, (HN1.out.turn (setRow_other _ _ _ _ hne1)), HO1.out.setRowNew (by omega) _⟩

theorem infoNd : (Tryz.prog.info? 79).map (fun i => (i.zero.isSome, i.size, i.bytes)) = some (true, 257, 2056) := by kernel_rfl
theorem nd_one {E : Nat → Nat} {K : Nat → Nat → Bool} {C : Array Value} (h2 : ∀ n, n < 64 → C[n * 257]? = some (.int .u64 (E n : Int)) ∧ ∀ i, i < 256 → C[n * 257 + 1 + i]? = some (.int .u64 (word (K n) i : Int))) (j : Nat) (hj : j < 16448) : ∃ x : Int, C[j]? = some (.int .u64 x) := by
  by_cases e : j % 257 = 0
  · have := (h2 (j / 257) (by omega)).1
    rw [show j / 257 * 257 = j by omega] at this
    exact ⟨_, this⟩
  · have := (h2 (j / 257) (by omega)).2 (j % 257 - 1) (by omega)
    rw [show j / 257 * 257 + 1 + (j % 257 - 1) = j by omega] at this
    exact ⟨_, this⟩
/-- the nodes, copied into a row of their own -/
theorem nd_copy {W : World} {B g c : Nat} {E : Nat → Nat} {K : Nat → Nat → Bool} {cap : Nat} (hN : Nd W g E K) (hB : B ≤ c) (hc : W.heap[c]? = some (.cells #[] 79 (0, 0))) :
    ∃ g' cap' W', (Builtin.append_ #[32, 32] 32 #[.slice (some ⟨c, 0, none⟩) 0 0, .slice (some ⟨g, 0, none⟩) 64 cap]).run Tryz.prog W = .ok (.slice (some ⟨g', 0, none⟩) 64 cap') W' ∧ Nd W' g' E K ∧ B ≤ g' ∧ Below B W W' := by
  obtain ⟨C, h1, h2⟩ := hN
  have hcl : c < W.heap.size := (Array.getElem?_eq_some_iff.1 hc).1
  have hsz : 16448 ≤ C.size := by
    have := (Array.getElem?_eq_some_iff.1 ((h2 63 (by omega)).2 255 (by omega))).1
    omega
  have hi := infoNd
  cases hi0 : Tryz.prog.info? 79 with
  | none => rw [hi0] at hi; cases hi
  | some i0 =>
    rw [hi0] at hi
    simp only [Option.map_some, Option.some.injEq, Prod.mk.injEq] at hi
    obtain ⟨hz0, hz1, hz2⟩ := hi
    obtain ⟨z, hz⟩ := Option.isSome_iff_exists.1 hz0
    have hzs : z.cells.size = 257 := by
      have hk : ((Tryz.prog.info? 79).bind (fun i => i.zero)).map (fun z => z.cells.size) = some 257 := by kernel_rfl
      rw [hi0, Option.bind_some, hz] at hk
      simpa using hk
    have hown : W.ownsRow B 79 257 (.slice (some ⟨c, 0, none⟩) 0 0) 0 [] := ⟨by simp, .inr ⟨c, 0, #[], rfl, hB, hc, Nat.le_refl _, by unfold maxLen; omega, rfl, rfl⟩⟩
    have hlen : (C.toList.take 16448).length = 64 * 257 := by rw [List.length_take, Array.length_toList]; omega
    obtain ⟨v', w', hrun, ho, hgr, hnil⟩ := run_append_own (P := Tryz.prog) W B 32 32 79 i0 z 257 2056 Tryz.underlying32 hi0 hz hz1 hz2 hzs (by decide) _ _ _ hown ⟨g, 0, none⟩ 64 cap (C.toList.take 16448) hlen
      (fun j u hj => by
        rw [Go.WideShapes.add_plain, Nat.zero_add, cell_of_row W g j C _ _ h1]
        rw [List.getElem?_take] at hj
        split at hj
        · simpa using hj
        · cases hj)
      (fun u hu => by
        obtain ⟨j, hj, rfl⟩ := List.getElem_of_mem hu
        obtain ⟨x, hx⟩ := nd_one h2 j (by rw [hlen] at hj; omega)
        rw [List.getElem_take, Array.getElem_toList]
        rw [Array.getElem?_eq_getElem (by rw [hlen] at hj; omega)] at hx
        rw [Option.some.inj hx]
        rfl) (by unfold maxLen; omega) (by omega) (by omega)
    rcases ho.2 with ⟨e, h0⟩ | ⟨g', cap', cur, rfl, hb', hh, hnc, hcm, hcs, htk⟩
    · cases h0
    · refine ⟨g', cap', w', hrun, ⟨cur, hh, fun n hn => ?_⟩, hb', (Below.refl B W).grown hgr (by omega) (fun k hk => (World.ownsRow.lt hown k hk).1)⟩
      rw [List.nil_append] at htk
      have key : ∀ j, j < 16448 → cur[j]? = C[j]? := fun j hj => by
        have := congrArg (fun l : List Value => l[j]?) htk
        simp only [List.getElem?_take, if_pos hj] at this
        simpa using this
      refine ⟨?_, fun i hi => ?_⟩
      · rw [key _ (by omega)]; exact (h2 n hn).1
      · rw [key _ (by omega)]; exact (h2 n hn).2 i hi
set_option maxHeartbeats 2000000 in
set_option maxRecDepth 100000 in
/-- the document's copied -/
theorem rcopied_any (self g cap cur : Nat) (E : Nat → Nat) (K : Nat → Nat → Bool) (w : World) (hN : Nd w g E K) : Calls Tryz.prog 57 #[.agg (rvc self g cap cur)] w fun e w' => ∃ g' cap', e = .returned (.agg (rvc self g' cap' cur)) ∧ Nd w' g' E K ∧ w.heap.size ≤ g' ∧ Below w.heap.size w w' := by
  have hg := hN.lt
  have HB0 : Hid (RVb ((w.alloc (.cells (rvc self g cap cur) 34)).alloc (.cells #[.int .i64 0, .slice none 0 0, .int .u64 0] 34)) w.heap.size self g cap cur) := heap_alloc2_old w _ _
  have HR0 : Hid (((w.alloc (.cells (rvc self g cap cur) 34)).alloc (.cells #[.int .i64 0, .slice none 0 0, .int .u64 0] 34)).heap[w.heap.size + 1]? = some (.cells #[.int .i64 0, .slice none 0 0, .int .u64 0] 34 (0, 0))) := heap_alloc2_new w _ _
  have HW0 : Hid (Below w.heap.size w ((w.alloc (.cells (rvc self g cap cur) 34)).alloc (.cells #[.int .i64 0, .slice none 0 0, .int .u64 0] 34))) := (below_alloc w _).alloc (by simp) _
  have HN0 : Hid (Nd ((w.alloc (.cells (rvc self g cap cur) 34)).alloc (.cells #[.int .i64 0, .slice none 0 0, .int .u64 0] 34)) g E K) := hN.below HW0.out hg
  obtain ⟨c0, c1, c2⟩ := rv_cells HB0.out
  have hsz : ((w.alloc (.cells (rvc self g cap cur) 34)).alloc (.cells #[.int .i64 0, .slice none 0 0, .int .u64 0] 34)).heap.size = w.heap.size + 2 := by simp
  have HSZ := hid hsz
  clear hsz
  generalize rvc self g cap cur = RC at *
  go_enter Tryz.func57, Tryz.ntmps57
  go_upto_region 1 with fail
  generalize (w.alloc (.cells RC 34)).alloc (.cells #[.int .i64 0, .slice none 0 0, .int .u64 0] 34) = w2 at *
  have hb2 := below_alloc w2 (.cells #[] 79)
  have HB3 := hid (HB0.out.below hb2 HB0.out.lt)
  have HR3 := hid ((hb2.block _ (by rw [HSZ.out]; omega)).trans HR0.out)
  have HW3 := hid (HW0.out.trans (hb2.mono HW0.out.size))
  obtain ⟨d0, d1, d2⟩ := rv_cells HB3.out
  obtain ⟨g', cap', W', hr, hNd, hge, hbl⟩ := nd_copy (B := w2.heap.size) (c := w2.heap.size) (cap := cap) (HN0.out.below hb2 HN0.out.lt) (Nat.le_refl _) (heap_alloc_new w2 _)
  have HR := hid hr
  have HB4 := hid (HB3.out.below hbl HB0.out.lt)
  have HR4 := hid ((hbl.block _ (by rw [HSZ.out]; omega)).trans HR3.out)
  have HW4 := hid (HW3.out.trans (hbl.mono HW0.out.size))
  have HN4 := hid hNd
  have HGE : Hid (w.heap.size ≤ g') := Nat.le_trans HW0.out.size hge
  obtain ⟨e0, e1, e2⟩ := rv_cells HB4.out
  have f1 := HB4.out.frozen 1
  have HB5 : Hid (RVb (W'.setCell ⟨w.heap.size, 1, none⟩ (.slice (some ⟨g', 0, none⟩) 64 cap')) w.heap.size self g' cap' cur) := heap_setCell_same W' w.heap.size 1 _ _ _ HB4.out
  have HR5 : Hid ((W'.setCell ⟨w.heap.size, 1, none⟩ (.slice (some ⟨g', 0, none⟩) 64 cap')).heap[w.heap.size + 1]? = some (.cells #[.int .i64 0, .slice none 0 0, .int .u64 0] 34 (0, 0))) := (Below.heap_setCell _ _ _ _ (by show w.heap.size + 1 ≠ w.heap.size; omega)).trans HR4.out
  have HW5 := hid (HW4.out.setCell (p := ⟨w.heap.size, 1, none⟩) (Nat.le_refl _) (.slice (some ⟨g', 0, none⟩) 64 cap'))
  have HN5 : Hid (Nd (W'.setCell ⟨w.heap.size, 1, none⟩ (.slice (some ⟨g', 0, none⟩) 64 cap')) g' E K) := HN4.out.turn (Below.heap_setCell _ _ _ _ (by show g' ≠ w.heap.size; have := HSZ.out; omega))
  have HGN : Hid (g' ≠ w.heap.size + 1) := by have := HSZ.out; show _ ≠ _; omega
  clear hb2 hr hNd hge hbl c0 c1 c2
  go_wp2_with (at_builtin; refine wpList_append_run rfl _ _ 32 rfl _ _ _ _ rfl rfl HR.out (Hid.out ?_))
  refine hid ?_
  go_upto_region 2 with fail
  generalize W'.setCell ⟨w.heap.size, 1, none⟩ (.slice (some ⟨g', 0, none⟩) 64 cap') = w5 at HB5 HR5 HW5 HN5 ⊢
  clear d0 d1 d2 e0 e1 e2 f1
  go_wp2_with (refine wpList_load_row rfl 34 _ rfl w.heap.size rfl 34 _ (0, 0) _ HB5.out Tryz.underlying34 rfl (infoRV rfl) (Hid.out ?_))
  refine hid ?_
  go_wp2_with (refine wpList_store_row rfl 34 _ _ rfl (w.heap.size + 1) (rvc self g' cap' cur) rfl rfl 34 _ HR5.out (infoRV rfl) rfl (rvc_one _ _ _ _) (Hid.out ?_))
  refine hid ?_
  go_wp2_with fail
  refine bodyPost_ret (v := .agg (rvc self g' cap' cur)) ?_ rfl ?_
  · exact ret_rv rfl rfl (setRow_heap _ _ _ _ _ _ HR5.out)
  · exact ⟨g', cap', rfl, HN5.out.turn (setRow_other w5 (w.heap.size + 1) g' _ HGN.out), HGE.out, below_setRow HW5.out (by omega) _⟩

end Go.Proofs.YtbfllifgmlkndaaGreatDoor
