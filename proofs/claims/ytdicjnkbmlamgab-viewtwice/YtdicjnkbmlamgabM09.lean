/- PkRight, OpenBits, VwMem. -/
import Derived.Test.YtdicjnkbmlamgabM08
import Derived.ProofKit
import Derived.OpenShut
import Derived.RowKit
import Derived.Test.YtdicjnkbmlamgabM07
import Derived.Test.YtdicjnkbmlamgabM04
namespace Go.Proofs.Ytdicjnkbmlamgab
open Go.RowKit
open Slot

def nodeB (n : Int) : Bool := decide (0 ≤ n ∧ n < 64)
theorem isNode_any (n : Int) (w : World) : Calls Try.prog 35 #[.int .i64 n] w fun e w' => e = .returned (.bool (nodeB n)) ∧ w' = w := by
  by_cases h0 : 0 ≤ n
  · by_cases h1 : n < 64
    · go_enter Try.func35, Try.ntmps35
      go_wp2
      go_ret
      exact ⟨ret_bool (by unfold nodeB; simp [h0, h1]), rfl⟩
    · go_enter Try.func35, Try.ntmps35
      go_wp2
      go_ret
      exact ⟨ret_bool (by unfold nodeB; simp [h1]), rfl⟩
  · go_enter Try.func35, Try.ntmps35
    go_wp2
    go_ret
    exact ⟨ret_bool (by unfold nodeB; rw [decide_eq_false (by omega)]), rfl⟩
def ofB (k o : Int) : Bool := if k = 1 ∨ k = 2 ∨ k = 4 then o == 0 else if k = 3 then nodeB o else false
set_option maxHeartbeats 1000000 in
theorem rightOf_any (p : Pk) (w : World) : Calls Try.prog 34 #[.agg (pkCells p)] w fun e w' => e = .returned (.bool (ofB p.kind p.of_)) ∧ Below w.heap.size w w' := by
  have HP := hid (pbox_new w p)
  have HW := hid (below_alloc w (.cells (pkCells p) 29))
  obtain ⟨c0, c1, c2, c3, c4⟩ := HP.out.cells
  have HI := hid (isNode_any p.of_)
  have HF : Hid (ofB p.kind p.of_ = if p.kind = 1 ∨ p.kind = 2 ∨ p.kind = 4 then p.of_ == 0 else if p.kind = 3 then nodeB p.of_ else false) := rfl
  generalize ofB p.kind p.of_ = R at HF ⊢
  generalize nodeB p.of_ = NB at HF HI
  generalize p.kind = K at *
  generalize p.of_ = O at *
  by_cases k1 : K = 1
  · subst k1
    go_enter Try.func34, Try.ntmps34
    go_wp2
    go_ret
    exact ⟨ret_bool (by rw [HF.out]; simp), HW.out⟩
  · by_cases k2 : K = 2
    · subst k2
      go_enter Try.func34, Try.ntmps34
      go_wp2
      go_ret
      exact ⟨ret_bool (by rw [HF.out]; simp), HW.out⟩
    · by_cases k4 : K = 4
      · subst k4
        go_enter Try.func34, Try.ntmps34
        go_wp2
        go_ret
        exact ⟨ret_bool (by rw [HF.out]; simp), HW.out⟩
      · by_cases k3 : K = 3
        · subst k3
          go_enter Try.func34, Try.ntmps34
          go_wp2_with fail
          refine (HI.out _).mono ?_; rintro e w' ⟨rfl, rfl⟩
          go_wp2
          go_ret
          exact ⟨ret_bool (by rw [HF.out]; simp), HW.out⟩
        · go_enter Try.func34, Try.ntmps34
          go_wp2
          go_ret
          exact ⟨ret_bool (by rw [HF.out]; simp [k1, k2, k3, k4]), HW.out⟩
theorem rightP_eq (p : Pk) : rightP p = (ofB p.kind p.of_ && (nodeB p.frm && decide ((p.epoch : Int) ≤ (p.cur : Int)))) := by
  unfold rightP ofB nodeB
  rw [Bool.eq_iff_iff]
  simp only [decide_eq_true_eq, Bool.and_eq_true]
  split
  · simp only [beq_iff_eq]; omega
  · split
    · simp only [decide_eq_true_eq]; omega
    · simp only [Bool.false_eq_true, false_and, iff_false]; omega
set_option maxHeartbeats 1000000 in
/-- Right -/
theorem right_any (p : Pk) (w : World) : Calls Try.prog 21 #[.agg (pkCells p)] w fun e w' => e = .returned (.bool (rightP p)) ∧ Below w.heap.size w w' := by
  have HP := hid (pbox_new w p)
  have HW := hid (below_alloc w (.cells (pkCells p) 29))
  have HI := hid (isNode_any p.frm)
  have HR := hid (rightOf_any p)
  have HF := hid (rightP_eq p)
  generalize rightP p = R at HF ⊢
  generalize nodeB p.frm = NB at HF HI
  generalize ofB p.kind p.of_ = OB at HF HR
  go_enter Try.func21, Try.ntmps21
  go_wp2_with (refine wpList_load_row rfl 29 _ rfl w.heap.size rfl 29 _ (0, 0) _ HP.out Try.underlying29 rfl (infoPk _) (Hid.out ?_))
  refine hid ?_
  go_wp2_with fail
  refine (HR.out _).mono ?_; rintro e w1 ⟨rfl, hb⟩
  have HP1 := hid (HP.out.below hb HP.out.lt)
  have HW1 := hid (HW.out.trans (hb.mono HW.out.size))
  obtain ⟨c0, c1, c2, c3, c4⟩ := HP1.out.cells
  clear hb
  cases OB with
  | false =>
    go_wp2
    go_ret
    exact ⟨ret_bool (by rw [HF.out]; simp), HW1.out⟩
  | true =>
    go_wp2_with fail
    refine (HI.out _).mono ?_; rintro e w2 ⟨rfl, rfl⟩
    cases NB with
    | false =>
      go_wp2
      go_ret
      exact ⟨ret_bool (by rw [HF.out]; simp), HW1.out⟩
    | true =>
      go_wp2
      go_ret
      exact ⟨ret_bool (by rw [HF.out]; simp), HW1.out⟩

end Go.Proofs.Ytdicjnkbmlamgab

namespace Go.Proofs.Ytdicjnkbmlamgab
open Go.ChangeShapes Go.WideShapes Go.ChangeAt Go.RowKit
open Slot

theorem cellsBits : Try.prog.cellsOf 24 = 256 := by kernel_rfl
theorem cellsU64 : Try.prog.cellsOf 22 = 1 := by kernel_rfl
/-- what a set reads as -/
def bitsData {H : Type} (S : Nat → Bool) : DataW H := .agg ((List.range 256).map fun i => .lit (.int .u64 (word S i : Int)))
theorem open_bits {H : Type} {enc : TypeId × Value → H} {W : World} {base : Nat} {spare : Nat → Bool} {held : Bool} {fuel : Nat} {cs : Array Value} {d : DataW H} {p : List MemPlace} (hs : cs.size = Try.prog.cellsOf 24) (h : DataW.trod enc Try.prog W base spare held fuel 24 (Value.agg cs).cells.toList = some (d, p)) :
    ∃ S : Nat → Bool, cs = cellsOf S ∧ d = bitsData S ∧ p = [] := by
  rw [cellsBits] at hs
  obtain ⟨xs, m, rfl, hx, _, hl, he⟩ := DataW.trod_array Try.underlying24 h
  rw [cellsU64] at he
  have key : ∀ i, i < 256 → ∃ z : Nat, z < 18446744073709551616 ∧ cs[i]? = some (.int .u64 (z : Int)) ∧ xs[i]? = some (.lit (.int .u64 (z : Int)), []) := fun i hi => by
    have h0 := he i hi
    have hx : xs[i]? = some xs[i] := List.getElem?_eq_getElem (by omega)
    rw [hx] at h0
    obtain ⟨a, e1, e2, wa⟩ := DataW.trod_int Try.underlying22 h0
    have hb := bounds_u64 wa
    obtain ⟨z, rfl⟩ := Int.eq_ofNat_of_zero_le hb.1
    refine ⟨z, by omega, ?_, by rw [hx, e2]⟩
    have hc : cs[i]? = some cs[i] := Array.getElem?_eq_getElem (by omega)
    rw [Nat.mul_one] at e1
    simp only [Value.cells] at e1
    rw [List.drop_eq_getElem_cons (by simp; omega)] at e1
    simp at e1
    rw [hc, e1]
  let z : Nat → Nat := fun i => match cs[i]? with | some (.int _ q) => q.toNat | _ => 0
  have hz : ∀ i, i < 256 → z i < 18446744073709551616 ∧ cs[i]? = some (.int .u64 (z i : Int)) ∧ xs[i]? = some (.lit (.int .u64 (z i : Int)), []) := fun i hi => by
    obtain ⟨y, h1, h2, h3⟩ := key i hi
    have : z i = y := by simp only [z, h2]; simp
    rw [this]
    exact ⟨h1, h2, h3⟩
  have hw : ∀ i, i < 256 → word (ofWords z) i = z i := fun i hi => word_ofWords (hz i hi).1
  have hxs : xs = (List.range 256).map fun i => ((.lit (.int .u64 (word (ofWords z) i : Int)) : DataW H), ([] : List MemPlace)) := by
    apply List.ext_getElem?
    intro i
    by_cases hi : i < 256
    · rw [(hz i hi).2.2, List.getElem?_map, List.getElem?_range hi]
      simp only [Option.map_some, hw i hi]
    · rw [List.getElem?_eq_none (by omega), List.getElem?_eq_none (by simp; omega)]
  simp only [Prod.mk.injEq] at hx
  refine ⟨ofWords z, ?_, ?_, ?_⟩
  · apply Array.ext
    · rw [hs, cellsOf_size]
    · intro i h1 h2
      have hi : i < 256 := by omega
      have a1 := (hz i hi).2.1
      rw [Array.getElem?_eq_getElem h1] at a1
      have a2 := cellsOf_get (ofWords z) i hi
      rw [Array.getElem?_eq_getElem h2, hw i hi] at a2
      rw [Option.some.inj a1, Option.some.inj a2]
  · rw [hx.1, hxs]
    unfold bitsData
    rw [List.map_map]
    rfl
  · rw [hx.2, hxs]
    simp [List.flatMap]
theorem mapM_some {α β : Type} {f : α → Option β} {g : α → β} : ∀ {L : List α}, (∀ i ∈ L, f i = some (g i)) → L.mapM f = some (L.map g)
  | [], _ => rfl
  | x :: L, h => by
    rw [List.mapM_cons, h x (by simp), mapM_some fun i hi => h i (List.mem_cons_of_mem _ hi)]
    rfl
theorem wf_word (S : Nat → Bool) (i : Nat) : (Lit.int .u64 (word S i : Int)).wf = true := by
  have := word_lt S i
  have e1 : IntKind.u64.min = 0 := rfl
  have e2 : IntKind.u64.max = 18446744073709551615 := rfl
  simp [Lit.wf, e1, e2]
  omega
theorem shut_bits {H : Type} {enc : TypeId × Value → H} {W : World} {base : Nat} {spare : Nat → Bool} {held : Bool} (S : Nat → Bool) :
    DataW.Trod enc Try.prog W base spare held 24 (.agg (cellsOf S)) (bitsData S) [] := by
  refine ⟨2, ?_⟩
  have hl : (Value.agg (cellsOf S)).cells.toList.length = Try.prog.cellsOf 24 := by
    rw [cellsBits]; simp [Value.cells, cellsOf_size]
  have hm := mapM_some (L := List.range 256) (f := fun i => DataW.trod enc Try.prog W base spare held 1 22 (((Value.agg (cellsOf S)).cells.toList.drop (i * Try.prog.cellsOf 22)).take (Try.prog.cellsOf 22)))
    (g := fun i => ((.lit (.int .u64 (word S i : Int)) : DataW H), ([] : List MemPlace))) (fun i hi => by
      have hi' : i < 256 := by simpa using hi
      rw [cellsU64, Nat.mul_one]
      have e : ((Value.agg (cellsOf S)).cells.toList.drop i).take 1 = [.int .u64 (word S i : Int)] := by
        simp only [Value.cells]
        rw [List.drop_eq_getElem_cons (by simp [cellsOf_size]; omega)]
        have a2 := cellsOf_get S i hi'
        rw [Array.getElem?_eq_getElem (by rw [cellsOf_size]; exact hi')] at a2
        simp [Option.some.inj a2]
      rw [e]
      simp [DataW.trod, Try.underlying22, wf_word])
  unfold DataW.trod
  rw [Try.underlying24]
  simp only [hl, if_true, hm]
  simp [bitsData, List.map_map, Function.comp_def, List.flatMap]

end Go.Proofs.Ytdicjnkbmlamgab

namespace Go.Proofs.Ytdicjnkbmlamgab
open Go.RowKit
open Slot

/-- the nodes: their epochs, and their slots in words, in block g -/
def Nd (w : World) (g : Nat) (E : Nat → Nat) (K : Nat → Nat → Bool) : Prop := ∃ C : Array Value, w.heap[g]? = some (.cells C 73 (0, 0)) ∧ ∀ n, n < 64 → C[n * 257]? = some (.int .u64 (E n : Int)) ∧ ∀ i, i < 256 → C[n * 257 + 1 + i]? = some (.int .u64 (word (K n) i : Int))
theorem Nd.lt {w : World} {g : Nat} {E : Nat → Nat} {K : Nat → Nat → Bool} (h : Nd w g E K) : g < w.heap.size := by
  obtain ⟨C, h1, _⟩ := h
  exact (Array.getElem?_eq_some_iff.1 h1).1
theorem Nd.turn {w w' : World} {g : Nat} {E : Nat → Nat} {K : Nat → Nat → Bool} (h : Nd w g E K) (hb : w'.heap[g]? = w.heap[g]?) : Nd w' g E K := by
  obtain ⟨C, h1, h2⟩ := h
  exact ⟨C, hb.trans h1, h2⟩
theorem Nd.below {w w' : World} {n g : Nat} {E : Nat → Nat} {K : Nat → Nat → Bool} (h : Nd w g E K) (hb : Below n w w') (hn : g < n) : Nd w' g E K := h.turn (hb.block g hn)
theorem Nd.ep {w : World} {g : Nat} {E : Nat → Nat} {K : Nat → Nat → Bool} (h : Nd w g E K) {n : Nat} (hn : n < 64) : w.cell? ⟨g, n * 257, none⟩ = some (.int .u64 (E n : Int)) := by
  obtain ⟨C, h1, h2⟩ := h
  rw [cell_of_row w g _ _ _ _ h1]
  exact (h2 n hn).1
theorem Nd.wd {w : World} {g : Nat} {E : Nat → Nat} {K : Nat → Nat → Bool} (h : Nd w g E K) {n i : Nat} (hn : n < 64) (hi : i < 256) : w.cell? ⟨g, n * 257 + 1 + i, none⟩ = some (.int .u64 (word (K n) i : Int)) := by
  obtain ⟨C, h1, h2⟩ := h
  rw [cell_of_row w g _ _ _ _ h1]
  exact (h2 n hn).2 i hi
theorem Nd.frozen {w : World} {g : Nat} {E : Nat → Nat} {K : Nat → Nat → Bool} (h : Nd w g E K) (j : Nat) : w.frozen? ⟨g, j, none⟩ = false := by
  obtain ⟨C, h1, _⟩ := h
  simp [World.frozen?, h1]
theorem Nd.setE {w : World} {g : Nat} {E : Nat → Nat} {K : Nat → Nat → Bool} (h : Nd w g E K) {n : Nat} (hn : n < 64) (x : Nat) : Nd (w.setCell ⟨g, n * 257, none⟩ (.int .u64 (x : Int))) g (fun m => if m = n then x else E m) K := by
  obtain ⟨C, h1, h2⟩ := h
  refine ⟨_, heap_setCell_same w g (n * 257) C _ _ h1, fun m hm => ⟨?_, fun i hi => ?_⟩⟩
  · by_cases e : m = n
    · subst e
      rw [Array.getElem?_setIfInBounds_self_of_lt (Array.getElem?_eq_some_iff.1 (h2 m hm).1).1]
      simp
    · rw [Array.getElem?_setIfInBounds_ne (by omega), (h2 m hm).1]
      simp [e]
  · rw [Array.getElem?_setIfInBounds_ne (by omega)]
    exact (h2 m hm).2 i hi
/-- a word of a node's slots is written -/
theorem Nd.setW {w : World} {g : Nat} {E : Nat → Nat} {K L : Nat → Nat → Bool} (h : Nd w g E K) {n i : Nat} (hn : n < 64) (hi : i < 256) (hL : ∀ m j, m < 64 → j < 256 → ¬ (m = n ∧ j = i) → word (L m) j = word (K m) j) : Nd (w.setCell ⟨g, n * 257 + 1 + i, none⟩ (.int .u64 (word (L n) i : Int))) g E L := by
  obtain ⟨C, h1, h2⟩ := h
  refine ⟨_, heap_setCell_same w g (n * 257 + 1 + i) C _ _ h1, fun m hm => ⟨?_, fun j hj => ?_⟩⟩
  · rw [Array.getElem?_setIfInBounds_ne (by omega)]
    exact (h2 m hm).1
  · by_cases e : m = n ∧ j = i
    · obtain ⟨rfl, rfl⟩ := e
      rw [Array.getElem?_setIfInBounds_self_of_lt (Array.getElem?_eq_some_iff.1 ((h2 m hm).2 j hj)).1]
    · rw [Array.getElem?_setIfInBounds_ne (by omega), hL m j hm hj e]
      exact (h2 m hm).2 j hj
theorem Nd.congr {w : World} {g : Nat} {E F : Nat → Nat} {K L : Nat → Nat → Bool} (h : Nd w g E K) (hE : ∀ n, n < 64 → F n = E n) (hK : ∀ n i, n < 64 → i < 256 → word (L n) i = word (K n) i) : Nd w g F L := by
  obtain ⟨C, h1, h2⟩ := h
  refine ⟨C, h1, fun n hn => ⟨?_, fun i hi => ?_⟩⟩
  · rw [hE n hn]; exact (h2 n hn).1
  · rw [hK n i hn hi]; exact (h2 n hn).2 i hi

/-! words of sets -/
theorem word_ext {S : Nat → Bool} {i x : Nat} (hx : x < 18446744073709551616) (h : ∀ k, k < 64 → x.testBit k = S (64 * i + k)) : x = word S i := by
  unfold word
  rw [← num_congr h]
  exact eq_num (n := 64) hx
theorem word_at (S : Nat → Bool) (i k : Nat) (hk : k < 64) : (word S i).testBit k = S (64 * i + k) := by
  unfold word
  rw [testBit_num]
  simp [hk]
theorem andNot_bit (b k : Nat) (hk : k < 64) (hb : b < 18446744073709551616) : (18446744073709551615 - b).testBit k = !b.testBit k := by
  have := Nat.testBit_two_pow_sub_succ (x := b) (n := 64) hb k
  rw [show 2 ^ 64 - (b + 1) = 18446744073709551615 - b by omega] at this
  rw [this]
  simp [hk]
theorem andNot_bits (S T : Nat → Bool) (i : Nat) : bits BinOp.andNot IntKind.u64 (word S i : Int) (word T i : Int) = (word (fun n => S n && !T n) i : Int) := by
  rw [u64_andNot_nat _ _ (word_lt S i) (word_lt T i)]
  refine congrArg Int.ofNat (word_ext (Nat.lt_of_le_of_lt Nat.and_le_left (word_lt S i)) fun k hk => ?_)
  rw [Nat.testBit_and, andNot_bit _ k hk (word_lt T i), word_at S i k hk, word_at T i k hk]
theorem or_bits (S T : Nat → Bool) (i : Nat) : bits BinOp.or IntKind.u64 (word S i : Int) (word T i : Int) = (word (fun n => S n || T n) i : Int) := by
  rw [u64_or_nat _ _ (word_lt S i) (word_lt T i)]
  refine congrArg Int.ofNat (word_ext (Nat.or_lt_two_pow (n := 64) (word_lt S i) (word_lt T i)) fun k hk => ?_)
  rw [Nat.testBit_or, word_at S i k hk, word_at T i k hk]
/-- one slot alone -/
def oneS (s : Nat) : Nat → Bool := fun n => n == s
theorem one_word (s : Nat) : ((2 ^ (s % 64) : Nat) : Int) = (word (oneS s) (s / 64) : Int) := by
  refine congrArg Int.ofNat (word_ext ?_ fun k hk => ?_)
  · exact Nat.lt_of_lt_of_le (Nat.pow_lt_pow_right (by decide) (Nat.mod_lt s (by decide : 0 < 64))) (Nat.le_refl (2 ^ 64))
  · rw [Nat.testBit_two_pow]
    unfold oneS
    by_cases e : s % 64 = k
    · rw [decide_eq_true e]
      have : 64 * (s / 64) + k = s := by omega
      simp [this]
    · rw [decide_eq_false e]
      have : ¬ 64 * (s / 64) + k = s := by omega
      simp [this]

/-- the document's view, as a value -/
def rvc (self g cap cur : Nat) : Array Value := #[.int .i64 (self : Int), .slice (some ⟨g, 0, none⟩) 64 cap, .int .u64 (cur : Int)]
theorem rv_cells {w : World} {b self g cap cur : Nat} (h : w.heap[b]? = some (.cells (rvc self g cap cur) 33 (0, 0))) : w.cell? ⟨b, 0, none⟩ = some (.int .i64 (self : Int)) ∧ w.cell? ⟨b, 1, none⟩ = some (.slice (some ⟨g, 0, none⟩) 64 cap) ∧ w.cell? ⟨b, 2, none⟩ = some (.int .u64 (cur : Int)) :=
  ⟨cell_of_row w b 0 _ _ _ h, cell_of_row w b 1 _ _ _ h, cell_of_row w b 2 _ _ _ h⟩
/-- who owns a slot, as it is told -/
def ownI (v : Vw) (s : Int) : Int := if slotB s = true ∧ v.own s.toNat < 64 then (v.own s.toNat : Int) else -1
set_option maxHeartbeats 2000000 in
set_option maxRecDepth 100000 in
theorem rowner_in (self g cap cur : Nat) (v : Vw) (s : Nat) (w : World) (hs : s < 16384) (hN : Nd w g v.ep v.cl) : Calls Try.prog 50 #[.agg (rvc self g cap cur), .int .i64 (s : Int)] w fun e w' => e = .returned (.int .i64 (ownI v s)) ∧ Below w.heap.size w w' := by
  have hb := below_alloc w (.cells (rvc self g cap cur) 33)
  have HW := hid hb
  have HN := hid (hN.below hb hN.lt)
  obtain ⟨c0, c1, c2⟩ := rv_cells (heap_alloc_new w (.cells (rvc self g cap cur) 33))
  have HO : Hid (ownI v s = if v.own s < 64 then (v.own s : Int) else -1) := by
    show _ = _
    unfold ownI slotB
    rw [decide_eq_true (show (0 : Int) ≤ (s : Int) ∧ (s : Int) < 16384 by omega), Int.toNat_natCast]
    simp
  generalize ownI v s = R at *
  have hz : (s : Int) < 16384 := by omega
  have hz2 : ¬ (16383 : Int) < (s : Int) := by omega
  have hz3 : ¬ (s : Int) < 0 := by omega
  obtain ⟨q, hq⟩ : ∃ q : Nat, q = s / 64 := ⟨_, rfl⟩
  obtain ⟨r, hr⟩ : ∃ r : Nat, r = s % 64 := ⟨_, rfl⟩
  have q1 : (s : Int) / 64 = (q : Int) := by omega
  have r1 : (s : Int) % 64 = (r : Int) := by omega
  have q256 : q < 256 := by omega
  have r64 : r < 64 := by omega
  have HB : Hid (∀ n, (word (v.cl n) q).testBit r = (v.own s == n)) := fun n => by
    rw [hq, hr]; exact word_bit (v.cl n) s
  have HL : Hid (∀ n, word (v.cl n) q < 18446744073709551616) := fun n => word_lt _ _
  clear hb hN hq hr
  generalize rvc self g cap cur = RC at *
  go_enter Try.func50, Try.ntmps50
  go_wp2
  go_loop [5] (fun i => ∃ n : Nat, n ≤ 64 ∧ i = .int .i64 n ∧ Hid (∀ m, m < n → v.own s ≠ m)) (fun i => 64 - (intOf i).toNat)
  case atStart => exact ⟨0, by omega, rfl, fun m hm => absurd hm (Nat.not_lt_zero _)⟩
  case round =>
    obtain ⟨n, hn, rfl, HM⟩ := hrel
    by_cases hlt : n < 64
    · have cw := HN.out.wd (i := q) hlt q256
      have hbit := bit_one (word (v.cl n) q) r (HL.out n)
      rw [HB.out n] at hbit
      generalize (word (v.cl n) q : Int) = x at cw hbit
      have hnz : (n : Int) < 64 := by omega
      by_cases e : v.own s = n
      · rw [e] at hbit
        simp only [beq_self_eq_true, if_true] at hbit
        have HR : Hid (R = n) := by
          show _ = _
          rw [HO.out, e, if_pos hlt]
        clear HO
        go_wp2
        go_ret
        exact ⟨by rw [HR.out]; rfl, HW.out⟩
      · rw [show (v.own s == n) = false from beq_eq_false_iff_ne.2 e] at hbit
        simp only [Bool.false_eq_true, if_false] at hbit
        have HM2 : Hid (∀ m, m < n + 1 → v.own s ≠ m) := fun m hm => by
          by_cases e2 : m = n
          · rw [e2]; exact e
          · exact HM.out m (by omega)
        clear HO
        go_wp2
        go_round
        case rel => exact ⟨n + 1, by omega, by go_num, HM2.out⟩
        case measure => simp [intOf]; omega
    · obtain rfl : n = 64 := by omega
      have HR : Hid (R = -1) := by
        show _ = _
        rw [HO.out, if_neg (fun c => HM.out _ c rfl)]
      clear HO
      go_wp2
      go_ret
      exact ⟨by rw [HR.out]; rfl, HW.out⟩
/-- the document's Owner -/
theorem rowner_any (self g cap cur : Nat) (v : Vw) (s : Int) (w : World) (hN : Nd w g v.ep v.cl) : Calls Try.prog 50 #[.agg (rvc self g cap cur), .int .i64 s] w fun e w' => e = .returned (.int .i64 (ownI v s)) ∧ Below w.heap.size w w' := by
  by_cases hs : slotB s = true
  · have h := of_decide_eq_true hs
    obtain ⟨k, rfl⟩ := Int.eq_ofNat_of_zero_le h.1
    exact rowner_in self g cap cur v k w (by omega) hN
  · have HW := hid (below_alloc w (.cells (rvc self g cap cur) 33))
    have hR : ownI v s = -1 := by unfold ownI; rw [if_neg (fun c => hs c.1)]
    rw [hR]
    have h : ¬ (0 ≤ s ∧ s < 16384) := fun c => hs (decide_eq_true c)
    generalize rvc self g cap cur = RC at *
    by_cases h0 : s < 0
    · go_enter Try.func50, Try.ntmps50
      go_wp2
      go_ret
      exact ⟨rfl, HW.out⟩
    · have h1 : 16383 < s := by omega
      go_enter Try.func50, Try.ntmps50
      go_wp2
      go_ret
      exact ⟨rfl, HW.out⟩

end Go.Proofs.Ytdicjnkbmlamgab
