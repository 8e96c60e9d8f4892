/- Make. -/
import Derived.Test.YtbfllifgmlkndaaGreatDoorM09
namespace Go.Proofs.YtbfllifgmlkndaaGreatDoor
open Go.RowKit
open Slot

/-- a row of ranges in memory -/
def RowR (w : World) (a : Option Addr) (l : List (Int × Int)) : Prop :=
  l.length ≤ 140737488355328 ∧ (l ≠ [] → ∃ b off, a = some ⟨b, off, none⟩ ∧ ∀ j (h : j < l.length), w.cell? ⟨b, off + j * 2, none⟩ = some (.int .i64 l[j].1) ∧ w.cell? ⟨b, off + j * 2 + 1, none⟩ = some (.int .i64 l[j].2))
def validR (p : Int × Int) : Bool := decide (0 ≤ p.1 ∧ p.1 ≤ p.2 ∧ p.2 ≤ 16383)
def natR (p : Int × Int) : Nat × Nat := (p.1.toNat, p.2.toNat)

/-- what Make tells -/
def makeVal (l : List (Int × Int)) : Value := if l.all validR then .tuple #[.agg (cellsOf (ofList (l.map natR))), .int .i64 0] else .tuple #[.agg (cellsOf (fun _ => false)), .int .i64 20]
theorem makeVal_ok {l : List (Int × Int)} (h : l.all validR = true) : makeVal l = .tuple #[.agg (cellsOf (ofList (l.map natR))), .int .i64 0] := by unfold makeVal; rw [if_pos h]
theorem makeVal_bad {l : List (Int × Int)} (h : l.all validR = false) : makeVal l = .tuple #[.agg (cellsOf (fun _ => false)), .int .i64 20] := by unfold makeVal; rw [h]; rfl
theorem sizes (S T : Nat → Bool) : (cellsOf S).size = (cellsOf T).size := by rw [cellsOf_size, cellsOf_size]
theorem ret_box2 {fn : Func} {p q : Tmp} (h : fn.results = #[.cell p 24, .tmp q]) {tmps : Array Value} {w : World} {b : Nat} {S : Nat → Bool} {v : Value} (hp : tmps.getD p undef = .pointer (some ⟨b, 0, none⟩)) (hq : tmps.getD q undef = v) (hB : Box w b S) :
    (results fn tmps).run Tryz.prog w = .ok (.tuple #[.agg (cellsOf S), v]) w := by
  have hp' : tmps[p]?.getD undef = .pointer (some ⟨b, 0, none⟩) := by simpa using hp
  have hq' : tmps[q]?.getD undef = v := by simpa using hq
  simp [results, h, hp', hq', asAddr, run_loadVar_row w b 24 24 (cellsOf S) (0, 0) _ hB Tryz.underlying24 rfl (infoBits S)]
theorem take_all {l : List (Int × Int)} {k : Nat} (h : k < l.length) (hv : (l.take k).all validR = true) : (l.take (k + 1)).all validR = validR l[k] := by
  rw [List.take_succ_eq_append_getElem h, List.all_append, hv]; simp
theorem not_all {l : List (Int × Int)} {k : Nat} (h : k < l.length) (hv : validR l[k] = false) : l.all validR = false := by
  rw [List.all_eq_false]
  exact ⟨l[k], List.getElem_mem h, by simp [hv]⟩
theorem take_map {l : List (Int × Int)} {k : Nat} (h : k < l.length) : (l.take (k + 1)).map natR = (l.take k).map natR ++ [natR l[k]] := by
  rw [List.take_succ_eq_append_getElem h, List.map_append]; rfl

set_option maxHeartbeats 2000000 in
set_option maxRecDepth 100000 in
theorem make_core (b off cap : Nat) (l : List (Int × Int)) (w : World) (hl : l.length ≤ 140737488355328) (hlt : b < w.heap.size)
    (hc : ∀ j (h : j < l.length), w.cell? ⟨b, off + j * 2, none⟩ = some (.int .i64 l[j].1) ∧ w.cell? ⟨b, off + j * 2 + 1, none⟩ = some (.int .i64 l[j].2))
    (hr : ∀ j (h : j < l.length), -9223372036854775808 ≤ l[j].1 ∧ l[j].1 ≤ 9223372036854775807 ∧ -9223372036854775808 ≤ l[j].2 ∧ l[j].2 ≤ 9223372036854775807) :
    Calls Tryz.prog 73 #[.slice (some ⟨b, off, none⟩) l.length cap] w fun e w' => e = .returned (makeVal l) ∧ Below w.heap.size w w' := by
  have hz := zeroBits
  have HR0 : Hid (Box ((w.alloc (.cells (cellsOf (fun _ => false)) 24)).alloc (.cells (cellsOf (fun _ => false)) 24)) w.heap.size (fun _ => false)) := heap_alloc2_old w _ _
  have HB0 : Hid (Box ((w.alloc (.cells (cellsOf (fun _ => false)) 24)).alloc (.cells (cellsOf (fun _ => false)) 24)) (w.heap.size + 1) (fun _ => false)) := heap_alloc2_new w _ _
  have HW0 : Hid (Below w.heap.size w ((w.alloc (.cells (cellsOf (fun _ => false)) 24)).alloc (.cells (cellsOf (fun _ => false)) 24))) := (below_alloc w _).alloc (by simp) _
  have HC := hid hc
  have HRg := hid hr
  clear hc hr
  go_enter Tryz.func73, Tryz.ntmps73
  go_wp2
  go_loopw [9] (fun i W => ∃ k : Nat, k ≤ l.length ∧ i = .int .i64 k ∧ Hid (Box W w.heap.size (fun _ => false)) ∧ Hid (Box W (w.heap.size + 1) (ofList ((l.take k).map natR))) ∧ Hid ((l.take k).all validR = true) ∧ Hid (Below w.heap.size w W)) (fun i _ => l.length - (intOf i).toNat)
  case atStart => exact ⟨0, Nat.zero_le _, rfl, HR0.out, HB0.out, rfl, HW0.out⟩
  case round =>
    obtain ⟨k, hk, rfl, HR, HB, HV, HW⟩ := hrel
    by_cases hlk : k < l.length
    · obtain ⟨c0, c1⟩ := HC.out k hlk
      obtain ⟨r0, r1, r2, r3⟩ := HRg.out k hlk
      have hd0 : wr.cell? ⟨b, off + k * 2, none⟩ = some (.int .i64 l[k].1) := by rw [HW.out.cell (p := ⟨b, off + k * 2, none⟩) hlt]; exact c0
      have hd1 : wr.cell? ⟨b, off + k * 2 + 1, none⟩ = some (.int .i64 l[k].2) := by rw [HW.out.cell (p := ⟨b, off + k * 2 + 1, none⟩) hlt]; exact c1
      generalize hx : l[k].1 = x at hd0 r0 r1
      generalize hy : l[k].2 = y at hd1 r2 r3
      have HX := hid hx
      have HY := hid hy
      clear c0 c1 hx hy
      have HRa : Hid (∀ o, Box (wr.alloc o) w.heap.size (fun _ => false)) := fun o => HR.out.below (below_alloc wr o) HR.out.lt
      have HBa : Hid (∀ o, Box (wr.alloc o) (w.heap.size + 1) (ofList ((l.take k).map natR))) := fun o => HB.out.below (below_alloc wr o) HB.out.lt
      have HWa : Hid (∀ o, Below w.heap.size w (wr.alloc o)) := fun o => HW.out.alloc (by have := HR.out.lt; omega) o
      have hwr : w.heap.size + 1 < wr.heap.size := HB.out.lt
      by_cases hv : 0 ≤ x ∧ x ≤ y ∧ y ≤ 16383
      · obtain ⟨h1, h2, h3⟩ := hv
        obtain ⟨f, rfl⟩ := Int.eq_ofNat_of_zero_le h1
        obtain ⟨t, rfl⟩ := Int.eq_ofNat_of_zero_le (Int.le_trans h1 h2)
        have HS : Hid (∀ W, Box W (w.heap.size + 1) (ofList ((l.take k).map natR)) → Calls Tryz.prog 90 #[.pointer (some ⟨w.heap.size + 1, 0, none⟩), .agg #[.int .i64 f, .int .i64 t], .bool true] W fun e w' => e = .returned (.tuple #[]) ∧ Box w' (w.heap.size + 1) (put (ofList ((l.take k).map natR)) f t true) ∧ Only (w.heap.size + 1) W w') :=
          fun W hW => set_any _ f t true _ W hW (by omega) (by omega)
        have HE : Hid (ofList ((l.take (k + 1)).map natR) = put (ofList ((l.take k).map natR)) f t true) := by
          rw [take_map hlk]
          have : natR l[k] = (f, t) := by unfold natR; rw [HX.out, HY.out]; simp
          rw [this]
          exact ofList_snoc _ _ _
        have HV1 : Hid ((l.take (k + 1)).all validR = true) := by
          rw [take_all hlk HV.out]; unfold validR; rw [HX.out, HY.out]; exact decide_eq_true ⟨by omega, by omega, by omega⟩
        go_wp2_with fail
        refine (HS.out _ (HBa.out _)).mono ?_
        rintro e w2 ⟨rfl, hb2, ho2⟩
        have HB2 := hid hb2
        have HR2 := hid (Box.only (b := w.heap.size) (c := w.heap.size + 1) (HRa.out _) ho2 (by omega))
        have HW2 := hid ((HWa.out _).trans (Only.below (b := w.heap.size + 1) (n := w.heap.size) ho2 (by omega) (by simp; omega)))
        clear hb2 ho2
        go_wp2
        go_roundw
        case rel => exact ⟨k + 1, by omega, by go_num, HR2.out, by rw [HE.out]; exact HB2.out, HV1.out, HW2.out⟩
        case measure => simp [intOf]; omega
      · have HN : Hid (l.all validR = false) := not_all hlk (by unfold validR; rw [HX.out, HY.out]; exact decide_eq_false hv)
        have fin : Hid (∀ o, Box ((wr.alloc o).setRow w.heap.size (cellsOf fun _ => false)) w.heap.size (fun _ => false) ∧ Below w.heap.size w ((wr.alloc o).setRow w.heap.size (cellsOf fun _ => false))) := fun o => ⟨box_size (HRa.out o), below_setRow (HWa.out o) (Nat.le_refl _) _⟩
        by_cases h1 : x < 0
        · go_wp2_with (refine wpList_store_row rfl 24 _ _ rfl w.heap.size _ rfl rfl 24 _ (HRa.out (.cells #[.int .i64 x, .int .i64 y] 116)) (infoBits _) (sizes _ _) (oneCells _) ?_)
          exact bodyPost_ret (v := .tuple #[.agg (cellsOf fun _ => false), .int .i64 20]) (ret_box2 rfl rfl rfl (fin.out _).1) rfl ⟨by rw [makeVal_bad HN.out], (fin.out _).2⟩
        · by_cases h2 : y < x
          · go_wp2_with (refine wpList_store_row rfl 24 _ _ rfl w.heap.size _ rfl rfl 24 _ (HRa.out (.cells #[.int .i64 x, .int .i64 y] 116)) (infoBits _) (sizes _ _) (oneCells _) ?_)
            exact bodyPost_ret (v := .tuple #[.agg (cellsOf fun _ => false), .int .i64 20]) (ret_box2 rfl rfl rfl (fin.out _).1) rfl ⟨by rw [makeVal_bad HN.out], (fin.out _).2⟩
          · have h3 : 16383 < y := by omega
            clear hv
            go_wp2_with (refine wpList_store_row rfl 24 _ _ rfl w.heap.size _ rfl rfl 24 _ (HRa.out (.cells #[.int .i64 x, .int .i64 y] 116)) (infoBits _) (sizes _ _) (oneCells _) ?_)
            exact bodyPost_ret (v := .tuple #[.agg (cellsOf fun _ => false), .int .i64 20]) (ret_box2 rfl rfl rfl (fin.out _).1) rfl ⟨by rw [makeVal_bad HN.out], (fin.out _).2⟩
    · have e : l.take k = l := List.take_of_length_le (by omega)
      rw [e] at HB HV
      go_wp2_with (first | (refine wpList_load_row rfl 24 _ rfl (w.heap.size + 1) rfl 24 _ (0, 0) _ HB.out Tryz.underlying24 rfl (infoBits _) ?_) | (refine wpList_store_row rfl 24 _ _ rfl w.heap.size _ rfl rfl 24 _ HR.out (infoBits _) (sizes _ _) (oneCells _) ?_))
      exact bodyPost_ret (v := .tuple #[.agg (cellsOf (ofList (l.map natR))), .int .i64 0]) (ret_box2 rfl rfl rfl (box_size HR.out)) rfl ⟨by rw [makeVal_ok HV.out], below_setRow HW.out (Nat.le_refl _) _⟩

set_option maxHeartbeats 1000000 in
set_option maxRecDepth 100000 in
theorem make_none (a : Option Addr) (cap : Nat) (w : World) :
    Calls Tryz.prog 73 #[.slice a 0 cap] w fun e w' => e = .returned (makeVal []) ∧ Below w.heap.size w w' := by
  have hz := zeroBits
  have HR0 : Hid (Box ((w.alloc (.cells (cellsOf (fun _ => false)) 24)).alloc (.cells (cellsOf (fun _ => false)) 24)) w.heap.size (fun _ => false)) := heap_alloc2_old w _ _
  have HB0 : Hid (Box ((w.alloc (.cells (cellsOf (fun _ => false)) 24)).alloc (.cells (cellsOf (fun _ => false)) 24)) (w.heap.size + 1) (fun _ => false)) := heap_alloc2_new w _ _
  have HW0 : Hid (Below w.heap.size w ((w.alloc (.cells (cellsOf (fun _ => false)) 24)).alloc (.cells (cellsOf (fun _ => false)) 24))) := (below_alloc w _).alloc (by simp) _
  go_enter Tryz.func73, Tryz.ntmps73
  go_wp2
  refine wp_loop_rounds 1 ?_
  rw [rounds_succ]
  go_wp2_with (first | (refine wpList_load_row rfl 24 _ rfl (w.heap.size + 1) rfl 24 _ (0, 0) _ HB0.out Tryz.underlying24 rfl (infoBits _) ?_) | (refine wpList_store_row rfl 24 _ _ rfl w.heap.size _ rfl rfl 24 _ HR0.out (infoBits _) (sizes _ _) (oneCells _) ?_))
  exact bodyPost_ret (v := .tuple #[.agg (cellsOf (fun _ => false)), .int .i64 0]) (ret_box2 rfl rfl rfl (box_size HR0.out)) rfl ⟨rfl, below_setRow HW0.out (Nat.le_refl _) _⟩
/-- Make -/
theorem make_any (a : Option Addr) (cap : Nat) (l : List (Int × Int)) (w : World) (hr : RowR w a l)
    (hi : ∀ j (h : j < l.length), -9223372036854775808 ≤ l[j].1 ∧ l[j].1 ≤ 9223372036854775807 ∧ -9223372036854775808 ≤ l[j].2 ∧ l[j].2 ≤ 9223372036854775807) :
    Calls Tryz.prog 73 #[.slice a l.length cap] w fun e w' => e = .returned (makeVal l) ∧ Below w.heap.size w w' := by
  by_cases h : l = []
  · subst h
    exact make_none a cap w
  · obtain ⟨b, off, rfl, hc⟩ := hr.2 h
    have hp : 0 < l.length := List.length_pos_iff.2 h
    exact make_core b off cap l w hr.1 (block_lt_of_cell (hc 0 hp).1) hc hi
/-- the row of a call's own ranges -/
def intR (p : Nat × Nat) : Int × Int := ((p.1 : Int), (p.2 : Int))
theorem natR_intR (l : List (Nat × Nat)) : (l.map intR).map natR = l := by
  rw [List.map_map]
  conv => rhs; rw [← List.map_id l]
  refine List.map_congr_left fun p _ => ?_
  simp [natR, intR]
theorem flat_get : ∀ (l : List (Nat × Nat)) (j : Nat) (h : j < l.length), (flat l)[j * 2]? = some (.int .i64 (l[j].1 : Int)) ∧ (flat l)[j * 2 + 1]? = some (.int .i64 (l[j].2 : Int))
  | [], j, h => by simp at h
  | p :: l, 0, _ => ⟨rfl, rfl⟩
  | p :: l, j + 1, h => by
    have := flat_get l j (by simpa using h)
    rw [show (j + 1) * 2 = j * 2 + 1 + 1 by omega]
    simpa [flat] using this
theorem owns_rowR {w : World} {B : Nat} {l : List (Nat × Nat)} {v : Value} (h : w.ownsRow B 116 2 v l.length (flat l)) (hl : l.length ≤ 140737488355328) : ∃ a cap, v = .slice a l.length cap ∧ RowR w a (l.map intR) := by
  rcases h.2 with ⟨rfl, h0⟩ | ⟨g, cap, cur, rfl, hg, hh, h1, h2, h3, h4⟩
  · refine ⟨none, 0, by rw [h0], by simpa using hl, fun hne => ?_⟩
    exact absurd (List.length_eq_zero_iff.1 h0) (fun e => hne (by rw [e]; rfl))
  · refine ⟨_, cap, rfl, by simpa using hl, fun _ => ⟨g, 0, rfl, fun j hj => ?_⟩⟩
    have hj' : j < l.length := by simpa using hj
    obtain ⟨f1, f2⟩ := flat_get l j hj'
    have key : ∀ i u, (flat l)[i]? = some u → w.cell? ⟨g, i, none⟩ = some u := fun i u hu => by
      rw [cell_of_row w g i _ _ _ hh]
      rw [← h4, List.getElem?_take] at hu
      split at hu
      · simpa using hu
      · cases hu
    simp only [List.getElem_map, intR, Nat.zero_add]
    exact ⟨key _ _ f1, key _ _ f2⟩
/-- Make of ranges that are right -/
theorem make_own {w : World} {B : Nat} {l : List (Nat × Nat)} {v : Value} (h : w.ownsRow B 116 2 v l.length (flat l)) (hl : l.length ≤ 140737488355328) (hv : ∀ p ∈ l, p.1 ≤ p.2 ∧ p.2 < top) :
    Calls Tryz.prog 73 #[v] w fun e w' => e = .returned (.tuple #[.agg (cellsOf (ofList l)), .int .i64 0]) ∧ Below w.heap.size w w' := by
  obtain ⟨a, cap, rfl, hr⟩ := owns_rowR h hl
  have hall : (l.map intR).all validR = true := by
    rw [List.all_eq_true]
    intro q hq
    obtain ⟨p, hp, rfl⟩ := List.mem_map.1 hq
    have := hv p hp
    unfold top at this
    exact decide_eq_true ⟨by simp [intR], by simp [intR]; omega, by simp [intR]; omega⟩
  have := make_any a cap (l.map intR) w hr (fun j hj => by
    have hj' : j < l.length := by simpa using hj
    have := hv l[j] (List.getElem_mem hj')
    unfold top at this
    simp [intR]; omega)
  rw [makeVal_ok hall, natR_intR, List.length_map] at this
  exact this

end Go.Proofs.YtbfllifgmlkndaaGreatDoor
