/- The pairs between which letters are on their way, rising. -/
import Derived.Test.YtjcfbnhmljlkpaaLkCmp
import Derived.Test.YtjcfbnhmljlkpaaSortK
namespace Go.Proofs.Ytjcfbnhmljlkpaa
open Go.RowKit
open Go.Sort hiding Below

abbrev encP (x : Int × Int) : List Value := [.int .i64 x.1, .int .i64 x.2]
theorem cmpP_lt {x y : Int × Int} : cmpP x y < 0 ↔ x.1 < y.1 ∨ (x.1 = y.1 ∧ x.2 < y.2) := by
  unfold cmpP
  by_cases h : cmpV x.1 y.1 = 0
  · rw [if_pos h, cmpV_lt]
    have := cmpV_zero.1 h
    omega
  · rw [if_neg h, cmpV_lt]
    have : x.1 ≠ y.1 := fun e => h (cmpV_zero.2 e)
    omega
theorem lt_iff {x y : Int × Int} : ltOf cmpP x y = true ↔ x.1 < y.1 ∨ (x.1 = y.1 ∧ x.2 < y.2) := by
  unfold ltOf
  rw [decide_eq_true_iff, cmpP_lt]
theorem lt_not {x y : Int × Int} : ltOf cmpP x y = false ↔ ¬ (x.1 < y.1 ∨ (x.1 = y.1 ∧ x.2 < y.2)) := by
  rw [← lt_iff, Bool.not_eq_true]
theorem swoP : SWO (ltOf cmpP) where
  irrefl x := by rw [lt_not]; omega
  trans x y z h1 h2 := by rw [lt_iff] at *; omega
  ntrans x y z h1 h2 := by rw [lt_not] at *; omega
theorem cmpLays (blk off size : Nat) (w : World) : CmpLays Try.prog 30 #[] encP 2 cmpP blk off size w := fun _ _ _ _ x y => pcmp_any x y _
theorem below_mapBlock {N blk : Nat} (w : World) (h : N ≤ blk) (f : Array Value → Array Value) : Below N w (mapBlock w blk f) :=
  ⟨rfl, rfl, rfl, by unfold mapBlock; simp, fun k hk => by
    unfold mapBlock
    rw [Array.getElem?_modify, if_neg (by omega)]⟩
theorem below_grow {N : Nat} (w : World) (os : Array Obj) (h : N ≤ w.heap.size) : Below N w (grow w os) :=
  ⟨rfl, rfl, rfl, by unfold grow; simp, fun k hk => by
    unfold grow
    rw [Array.getElem?_append_left (by omega)]⟩
theorem below_sorted {N blk : Nat} (w : World) (h : N ≤ blk) (hs : N ≤ w.heap.size) (n : Nat) (d : Array (Int × Int)) (os : Array Obj) : Below N w (sortWorldK encP 2 w blk 0 n d os) := by
  have h0 : Below N w (Go.Sort.ahead w n) := ⟨rfl, rfl, rfl, Nat.le_refl _, fun _ _ => rfl⟩
  have h1 := h0.trans (below_mapBlock (Go.Sort.ahead w n) h (putCells id 0 (flatK encP 2 d)))
  exact h1.trans (below_grow _ os (Nat.le_trans hs h1.size))
def SortP (l : List (Int × Int)) (g : Nat) (w : World) (e : Ending) (w' : World) : Prop :=
  e = .returned (.tuple #[]) ∧ Hid (∃ d' : Array (Int × Int), d'.size = l.length ∧ (∀ q, q ∈ d'.toList ↔ q ∈ l) ∧ (l.Nodup → RisV d'.toList) ∧ (∀ i (h : i < d'.size), w'.cell? ⟨g, i * 2, none⟩ = some (.int .i64 d'[i].1) ∧ w'.cell? ⟨g, i * 2 + 1, none⟩ = some (.int .i64 d'[i].2)) ∧ w.heap.size ≤ w'.heap.size ∧ ∀ N, N ≤ g → N ≤ w.heap.size → Below N w w')
theorem ris_of : ∀ (l : List (Int × Int)), (∀ i j (hi : i < l.length) (hj : j < l.length), i < j → ltOf cmpP l[j] l[i] = false) → l.Nodup → RisV l
  | [], _, _ => trivial
  | p :: l, h, hd => by
    obtain ⟨h1, h2⟩ := List.nodup_cons.1 hd
    refine ⟨fun q hq => ?_, ris_of l (fun i j hi hj hij => h (i + 1) (j + 1) (by simp; omega) (by simp; omega) (by omega)) h2⟩
    obtain ⟨j, hj, rfl⟩ := List.getElem_of_mem hq
    have := h 0 (j + 1) (by simp) (by simp; omega) (by omega)
    rw [List.getElem_cons_succ, List.getElem_cons_zero, lt_not] at this
    rw [befV_iff]
    have hne : ¬ (p.1 = l[j].1 ∧ p.2 = l[j].2) := fun e => h1 (by rw [Prod.ext e.1 e.2]; exact hq)
    omega
set_option maxRecDepth 100000 in
set_option maxHeartbeats 1000000 in
theorem gsort_any (g cap : Nat) (l : List (Int × Int)) (w : World) (C : Array Value) (hb : w.heap[g]? = some (.cells C 41 (0, 0))) (hc : ∀ i (h : i < l.length), w.cell? ⟨g, i * 2, none⟩ = some (.int .i64 l[i].1) ∧ w.cell? ⟨g, i * 2 + 1, none⟩ = some (.int .i64 l[i].2)) (hl : l.length ≤ 100000) :
    Calls Try.prog 36 #[.slice (some ⟨g, 0, none⟩) l.length cap, .func (.func 30) #[] #[]] w (SortP l g w) := by
  have hg := (Array.getElem?_eq_some_iff.1 hb).1
  have hH : HoldsK encP 2 w g 0 l.toArray := by
    intro t ht
    have ht2 : t < l.length * 2 := by simpa using ht
    rw [get_flatK _ _ _ _ (by simpa using ht2), Nat.zero_add]
    refine ⟨?_, frozen_of_row w g t _ _ hb⟩
    have hi : t / 2 < l.length := by omega
    obtain ⟨c0, c1⟩ := hc (t / 2) hi
    have e : l.toArray[t / 2]! = l[t / 2] := by rw [getElem!_pos _ _ (by simpa using hi)]; simp
    rw [e]
    have hm : t % 2 = 0 ∨ t % 2 = 1 := by omega
    rcases hm with hm | hm
    · rw [show t / 2 * 2 = t by omega] at c0
      rw [hm]; exact c0
    · rw [show t / 2 * 2 + 1 = t by omega] at c1
      rw [hm]; exact c1
  have eg : ∀ args w, (callFunc 30 args).run Try.prog w = .ok (.enter 30 args) w := enters_of Try.func30 (by kernel_rfl) rfl
  have hcon := AnyQ.slices_SortFunc Try.sortK 2 (fun w => by kernel_rfl) (fun w => by kernel_rfl) encP (fun _ => rfl) (fun x v hv => by simp at hv; rcases hv with rfl | rfl <;> rfl) cmpP swoP 30 #[] g 0 cap l.toArray w eg (cmpLays g 0 _ w) hH hg (by simp; omega)
  change Calls Try.prog 36 _ _ _ at hcon
  simp only [List.size_toArray] at hcon
  refine hcon.mono ?_
  rintro e w' ⟨rfl, d', n, os, ⟨p1, p2, p3⟩, hs, rfl⟩
  have hsz : d'.size = l.length := by simpa using p1
  have hp : d'.toList.Perm l := by
    have e1 : d'.extract 0 l.length = d' := by rw [← hsz]; simp
    have e2 : l.toArray.extract 0 l.length = l.toArray := by simp
    rw [e1, e2] at p3
    exact p3
  refine ⟨rfl, d', hsz, fun q => hp.mem_iff, fun hd => ?_, fun i hi => ?_, ?_, fun N h1 h2 => below_sorted w h1 h2 n d' os⟩
  · refine ris_of _ (fun i j hi hj hij => ?_) (hp.nodup_iff.2 hd)
    have hi' : i < d'.size := by simpa using hi
    have hj' : j < d'.size := by simpa using hj
    have := hs i j (Nat.zero_le _) hij (by omega)
    rw [getElem!_pos d' i hi', getElem!_pos d' j hj'] at this
    simpa using this
  · have hput : HoldsK encP 2 (sortWorldK encP 2 w g 0 n d' os) g 0 d' := holdsK_sortWorldK_c encP 2 w g 0 l.toArray d' n os hH hg (by simpa using hsz)
    have c0 := (hput.cell hi (c := 0) (by omega)).1
    have c1 := (hput.cell hi (c := 1) (by omega)).1
    rw [getElem!_pos d' i hi] at c0 c1
    simp only [Nat.zero_add, Nat.add_zero] at c0 c1
    exact ⟨c0, c1⟩
  · exact (below_sorted (N := 0) w (Nat.zero_le _) (Nat.zero_le _) n d' os).size

end Go.Proofs.Ytjcfbnhmljlkpaa
