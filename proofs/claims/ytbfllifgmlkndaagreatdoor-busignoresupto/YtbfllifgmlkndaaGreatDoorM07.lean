/- Ranges, Make. -/
import Derived.Laws.OwnMore
import Derived.Test.YtbfllifgmlkndaaGreatDoorM06
namespace Go.Proofs.YtbfllifgmlkndaaGreatDoor
open Go.RowKit
open Slot

/-- a row of ranges, cell by cell -/
def flat : List (Nat × Nat) → List Value
  | [] => []
  | p :: l => .int .i64 (p.1 : Int) :: .int .i64 (p.2 : Int) :: flat l
theorem flat_length : ∀ l : List (Nat × Nat), (flat l).length = l.length * 2
  | [] => rfl
  | p :: l => by simp only [flat, List.length_cons, flat_length l]; omega
theorem flat_append : ∀ l k : List (Nat × Nat), flat (l ++ k) = flat l ++ flat k
  | [], k => rfl
  | p :: l, k => by simp [flat, flat_append l k]
theorem owns_only {W W' : World} {base : Nat} {e : TypeId} {size : Nat} {v : Value} {n : Nat} {xs : List Value} (h : W.ownsRow base e size v n xs) {b : Nat} (ho : Only b W W') (hb : b < base) : W'.ownsRow base e size v n xs := by
  obtain ⟨h1, h2⟩ := h
  refine ⟨h1, ?_⟩
  rcases h2 with h2 | ⟨g, cap, cur, hv, hg, hh, r⟩
  · exact .inl h2
  · exact .inr ⟨g, cap, cur, hv, hg, (ho.block g (Array.getElem?_eq_some_iff.1 hh).1 (by omega)).trans hh, r⟩
theorem owns_below {W W' : World} {base : Nat} {e : TypeId} {size : Nat} {v : Value} {n : Nat} {xs : List Value} (h : W.ownsRow base e size v n xs) (hb : Below W.heap.size W W') : W'.ownsRow base e size v n xs := by
  obtain ⟨h1, h2⟩ := h
  refine ⟨h1, ?_⟩
  rcases h2 with h2 | ⟨g, cap, cur, hv, hg, hh, r⟩
  · exact .inl h2
  · exact .inr ⟨g, cap, cur, hv, hg, (hb.block g (Array.getElem?_eq_some_iff.1 hh).1).trans hh, r⟩
theorem infoR : (Tryz.prog.info? 116).map (fun i => (i.zero, i.size, i.bytes)) = some (some (.agg #[.int .i64 0, .int .i64 0]), 2, 16) := by kernel_rfl
theorem push_run (B : Nat) (w : World) (v : Value) (acc : List (Nat × Nat)) (f t : Nat) (hown : w.ownsRow B 116 2 v acc.length (flat acc)) (hB : B ≤ w.heap.size) (hlen : acc.length ≤ 16384) :
    ∃ v' w', (Builtin.append_ #[80, 80] 80 #[v, .slice (some ⟨w.heap.size, 0, none⟩) 1 1]).run Tryz.prog (w.alloc (.cells #[.int .i64 f, .int .i64 t] 116)) = .ok v' w' ∧ w'.ownsRow B 116 2 v' (acc ++ [(f, t)]).length (flat (acc ++ [(f, t)])) ∧
      (w.alloc (.cells #[.int .i64 f, .int .i64 t] 116)).grownBy w' v.ownBlock := by
  obtain ⟨i0, hi, hz0, hz1, hz2⟩ := info_parts infoR
  have hown' := owns_below hown (below_alloc w (.cells #[.int .i64 f, .int .i64 t] 116))
  obtain ⟨v', w', hrun, ho, hgr, _⟩ := run_append_own (P := Tryz.prog) (w.alloc (.cells #[.int .i64 f, .int .i64 t] 116)) B 80 80 116 i0 (.agg #[.int .i64 0, .int .i64 0]) 2 16 Tryz.underlying80 hi hz0 hz1 hz2 rfl (by decide) _ _ _ hown' ⟨w.heap.size, 0, none⟩ 1 1 [.int .i64 f, .int .i64 t] rfl
    (fun j u hj => by
      rw [Go.WideShapes.add_plain, cell_of_row _ _ _ _ _ _ (heap_alloc_new w _)]
      simpa using hj)
    (fun u hu => by rcases List.mem_cons.1 hu with rfl | hu; rfl; rw [List.mem_singleton.1 hu]; rfl) (by unfold maxLen; omega) (by omega) (by simp; omega)
  refine ⟨v', w', hrun, ?_, hgr⟩
  rw [flat_append, List.length_append]
  exact ho
/-- what is left of a set from m on -/
def fromM (S : Nat → Bool) (m : Nat) : Nat → Bool := fun n => decide (m ≤ n) && S n

/-- an append whose run is known, under a guard that holds or under none -/
theorem wpList_append_run {P : Program} {ops : Array Oper} {rest : List Oper} {o : Oper} {a : Act} {w : World} {Q : Exit → Act → World → Prop} (hw : Region.wanted o (yielded ops a.tmps) = true) (s x : Operand) (t : TypeId)
    (ho : o.op = .call { callee := .builtin .append, args := #[s, x], argTypes := #[t, t] }) (v u v' : Value) (w' : World) (hs : a.eval s = v) (hx : a.eval x = u)
    (hrun : (Builtin.append_ #[t, t] o.type #[v, u]).run P w = .ok v' w') (h : wpList P ops Q rest (a.put o.dst v') w') : wpList P ops Q (o :: rest) a w := by
  refine wpList_step fun K hK => ?_
  rw [if_pos hw]
  unfold Oper.wp execOp
  simp only [ho, resolve, invoke, builtin, Sem.run_bind, Sem.run_pure, Result.andThen_ok, List.map_toArray, List.map_cons, List.map_nil, hs, hx, hrun]
  exact hK _ _ h
set_option maxHeartbeats 2000000 in
set_option maxRecDepth 100000 in
/-- Ranges -/
theorem ranges_any (S : Nat → Bool) (w : World) :
    Calls Tryz.prog 94 #[.agg (cellsOf S)] w fun e w' => (∃ (l : List (Nat × Nat)) (v : Value), e = .returned v ∧ Runs S 0 l ∧ w'.ownsRow (w.heap.size + 2) 116 2 v l.length (flat l)) ∧ Below w.heap.size w w' := by
  have hz := zeroBits
  have HB0 : Hid (Box ((w.alloc (.cells (cellsOf S) 24)).alloc (.cells (cellsOf (fun _ => false)) 24)) w.heap.size S) := heap_alloc2_old w _ _
  have HZ0 : Hid (Box ((w.alloc (.cells (cellsOf S) 24)).alloc (.cells (cellsOf (fun _ => false)) 24)) (w.heap.size + 1) (fun _ => false)) := heap_alloc2_new w _ _
  have HW0 : Hid (Below w.heap.size w ((w.alloc (.cells (cellsOf S) 24)).alloc (.cells (cellsOf (fun _ => false)) 24))) := (below_alloc w _).alloc (by simp) _
  go_enter Tryz.func94, Tryz.ntmps94
  go_wp2
  go_loopw [4, 5] (fun v i W => ∃ (m : Nat) (acc : List (Nat × Nat)), m ≤ 16384 ∧ i = .int .i64 m ∧ acc.length ≤ m ∧ Hid (Box W w.heap.size (fromM S m)) ∧ Hid (Box W (w.heap.size + 1) (fun _ => false)) ∧ Hid (W.ownsRow (w.heap.size + 2) 116 2 v acc.length (flat acc)) ∧ Hid (∀ r, Runs S m r → Runs S 0 (acc ++ r)) ∧ Hid (Below w.heap.size w W)) (fun _ i _ => 16384 - (intOf i).toNat)
  case atStart => exact ⟨0, [], by omega, rfl, by simp, HB0.out.congr (fun n _ => by simp [fromM]), HZ0.out, ⟨rfl, .inl ⟨rfl, rfl⟩⟩, fun r h => h, HW0.out⟩
  case round =>
    obtain ⟨m, acc, hm, rfl, hacc, HB, HZ, HO, HR, HW⟩ := hrel
    have heq := eq_bits (fromM S m) (fun _ => false)
    cases hs : sameB (fromM S m) (fun _ => false)
    · rw [hs] at heq
      go_wp2_with (first | (refine wpList_load_row rfl 24 _ rfl w.heap.size rfl 24 _ (0, 0) _ HB.out Tryz.underlying24 rfl (infoBits _) ?_) | (refine wpList_load_row rfl 24 _ rfl (w.heap.size + 1) rfl 24 _ (0, 0) _ HZ.out Tryz.underlying24 rfl (infoBits _) ?_))
      obtain ⟨N, hN1, hN2, hN3⟩ : ∃ N, m ≤ N ∧ N < 16384 ∧ S N = true := by
        have h1 : ¬ ∀ n, n < top → fromM S m n = false := fun h => by
          have := (sameB_iff (fromM S m) (fun _ => false)).2 h
          rw [hs] at this; cases this
        obtain ⟨N, h2⟩ := Classical.not_forall.1 h1
        obtain ⟨h3, h4⟩ := Classical.not_imp.1 h2
        have h5 : fromM S m N = true := by cases h : fromM S m N; exact absurd h h4; rfl
        simp only [fromM, Bool.and_eq_true, decide_eq_true_eq] at h5
        exact ⟨N, h5.1, h3, h5.2⟩
      refine (first_any w.heap.size m N (fromM S m) wr HB.out hN1 hN2 (by simp [fromM, hN1, hN3])).mono ?_
      rintro e w1 ⟨⟨f, t, rfl, f1, f2, f3, f4, f5, f6⟩, hb1⟩
      have HF := hid (And.intro f4 (And.intro f5 f6))
      have HB1 := hid (HB.out.below hb1 HB.out.lt)
      have HZ1 := hid (HZ.out.below hb1 HZ.out.lt)
      have HO1 := hid (owns_below HO.out hb1)
      have HW1 := hid (HW.out.trans (hb1.mono (by have := HB.out.lt; omega)))
      have hw1 : w.heap.size + 1 < w1.heap.size := HZ1.out.lt
      clear f4 f5 f6 hb1 heq
      go_wp2_with fail
      have HBa := hid (HB1.out.below (below_alloc w1 (.cells #[.int .i64 f, .int .i64 t] 116)) HB1.out.lt)
      refine (set_any w.heap.size f t false (fromM S m) _ HBa.out f2 f3).mono ?_
      rintro e w2 ⟨rfl, hb2, ho2⟩
      have hr2 : w2.heap[w1.heap.size]? = some (.cells #[.int .i64 f, .int .i64 t] 116 (0, 0)) := by
        rw [ho2.block w1.heap.size (by simp) (by omega)]; exact heap_alloc_new w1 _
      have c0 : w2.cell? ⟨w1.heap.size, 0, none⟩ = some (.int .i64 f) := cell_of_row w2 _ 0 _ _ _ hr2
      have c1 : w2.cell? ⟨w1.heap.size, 1, none⟩ = some (.int .i64 t) := cell_of_row w2 _ 1 _ _ _ hr2
      have HB2 := hid hb2
      have HZ2 := hid ((HZ1.out.below (below_alloc w1 _) HZ1.out.lt).only ho2 (by omega))
      have HO2 := hid (owns_only (owns_below HO1.out (below_alloc w1 _)) ho2 (by omega))
      have HW2 := hid ((HW1.out.alloc (by omega) _).trans (ho2.below (Nat.le_refl _) (by simp; omega)))
      have hw2 : w1.heap.size < w2.heap.size := by have := ho2.size; simp at this; omega
      clear hb2 ho2 hr2 HBa
      obtain ⟨v', w3, hrun, ho3, hg3⟩ := push_run (w.heap.size + 2) w2 u4 acc f t HO2.out (by omega) (by omega)
      have HRun := hid hrun
      have hne : some w1.heap.size ≠ u4.ownBlock := fun e => by
        have := (World.ownsRow.lt HO1.out w1.heap.size e.symm).2
        omega
      have d1 : w3.cell? ⟨w1.heap.size, 1, none⟩ = some (.int .i64 t) := by
        rw [World.cell?_of_block (w := w2.alloc _) (hg3.block w1.heap.size (by simp; omega) hne), World.cell?_of_block (w := w2) (heap_alloc_old w2 _ hw2)]
        exact c1
      have hb3 : Below (w.heap.size + 2) (w2.alloc (.cells #[.int .i64 f, .int .i64 t] 116)) w3 := (Below.refl _ _).grown hg3 (by simp; omega) (fun k hk => (World.ownsRow.lt HO2.out k hk).1)
      have HO3 := hid ho3
      have HB3 := hid ((HB2.out.below (below_alloc w2 _) HB2.out.lt).below hb3 (by omega))
      have HZ3 := hid ((HZ2.out.below (below_alloc w2 _) HZ2.out.lt).below hb3 (by omega))
      have HW3 := hid ((HW2.out.alloc (by omega) _).trans (hb3.mono (by omega)))
      clear hrun ho3 hg3 hb3 hne
      go_wp2_with (at_builtin; refine wpList_append_run rfl _ _ 80 rfl _ _ _ _ rfl rfl HRun.out ?_)
      obtain ⟨f4, f5, f6⟩ := HF.out
      have g4 : ∀ n, m ≤ n → n < f → S n = false := fun n a b => by simpa [fromM, a] using f4 n a b
      have g5 : ∀ n, f ≤ n → n ≤ t → S n = true := fun n a b => by simpa [fromM, show m ≤ n by omega] using f5 n a b
      have g6 : t + 1 < 16384 → S (t + 1) = false := fun a => by simpa [fromM, show m ≤ t + 1 by omega] using f6 a
      refine ⟨⟨t + 1, acc ++ [(f, t)], by omega, by go_num, by simp; omega, HB3.out.congr fun n hn => ?_, HZ3.out, HO3.out, fun r hr => ?_, HW3.out⟩, by simp [intOf]; omega⟩
      · unfold put fromM
        by_cases h1 : f ≤ n ∧ n ≤ t
        · have : ¬ t + 1 ≤ n := by omega
          simp [h1, this]
        · rw [if_neg h1]
          by_cases h2 : t + 1 ≤ n
          · simp [h2, show m ≤ n by omega]
          · by_cases h3 : m ≤ n
            · simp [h2, h3, g4 n h3 (by omega)]
            · simp [h2, h3]
      · rw [List.append_assoc]
        exact HR.out _ ⟨f1, f2, f3, g4, g5, g6, hr⟩
    · rw [hs] at heq
      go_wp2_with (first | (refine wpList_load_row rfl 24 _ rfl w.heap.size rfl 24 _ (0, 0) _ HB.out Tryz.underlying24 rfl (infoBits _) ?_) | (refine wpList_load_row rfl 24 _ rfl (w.heap.size + 1) rfl 24 _ (0, 0) _ HZ.out Tryz.underlying24 rfl (infoBits _) ?_))
      have hall : ∀ n, n < top → fromM S m n = false := (sameB_iff _ _).1 hs
      have hend : Runs S 0 (acc ++ []) := HR.out [] fun n h1 h2 => by
        have := hall n h2
        simpa [fromM, h1] using this
      rw [List.append_nil] at hend
      go_ret
      exact ⟨⟨acc, _, rfl, hend, HO.out⟩, HW.out⟩

end Go.Proofs.YtbfllifgmlkndaaGreatDoor

namespace Go.Proofs.YtbfllifgmlkndaaGreatDoor
open Go.RowKit
open Slot

/-- a row of ranges in memory -/
def RowR (w : World) (a : Option Addr) (l : List (Int × Int)) : Prop :=
  l.length ≤ 140737488355328 ∧ (l ≠ [] → ∃ b off, a = some ⟨b, off, none⟩ ∧ ∀ j (h : j < l.length), w.cell? ⟨b, off + j * 2, none⟩ = some (.int .i64 l[j].1) ∧ w.cell? ⟨b, off + j * 2 + 1, none⟩ = some (.int .i64 l[j].2))
def validR (p : Int × Int) : Bool := decide (0 ≤ p.1 ∧ p.1 ≤ p.2 ∧ p.2 ≤ 16383)
def natR (p : Int × Int) : Nat × Nat := (p.1.toNat, p.2.toNat)

/-- what Make tells -/
def makeVal (l : List (Int × Int)) : Value := if l.all validR then .tuple #[.agg (cellsOf (ofList (l.map natR))), .int .i64 0] else .tuple #[.agg (cellsOf (fun _ => false)), .int .i64 20]
theorem makeVal_ok {l : List (Int × Int)} (h : l.all validR = true) : makeVal l = .tuple #[.agg (cellsOf (ofList (l.map natR))), .int .i64 0] := by unfold makeVal; rw [if_pos h]
theorem makeVal_bad {l : List (Int × Int)} (h : l.all validR = false) : makeVal l = .tuple #[.agg (cellsOf (fun _ => false)), .int .i64 20] := by unfold makeVal; rw [h]; rfl
theorem sizes (S T : Nat → Bool) : (cellsOf S).size = (cellsOf T).size := by rw [cellsOf_size, cellsOf_size]
theorem ret_box2 {fn : Func} {p q : Tmp} (h : fn.results = #[.cell p 24, .tmp q]) {tmps : Array Value} {w : World} {b : Nat} {S : Nat → Bool} {v : Value} (hp : tmps.getD p undef = .pointer (some ⟨b, 0, none⟩)) (hq : tmps.getD q undef = v) (hB : Box w b S) :
    (results fn tmps).run Tryz.prog w = .ok (.tuple #[.agg (cellsOf S), v]) w := by
  have hp' : tmps[p]?.getD undef = .pointer (some ⟨b, 0, none⟩) := by simpa using hp
  have hq' : tmps[q]?.getD undef = v := by simpa using hq
  simp [results, h, hp', hq', asAddr, run_loadVar_row w b 24 24 (cellsOf S) (0, 0) _ hB Tryz.underlying24 rfl (infoBits S)]
theorem take_all {l : List (Int × Int)} {k : Nat} (h : k < l.length) (hv : (l.take k).all validR = true) : (l.take (k + 1)).all validR = validR l[k] := by
  rw [List.take_succ_eq_append_getElem h, List.all_append, hv]; simp
theorem not_all {l : List (Int × Int)} {k : Nat} (h : k < l.length) (hv : validR l[k] = false) : l.all validR = false := by
  rw [List.all_eq_false]
  exact ⟨l[k], List.getElem_mem h, by simp [hv]⟩
theorem take_map {l : List (Int × Int)} {k : Nat} (h : k < l.length) : (l.take (k + 1)).map natR = (l.take k).map natR ++ [natR l[k]] := by
  rw [List.take_succ_eq_append_getElem h, List.map_append]; rfl

set_option maxHeartbeats 2000000 in
set_option maxRecDepth 100000 in
theorem make_core (b off cap : Nat) (l : List (Int × Int)) (w : World) (hl : l.length ≤ 140737488355328) (hlt : b < w.heap.size)
    (hc : ∀ j (h : j < l.length), w.cell? ⟨b, off + j * 2, none⟩ = some (.int .i64 l[j].1) ∧ w.cell? ⟨b, off + j * 2 + 1, none⟩ = some (.int .i64 l[j].2))
    (hr : ∀ j (h : j < l.length), -9223372036854775808 ≤ l[j].1 ∧ l[j].1 ≤ 9223372036854775807 ∧ -9223372036854775808 ≤ l[j].2 ∧ l[j].2 ≤ 9223372036854775807) :
    Calls Tryz.prog 73 #[.slice (some ⟨b, off, none⟩) l.length cap] w fun e w' => e = .returned (makeVal l) ∧ Below w.heap.size w w' := by
  have hz := zeroBits
  have HR0 : Hid (Box ((w.alloc (.cells (cellsOf (fun _ => false)) 24)).alloc (.cells (cellsOf (fun _ => false)) 24)) w.heap.size (fun _ => false)) := heap_alloc2_old w _ _
  have HB0 : Hid (Box ((w.alloc (.cells (cellsOf (fun _ => false)) 24)).alloc (.cells (cellsOf (fun _ => false)) 24)) (w.heap.size + 1) (fun _ => false)) := heap_alloc2_new w _ _
  have HW0 : Hid (Below w.heap.size w ((w.alloc (.cells (cellsOf (fun _ => false)) 24)).alloc (.cells (cellsOf (fun _ => false)) 24))) := (below_alloc w _).alloc (by simp) _
  have HC := hid hc
  have HRg := hid hr
  clear hc hr
  go_enter Tryz.func73, Tryz.ntmps73
  go_wp2
  go_loopw [9] (fun i W => ∃ k : Nat, k ≤ l.length ∧ i = .int .i64 k ∧ Hid (Box W w.heap.size (fun _ => false)) ∧ Hid (Box W (w.heap.size + 1) (ofList ((l.take k).map natR))) ∧ Hid ((l.take k).all validR = true) ∧ Hid (Below w.heap.size w W)) (fun i _ => l.length - (intOf i).toNat)
  case atStart => exact ⟨0, Nat.zero_le _, rfl, HR0.out, HB0.out, rfl, HW0.out⟩
  case round =>
    obtain ⟨k, hk, rfl, HR, HB, HV, HW⟩ := hrel
    by_cases hlk : k < l.length
    · obtain ⟨c0, c1⟩ := HC.out k hlk
      obtain ⟨r0, r1, r2, r3⟩ := HRg.out k hlk
      have hd0 : wr.cell? ⟨b, off + k * 2, none⟩ = some (.int .i64 l[k].1) := by rw [HW.out.cell (p := ⟨b, off + k * 2, none⟩) hlt]; exact c0
      have hd1 : wr.cell? ⟨b, off + k * 2 + 1, none⟩ = some (.int .i64 l[k].2) := by rw [HW.out.cell (p := ⟨b, off + k * 2 + 1, none⟩) hlt]; exact c1
      generalize hx : l[k].1 = x at hd0 r0 r1
      generalize hy : l[k].2 = y at hd1 r2 r3
      have HX := hid hx
      have HY := hid hy
      clear c0 c1 hx hy
      have HRa : Hid (∀ o, Box (wr.alloc o) w.heap.size (fun _ => false)) := fun o => HR.out.below (below_alloc wr o) HR.out.lt
      have HBa : Hid (∀ o, Box (wr.alloc o) (w.heap.size + 1) (ofList ((l.take k).map natR))) := fun o => HB.out.below (below_alloc wr o) HB.out.lt
      have HWa : Hid (∀ o, Below w.heap.size w (wr.alloc o)) := fun o => HW.out.alloc (by have := HR.out.lt; omega) o
      have hwr : w.heap.size + 1 < wr.heap.size := HB.out.lt
      by_cases hv : 0 ≤ x ∧ x ≤ y ∧ y ≤ 16383
      · obtain ⟨h1, h2, h3⟩ := hv
        obtain ⟨f, rfl⟩ := Int.eq_ofNat_of_zero_le h1
        obtain ⟨t, rfl⟩ := Int.eq_ofNat_of_zero_le (Int.le_trans h1 h2)
        have HS : Hid (∀ W, Box W (w.heap.size + 1) (ofList ((l.take k).map natR)) → Calls Tryz.prog 90 #[.pointer (some ⟨w.heap.size + 1, 0, none⟩), .agg #[.int .i64 f, .int .i64 t], .bool true] W fun e w' => e = .returned (.tuple #[]) ∧ Box w' (w.heap.size + 1) (put (ofList ((l.take k).map natR)) f t true) ∧ Only (w.heap.size + 1) W w') :=
          fun W hW => set_any _ f t true _ W hW (by omega) (by omega)
        have HE : Hid (ofList ((l.take (k + 1)).map natR) = put (ofList ((l.take k).map natR)) f t true) := by
          rw [take_map hlk]
          have : natR l[k] = (f, t) := by unfold natR; rw [HX.out, HY.out]; simp
          rw [this]
          exact ofList_snoc _ _ _
        have HV1 : Hid ((l.take (k + 1)).all validR = true) := by
          rw [take_all hlk HV.out]; unfold validR; rw [HX.out, HY.out]; exact decide_eq_true ⟨by omega, by omega, by omega⟩
        go_wp2_with fail
        refine (HS.out _ (HBa.out _)).mono ?_
        rintro e w2 ⟨rfl, hb2, ho2⟩
        have HB2 := hid hb2
        have HR2 := hid (Box.only (b := w.heap.size) (c := w.heap.size + 1) (HRa.out _) ho2 (by omega))
        have HW2 := hid ((HWa.out _).trans (Only.below (b := w.heap.size + 1) (n := w.heap.size) ho2 (by omega) (by simp; omega)))
        clear hb2 ho2
        go_wp2
        go_roundw
        case rel => exact ⟨k + 1, by omega, by go_num, HR2.out, by rw [HE.out]; exact HB2.out, HV1.out, HW2.out⟩
        case measure => simp [intOf]; omega
      · have HN : Hid (l.all validR = false) := not_all hlk (by unfold validR; rw [HX.out, HY.out]; exact decide_eq_false hv)
        have fin : Hid (∀ o, Box ((wr.alloc o).setRow w.heap.size (cellsOf fun _ => false)) w.heap.size (fun _ => false) ∧ Below w.heap.size w ((wr.alloc o).setRow w.heap.size (cellsOf fun _ => false))) := fun o => ⟨box_size (HRa.out o), below_setRow (HWa.out o) (Nat.le_refl _) _⟩
        by_cases h1 : x < 0
        · go_wp2_with (refine wpList_store_row rfl 24 _ _ rfl w.heap.size _ rfl rfl 24 _ (HRa.out (.cells #[.int .i64 x, .int .i64 y] 116)) (infoBits _) (sizes _ _) (oneCells _) ?_)
          exact bodyPost_ret (v := .tuple #[.agg (cellsOf fun _ => false), .int .i64 20]) (ret_box2 rfl rfl rfl (fin.out _).1) rfl ⟨by rw [makeVal_bad HN.out], (fin.out _).2⟩
        · by_cases h2 : y < x
          · go_wp2_with (refine wpList_store_row rfl 24 _ _ rfl w.heap.size _ rfl rfl 24 _ (HRa.out (.cells #[.int .i64 x, .int .i64 y] 116)) (infoBits _) (sizes _ _) (oneCells _) ?_)
            exact bodyPost_ret (v := .tuple #[.agg (cellsOf fun _ => false), .int .i64 20]) (ret_box2 rfl rfl rfl (fin.out _).1) rfl ⟨by rw [makeVal_bad HN.out], (fin.out _).2⟩
          · have h3 : 16383 < y := by omega
            clear hv
            go_wp2_with (refine wpList_store_row rfl 24 _ _ rfl w.heap.size _ rfl rfl 24 _ (HRa.out (.cells #[.int .i64 x, .int .i64 y] 116)) (infoBits _) (sizes _ _) (oneCells _) ?_)
            exact bodyPost_ret (v := .tuple #[.agg (cellsOf fun _ => false), .int .i64 20]) (ret_box2 rfl rfl rfl (fin.out _).1) rfl ⟨by rw [makeVal_bad HN.out], (fin.out _).2⟩
    · have e : l.take k = l := List.take_of_length_le (by omega)
      rw [e] at HB HV
      go_wp2_with (first | (refine wpList_load_row rfl 24 _ rfl (w.heap.size + 1) rfl 24 _ (0, 0) _ HB.out Tryz.underlying24 rfl (infoBits _) ?_) | (refine wpList_store_row rfl 24 _ _ rfl w.heap.size _ rfl rfl 24 _ HR.out (infoBits _) (sizes _ _) (oneCells _) ?_))
      exact bodyPost_ret (v := .tuple #[.agg (cellsOf (ofList (l.map natR))), .int .i64 0]) (ret_box2 rfl rfl rfl (box_size HR.out)) rfl ⟨by rw [makeVal_ok HV.out], below_setRow HW.out (Nat.le_refl _) _⟩

set_option maxHeartbeats 1000000 in
set_option maxRecDepth 100000 in
theorem make_none (a : Option Addr) (cap : Nat) (w : World) :
    Calls Tryz.prog 73 #[.slice a 0 cap] w fun e w' => e = .returned (makeVal []) ∧ Below w.heap.size w w' := by
  have hz := zeroBits
  have HR0 : Hid (Box ((w.alloc (.cells (cellsOf (fun _ => false)) 24)).alloc (.cells (cellsOf (fun _ => false)) 24)) w.heap.size (fun _ => false)) := heap_alloc2_old w _ _
  have HB0 : Hid (Box ((w.alloc (.cells (cellsOf (fun _ => false)) 24)).alloc (.cells (cellsOf (fun _ => false)) 24)) (w.heap.size + 1) (fun _ => false)) := heap_alloc2_new w _ _
  have HW0 : Hid (Below w.heap.size w ((w.alloc (.cells (cellsOf (fun _ => false)) 24)).alloc (.cells (cellsOf (fun _ => false)) 24))) := (below_alloc w _).alloc (by simp) _
  go_enter Tryz.func73, Tryz.ntmps73
  go_wp2
  refine wp_loop_rounds 1 ?_
  rw [rounds_succ]
  go_wp2_with (first | (refine wpList_load_row rfl 24 _ rfl (w.heap.size + 1) rfl 24 _ (0, 0) _ HB0.out Tryz.underlying24 rfl (infoBits _) ?_) | (refine wpList_store_row rfl 24 _ _ rfl w.heap.size _ rfl rfl 24 _ HR0.out (infoBits _) (sizes _ _) (oneCells _) ?_))
  exact bodyPost_ret (v := .tuple #[.agg (cellsOf (fun _ => false)), .int .i64 0]) (ret_box2 rfl rfl rfl (box_size HR0.out)) rfl ⟨rfl, below_setRow HW0.out (Nat.le_refl _) _⟩
/-- Make -/
theorem make_any (a : Option Addr) (cap : Nat) (l : List (Int × Int)) (w : World) (hr : RowR w a l)
    (hi : ∀ j (h : j < l.length), -9223372036854775808 ≤ l[j].1 ∧ l[j].1 ≤ 9223372036854775807 ∧ -9223372036854775808 ≤ l[j].2 ∧ l[j].2 ≤ 9223372036854775807) :
    Calls Tryz.prog 73 #[.slice a l.length cap] w fun e w' => e = .returned (makeVal l) ∧ Below w.heap.size w w' := by
  by_cases h : l = []
  · subst h
    exact make_none a cap w
  · obtain ⟨b, off, rfl, hc⟩ := hr.2 h
    have hp : 0 < l.length := List.length_pos_iff.2 h
    exact make_core b off cap l w hr.1 (block_lt_of_cell (hc 0 hp).1) hc hi
/-- the row of a call's own ranges -/
def intR (p : Nat × Nat) : Int × Int := ((p.1 : Int), (p.2 : Int))
theorem natR_intR (l : List (Nat × Nat)) : (l.map intR).map natR = l := by
  rw [List.map_map]
  conv => rhs; rw [← List.map_id l]
  refine List.map_congr_left fun p _ => ?_
  simp [natR, intR]
theorem flat_get : ∀ (l : List (Nat × Nat)) (j : Nat) (h : j < l.length), (flat l)[j * 2]? = some (.int .i64 (l[j].1 : Int)) ∧ (flat l)[j * 2 + 1]? = some (.int .i64 (l[j].2 : Int))
  | [], j, h => by simp at h
  | p :: l, 0, _ => ⟨rfl, rfl⟩
  | p :: l, j + 1, h => by
    have := flat_get l j (by simpa using h)
    rw [show (j + 1) * 2 = j * 2 + 1 + 1 by omega]
    simpa [flat] using this
theorem owns_rowR {w : World} {B : Nat} {l : List (Nat × Nat)} {v : Value} (h : w.ownsRow B 116 2 v l.length (flat l)) (hl : l.length ≤ 140737488355328) : ∃ a cap, v = .slice a l.length cap ∧ RowR w a (l.map intR) := by
  rcases h.2 with ⟨rfl, h0⟩ | ⟨g, cap, cur, rfl, hg, hh, h1, h2, h3, h4⟩
  · refine ⟨none, 0, by rw [h0], by simpa using hl, fun hne => ?_⟩
    exact absurd (List.length_eq_zero_iff.1 h0) (fun e => hne (by rw [e]; rfl))
  · refine ⟨_, cap, rfl, by simpa using hl, fun _ => ⟨g, 0, rfl, fun j hj => ?_⟩⟩
    have hj' : j < l.length := by simpa using hj
    obtain ⟨f1, f2⟩ := flat_get l j hj'
    have key : ∀ i u, (flat l)[i]? = some u → w.cell? ⟨g, i, none⟩ = some u := fun i u hu => by
      rw [cell_of_row w g i _ _ _ hh]
      rw [← h4, List.getElem?_take] at hu
      split at hu
      · simpa using hu
      · cases hu
    simp only [List.getElem_map, intR, Nat.zero_add]
    exact ⟨key _ _ f1, key _ _ f2⟩
/-- Make of ranges that are right -/
theorem make_own {w : World} {B : Nat} {l : List (Nat × Nat)} {v : Value} (h : w.ownsRow B 116 2 v l.length (flat l)) (hl : l.length ≤ 140737488355328) (hv : ∀ p ∈ l, p.1 ≤ p.2 ∧ p.2 < top) :
    Calls Tryz.prog 73 #[v] w fun e w' => e = .returned (.tuple #[.agg (cellsOf (ofList l)), .int .i64 0]) ∧ Below w.heap.size w w' := by
  obtain ⟨a, cap, rfl, hr⟩ := owns_rowR h hl
  have hall : (l.map intR).all validR = true := by
    rw [List.all_eq_true]
    intro q hq
    obtain ⟨p, hp, rfl⟩ := List.mem_map.1 hq
    have := hv p hp
    unfold top at this
    exact decide_eq_true ⟨by simp [intR], by simp [intR]; omega, by simp [intR]; omega⟩
  have := make_any a cap (l.map intR) w hr (fun j hj => by
    have hj' : j < l.length := by simpa using hj
    have := hv l[j] (List.getElem_mem hj')
    unfold top at this
    simp [intR]; omega)
  rw [makeVal_ok hall, natR_intR, List.length_map] at this
  exact this

end Go.Proofs.YtbfllifgmlkndaaGreatDoor
