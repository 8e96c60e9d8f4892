/- Ranges. -/
import Derived.Laws.OwnMore
import Derived.Test.YtbfllifgmlkndaaGreatDoorM08
namespace Go.Proofs.YtbfllifgmlkndaaGreatDoor
open Go.RowKit
open Slot

/-- a row of ranges, cell by cell -/
def flat : List (Nat × Nat) → List Value
  | [] => []
  | p :: l => .int .i64 (p.1 : Int) :: .int .i64 (p.2 : Int) :: flat l
theorem flat_length : ∀ l : List (Nat × Nat), (flat l).length = l.length * 2
  | [] => rfl
  | p :: l => by simp only [flat, List.length_cons, flat_length l]; omega
theorem flat_append : ∀ l k : List (Nat × Nat), flat (l ++ k) = flat l ++ flat k
  | [], k => rfl
  | p :: l, k => by simp [flat, flat_append l k]
theorem owns_only {W W' : World} {base : Nat} {e : TypeId} {size : Nat} {v : Value} {n : Nat} {xs : List Value} (h : W.ownsRow base e size v n xs) {b : Nat} (ho : Only b W W') (hb : b < base) : W'.ownsRow base e size v n xs := by
  obtain ⟨h1, h2⟩ := h
  refine ⟨h1, ?_⟩
  rcases h2 with h2 | ⟨g, cap, cur, hv, hg, hh, r⟩
  · exact .inl h2
  · exact .inr ⟨g, cap, cur, hv, hg, (ho.block g (Array.getElem?_eq_some_iff.1 hh).1 (by omega)).trans hh, r⟩
theorem owns_below {W W' : World} {base : Nat} {e : TypeId} {size : Nat} {v : Value} {n : Nat} {xs : List Value} (h : W.ownsRow base e size v n xs) (hb : Below W.heap.size W W') : W'.ownsRow base e size v n xs := by
  obtain ⟨h1, h2⟩ := h
  refine ⟨h1, ?_⟩
  rcases h2 with h2 | ⟨g, cap, cur, hv, hg, hh, r⟩
  · exact .inl h2
  · exact .inr ⟨g, cap, cur, hv, hg, (hb.block g (Array.getElem?_eq_some_iff.1 hh).1).trans hh, r⟩
theorem infoR : (Tryz.prog.info? 116).map (fun i => (i.zero, i.size, i.bytes)) = some (some (.agg #[.int .i64 0, .int .i64 0]), 2, 16) := by kernel_rfl
theorem push_run (B : Nat) (w : World) (v : Value) (acc : List (Nat × Nat)) (f t : Nat) (hown : w.ownsRow B 116 2 v acc.length (flat acc)) (hB : B ≤ w.heap.size) (hlen : acc.length ≤ 16384) :
    ∃ v' w', (Builtin.append_ #[80, 80] 80 #[v, .slice (some ⟨w.heap.size, 0, none⟩) 1 1]).run Tryz.prog (w.alloc (.cells #[.int .i64 f, .int .i64 t] 116)) = .ok v' w' ∧ w'.ownsRow B 116 2 v' (acc ++ [(f, t)]).length (flat (acc ++ [(f, t)])) ∧
      (w.alloc (.cells #[.int .i64 f, .int .i64 t] 116)).grownBy w' v.ownBlock := by
  obtain ⟨i0, hi, hz0, hz1, hz2⟩ := info_parts infoR
  have hown' := owns_below hown (below_alloc w (.cells #[.int .i64 f, .int .i64 t] 116))
  obtain ⟨v', w', hrun, ho, hgr, _⟩ := run_append_own (P := Tryz.prog) (w.alloc (.cells #[.int .i64 f, .int .i64 t] 116)) B 80 80 116 i0 (.agg #[.int .i64 0, .int .i64 0]) 2 16 Tryz.underlying80 hi hz0 hz1 hz2 rfl (by decide) _ _ _ hown' ⟨w.heap.size, 0, none⟩ 1 1 [.int .i64 f, .int .i64 t] rfl
    (fun j u hj => by
      rw [Go.WideShapes.add_plain, cell_of_row _ _ _ _ _ _ (heap_alloc_new w _)]
      simpa using hj)
    (fun u hu => by rcases List.mem_cons.1 hu with rfl | hu; rfl; rw [List.mem_singleton.1 hu]; rfl) (by unfold maxLen; omega) (by omega) (by simp; omega)
  refine ⟨v', w', hrun, ?_, hgr⟩
  rw [flat_append, List.length_append]
  exact ho
/-- what is left of a set from m on -/
def fromM (S : Nat → Bool) (m : Nat) : Nat → Bool := fun n => decide (m ≤ n) && S n

/-- an append whose run is known, under a guard that holds or under none -/
theorem wpList_append_run {P : Program} {ops : Array Oper} {rest : List Oper} {o : Oper} {a : Act} {w : World} {Q : Exit → Act → World → Prop} (hw : Region.wanted o (yielded ops a.tmps) = true) (s x : Operand) (t : TypeId)
    (ho : o.op = .call { callee := .builtin .append, args := #[s, x], argTypes := #[t, t] }) (v u v' : Value) (w' : World) (hs : a.eval s = v) (hx : a.eval x = u)
    (hrun : (Builtin.append_ #[t, t] o.type #[v, u]).run P w = .ok v' w') (h : wpList P ops Q rest (a.put o.dst v') w') : wpList P ops Q (o :: rest) a w := by
  refine wpList_step fun K hK => ?_
  rw [if_pos hw]
  unfold Oper.wp execOp
  simp only [ho, resolve, invoke, builtin, Sem.run_bind, Sem.run_pure, Result.andThen_ok, List.map_toArray, List.map_cons, List.map_nil, hs, hx, hrun]
  exact hK _ _ h
set_option maxHeartbeats 2000000 in
set_option maxRecDepth 100000 in
/-- Ranges -/
theorem ranges_any (S : Nat → Bool) (w : World) :
    Calls Tryz.prog 94 #[.agg (cellsOf S)] w fun e w' => (∃ (l : List (Nat × Nat)) (v : Value), e = .returned v ∧ Runs S 0 l ∧ w'.ownsRow (w.heap.size + 2) 116 2 v l.length (flat l)) ∧ Below w.heap.size w w' := by
  have hz := zeroBits
  have HB0 : Hid (Box ((w.alloc (.cells (cellsOf S) 24)).alloc (.cells (cellsOf (fun _ => false)) 24)) w.heap.size S) := heap_alloc2_old w _ _
  have HZ0 : Hid (Box ((w.alloc (.cells (cellsOf S) 24)).alloc (.cells (cellsOf (fun _ => false)) 24)) (w.heap.size + 1) (fun _ => false)) := heap_alloc2_new w _ _
  have HW0 : Hid (Below w.heap.size w ((w.alloc (.cells (cellsOf S) 24)).alloc (.cells (cellsOf (fun _ => false)) 24))) := (below_alloc w _).alloc (by simp) _
  go_enter Tryz.func94, Tryz.ntmps94
  go_wp2
  go_loopw [4, 5] (fun v i W => ∃ (m : Nat) (acc : List (Nat × Nat)), m ≤ 16384 ∧ i = .int .i64 m ∧ acc.length ≤ m ∧ Hid (Box W w.heap.size (fromM S m)) ∧ Hid (Box W (w.heap.size + 1) (fun _ => false)) ∧ Hid (W.ownsRow (w.heap.size + 2) 116 2 v acc.length (flat acc)) ∧ Hid (∀ r, Runs S m r → Runs S 0 (acc ++ r)) ∧ Hid (Below w.heap.size w W)) (fun _ i _ => 16384 - (intOf i).toNat)
  case atStart => exact ⟨0, [], by omega, rfl, by simp, HB0.out.congr (fun n _ => by simp [fromM]), HZ0.out, ⟨rfl, .inl ⟨rfl, rfl⟩⟩, fun r h => h, HW0.out⟩
  case round =>
    obtain ⟨m, acc, hm, rfl, hacc, HB, HZ, HO, HR, HW⟩ := hrel
    have heq := eq_bits (fromM S m) (fun _ => false)
    cases hs : sameB (fromM S m) (fun _ => false)
    · rw [hs] at heq
      go_wp2_with (first | (refine wpList_load_row rfl 24 _ rfl w.heap.size rfl 24 _ (0, 0) _ HB.out Tryz.underlying24 rfl (infoBits _) ?_) | (refine wpList_load_row rfl 24 _ rfl (w.heap.size + 1) rfl 24 _ (0, 0) _ HZ.out Tryz.underlying24 rfl (infoBits _) ?_))
      obtain ⟨N, hN1, hN2, hN3⟩ : ∃ N, m ≤ N ∧ N < 16384 ∧ S N = true := by
        have h1 : ¬ ∀ n, n < top → fromM S m n = false := fun h => by
          have := (sameB_iff (fromM S m) (fun _ => false)).2 h
          rw [hs] at this; cases this
        obtain ⟨N, h2⟩ := Classical.not_forall.1 h1
        obtain ⟨h3, h4⟩ := Classical.not_imp.1 h2
        have h5 : fromM S m N = true := by cases h : fromM S m N; exact absurd h h4; rfl
        simp only [fromM, Bool.and_eq_true, decide_eq_true_eq] at h5
        exact ⟨N, h5.1, h3, h5.2⟩
      refine (first_any w.heap.size m N (fromM S m) wr HB.out hN1 hN2 (by simp [fromM, hN1, hN3])).mono ?_
      rintro e w1 ⟨⟨f, t, rfl, f1, f2, f3, f4, f5, f6⟩, hb1⟩
      have HF := hid (And.intro f4 (And.intro f5 f6))
      have HB1 := hid (HB.out.below hb1 HB.out.lt)
      have HZ1 := hid (HZ.out.below hb1 HZ.out.lt)
      have HO1 := hid (owns_below HO.out hb1)
      have HW1 := hid (HW.out.trans (hb1.mono (by have := HB.out.lt; omega)))
      have hw1 : w.heap.size + 1 < w1.heap.size := HZ1.out.lt
      clear f4 f5 f6 hb1 heq
      go_wp2_with fail
      have HBa := hid (HB1.out.below (below_alloc w1 (.cells #[.int .i64 f, .int .i64 t] 116)) HB1.out.lt)
      refine (set_any w.heap.size f t false (fromM S m) _ HBa.out f2 f3).mono ?_
      rintro e w2 ⟨rfl, hb2, ho2⟩
      have hr2 : w2.heap[w1.heap.size]? = some (.cells #[.int .i64 f, .int .i64 t] 116 (0, 0)) := by
        rw [ho2.block w1.heap.size (by simp) (by omega)]; exact heap_alloc_new w1 _
      have c0 : w2.cell? ⟨w1.heap.size, 0, none⟩ = some (.int .i64 f) := cell_of_row w2 _ 0 _ _ _ hr2
      have c1 : w2.cell? ⟨w1.heap.size, 1, none⟩ = some (.int .i64 t) := cell_of_row w2 _ 1 _ _ _ hr2
      have HB2 := hid hb2
      have HZ2 := hid ((HZ1.out.below (below_alloc w1 _) HZ1.out.lt).only ho2 (by omega))
      have HO2 := hid (owns_only (owns_below HO1.out (below_alloc w1 _)) ho2 (by omega))
      have HW2 := hid ((HW1.out.alloc (by omega) _).trans (ho2.below (Nat.le_refl _) (by simp; omega)))
      have hw2 : w1.heap.size < w2.heap.size := by have := ho2.size; simp at this; omega
      clear hb2 ho2 hr2 HBa
      obtain ⟨v', w3, hrun, ho3, hg3⟩ := push_run (w.heap.size + 2) w2 u4 acc f t HO2.out (by omega) (by omega)
      have HRun := hid hrun
      have hne : some w1.heap.size ≠ u4.ownBlock := fun e => by
        have := (World.ownsRow.lt HO1.out w1.heap.size e.symm).2
        omega
      have d1 : w3.cell? ⟨w1.heap.size, 1, none⟩ = some (.int .i64 t) := by
        rw [World.cell?_of_block (w := w2.alloc _) (hg3.block w1.heap.size (by simp; omega) hne), World.cell?_of_block (w := w2) (heap_alloc_old w2 _ hw2)]
        exact c1
      have hb3 : Below (w.heap.size + 2) (w2.alloc (.cells #[.int .i64 f, .int .i64 t] 116)) w3 := (Below.refl _ _).grown hg3 (by simp; omega) (fun k hk => (World.ownsRow.lt HO2.out k hk).1)
      have HO3 := hid ho3
      have HB3 := hid ((HB2.out.below (below_alloc w2 _) HB2.out.lt).below hb3 (by omega))
      have HZ3 := hid ((HZ2.out.below (below_alloc w2 _) HZ2.out.lt).below hb3 (by omega))
      have HW3 := hid ((HW2.out.alloc (by omega) _).trans (hb3.mono (by omega)))
      clear hrun ho3 hg3 hb3 hne
      go_wp2_with (at_builtin; refine wpList_append_run rfl _ _ 80 rfl _ _ _ _ rfl rfl HRun.out ?_)
      obtain ⟨f4, f5, f6⟩ := HF.out
      have g4 : ∀ n, m ≤ n → n < f → S n = false := fun n a b => by simpa [fromM, a] using f4 n a b
      have g5 : ∀ n, f ≤ n → n ≤ t → S n = true := fun n a b => by simpa [fromM, show m ≤ n by omega] using f5 n a b
      have g6 : t + 1 < 16384 → S (t + 1) = false := fun a => by simpa [fromM, show m ≤ t + 1 by omega] using f6 a
      refine ⟨⟨t + 1, acc ++ [(f, t)], by omega, by go_num, by simp; omega, HB3.out.congr fun n hn => ?_, HZ3.out, HO3.out, fun r hr => ?_, HW3.out⟩, by simp [intOf]; omega⟩
      · unfold put fromM
        by_cases h1 : f ≤ n ∧ n ≤ t
        · have : ¬ t + 1 ≤ n := by omega
          simp [h1, this]
        · rw [if_neg h1]
          by_cases h2 : t + 1 ≤ n
          · simp [h2, show m ≤ n by omega]
          · by_cases h3 : m ≤ n
            · simp [h2, h3, g4 n h3 (by omega)]
            · simp [h2, h3]
      · rw [List.append_assoc]
        exact HR.out _ ⟨f1, f2, f3, g4, g5, g6, hr⟩
    · rw [hs] at heq
      go_wp2_with (first | (refine wpList_load_row rfl 24 _ rfl w.heap.size rfl 24 _ (0, 0) _ HB.out Tryz.underlying24 rfl (infoBits _) ?_) | (refine wpList_load_row rfl 24 _ rfl (w.heap.size + 1) rfl 24 _ (0, 0) _ HZ.out Tryz.underlying24 rfl (infoBits _) ?_))
      have hall : ∀ n, n < top → fromM S m n = false := (sameB_iff _ _).1 hs
      have hend : Runs S 0 (acc ++ []) := HR.out [] fun n h1 h2 => by
        have := hall n h2
        simpa [fromM, h1] using this
      rw [List.append_nil] at hend
      go_ret
      exact ⟨⟨acc, _, rfl, hend, HO.out⟩, HW.out⟩

end Go.Proofs.YtbfllifgmlkndaaGreatDoor
