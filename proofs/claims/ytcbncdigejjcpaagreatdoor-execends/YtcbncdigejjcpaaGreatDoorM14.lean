/- TbRows0, TbPlace. -/
import Derived.Great.Walk
import Derived.Test.YtcbncdigejjcpaaGreatDoorM07
import Derived.Test.YtcbncdigejjcpaaGreatDoorM11
namespace Go.Proofs.YtcbncdigejjcpaaGreatDoor.Tb
open Go.RowKit

/-- operations that build values, one behind the other -/
def evalB (P : Program) : List Oper → Act → Option Act
  | [], a => some a
  | o :: r, a => match o.op with
    | .build t parts => if o.guard.isNone then (match P.built t (parts.map fun (i, x) => (i, a.eval x)).toList with
        | some cs => evalB P r (a.put o.dst (.agg cs))
        | none => none) else none
    | _ => none
theorem wpList_evalB {P : Program} {ops : Array Oper} {Q : Exit → Act → World → Prop} {w : World} {rest : List Oper} {a' : Act} (h : wpList P ops Q rest a' w) : ∀ (l : List Oper) (a : Act), evalB P l a = some a' → wpList P ops Q (l ++ rest) a w
  | [], a, e => by
    injection e with e
    subst e
    exact h
  | o :: r, a, e => by
    unfold evalB at e
    split at e
    · rename_i t parts ho
      split at e
      · rename_i hg
        split at e
        · rename_i cs hc
          exact Go.wpList_buildTo (Option.isNone_iff_eq_none.1 hg) t parts ho _ rfl cs hc (wpList_evalB h r _ e)
        · cases e
      · cases e
    · cases e
/-- a region that begins with such -/
theorem wp_region_builds {P : Program} {id : Nat} {ops : Array Oper} {Q : Exit → Act → World → Prop} {a : Act} {w : World} (n : Nat) (f : Act → Bool × Nat × List Value) (x : Bool × Nat × List Value) (hE : (evalB P (ops.toList.take n) a).map f = some x)
    (h : ∀ a', f a' = x → wpList P ops Q (ops.toList.drop n) a' w) : (Code.region id ops false).wp P Q a w := by
  refine wp_region_list ?_
  cases he : evalB P (ops.toList.take n) a with
  | none => rw [he] at hE; cases hE
  | some a' =>
    rw [he, Option.map_some] at hE
    have := wpList_evalB (h a' (Option.some.inj hE)) _ _ he
    rwa [List.take_append_drop] at this

theorem below_setRow {B : Nat} {a w : World} (h : Below B a w) {g : Nat} (hg : B ≤ g) (cs : Array Value) : Below B a (w.setRow g cs) :=
  h.trans ⟨rfl, rfl, rfl, by simp, fun k hk => setRow_other w g k cs (by omega)⟩
def zeroRows : Array Value := (flat (List.replicate 48 zeroSp)).toArray
theorem size_zero : zeroRows.size = rowCells.size := by kernel_rfl
theorem info_rows : (Tryz.prog.info? 108).map (·.size) = some rowCells.size := by kernel_rfl
theorem ones_rows : rowCells.all (·.oneCell') = true := by kernel_rfl
theorem ret_rows {fn : Func} {p : Tmp} (h : fn.results = #[.cell p 108]) {tmps : Array Value} {w : World} {b : Nat} (hp : tmps.getD p undef = .pointer (some ⟨b, 0, none⟩)) (hB : w.heap[b]? = some (.cells rowCells 108 (0, 0))) :
    (results fn tmps).run Tryz.prog w = .ok (.agg rowCells) w :=
  results_cell_row h tmps w b 108 rowCells (0, 0) _ hp hB Tryz.underlying108 rfl info_rows
def look (a : Act) : Bool × Nat × List Value := (a.defers.isEmpty, a.tmps.size, [a.eval (.tmp 0), a.eval (.tmp 48)])
set_option maxHeartbeats 4000000 in
set_option maxRecDepth 100000 in
theorem rows_any (w : World) : Calls Tryz.prog 67 #[] w fun e w' => e = .returned (.agg rowCells) ∧ Hid (Below w.heap.size w w') := by
  go_enter Tryz.func67, Tryz.ntmps67
  refine Go.wp_seq (Go.wp_region_list (Go.Great.wpList_allocTo rfl (some 0) rfl (.pointer (some ⟨w.heap.size, 0, none⟩)) (.cells zeroRows 108) (by kernel_rfl) (Go.wpList_nil ?_)))
  refine Go.wp_seq (wp_region_builds 48 look (true, 49, [.pointer (some ⟨w.heap.size, 0, none⟩), .agg rowCells]) (by kernel_rfl) fun a' ha => ?_)
  obtain ⟨hd, hs, h0, h48⟩ : a'.defers.isEmpty = true ∧ a'.tmps.size = 49 ∧ a'.eval (.tmp 0) = .pointer (some ⟨w.heap.size, 0, none⟩) ∧ a'.eval (.tmp 48) = .agg rowCells := by simpa [look] using ha
  refine Go.wpList_store_rowTo rfl 108 (.tmp 0) (.tmp 48) rfl rfl w.heap.size rowCells h0 h48 108 zeroRows (heap_alloc_new _ _) info_rows size_zero ones_rows (Go.wpList_nil ?_)
  exact Go.wp_ret (bodyPost_ret (v := .agg rowCells) (ret_rows rfl h0 (setRow_heap _ _ _ _ _ _ (heap_alloc_new _ _))) (List.isEmpty_iff.1 hd) ⟨rfl, below_setRow (below_alloc _ _) (Nat.le_refl _) _⟩)
end Go.Proofs.YtcbncdigejjcpaaGreatDoor.Tb

namespace Go.Proofs.YtcbncdigejjcpaaGreatDoor.Tb
open Go.RowKit

def pick (t : List (Nm × Nat)) (n : Nm) : Nat := match t.find? (fun x => x.1 == n) with
  | some x => x.2
  | none => 0
theorem pick_ne {a n : Nm} {k : Nat} {t : List (Nm × Nat)} (h : (n == a) = false) : pick ((a, k) :: t) n = pick t n := by
  have : (a == n) = false := by rw [beq_eq_false_iff_ne] at h ⊢; exact fun e => h e.symm
  simp [pick, this]
def tabA : List (Nm × Nat) := [([80, 73, 78, 71], 1), ([69, 67, 72, 79], 2), ([71, 69, 84], 3), ([83, 69, 84], 4), ([68, 69, 76], 5), ([69, 88, 73, 83, 84, 83], 6), ([84, 89, 80, 69], 7), ([65, 80, 80, 69, 78, 68], 8), ([83, 84, 82, 76, 69, 78], 9), ([73, 78, 67, 82, 66, 89], 10), ([77, 71, 69, 84], 11), ([77, 83, 69, 84], 12), ([69, 88, 80, 73, 82, 69], 40), ([84, 84, 76], 41), ([80, 69, 82, 83, 73, 83, 84], 42), ([68, 85, 77, 80], 43), ([82, 69, 83, 84, 79, 82, 69], 44), ([75, 69, 89, 83, 76, 79, 84], 45), ([67, 79, 85, 78, 84], 46), ([75, 69, 89, 83], 47)]
def tabB : List (Nm × Nat) := [([72, 83, 69, 84], 13), ([72, 71, 69, 84], 14), ([72, 68, 69, 76], 15), ([72, 76, 69, 78], 16), ([72, 65, 76, 76], 17), ([76, 80, 85, 83, 72], 18), ([82, 80, 85, 83, 72], 19), ([76, 80, 79, 80], 20), ([82, 80, 79, 80], 21), ([76, 76, 69, 78], 22), ([76, 73, 78, 68, 69, 88], 23), ([76, 82, 65, 78, 71, 69], 24), ([76, 84, 82, 73, 77], 25)]
def tabC : List (Nm × Nat) := [([83, 65, 68, 68], 26), ([83, 82, 69, 77], 27), ([83, 72, 65, 83], 28), ([83, 65, 76, 76], 29), ([83, 67, 65, 82, 68], 30), ([83, 85, 78, 73, 79, 78], 31), ([83, 73, 78, 84, 69, 82], 32), ([83, 68, 73, 70, 70], 33), ([80, 83, 69, 84], 34), ([80, 71, 69, 84], 35), ([80, 65, 68, 68], 36), ([80, 77, 85, 76], 37), ([80, 84, 85, 82, 78], 38), ([80, 78, 79, 82, 77], 39)]
set_option maxHeartbeats 4000000 in
set_option maxRecDepth 100000 in
theorem pickA_any (n : Nm) (w : World) : Calls Tryz.prog 147 #[txt n] w fun e w' => e = .returned (.int .i64 (pick tabA n)) ∧ w' = w := by
  obtain ⟨V, hV⟩ : ∃ V, V = pick tabA n := ⟨_, rfl⟩
  rw [← hV]
  have HV := hid hV
  clear hV
  by_cases h0 : n = [80, 73, 78, 71]
  · subst h0
    obtain rfl : V = 1 := HV.out
    clear HV
    go_enter Tryz.func147, Tryz.ntmps147
    go_wp2_with fail
    go_ret
    exact ⟨rfl, rfl⟩
  replace h0 : (n == [80, 73, 78, 71]) = false := beq_eq_false_iff_ne.2 h0
  by_cases h1 : n = [69, 67, 72, 79]
  · subst h1
    obtain rfl : V = 2 := HV.out
    clear HV
    go_enter Tryz.func147, Tryz.ntmps147
    go_wp2_with fail
    go_ret
    exact ⟨rfl, rfl⟩
  replace h1 : (n == [69, 67, 72, 79]) = false := beq_eq_false_iff_ne.2 h1
  by_cases h2 : n = [71, 69, 84]
  · subst h2
    obtain rfl : V = 3 := HV.out
    clear HV
    go_enter Tryz.func147, Tryz.ntmps147
    go_wp2_with fail
    go_ret
    exact ⟨rfl, rfl⟩
  replace h2 : (n == [71, 69, 84]) = false := beq_eq_false_iff_ne.2 h2
  by_cases h3 : n = [83, 69, 84]
  · subst h3
    obtain rfl : V = 4 := HV.out
    clear HV
    go_enter Tryz.func147, Tryz.ntmps147
    go_wp2_with fail
    go_ret
    exact ⟨rfl, rfl⟩
  replace h3 : (n == [83, 69, 84]) = false := beq_eq_false_iff_ne.2 h3
  by_cases h4 : n = [68, 69, 76]
  · subst h4
    obtain rfl : V = 5 := HV.out
    clear HV
    go_enter Tryz.func147, Tryz.ntmps147
    go_wp2_with fail
    go_ret
    exact ⟨rfl, rfl⟩
  replace h4 : (n == [68, 69, 76]) = false := beq_eq_false_iff_ne.2 h4
  by_cases h5 : n = [69, 88, 73, 83, 84, 83]
  · subst h5
    obtain rfl : V = 6 := HV.out
    clear HV
    go_enter Tryz.func147, Tryz.ntmps147
    go_wp2_with fail
    go_ret
    exact ⟨rfl, rfl⟩
  replace h5 : (n == [69, 88, 73, 83, 84, 83]) = false := beq_eq_false_iff_ne.2 h5
  by_cases h6 : n = [84, 89, 80, 69]
  · subst h6
    obtain rfl : V = 7 := HV.out
    clear HV
    go_enter Tryz.func147, Tryz.ntmps147
    go_wp2_with fail
    go_ret
    exact ⟨rfl, rfl⟩
  replace h6 : (n == [84, 89, 80, 69]) = false := beq_eq_false_iff_ne.2 h6
  by_cases h7 : n = [65, 80, 80, 69, 78, 68]
  · subst h7
    obtain rfl : V = 8 := HV.out
    clear HV
    go_enter Tryz.func147, Tryz.ntmps147
    go_wp2_with fail
    go_ret
    exact ⟨rfl, rfl⟩
  replace h7 : (n == [65, 80, 80, 69, 78, 68]) = false := beq_eq_false_iff_ne.2 h7
  by_cases h8 : n = [83, 84, 82, 76, 69, 78]
  · subst h8
    obtain rfl : V = 9 := HV.out
    clear HV
    go_enter Tryz.func147, Tryz.ntmps147
    go_wp2_with fail
    go_ret
    exact ⟨rfl, rfl⟩
  replace h8 : (n == [83, 84, 82, 76, 69, 78]) = false := beq_eq_false_iff_ne.2 h8
  by_cases h9 : n = [73, 78, 67, 82, 66, 89]
  · subst h9
    obtain rfl : V = 10 := HV.out
    clear HV
    go_enter Tryz.func147, Tryz.ntmps147
    go_wp2_with fail
    go_ret
    exact ⟨rfl, rfl⟩
  replace h9 : (n == [73, 78, 67, 82, 66, 89]) = false := beq_eq_false_iff_ne.2 h9
  by_cases h10 : n = [77, 71, 69, 84]
  · subst h10
    obtain rfl : V = 11 := HV.out
    clear HV
    go_enter Tryz.func147, Tryz.ntmps147
    go_wp2_with fail
    go_ret
    exact ⟨rfl, rfl⟩
  replace h10 : (n == [77, 71, 69, 84]) = false := beq_eq_false_iff_ne.2 h10
  by_cases h11 : n = [77, 83, 69, 84]
  · subst h11
    obtain rfl : V = 12 := HV.out
    clear HV
    go_enter Tryz.func147, Tryz.ntmps147
    go_wp2_with fail
    go_ret
    exact ⟨rfl, rfl⟩
  replace h11 : (n == [77, 83, 69, 84]) = false := beq_eq_false_iff_ne.2 h11
  by_cases h12 : n = [69, 88, 80, 73, 82, 69]
  · subst h12
    obtain rfl : V = 40 := HV.out
    clear HV
    go_enter Tryz.func147, Tryz.ntmps147
    go_wp2_with fail
    go_ret
    exact ⟨rfl, rfl⟩
  replace h12 : (n == [69, 88, 80, 73, 82, 69]) = false := beq_eq_false_iff_ne.2 h12
  by_cases h13 : n = [84, 84, 76]
  · subst h13
    obtain rfl : V = 41 := HV.out
    clear HV
    go_enter Tryz.func147, Tryz.ntmps147
    go_wp2_with fail
    go_ret
    exact ⟨rfl, rfl⟩
  replace h13 : (n == [84, 84, 76]) = false := beq_eq_false_iff_ne.2 h13
  by_cases h14 : n = [80, 69, 82, 83, 73, 83, 84]
  · subst h14
    obtain rfl : V = 42 := HV.out
    clear HV
    go_enter Tryz.func147, Tryz.ntmps147
    go_wp2_with fail
    go_ret
    exact ⟨rfl, rfl⟩
  replace h14 : (n == [80, 69, 82, 83, 73, 83, 84]) = false := beq_eq_false_iff_ne.2 h14
  by_cases h15 : n = [68, 85, 77, 80]
  · subst h15
    obtain rfl : V = 43 := HV.out
    clear HV
    go_enter Tryz.func147, Tryz.ntmps147
    go_wp2_with fail
    go_ret
    exact ⟨rfl, rfl⟩
  replace h15 : (n == [68, 85, 77, 80]) = false := beq_eq_false_iff_ne.2 h15
  by_cases h16 : n = [82, 69, 83, 84, 79, 82, 69]
  · subst h16
    obtain rfl : V = 44 := HV.out
    clear HV
    go_enter Tryz.func147, Tryz.ntmps147
    go_wp2_with fail
    go_ret
    exact ⟨rfl, rfl⟩
  replace h16 : (n == [82, 69, 83, 84, 79, 82, 69]) = false := beq_eq_false_iff_ne.2 h16
  by_cases h17 : n = [75, 69, 89, 83, 76, 79, 84]
  · subst h17
    obtain rfl : V = 45 := HV.out
    clear HV
    go_enter Tryz.func147, Tryz.ntmps147
    go_wp2_with fail
    go_ret
    exact ⟨rfl, rfl⟩
  replace h17 : (n == [75, 69, 89, 83, 76, 79, 84]) = false := beq_eq_false_iff_ne.2 h17
  by_cases h18 : n = [67, 79, 85, 78, 84]
  · subst h18
    obtain rfl : V = 46 := HV.out
    clear HV
    go_enter Tryz.func147, Tryz.ntmps147
    go_wp2_with fail
    go_ret
    exact ⟨rfl, rfl⟩
  replace h18 : (n == [67, 79, 85, 78, 84]) = false := beq_eq_false_iff_ne.2 h18
  by_cases h19 : n = [75, 69, 89, 83]
  · subst h19
    obtain rfl : V = 47 := HV.out
    clear HV
    go_enter Tryz.func147, Tryz.ntmps147
    go_wp2_with fail
    go_ret
    exact ⟨rfl, rfl⟩
  replace h19 : (n == [75, 69, 89, 83]) = false := beq_eq_false_iff_ne.2 h19
  obtain rfl : V = 0 := by
    rw [HV.out, tabA]
    rw [pick_ne h0, pick_ne h1, pick_ne h2, pick_ne h3, pick_ne h4, pick_ne h5, pick_ne h6, pick_ne h7, pick_ne h8, pick_ne h9, pick_ne h10, pick_ne h11, pick_ne h12, pick_ne h13, pick_ne h14, pick_ne h15, pick_ne h16, pick_ne h17, pick_ne h18, pick_ne h19]
    rfl
  clear HV
  go_enter Tryz.func147, Tryz.ntmps147
  go_wp2_with fail
  go_ret
  exact ⟨rfl, rfl⟩
set_option maxHeartbeats 4000000 in
set_option maxRecDepth 100000 in
theorem pickB_any (n : Nm) (w : World) : Calls Tryz.prog 148 #[txt n] w fun e w' => e = .returned (.int .i64 (pick tabB n)) ∧ w' = w := by
  obtain ⟨V, hV⟩ : ∃ V, V = pick tabB n := ⟨_, rfl⟩
  rw [← hV]
  have HV := hid hV
  clear hV
  by_cases h0 : n = [72, 83, 69, 84]
  · subst h0
    obtain rfl : V = 13 := HV.out
    clear HV
    go_enter Tryz.func148, Tryz.ntmps148
    go_wp2_with fail
    go_ret
    exact ⟨rfl, rfl⟩
  replace h0 : (n == [72, 83, 69, 84]) = false := beq_eq_false_iff_ne.2 h0
  by_cases h1 : n = [72, 71, 69, 84]
  · subst h1
    obtain rfl : V = 14 := HV.out
    clear HV
    go_enter Tryz.func148, Tryz.ntmps148
    go_wp2_with fail
    go_ret
    exact ⟨rfl, rfl⟩
  replace h1 : (n == [72, 71, 69, 84]) = false := beq_eq_false_iff_ne.2 h1
  by_cases h2 : n = [72, 68, 69, 76]
  · subst h2
    obtain rfl : V = 15 := HV.out
    clear HV
    go_enter Tryz.func148, Tryz.ntmps148
    go_wp2_with fail
    go_ret
    exact ⟨rfl, rfl⟩
  replace h2 : (n == [72, 68, 69, 76]) = false := beq_eq_false_iff_ne.2 h2
  by_cases h3 : n = [72, 76, 69, 78]
  · subst h3
    obtain rfl : V = 16 := HV.out
    clear HV
    go_enter Tryz.func148, Tryz.ntmps148
    go_wp2_with fail
    go_ret
    exact ⟨rfl, rfl⟩
  replace h3 : (n == [72, 76, 69, 78]) = false := beq_eq_false_iff_ne.2 h3
  by_cases h4 : n = [72, 65, 76, 76]
  · subst h4
    obtain rfl : V = 17 := HV.out
    clear HV
    go_enter Tryz.func148, Tryz.ntmps148
    go_wp2_with fail
    go_ret
    exact ⟨rfl, rfl⟩
  replace h4 : (n == [72, 65, 76, 76]) = false := beq_eq_false_iff_ne.2 h4
  by_cases h5 : n = [76, 80, 85, 83, 72]
  · subst h5
    obtain rfl : V = 18 := HV.out
    clear HV
    go_enter Tryz.func148, Tryz.ntmps148
    go_wp2_with fail
    go_ret
    exact ⟨rfl, rfl⟩
  replace h5 : (n == [76, 80, 85, 83, 72]) = false := beq_eq_false_iff_ne.2 h5
  by_cases h6 : n = [82, 80, 85, 83, 72]
  · subst h6
    obtain rfl : V = 19 := HV.out
    clear HV
    go_enter Tryz.func148, Tryz.ntmps148
    go_wp2_with fail
    go_ret
    exact ⟨rfl, rfl⟩
  replace h6 : (n == [82, 80, 85, 83, 72]) = false := beq_eq_false_iff_ne.2 h6
  by_cases h7 : n = [76, 80, 79, 80]
  · subst h7
    obtain rfl : V = 20 := HV.out
    clear HV
    go_enter Tryz.func148, Tryz.ntmps148
    go_wp2_with fail
    go_ret
    exact ⟨rfl, rfl⟩
  replace h7 : (n == [76, 80, 79, 80]) = false := beq_eq_false_iff_ne.2 h7
  by_cases h8 : n = [82, 80, 79, 80]
  · subst h8
    obtain rfl : V = 21 := HV.out
    clear HV
    go_enter Tryz.func148, Tryz.ntmps148
    go_wp2_with fail
    go_ret
    exact ⟨rfl, rfl⟩
  replace h8 : (n == [82, 80, 79, 80]) = false := beq_eq_false_iff_ne.2 h8
  by_cases h9 : n = [76, 76, 69, 78]
  · subst h9
    obtain rfl : V = 22 := HV.out
    clear HV
    go_enter Tryz.func148, Tryz.ntmps148
    go_wp2_with fail
    go_ret
    exact ⟨rfl, rfl⟩
  replace h9 : (n == [76, 76, 69, 78]) = false := beq_eq_false_iff_ne.2 h9
  by_cases h10 : n = [76, 73, 78, 68, 69, 88]
  · subst h10
    obtain rfl : V = 23 := HV.out
    clear HV
    go_enter Tryz.func148, Tryz.ntmps148
    go_wp2_with fail
    go_ret
    exact ⟨rfl, rfl⟩
  replace h10 : (n == [76, 73, 78, 68, 69, 88]) = false := beq_eq_false_iff_ne.2 h10
  by_cases h11 : n = [76, 82, 65, 78, 71, 69]
  · subst h11
    obtain rfl : V = 24 := HV.out
    clear HV
    go_enter Tryz.func148, Tryz.ntmps148
    go_wp2_with fail
    go_ret
    exact ⟨rfl, rfl⟩
  replace h11 : (n == [76, 82, 65, 78, 71, 69]) = false := beq_eq_false_iff_ne.2 h11
  by_cases h12 : n = [76, 84, 82, 73, 77]
  · subst h12
    obtain rfl : V = 25 := HV.out
    clear HV
    go_enter Tryz.func148, Tryz.ntmps148
    go_wp2_with fail
    go_ret
    exact ⟨rfl, rfl⟩
  replace h12 : (n == [76, 84, 82, 73, 77]) = false := beq_eq_false_iff_ne.2 h12
  obtain rfl : V = 0 := by
    rw [HV.out, tabB]
    rw [pick_ne h0, pick_ne h1, pick_ne h2, pick_ne h3, pick_ne h4, pick_ne h5, pick_ne h6, pick_ne h7, pick_ne h8, pick_ne h9, pick_ne h10, pick_ne h11, pick_ne h12]
    rfl
  clear HV
  go_enter Tryz.func148, Tryz.ntmps148
  go_wp2_with fail
  go_ret
  exact ⟨rfl, rfl⟩
set_option maxHeartbeats 4000000 in
set_option maxRecDepth 100000 in
theorem pickC_any (n : Nm) (w : World) : Calls Tryz.prog 149 #[txt n] w fun e w' => e = .returned (.int .i64 (pick tabC n)) ∧ w' = w := by
  obtain ⟨V, hV⟩ : ∃ V, V = pick tabC n := ⟨_, rfl⟩
  rw [← hV]
  have HV := hid hV
  clear hV
  by_cases h0 : n = [83, 65, 68, 68]
  · subst h0
    obtain rfl : V = 26 := HV.out
    clear HV
    go_enter Tryz.func149, Tryz.ntmps149
    go_wp2_with fail
    go_ret
    exact ⟨rfl, rfl⟩
  replace h0 : (n == [83, 65, 68, 68]) = false := beq_eq_false_iff_ne.2 h0
  by_cases h1 : n = [83, 82, 69, 77]
  · subst h1
    obtain rfl : V = 27 := HV.out
    clear HV
    go_enter Tryz.func149, Tryz.ntmps149
    go_wp2_with fail
    go_ret
    exact ⟨rfl, rfl⟩
  replace h1 : (n == [83, 82, 69, 77]) = false := beq_eq_false_iff_ne.2 h1
  by_cases h2 : n = [83, 72, 65, 83]
  · subst h2
    obtain rfl : V = 28 := HV.out
    clear HV
    go_enter Tryz.func149, Tryz.ntmps149
    go_wp2_with fail
    go_ret
    exact ⟨rfl, rfl⟩
  replace h2 : (n == [83, 72, 65, 83]) = false := beq_eq_false_iff_ne.2 h2
  by_cases h3 : n = [83, 65, 76, 76]
  · subst h3
    obtain rfl : V = 29 := HV.out
    clear HV
    go_enter Tryz.func149, Tryz.ntmps149
    go_wp2_with fail
    go_ret
    exact ⟨rfl, rfl⟩
  replace h3 : (n == [83, 65, 76, 76]) = false := beq_eq_false_iff_ne.2 h3
  by_cases h4 : n = [83, 67, 65, 82, 68]
  · subst h4
    obtain rfl : V = 30 := HV.out
    clear HV
    go_enter Tryz.func149, Tryz.ntmps149
    go_wp2_with fail
    go_ret
    exact ⟨rfl, rfl⟩
  replace h4 : (n == [83, 67, 65, 82, 68]) = false := beq_eq_false_iff_ne.2 h4
  by_cases h5 : n = [83, 85, 78, 73, 79, 78]
  · subst h5
    obtain rfl : V = 31 := HV.out
    clear HV
    go_enter Tryz.func149, Tryz.ntmps149
    go_wp2_with fail
    go_ret
    exact ⟨rfl, rfl⟩
  replace h5 : (n == [83, 85, 78, 73, 79, 78]) = false := beq_eq_false_iff_ne.2 h5
  by_cases h6 : n = [83, 73, 78, 84, 69, 82]
  · subst h6
    obtain rfl : V = 32 := HV.out
    clear HV
    go_enter Tryz.func149, Tryz.ntmps149
    go_wp2_with fail
    go_ret
    exact ⟨rfl, rfl⟩
  replace h6 : (n == [83, 73, 78, 84, 69, 82]) = false := beq_eq_false_iff_ne.2 h6
  by_cases h7 : n = [83, 68, 73, 70, 70]
  · subst h7
    obtain rfl : V = 33 := HV.out
    clear HV
    go_enter Tryz.func149, Tryz.ntmps149
    go_wp2_with fail
    go_ret
    exact ⟨rfl, rfl⟩
  replace h7 : (n == [83, 68, 73, 70, 70]) = false := beq_eq_false_iff_ne.2 h7
  by_cases h8 : n = [80, 83, 69, 84]
  · subst h8
    obtain rfl : V = 34 := HV.out
    clear HV
    go_enter Tryz.func149, Tryz.ntmps149
    go_wp2_with fail
    go_ret
    exact ⟨rfl, rfl⟩
  replace h8 : (n == [80, 83, 69, 84]) = false := beq_eq_false_iff_ne.2 h8
  by_cases h9 : n = [80, 71, 69, 84]
  · subst h9
    obtain rfl : V = 35 := HV.out
    clear HV
    go_enter Tryz.func149, Tryz.ntmps149
    go_wp2_with fail
    go_ret
    exact ⟨rfl, rfl⟩
  replace h9 : (n == [80, 71, 69, 84]) = false := beq_eq_false_iff_ne.2 h9
  by_cases h10 : n = [80, 65, 68, 68]
  · subst h10
    obtain rfl : V = 36 := HV.out
    clear HV
    go_enter Tryz.func149, Tryz.ntmps149
    go_wp2_with fail
    go_ret
    exact ⟨rfl, rfl⟩
  replace h10 : (n == [80, 65, 68, 68]) = false := beq_eq_false_iff_ne.2 h10
  by_cases h11 : n = [80, 77, 85, 76]
  · subst h11
    obtain rfl : V = 37 := HV.out
    clear HV
    go_enter Tryz.func149, Tryz.ntmps149
    go_wp2_with fail
    go_ret
    exact ⟨rfl, rfl⟩
  replace h11 : (n == [80, 77, 85, 76]) = false := beq_eq_false_iff_ne.2 h11
  by_cases h12 : n = [80, 84, 85, 82, 78]
  · subst h12
    obtain rfl : V = 38 := HV.out
    clear HV
    go_enter Tryz.func149, Tryz.ntmps149
    go_wp2_with fail
    go_ret
    exact ⟨rfl, rfl⟩
  replace h12 : (n == [80, 84, 85, 82, 78]) = false := beq_eq_false_iff_ne.2 h12
  by_cases h13 : n = [80, 78, 79, 82, 77]
  · subst h13
    obtain rfl : V = 39 := HV.out
    clear HV
    go_enter Tryz.func149, Tryz.ntmps149
    go_wp2_with fail
    go_ret
    exact ⟨rfl, rfl⟩
  replace h13 : (n == [80, 78, 79, 82, 77]) = false := beq_eq_false_iff_ne.2 h13
  obtain rfl : V = 0 := by
    rw [HV.out, tabC]
    rw [pick_ne h0, pick_ne h1, pick_ne h2, pick_ne h3, pick_ne h4, pick_ne h5, pick_ne h6, pick_ne h7, pick_ne h8, pick_ne h9, pick_ne h10, pick_ne h11, pick_ne h12, pick_ne h13]
    rfl
  clear HV
  go_enter Tryz.func149, Tryz.ntmps149
  go_wp2_with fail
  go_ret
  exact ⟨rfl, rfl⟩
theorem place_parts (n : Nm) : place n = if pick tabA n ≠ 0 then pick tabA n else if pick tabB n ≠ 0 then pick tabB n else pick tabC n := by
  by_cases h0 : n = [80, 73, 78, 71]
  · subst h0; decide
  replace h0 : (n == [80, 73, 78, 71]) = false := beq_eq_false_iff_ne.2 h0
  by_cases h1 : n = [69, 67, 72, 79]
  · subst h1; decide
  replace h1 : (n == [69, 67, 72, 79]) = false := beq_eq_false_iff_ne.2 h1
  by_cases h2 : n = [71, 69, 84]
  · subst h2; decide
  replace h2 : (n == [71, 69, 84]) = false := beq_eq_false_iff_ne.2 h2
  by_cases h3 : n = [83, 69, 84]
  · subst h3; decide
  replace h3 : (n == [83, 69, 84]) = false := beq_eq_false_iff_ne.2 h3
  by_cases h4 : n = [68, 69, 76]
  · subst h4; decide
  replace h4 : (n == [68, 69, 76]) = false := beq_eq_false_iff_ne.2 h4
  by_cases h5 : n = [69, 88, 73, 83, 84, 83]
  · subst h5; decide
  replace h5 : (n == [69, 88, 73, 83, 84, 83]) = false := beq_eq_false_iff_ne.2 h5
  by_cases h6 : n = [84, 89, 80, 69]
  · subst h6; decide
  replace h6 : (n == [84, 89, 80, 69]) = false := beq_eq_false_iff_ne.2 h6
  by_cases h7 : n = [65, 80, 80, 69, 78, 68]
  · subst h7; decide
  replace h7 : (n == [65, 80, 80, 69, 78, 68]) = false := beq_eq_false_iff_ne.2 h7
  by_cases h8 : n = [83, 84, 82, 76, 69, 78]
  · subst h8; decide
  replace h8 : (n == [83, 84, 82, 76, 69, 78]) = false := beq_eq_false_iff_ne.2 h8
  by_cases h9 : n = [73, 78, 67, 82, 66, 89]
  · subst h9; decide
  replace h9 : (n == [73, 78, 67, 82, 66, 89]) = false := beq_eq_false_iff_ne.2 h9
  by_cases h10 : n = [77, 71, 69, 84]
  · subst h10; decide
  replace h10 : (n == [77, 71, 69, 84]) = false := beq_eq_false_iff_ne.2 h10
  by_cases h11 : n = [77, 83, 69, 84]
  · subst h11; decide
  replace h11 : (n == [77, 83, 69, 84]) = false := beq_eq_false_iff_ne.2 h11
  by_cases h12 : n = [69, 88, 80, 73, 82, 69]
  · subst h12; decide
  replace h12 : (n == [69, 88, 80, 73, 82, 69]) = false := beq_eq_false_iff_ne.2 h12
  by_cases h13 : n = [84, 84, 76]
  · subst h13; decide
  replace h13 : (n == [84, 84, 76]) = false := beq_eq_false_iff_ne.2 h13
  by_cases h14 : n = [80, 69, 82, 83, 73, 83, 84]
  · subst h14; decide
  replace h14 : (n == [80, 69, 82, 83, 73, 83, 84]) = false := beq_eq_false_iff_ne.2 h14
  by_cases h15 : n = [68, 85, 77, 80]
  · subst h15; decide
  replace h15 : (n == [68, 85, 77, 80]) = false := beq_eq_false_iff_ne.2 h15
  by_cases h16 : n = [82, 69, 83, 84, 79, 82, 69]
  · subst h16; decide
  replace h16 : (n == [82, 69, 83, 84, 79, 82, 69]) = false := beq_eq_false_iff_ne.2 h16
  by_cases h17 : n = [75, 69, 89, 83, 76, 79, 84]
  · subst h17; decide
  replace h17 : (n == [75, 69, 89, 83, 76, 79, 84]) = false := beq_eq_false_iff_ne.2 h17
  by_cases h18 : n = [67, 79, 85, 78, 84]
  · subst h18; decide
  replace h18 : (n == [67, 79, 85, 78, 84]) = false := beq_eq_false_iff_ne.2 h18
  by_cases h19 : n = [75, 69, 89, 83]
  · subst h19; decide
  replace h19 : (n == [75, 69, 89, 83]) = false := beq_eq_false_iff_ne.2 h19
  by_cases h20 : n = [72, 83, 69, 84]
  · subst h20; decide
  replace h20 : (n == [72, 83, 69, 84]) = false := beq_eq_false_iff_ne.2 h20
  by_cases h21 : n = [72, 71, 69, 84]
  · subst h21; decide
  replace h21 : (n == [72, 71, 69, 84]) = false := beq_eq_false_iff_ne.2 h21
  by_cases h22 : n = [72, 68, 69, 76]
  · subst h22; decide
  replace h22 : (n == [72, 68, 69, 76]) = false := beq_eq_false_iff_ne.2 h22
  by_cases h23 : n = [72, 76, 69, 78]
  · subst h23; decide
  replace h23 : (n == [72, 76, 69, 78]) = false := beq_eq_false_iff_ne.2 h23
  by_cases h24 : n = [72, 65, 76, 76]
  · subst h24; decide
  replace h24 : (n == [72, 65, 76, 76]) = false := beq_eq_false_iff_ne.2 h24
  by_cases h25 : n = [76, 80, 85, 83, 72]
  · subst h25; decide
  replace h25 : (n == [76, 80, 85, 83, 72]) = false := beq_eq_false_iff_ne.2 h25
  by_cases h26 : n = [82, 80, 85, 83, 72]
  · subst h26; decide
  replace h26 : (n == [82, 80, 85, 83, 72]) = false := beq_eq_false_iff_ne.2 h26
  by_cases h27 : n = [76, 80, 79, 80]
  · subst h27; decide
  replace h27 : (n == [76, 80, 79, 80]) = false := beq_eq_false_iff_ne.2 h27
  by_cases h28 : n = [82, 80, 79, 80]
  · subst h28; decide
  replace h28 : (n == [82, 80, 79, 80]) = false := beq_eq_false_iff_ne.2 h28
  by_cases h29 : n = [76, 76, 69, 78]
  · subst h29; decide
  replace h29 : (n == [76, 76, 69, 78]) = false := beq_eq_false_iff_ne.2 h29
  by_cases h30 : n = [76, 73, 78, 68, 69, 88]
  · subst h30; decide
  replace h30 : (n == [76, 73, 78, 68, 69, 88]) = false := beq_eq_false_iff_ne.2 h30
  by_cases h31 : n = [76, 82, 65, 78, 71, 69]
  · subst h31; decide
  replace h31 : (n == [76, 82, 65, 78, 71, 69]) = false := beq_eq_false_iff_ne.2 h31
  by_cases h32 : n = [76, 84, 82, 73, 77]
  · subst h32; decide
  replace h32 : (n == [76, 84, 82, 73, 77]) = false := beq_eq_false_iff_ne.2 h32
  by_cases h33 : n = [83, 65, 68, 68]
  · subst h33; decide
  replace h33 : (n == [83, 65, 68, 68]) = false := beq_eq_false_iff_ne.2 h33
  by_cases h34 : n = [83, 82, 69, 77]
  · subst h34; decide
  replace h34 : (n == [83, 82, 69, 77]) = false := beq_eq_false_iff_ne.2 h34
  by_cases h35 : n = [83, 72, 65, 83]
  · subst h35; decide
  replace h35 : (n == [83, 72, 65, 83]) = false := beq_eq_false_iff_ne.2 h35
  by_cases h36 : n = [83, 65, 76, 76]
  · subst h36; decide
  replace h36 : (n == [83, 65, 76, 76]) = false := beq_eq_false_iff_ne.2 h36
  by_cases h37 : n = [83, 67, 65, 82, 68]
  · subst h37; decide
  replace h37 : (n == [83, 67, 65, 82, 68]) = false := beq_eq_false_iff_ne.2 h37
  by_cases h38 : n = [83, 85, 78, 73, 79, 78]
  · subst h38; decide
  replace h38 : (n == [83, 85, 78, 73, 79, 78]) = false := beq_eq_false_iff_ne.2 h38
  by_cases h39 : n = [83, 73, 78, 84, 69, 82]
  · subst h39; decide
  replace h39 : (n == [83, 73, 78, 84, 69, 82]) = false := beq_eq_false_iff_ne.2 h39
  by_cases h40 : n = [83, 68, 73, 70, 70]
  · subst h40; decide
  replace h40 : (n == [83, 68, 73, 70, 70]) = false := beq_eq_false_iff_ne.2 h40
  by_cases h41 : n = [80, 83, 69, 84]
  · subst h41; decide
  replace h41 : (n == [80, 83, 69, 84]) = false := beq_eq_false_iff_ne.2 h41
  by_cases h42 : n = [80, 71, 69, 84]
  · subst h42; decide
  replace h42 : (n == [80, 71, 69, 84]) = false := beq_eq_false_iff_ne.2 h42
  by_cases h43 : n = [80, 65, 68, 68]
  · subst h43; decide
  replace h43 : (n == [80, 65, 68, 68]) = false := beq_eq_false_iff_ne.2 h43
  by_cases h44 : n = [80, 77, 85, 76]
  · subst h44; decide
  replace h44 : (n == [80, 77, 85, 76]) = false := beq_eq_false_iff_ne.2 h44
  by_cases h45 : n = [80, 84, 85, 82, 78]
  · subst h45; decide
  replace h45 : (n == [80, 84, 85, 82, 78]) = false := beq_eq_false_iff_ne.2 h45
  by_cases h46 : n = [80, 78, 79, 82, 77]
  · subst h46; decide
  replace h46 : (n == [80, 78, 79, 82, 77]) = false := beq_eq_false_iff_ne.2 h46
  rw [tabA, tabB, tabC]
  rw [pick_ne h0, pick_ne h1, pick_ne h2, pick_ne h3, pick_ne h4, pick_ne h5, pick_ne h6, pick_ne h7, pick_ne h8, pick_ne h9, pick_ne h10, pick_ne h11, pick_ne h12, pick_ne h13, pick_ne h14, pick_ne h15, pick_ne h16, pick_ne h17, pick_ne h18, pick_ne h19, pick_ne h20, pick_ne h21, pick_ne h22, pick_ne h23, pick_ne h24, pick_ne h25, pick_ne h26, pick_ne h27, pick_ne h28, pick_ne h29, pick_ne h30, pick_ne h31, pick_ne h32, pick_ne h33, pick_ne h34, pick_ne h35, pick_ne h36, pick_ne h37, pick_ne h38, pick_ne h39, pick_ne h40, pick_ne h41, pick_ne h42, pick_ne h43, pick_ne h44, pick_ne h45, pick_ne h46]
  have hA : allL.all (fun s => !(n == s.nm)) = true := by simp only [allL, List.all_cons, List.all_nil, h0, h1, h2, h3, h4, h5, h6, h7, h8, h9, h10, h11, h12, h13, h14, h15, h16, h17, h18, h19, h20, h21, h22, h23, h24, h25, h26, h27, h28, h29, h30, h31, h32, h33, h34, h35, h36, h37, h38, h39, h40, h41, h42, h43, h44, h45, h46, Bool.not_false, Bool.and_true]
  have hN : allL.findIdx? (fun s => s.nm == n) = none := by
    rw [List.findIdx?_eq_none_iff]
    intro s hs
    have := List.all_eq_true.1 hA s hs
    rw [Bool.not_eq_true', beq_eq_false_iff_ne] at this
    exact beq_eq_false_iff_ne.2 fun e => this e.symm
  unfold place
  rw [hN]
  rfl
set_option maxHeartbeats 4000000 in
set_option maxRecDepth 100000 in
/-- place -/
theorem place_any (n : Nm) (w : World) : Calls Tryz.prog 65 #[txt n] w fun e w' => e = .returned (.int .i64 (place n)) ∧ w' = w := by
  obtain ⟨V, hV⟩ : ∃ V, V = place n := ⟨_, rfl⟩
  rw [← hV]
  have HV := hid (hV.trans (place_parts n))
  clear hV
  have H1 := hid (pickA_any n)
  have H2 := hid (pickB_any n)
  have H3 := hid (pickC_any n)
  generalize pick tabA n = x at *
  generalize pick tabB n = y at *
  generalize pick tabC n = z at *
  go_enter Tryz.func65, Tryz.ntmps65
  by_cases hx : x = 0
  · subst hx
    by_cases hy : y = 0
    · subst hy
      obtain rfl : V = z := by rw [HV.out]; simp
      go_wp2_with first | (go_at_call 147; refine (H1.out _).mono ?_; rintro _ _ ⟨rfl, rfl⟩) | (go_at_call 148; refine (H2.out _).mono ?_; rintro _ _ ⟨rfl, rfl⟩) | (go_at_call 149; refine (H3.out _).mono ?_; rintro _ _ ⟨rfl, rfl⟩)
      go_ret
      exact ⟨rfl, rfl⟩
    · obtain rfl : V = y := by rw [HV.out]; simp [hy]
      have hyz : ¬ ((V : Int) = 0) := by omega
      clear hy
      go_wp2_with first | (go_at_call 147; refine (H1.out _).mono ?_; rintro _ _ ⟨rfl, rfl⟩) | (go_at_call 148; refine (H2.out _).mono ?_; rintro _ _ ⟨rfl, rfl⟩)
      go_ret
      exact ⟨rfl, rfl⟩
  · obtain rfl : V = x := by rw [HV.out]; simp [hx]
    have hxz : ¬ ((V : Int) = 0) := by omega
    clear hx
    go_wp2_with (go_at_call 147; refine (H1.out _).mono ?_; rintro _ _ ⟨rfl, rfl⟩)
    go_ret
    exact ⟨rfl, rfl⟩

end Go.Proofs.YtcbncdigejjcpaaGreatDoor.Tb
