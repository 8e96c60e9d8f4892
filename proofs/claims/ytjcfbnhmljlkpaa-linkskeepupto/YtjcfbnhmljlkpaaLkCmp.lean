/- Pairs of ends are compared. -/
import Derived.Test.YtjcfbnhmljlkpaaLkColl
import Derived.Sort.Grow
namespace Go.Proofs.Ytjcfbnhmljlkpaa
open Go.RowKit Go.Sort

theorem gcollect_any (bm m : Nat) (D : DataW Value) (w : World) (hm : w.heap[bm]? = some (.cells #[.map (some m)] 51 (0, 0))) (hom : OM w m (Maps.size D) D) (hN : Maps.size D ≤ 100000) :
    Calls Try.prog 35 #[keysF bm] w (ColP2 D w) := by
  have H := hid (gappend_any bm m D w hm hom hN)
  clear hm hom hN
  go_enter Try.func35, Try.ntmps35
  go_wp2_with fail
  refine H.out.mono ?_; rintro e w1 ⟨q, d, ss, rfl, hh⟩
  go_wp2_with fail
  go_ret
  exact ⟨q, d, ss, rfl, hh⟩
theorem isNaN_any (x : Int) (w : World) : Calls Try.prog 43 #[.int .i64 x] w fun e w' => e = .returned (.bool false) ∧ w' = w := by
  go_enter Try.func43, Try.ntmps43
  go_wp2_with fail
  go_ret
  exact ⟨rfl, rfl⟩
def cmpV (x y : Int) : Int := if x < y then -1 else if y < x then 1 else 0
set_option maxRecDepth 100000 in
theorem compare_any (x y : Int) (w : World) : Calls Try.prog 38 #[.int .i64 x, .int .i64 y] w fun e w' => e = .returned (.int .i64 (cmpV x y)) ∧ w' = w := by
  have H := hid (fun z : Int => isNaN_any z)
  go_enter Try.func38, Try.ntmps38
  go_wp2_with fail
  refine (H.out x w).mono ?_; rintro e w1 ⟨rfl, rfl⟩
  go_wp2_with fail
  refine (H.out y w1).mono ?_; rintro e w2 ⟨rfl, rfl⟩
  by_cases h1 : x < y
  · have hv := hid (show cmpV x y = -1 by unfold cmpV; rw [if_pos h1])
    go_wp2_with fail
    go_ret
    exact ⟨by rw [hv.out]; rfl, rfl⟩
  · by_cases h2 : y < x
    · have hv := hid (show cmpV x y = 1 by unfold cmpV; rw [if_neg h1, if_pos h2])
      go_wp2_with fail
      go_ret
      exact ⟨by rw [hv.out]; rfl, rfl⟩
    · have hv := hid (show cmpV x y = 0 by unfold cmpV; rw [if_neg h1, if_neg h2])
      go_wp2_with fail
      go_ret
      exact ⟨by rw [hv.out]; rfl, rfl⟩
theorem cmpV_zero {x y : Int} : cmpV x y = 0 ↔ x = y := by
  unfold cmpV
  split
  · constructor <;> intro h <;> omega
  · split
    · constructor <;> intro h <;> omega
    · constructor <;> intro h <;> omega
theorem cmpV_lt {x y : Int} : cmpV x y < 0 ↔ x < y := by
  unfold cmpV
  split
  · constructor <;> intro h <;> omega
  · split
    · constructor <;> intro h <;> omega
    · constructor <;> intro h <;> omega
/-- by from, then to -/
def cmpP (x y : Int × Int) : Int := if cmpV x.1 y.1 = 0 then cmpV x.2 y.2 else cmpV x.1 y.1
set_option maxHeartbeats 1000000 in
set_option maxRecDepth 100000 in
theorem slcompare_any (a b : Nat) (x y : Int × Int) (w : World) (ha : w.heap[a]? = some (.cells (prC x) 41 (0, 0))) (hb : w.heap[b]? = some (.cells (prC y) 41 (0, 0))) :
    Calls Try.prog 31 #[.slice (some ⟨a, 0, none⟩) 2 2, .slice (some ⟨b, 0, none⟩) 2 2] w fun e w' => e = .returned (.int .i64 (cmpP x y)) ∧ w' = w := by
  obtain ⟨x1, x2⟩ := x
  obtain ⟨y1, y2⟩ := y
  have a0 : w.cell? ⟨a, 0, none⟩ = some (.int .i64 x1) := cell_of_row w a 0 _ _ _ ha
  have a1 : w.cell? ⟨a, 1, none⟩ = some (.int .i64 x2) := cell_of_row w a 1 _ _ _ ha
  have b0 : w.cell? ⟨b, 0, none⟩ = some (.int .i64 y1) := cell_of_row w b 0 _ _ _ hb
  have b1 : w.cell? ⟨b, 1, none⟩ = some (.int .i64 y2) := cell_of_row w b 1 _ _ _ hb
  have H := hid (fun p q : Int => compare_any p q)
  clear ha hb
  go_enter Try.func31, Try.ntmps31
  go_wp2_with fail
  go_loopw [11] (fun v11 W => ∃ i : Nat, v11 = .int .i64 (i : Int) ∧ i ≤ 2 ∧ (1 ≤ i → x1 = y1) ∧ (2 ≤ i → x2 = y2) ∧ W = w) (fun v11 _ => 2 - (intOf v11).toNat)
  case atStart => exact ⟨0, rfl, by omega, by omega, by omega, rfl⟩
  case round =>
    obtain ⟨i, rfl, hi, h1, h2, rfl⟩ := hrel
    have hc : i = 0 ∨ i = 1 ∨ i = 2 := by omega
    rcases hc with rfl | rfl | rfl
    · go_wp2_with fail
      refine (H.out x1 y1 _).mono ?_; rintro e w1 ⟨rfl, rfl⟩
      by_cases hz : cmpV x1 y1 = 0
      · have hz2 : (cmpV x1 y1 != 0) = false := by simp [hz]
        have he := cmpV_zero.1 hz
        rw [hz]
        go_wp2_with fail
        go_roundw
        case rel => exact ⟨1, by go_num, by omega, fun _ => he, by omega, by first | rfl | trivial⟩
        case measure => simp [intOf]
      · have hp : cmpP (x1, x2) (y1, y2) = cmpV x1 y1 := if_neg hz
        generalize cmpV x1 y1 = c at *
        go_wp2_with fail
        go_ret
        exact ⟨by rw [hp]; rfl, rfl⟩
    · have he := h1 (by omega)
      go_wp2_with fail
      refine (H.out x2 y2 _).mono ?_; rintro e w1 ⟨rfl, rfl⟩
      have hp : cmpP (x1, x2) (y1, y2) = cmpV x2 y2 := if_pos (cmpV_zero.2 he)
      by_cases hz : cmpV x2 y2 = 0
      · have he2 := cmpV_zero.1 hz
        rw [hz]
        go_wp2_with fail
        go_roundw
        case rel => exact ⟨2, by go_num, by omega, fun _ => he, fun _ => he2, by first | rfl | trivial⟩
        case measure => simp [intOf]
      · generalize cmpV x2 y2 = c at *
        go_wp2_with fail
        go_ret
        exact ⟨by rw [hp]; rfl, rfl⟩
    · have he := h1 (by omega)
      have he2 := h2 (by omega)
      have hp : cmpP (x1, x2) (y1, y2) = 0 := by
        unfold cmpP
        rw [if_pos (cmpV_zero.2 he)]
        exact cmpV_zero.2 he2
      go_wp2_with fail
      go_ret
      exact ⟨by rw [hp]; rfl, rfl⟩
set_option maxHeartbeats 1000000 in
set_option maxRecDepth 100000 in
theorem pcmp_any (x y : Int × Int) (W : World) : Calls Try.prog 30 #[.agg #[.int .i64 x.1, .int .i64 x.2], .agg #[.int .i64 y.1, .int .i64 y.2]] W fun e w' => e = .returned (.int .i64 (cmpP x y)) ∧ ∃ q os', w' = grow (W.drewN q) os' := by
  have e1 : (W.alloc (.cells (prC x) 41)).heap.size = W.heap.size + 1 := World.size_alloc _ _
  have ha : ((W.alloc (.cells (prC x) 41)).alloc (.cells (prC y) 41)).drew.heap[W.heap.size]? = some (.cells (prC x) 41 (0, 0)) := ((below_alloc _ _).block _ (by omega)).trans (heap_alloc_new W _)
  have hb : ((W.alloc (.cells (prC x) 41)).alloc (.cells (prC y) 41)).drew.heap[W.heap.size + 1]? = some (.cells (prC y) 41 (0, 0)) := by
    have := heap_alloc_new (W.alloc (.cells (prC x) 41)) (.cells (prC y) 41)
    rwa [e1] at this
  have H := hid (slcompare_any W.heap.size (W.heap.size + 1) x y _ ha hb)
  have HG : Hid (∃ q os', ((W.alloc (.cells (prC x) 41)).alloc (.cells (prC y) 41)).drew = grow (W.drewN q) os') := ⟨1, _, by rw [alloc_eq_grow, alloc_eq_grow, grow_grow]; rfl⟩
  clear ha hb
  obtain ⟨x1, x2⟩ := x
  obtain ⟨y1, y2⟩ := y
  generalize cmpP (x1, x2) (y1, y2) = c at *
  go_enter Try.func30, Try.ntmps30
  go_upto_region 1 with fail
  obtain ⟨V, hV⟩ : ∃ V, (W.alloc (.cells (prC (x1, x2)) 41)).alloc (.cells (prC (y1, y2)) 41) = V := ⟨_, rfl⟩
  rw [hV] at H HG
  rw [show ((W.alloc (.cells #[.int .i64 x1, .int .i64 x2] 41)).alloc (.cells #[.int .i64 y1, .int .i64 y2] 41)) = V from hV]
  clear hV
  refine wp_region_noPanic ?_
  refine wp_region_held_drew (S := fun U => U = V.drew) (by kernel_rfl) rfl (fun hHeld => ?_)
  refine wpAnyH_take (i := 0) (oi := { dst := some 5, op := Op.slice 41 (Operand.tmp 2) none none none, type := 40, pos := "links.go:57", after := #[], guard := none }) (v := .slice (some ⟨W.heap.size, 0, none⟩) 2 2) rfl (by kernel_rfl) (by kernel_rfl) (by kernel_rfl) (fun _ _ _ h => h) (Or.inl ⟨by rfl, fun wS hSw => ?_⟩) (by assumption) ?_
  · clear hHeld
    clear hSw
    go_simp
  try simp only [Act.put, List.setIfInBounds_toArray, List.set_cons_zero, List.set_cons_succ]
  refine wpAnyH_take (i := 1) (oi := { dst := some 6, op := Op.slice 41 (Operand.tmp 3) none none none, type := 40, pos := "links.go:57", after := #[], guard := none }) (v := .slice (some ⟨W.heap.size + 1, 0, none⟩) 2 2) rfl (by kernel_rfl) (by kernel_rfl) (by kernel_rfl) (fun _ _ _ h => h) (Or.inl ⟨by rfl, fun wS hSw => ?_⟩) (by assumption) ?_
  · clear hHeld
    clear hSw
    go_simp
  try simp only [Act.put, List.setIfInBounds_toArray, List.set_cons_zero, List.set_cons_succ]
  refine wpAnyH_ready (rs := [2]) (by kernel_rfl) (by simp) ?_
  refine AllReadyH.cons (o := { dst := some 7, op := Op.call { callee := Callee.value (Operand.func 31), args := #[Operand.tmp 5, Operand.tmp 6], argTypes := #[40, 40] }, type := 3, pos := "links.go:57", after := #[{ on := 0, ground := Ground.data }, { on := 1, ground := Ground.data }], guard := none }) rfl (fun K hK => ?_) AllReadyH.nil
  clear hHeld
  go_simp
  refine H.out.mono ?_; rintro e w5 ⟨rfl, rfl⟩
  try go_wp2_with fail
  refine hK _ _ rfl (fun hHeld => ?_)
  clear hK K
  try simp only [Act.put, List.setIfInBounds_toArray, List.set_cons_zero, List.set_cons_succ]
  refine wpAnyH_take (i := 3) (oi := { dst := some 4, op := Op.assign (Operand.tmp 7), type := 3, pos := "links.go:57", after := #[{ on := 2, ground := Ground.data }, { on := 2, ground := Ground.chain }, { on := 0, ground := Ground.phase }, { on := 1, ground := Ground.phase }, { on := 2, ground := Ground.phase }], guard := none }) (v := .int .i64 c) rfl (by kernel_rfl) (by kernel_rfl) (by kernel_rfl) (fun _ _ _ h => h) (Or.inl ⟨by rfl, fun wS hSw => ?_⟩) (by assumption) ?_
  · clear hHeld
    clear hSw
    go_simp
  try simp only [Act.put, List.setIfInBounds_toArray, List.set_cons_zero, List.set_cons_succ]
  clear hHeld
  refine wpAnyH_done (by kernel_rfl) ?_ _
  refine NoPanic.normal ?_
  go_wp2_with fail
  go_ret
  exact ⟨rfl, HG.out⟩
end Go.Proofs.Ytjcfbnhmljlkpaa
