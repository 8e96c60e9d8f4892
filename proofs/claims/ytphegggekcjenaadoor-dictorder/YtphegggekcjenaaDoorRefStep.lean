/- The document's dict: New, Step, Get, Names. -/
import Derived.Test.YtphegggekcjenaaDoorItems
namespace Go.Proofs.YtphegggekcjenaaDoor
open Go.RowKit

/-- a dict's value: its row, its rooms, what is left -/
abbrev rdV (v : Value) (r k : Nat) : Value := .agg #[v, .int .i64 r, .int .i64 k]
theorem infoRD (x y z : Value) : (Tryd.prog.info? 26).map (·.size) = some (#[x, y, z] : Array Value).size := by
  show _ = some 3
  kernel_rfl
theorem oneRD (a : Option Addr) (m n : Nat) (x y : Int) : (#[.slice a m n, .int .i64 x, .int .i64 y] : Array Value).all (·.oneCell') = true := by simp [Value.oneCell']
theorem ret_rd1 {fn : Func} {p : Tmp} (h : fn.results = #[.cell p 26]) {tmps : Array Value} {w : World} {b : Nat} {x y z : Value} (hp : tmps.getD p undef = .pointer (some ⟨b, 0, none⟩)) (hB : w.heap[b]? = some (.cells #[x, y, z] 26 (0, 0))) :
    (results fn tmps).run Tryd.prog w = .ok (.agg #[x, y, z]) w :=
  results_cell_row h tmps w b 26 #[x, y, z] (0, 0) _ hp hB Tryd.underlying26 rfl (infoRD x y z)
theorem ret_rd2 {fn : Func} {p q : Tmp} (h : fn.results = #[.cell p 26, .tmp q]) {tmps : Array Value} {w : World} {b : Nat} {x y z v : Value} (hp : tmps.getD p undef = .pointer (some ⟨b, 0, none⟩)) (hq : tmps.getD q undef = v) (hB : w.heap[b]? = some (.cells #[x, y, z] 26 (0, 0))) :
    (results fn tmps).run Tryd.prog w = .ok (.tuple #[.agg #[x, y, z], v]) w := by
  have hp' : tmps[p]?.getD undef = .pointer (some ⟨b, 0, none⟩) := by simpa using hp
  have hq' : tmps[q]?.getD undef = v := by simpa using hq
  simp [results, h, hp', hq', asAddr, run_loadVar_row w b 26 26 #[x, y, z] (0, 0) _ hB Tryd.underlying26 rfl (infoRD x y z)]
theorem rd_facts {w : World} {b : Nat} {x y z : Value} (h : w.heap[b]? = some (.cells #[x, y, z] 26 (0, 0))) :
    (w.cell? ⟨b, 0, none⟩ = some x ∧ w.cell? ⟨b, 1, none⟩ = some y ∧ w.cell? ⟨b, 2, none⟩ = some z) ∧ w.frozen? ⟨b, 0, none⟩ = false ∧ w.frozen? ⟨b, 1, none⟩ = false ∧ w.frozen? ⟨b, 2, none⟩ = false :=
  ⟨⟨cell_of_row w b 0 _ _ _ h, cell_of_row w b 1 _ _ _ h, cell_of_row w b 2 _ _ _ h⟩, frozen_of_row w b 0 _ _ h, frozen_of_row w b 1 _ _ h, frozen_of_row w b 2 _ _ h⟩
theorem below_setRow {B : Nat} {a w : World} (h : Below B a w) {g : Nat} (hg : B ≤ g) (cs : Array Value) : Below B a (w.setRow g cs) :=
  h.trans ⟨rfl, rfl, rfl, by simp, fun k hk => setRow_other w g k cs (by omega)⟩
theorem alloc2_new (w : World) (x y : Obj) : ((w.alloc x).alloc y).heap[w.heap.size + 1]? = some y := by
  have := heap_alloc_new (w.alloc x) y
  rwa [show (w.alloc x).heap.size = w.heap.size + 1 by simp] at this
theorem alloc2_old (w : World) (x y : Obj) : ((w.alloc x).alloc y).heap[w.heap.size]? = some x := (heap_alloc_old (w.alloc x) y (by simp)).trans (heap_alloc_new w x)
theorem alloc2_below (w : World) (x y : Obj) : Below w.heap.size w ((w.alloc x).alloc y) := ((Below.refl _ _).alloc (Nat.le_refl _) _).alloc (by simp) _
set_option maxHeartbeats 1000000 in
set_option maxRecDepth 100000 in
/-- ref New -/
theorem rnew_any (w : World) : Calls Tryd.prog 14 #[] w fun e w' => e = .returned (rdV (.slice none 0 0) 4 0) ∧ Hid (Below w.heap.size w w') := by
  have HZ := hid (heap_alloc_new w (.cells #[.slice none 0 0, .int .i64 0, .int .i64 0] 26))
  go_enter Tryd.func14, Tryd.ntmps14
  go_wp2_with (refine wpList_store_row rfl 26 _ _ rfl w.heap.size #[.slice none 0 0, .int .i64 4, .int .i64 0] rfl rfl 26 _ HZ.out (infoRD _ _ _) rfl (oneRD _ _ _ _ _) ?_)
  refine bodyPost_ret (v := rdV (.slice none 0 0) 4 0) ?_ rfl ?_
  · exact ret_rd1 rfl rfl (setRow_heap _ _ _ _ _ _ HZ.out)
  · exact ⟨rfl, below_setRow (below_alloc w _) (Nat.le_refl _) _⟩
set_option maxHeartbeats 1000000 in
set_option maxRecDepth 100000 in
/-- ref Step -/
theorem rstep_any (p : Option Addr) (n c r k : Nat) (w : World) (hk : k ≤ 1000000000) :
    Calls Tryd.prog 34 #[rdV (.slice p n c) r k] w fun e w' => e = .returned (.tuple #[rdV (.slice p n c) r (k - 1), .bool (decide (k ≠ 0))]) ∧ Hid (Below w.heap.size w w') := by
  have HA := hid (alloc2_old w (.cells #[.slice p n c, .int .i64 r, .int .i64 k] 26) (.cells #[.slice none 0 0, .int .i64 0, .int .i64 0] 26))
  have HB := hid (alloc2_new w (.cells #[.slice p n c, .int .i64 r, .int .i64 k] 26) (.cells #[.slice none 0 0, .int .i64 0, .int .i64 0] 26))
  have HL := hid (alloc2_below w (.cells #[.slice p n c, .int .i64 r, .int .i64 k] 26) (.cells #[.slice none 0 0, .int .i64 0, .int .i64 0] 26))
  by_cases h0 : k = 0
  · subst h0
    go_enter Tryd.func34, Tryd.ntmps34
    go_wp2_with (first | (refine wpList_load_row rfl 26 _ rfl w.heap.size rfl 26 _ (0, 0) _ HA.out Tryd.underlying26 rfl (infoRD _ _ _) ?_) | (refine wpList_store_row rfl 26 _ _ rfl (w.heap.size + 1) #[.slice p n c, .int .i64 r, .int .i64 0] rfl rfl 26 _ HB.out (infoRD _ _ _) rfl (oneRD _ _ _ _ _) ?_))
    refine bodyPost_ret (v := .tuple #[rdV (.slice p n c) r 0, .bool false]) ?_ rfl ?_
    · exact ret_rd2 rfl rfl rfl (setRow_heap _ _ _ _ _ _ HB.out)
    · exact ⟨rfl, below_setRow HL.out (by omega) _⟩
  · have hz : ((k : Int) == 0) = false := beq_eq_false_iff_ne.2 (by omega)
    rw [show decide (k ≠ 0) = true from decide_eq_true h0]
    obtain ⟨k', hk'⟩ : ∃ k' : Nat, k' = k - 1 := ⟨_, rfl⟩
    rw [← hk']
    have hkz : (k : Int) - 1 = (k' : Int) := by omega
    have hk0 : (0 : Int) < (k : Int) := by omega
    have hk1 : (k : Int) ≤ 1000000000 := by omega
    clear hk'
    go_enter Tryd.func34, Tryd.ntmps34
    go_wp2_with fail
    refine bodyPost_ret (v := .tuple #[rdV (.slice p n c) r k', .bool true]) ?_ rfl ?_
    · exact ret_rd2 rfl rfl rfl (alloc2_new w _ _)
    · exact ⟨rfl, alloc2_below w _ _⟩
theorem get_step {l : Its Int} {i : Nat} (h : i < l.length) (n : Nm) : getL n (l.drop i) = if l[i].1 = n then some l[i].2 else getL n (l.drop (i + 1)) := by
  rw [List.drop_eq_getElem_cons h]
  unfold getL
  by_cases e : l[i].1 = n
  · rw [if_pos e, List.find?_cons_of_pos (by simp [e])]; rfl
  · rw [if_neg e, List.find?_cons_of_neg (by simp [e])]
set_option maxHeartbeats 1000000 in
set_option maxRecDepth 100000 in
/-- ref Get -/
theorem rget_any (P : Nat → Prop) (v : Value) (l : Its Int) (r k : Nat) (n : Nm) (w : World) (h : It P w v l) (hl : l.length ≤ 1000000) :
    Calls Tryd.prog 33 #[rdV v r k, txt n] w fun e w' => e = .returned (.tuple #[.int .i64 ((getL n l).getD 0), .bool (getL n l).isSome]) ∧ Hid (Below w.heap.size w w') := by
  obtain ⟨p, c, rfl, -⟩ := h.shape
  have H := hid fun i hi => (h.below (below_alloc w (.cells #[.slice p l.length c, .int .i64 r, .int .i64 k] 26))).cells i hi
  have HB := hid (below_alloc w (.cells #[.slice p l.length c, .int .i64 r, .int .i64 k] 26))
  obtain ⟨G, hG⟩ : ∃ G, G = getL n l := ⟨_, rfl⟩
  rw [← hG]
  have HG := hid hG
  clear h hG
  go_enter Tryd.func33, Tryd.ntmps33
  go_wp2_with fail
  go_loopw [6] (fun v6 W => ∃ i : Nat, v6 = .int .i64 i ∧ i ≤ l.length ∧ Hid (getL n (l.drop i) = G) ∧ W = w.alloc (.cells #[.slice p l.length c, .int .i64 r, .int .i64 k] 26)) (fun v6 _ => l.length - (intOf v6).toNat)
  case atStart => exact ⟨0, rfl, Nat.zero_le _, by simpa [Hid] using HG.out.symm, rfl⟩
  case round =>
    obtain ⟨i, rfl, hi, HD, rfl⟩ := hrel
    by_cases hlt : i < l.length
    · have hlz : (i : Int) < (l.length : Int) := by omega
      obtain ⟨g, o, rfl, hg, -, hc⟩ := H.out i hlt
      obtain ⟨x0, x1⟩ := hc i hlt
      have HS := hid (get_step hlt n)
      generalize l[i] = it at *
      obtain ⟨m, y⟩ := it
      simp only at x0 x1 HS
      clear hc
      by_cases e : m = n
      · subst e
        obtain rfl : G = some y := by rw [← HD.out, HS.out, if_pos rfl]
        go_wp2_with fail
        go_ret2
        exact ⟨rfl, HB.out⟩
      · have hne : (m == n) = false := beq_eq_false_iff_ne.2 e
        have HD2 : Hid (getL n (l.drop (i + 1)) = G) := by
          have := HD.out
          rw [HS.out, if_neg e] at this
          exact this
        clear e
        go_wp2_with fail
        exact ⟨⟨i + 1, by go_num, by omega, HD2.out, by simp⟩, by simp [intOf]; omega⟩
    · obtain rfl : G = none := by
        rw [← HD.out, List.drop_eq_nil_of_le (by omega)]; rfl
      go_wp2_with fail
      go_ret2
      exact ⟨rfl, HB.out⟩

end Go.Proofs.YtphegggekcjenaaDoor
