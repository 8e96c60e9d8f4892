/- ReadR. -/
import Derived.Test.YtbfllifgmlkndaaGreatDoorM11
namespace Go.Proofs.YtbfllifgmlkndaaGreatDoor
open Go.RowKit
open Slot

theorem ret_range2 {fn : Func} {p q : Tmp} (h : fn.results = #[.cell p 116, .tmp q]) {tmps : Array Value} {w : World} {b : Nat} {x y v : Value} (hp : tmps.getD p undef = .pointer (some ⟨b, 0, none⟩)) (hq : tmps.getD q undef = v) (hB : w.heap[b]? = some (.cells #[x, y] 116 (0, 0))) :
    (results fn tmps).run Tryz.prog w = .ok (.tuple #[.agg #[x, y], v]) w := by
  have hp' : tmps[p]?.getD undef = .pointer (some ⟨b, 0, none⟩) := by simpa using hp
  have hq' : tmps[q]?.getD undef = v := by simpa using hq
  simp [results, h, hp', hq', asAddr, run_loadVar_row w b 116 116 #[x, y] (0, 0) _ hB Tryz.underlying116 rfl (infoRange x y)]
theorem oneR (x y : Int) : (#[.int .i64 x, .int .i64 y] : Array Value).all (·.oneCell') = true := by simp [Value.oneCell']
theorem readRange_eq (t : List UInt8) : Slot.readRange t = (match readNum (cut 45 t).1 with
  | none => none
  | some f => if (cut 45 t).2.2 = false then some (f, f) else
    match readNum (cut 45 t).2.1 with
    | none => none
    | some u => if f < u then some (f, u) else none) := rfl
theorem range_done {w w' : World} (x y : Value) (hw : w'.heap[w.heap.size]? = some (.cells #[.int .i64 0, .int .i64 0] 116 (0, 0))) (hb : Below w.heap.size w w') :
    (w'.setRow w.heap.size #[x, y]).heap[w.heap.size]? = some (.cells #[x, y] 116 (0, 0)) ∧ Below w.heap.size w (w'.setRow w.heap.size #[x, y]) :=
  ⟨setRow_heap w' _ _ _ _ _ hw, below_setRow hb (Nat.le_refl _) _⟩

set_option maxHeartbeats 1000000 in
set_option maxRecDepth 100000 in
/-- readRange -/
theorem readRange_any (l : List UInt8) (w : World) (hE : Env w) (hl : l.length ≤ 281474976710656) :
    Calls Tryz.prog 98 #[.string ⟨l.toArray⟩] w fun e w' => (∃ f t : Int, e = .returned (.tuple #[.agg #[.int .i64 f, .int .i64 t], .bool (Slot.readRange l).isSome]) ∧ ∀ p, Slot.readRange l = some p → f = p.1 ∧ t = p.2) ∧ Below w.heap.size w w' := by
  have HC := hid fun w => cut_any l 45 w (by omega)
  have hs := cut_short 45 l
  have HR := hid (readRange_eq l)
  generalize Slot.readRange l = R at HR ⊢
  have HRd : Hid (∀ l, l.length ≤ 281474976710656 → ∀ w', Below w.heap.size w w' → Calls Tryz.prog 104 #[.string ⟨l.toArray⟩] w' fun e w'' => (∃ v : Int, e = .returned (.tuple #[.int .i64 v, .bool (readNum l).isSome]) ∧ ∀ n, readNum l = some n → v = n) ∧ Below w'.heap.size w' w'') :=
    fun l hl w' hb => readSlot_any l w' (hE.below hb hE.room) hl
  generalize cut 45 l = C at HC hs HR
  obtain ⟨a, b, m⟩ := C
  simp only at HC hs HR
  have ha : a.length ≤ 281474976710656 := by omega
  have hbl : b.length ≤ 281474976710656 := by omega
  clear hs hl hE
  have HW0 : Hid (∀ n, Below w.heap.size w ((w.alloc (.cells #[.int .i64 0, .int .i64 0] 116)).drewN n)) := fun n => Below.drewN (below_alloc w _) n
  have HZ0 : Hid (∀ n, ((w.alloc (.cells #[.int .i64 0, .int .i64 0] 116)).drewN n).heap[w.heap.size]? = some (.cells #[.int .i64 0, .int .i64 0] 116 (0, 0))) := fun n => heap_alloc_new w _
  go_enter Tryz.func98, Tryz.ntmps98
  go_wp2_with fail
  refine (HC.out _).mono ?_; rintro e w' ⟨rfl, n, rfl⟩
  go_wp2_with fail
  refine (HRd.out a ha _ (HW0.out n)).mono ?_
  rintro e w1 ⟨⟨v, rfl, hv⟩, hb1⟩
  have HW1 := hid ((HW0.out n).trans (hb1.mono (by simp)))
  have HZ1 := hid ((hb1.block w.heap.size (by simp)).trans (HZ0.out n))
  clear hb1
  cases hn : readNum a with
  | none =>
    rw [hn] at HR
    have hR : R = none := HR.out
    subst hR
    go_wp2_with (refine wpList_store_row rfl 116 _ _ rfl w.heap.size #[.int .i64 v, .int .i64 v] rfl rfl 116 _ HZ1.out (infoRange _ _) rfl (oneR _ _) ?_)
    exact bodyPost_ret (v := .tuple #[.agg #[.int .i64 v, .int .i64 v], .bool false]) (ret_range2 rfl rfl rfl (range_done _ _ HZ1.out HW1.out).1) rfl ⟨⟨v, v, rfl, fun p hp => by cases hp⟩, (range_done _ _ HZ1.out HW1.out).2⟩
  | some f =>
    rw [hn] at HR hv
    have hvf := hv f rfl
    subst hvf
    clear hv hn
    cases m
    · have hR : R = some (f, f) := HR.out
      subst hR
      go_wp2_with (refine wpList_store_row rfl 116 _ _ rfl w.heap.size #[.int .i64 f, .int .i64 f] rfl rfl 116 _ HZ1.out (infoRange _ _) rfl (oneR _ _) ?_)
      exact bodyPost_ret (v := .tuple #[.agg #[.int .i64 f, .int .i64 f], .bool true]) (ret_range2 rfl rfl rfl (range_done _ _ HZ1.out HW1.out).1) rfl ⟨⟨f, f, rfl, fun p hp => by injection hp with hp; rw [← hp]; exact ⟨rfl, rfl⟩⟩, (range_done _ _ HZ1.out HW1.out).2⟩
    · go_wp2_with fail
      refine (HRd.out b hbl _ HW1.out).mono ?_
      rintro e w2 ⟨⟨u, rfl, hu⟩, hb2⟩
      have HW2 := hid (HW1.out.trans (hb2.mono HW1.out.size))
      have HZ2 := hid ((hb2.block w.heap.size (Array.getElem?_eq_some_iff.1 HZ1.out).1).trans HZ1.out)
      clear hb2
      cases hm : readNum b with
      | none =>
        rw [hm] at HR
        have hR : R = none := HR.out
        subst hR
        go_wp2_with (refine wpList_store_row rfl 116 _ _ rfl w.heap.size #[.int .i64 f, .int .i64 u] rfl rfl 116 _ HZ2.out (infoRange _ _) rfl (oneR _ _) ?_)
        exact bodyPost_ret (v := .tuple #[.agg #[.int .i64 f, .int .i64 u], .bool false]) (ret_range2 rfl rfl rfl (range_done _ _ HZ2.out HW2.out).1) rfl ⟨⟨f, u, rfl, fun p hp => by cases hp⟩, (range_done _ _ HZ2.out HW2.out).2⟩
      | some t =>
        rw [hm] at HR hu
        have hut := hu t rfl
        subst hut
        clear hu hm
        by_cases hlt : f < t
        · have hR : R = some (f, t) := by have := HR.out; simpa [hlt] using this
          subst hR
          go_wp2_with (refine wpList_store_row rfl 116 _ _ rfl w.heap.size #[.int .i64 f, .int .i64 t] rfl rfl 116 _ HZ2.out (infoRange _ _) rfl (oneR _ _) ?_)
          exact bodyPost_ret (v := .tuple #[.agg #[.int .i64 f, .int .i64 t], .bool true]) (ret_range2 rfl rfl rfl (range_done _ _ HZ2.out HW2.out).1) rfl ⟨⟨f, t, rfl, fun p hp => by injection hp with hp; rw [← hp]; exact ⟨rfl, rfl⟩⟩, (range_done _ _ HZ2.out HW2.out).2⟩
        · have hR : R = none := by have := HR.out; simpa [hlt] using this
          subst hR
          go_wp2_with (refine wpList_store_row rfl 116 _ _ rfl w.heap.size #[.int .i64 f, .int .i64 t] rfl rfl 116 _ HZ2.out (infoRange _ _) rfl (oneR _ _) ?_)
          exact bodyPost_ret (v := .tuple #[.agg #[.int .i64 f, .int .i64 t], .bool false]) (ret_range2 rfl rfl rfl (range_done _ _ HZ2.out HW2.out).1) rfl ⟨⟨f, t, rfl, fun p hp => by cases hp⟩, (range_done _ _ HZ2.out HW2.out).2⟩

end Go.Proofs.YtbfllifgmlkndaaGreatDoor
