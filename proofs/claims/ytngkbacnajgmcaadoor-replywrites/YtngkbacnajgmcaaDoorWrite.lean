/- Replies written: appendLine, isRight. -/
import Derived.Test.YtngkbacnajgmcaaDoorModel
import Derived.Test.YtngkbacnajgmcaaDoorIsLine
namespace Go.Proofs.YtngkbacnajgmcaaDoor
open Go.RowKit

set_option maxHeartbeats 1000000 in
set_option maxRecDepth 100000 in
/-- appendLine -/
theorem appendLine_any {B : Nat} {w1 : World} {W : World} {v : Value} {T : List UInt8} (h : Txt B w1 W v T) (c : UInt8) (z : Int) (hz : z = (c.toNat : Int)) (t : List UInt8) (hT : T.length + t.length ≤ 140737488340000) :
    Calls Tryd.prog 25 #[v, .int .u8 z, .string ⟨t.toArray⟩] W fun e W' => ∃ v', e = .returned v' ∧ Hid (Txt B w1 W' v' (T ++ ln c t) ∧ Kpt W W') := by
  obtain ⟨v1, w2, hrun1, ht1, k1⟩ := h.push c (by omega)
  obtain ⟨v2, w3, hrun2, ht2, k2⟩ := ht1.str t (by simp; omega)
  obtain ⟨v3, w4, hrun3, ht3, k3⟩ := ht2.str [13, 10] (by simp; omega)
  have HK := hid ((k1.trans k2).trans k3)
  rw [← hz] at hrun1
  have HR1 := hid hrun1
  have HR2 := hid hrun2
  have HR3 := hid hrun3
  have HT3 : Hid (Txt B w1 w4 v3 (T ++ ln c t)) := by
    unfold Hid ln
    simpa [List.append_assoc] using ht3
  clear h hrun1 hrun2 hrun3 ht1 ht2 ht3 hz k1 k2 k3
  go_enter Tryd.func25, Tryd.ntmps25
  go_wp2_with (at_builtin; first | (refine wpList_append_runs rfl _ _ 38 38 rfl _ _ _ _ rfl rfl HR1.out ?_) | (refine wpList_append_runs rfl _ _ 38 9 rfl _ _ _ _ rfl rfl HR2.out ?_) | (refine wpList_append_runs rfl _ _ 38 9 rfl _ _ _ _ rfl rfl HR3.out ?_))
  go_ret
  exact ⟨_, rfl, HT3.out, HK.out⟩
/-- what a box holds, it holds behind a call -/
theorem boxed {w w2 : World} {x0 x1 x2 x3 : Value} (hb : Below (w.alloc (.cells #[x0, x1, x2, x3] 24)).heap.size (w.alloc (.cells #[x0, x1, x2, x3] 24)) w2) :
    w2.cell? ⟨w.heap.size, 0, none⟩ = some x0 ∧ w2.cell? ⟨w.heap.size, 1, none⟩ = some x1 ∧ w2.cell? ⟨w.heap.size, 2, none⟩ = some x2 ∧ w2.cell? ⟨w.heap.size, 3, none⟩ = some x3 := by
  have h : w2.heap[w.heap.size]? = some (.cells #[x0, x1, x2, x3] 24 (0, 0)) := (hb.block _ (by simp)).trans (heap_alloc_new w _)
  exact ⟨cell_of_row w2 _ 0 _ _ _ h, cell_of_row w2 _ 1 _ _ _ h, cell_of_row w2 _ 2 _ _ _ h, cell_of_row w2 _ 3 _ _ _ h⟩
theorem right_mk (room : Nat) (k n : Int) (t : List UInt8) (l : List Rep) : right room (.mk k n t l) = (if k = 1 ∨ k = 2 then decide (Pl t ∧ n = 0 ∧ l.length = 0)
    else if k = 4 then decide (t.length ≤ 65536 ∧ n = 0 ∧ l.length = 0)
    else if k = 5 then decide (n = 0 ∧ t = [] ∧ l.length = 0)
    else if k = 3 then decide (t = [] ∧ l.length = 0)
    else if k = 6 then decide (l.length ≤ 1024 ∧ 0 < room ∧ n = 0 ∧ t = [])
    else false) := rfl
set_option maxHeartbeats 4000000 in
set_option maxRecDepth 100000 in
/-- isRight -/
theorem isRight_any (room : Nat) (hroom : room ≤ 100) (v : Value) (r : Rep) (d : Nat) (w : World) (h : Rp All w d v r) :
    Calls Tryd.prog 24 #[v, .int .i64 room] w fun e w' => e = .returned (.bool (right room r)) ∧ Hid (Below w.heap.size w w') := by
  obtain ⟨d, p, c, rfl, rfl, f, -⟩ := h.open
  obtain ⟨k, n, t, l⟩ := r
  have hl := f.l
  have htl := f.t
  obtain ⟨V, hV⟩ : ∃ V, V = right room (.mk k n t l) := ⟨_, rfl⟩
  rw [← hV]
  simp only [Rep.kind, Rep.int, Rep.text, Rep.list] at hl htl ⊢
  clear f h
  have HL := hid fun (w : World) (h : t.length ≤ 9223372036854775807) => isLine_any t w h
  by_cases h12 : k = 1 ∨ k = 2
  · have e : V = decide (Pl t ∧ n = 0 ∧ l.length = 0) := by rw [hV, right_mk, if_pos h12]
    have HE := hid e
    clear hV e
    have hk : Hid (k = 1 ∨ k = 2) := h12
    by_cases hp : Pl t
    · have hp5 : t.length ≤ 65536 := Nat.le_trans hp.1 (by decide)
      have hp5z : (t.length : Int) ≤ 65536 := by omega
      have HQ := hid fun w => HL.out w htl
      simp only [decide_eq_true hp] at HQ
      have HP := hid hp
      clear hp HL
      by_cases hn : n = 0
      · subst hn
        by_cases h0 : l.length = 0
        · obtain rfl : V = true := by rw [HE.out]; exact decide_eq_true ⟨HP.out, rfl, h0⟩
          rw [h0]
          rcases hk.out with rfl | rfl
          all_goals
            clear h12 hk HE HP
            go_enter Tryd.func24, Tryd.ntmps24
            go_wp2_with fail
            refine (HQ.out _).mono ?_; rintro e w2 ⟨rfl, hb⟩
            obtain ⟨_, b1, b2, b3⟩ := boxed hb.out; have HB := hid ((below_alloc w _).trans (hb.out.mono (by simp)))
            clear hb
            go_wp2
            (try simp only [Exit.noGoto, Exit.inBlock, Exit.then]); go_ret
            exact ⟨rfl, HB.out⟩
        · obtain rfl : V = false := by rw [HE.out]; exact decide_eq_false fun h => h0 h.2.2
          have h0z : ((l.length : Int) == 0) = false := beq_eq_false_iff_ne.2 (by omega)
          rcases hk.out with rfl | rfl
          all_goals
            clear h12 hk HE HP
            go_enter Tryd.func24, Tryd.ntmps24
            go_wp2_with fail
            refine (HQ.out _).mono ?_; rintro e w2 ⟨rfl, hb⟩
            obtain ⟨_, b1, b2, b3⟩ := boxed hb.out; have HB := hid ((below_alloc w _).trans (hb.out.mono (by simp)))
            clear hb
            go_wp2
            (try simp only [Exit.noGoto, Exit.inBlock, Exit.then]); go_ret
            exact ⟨rfl, HB.out⟩
      · obtain rfl : V = false := by rw [HE.out]; exact decide_eq_false fun h => hn h.2.1
        have hnz : (n == 0) = false := beq_eq_false_iff_ne.2 hn
        rcases hk.out with rfl | rfl
        all_goals
          clear h12 hk HE HP
          go_enter Tryd.func24, Tryd.ntmps24
          go_wp2_with fail
          refine (HQ.out _).mono ?_; rintro e w2 ⟨rfl, hb⟩
          obtain ⟨_, b1, b2, b3⟩ := boxed hb.out; have HB := hid ((below_alloc w _).trans (hb.out.mono (by simp)))
          clear hb
          go_wp2
          (try simp only [Exit.noGoto, Exit.inBlock, Exit.then]); go_ret
          exact ⟨rfl, HB.out⟩
    · obtain rfl : V = false := by rw [HE.out]; exact decide_eq_false fun h => hp h.1
      have HQ := hid fun w => HL.out w htl
      simp only [decide_eq_false hp] at HQ
      clear hp HL
      rcases hk.out with rfl | rfl
      all_goals
        clear h12 hk HE
        go_enter Tryd.func24, Tryd.ntmps24
        go_wp2_with fail
        refine (HQ.out _).mono ?_; rintro e w2 ⟨rfl, hb⟩
        obtain ⟨_, b1, b2, b3⟩ := boxed hb.out; have HB := hid ((below_alloc w _).trans (hb.out.mono (by simp)))
        clear hb
        go_wp2
        (try simp only [Exit.noGoto, Exit.inBlock, Exit.then]); go_ret
        exact ⟨rfl, HB.out⟩
  · have k1 : (k == 1) = false := beq_eq_false_iff_ne.2 fun e => h12 (.inl e)
    have k2 : (k == 2) = false := beq_eq_false_iff_ne.2 fun e => h12 (.inr e)
    have e : V = (if k = 4 then decide (t.length ≤ 65536 ∧ n = 0 ∧ l.length = 0) else if k = 5 then decide (n = 0 ∧ t = [] ∧ l.length = 0) else if k = 3 then decide (t = [] ∧ l.length = 0) else if k = 6 then decide (l.length ≤ 1024 ∧ 0 < room ∧ n = 0 ∧ t = []) else false) := by rw [hV, right_mk, if_neg h12]
    clear hV HL h12
    by_cases k4 : k = 4
    · subst k4
      rw [if_pos rfl] at e
      have HE := hid e
      clear e k1 k2
      by_cases ht : t.length ≤ 65536
      · have htz : (t.length : Int) ≤ 65536 := by omega
        by_cases hn : n = 0
        · subst hn
          by_cases h0 : l.length = 0
          · obtain rfl : V = true := by rw [HE.out]; exact decide_eq_true ⟨ht, rfl, h0⟩
            rw [h0]
            clear HE
            go_enter Tryd.func24, Tryd.ntmps24
            go_wp2
            (try simp only [Exit.noGoto, Exit.inBlock, Exit.then]); go_ret
            exact ⟨rfl, below_alloc w _⟩
          · obtain rfl : V = false := by rw [HE.out]; exact decide_eq_false fun h => h0 h.2.2
            have h0z : ((l.length : Int) == 0) = false := beq_eq_false_iff_ne.2 (by omega)
            clear HE
            go_enter Tryd.func24, Tryd.ntmps24
            go_wp2
            (try simp only [Exit.noGoto, Exit.inBlock, Exit.then]); go_ret
            exact ⟨rfl, below_alloc w _⟩
        · obtain rfl : V = false := by rw [HE.out]; exact decide_eq_false fun h => hn h.2.1
          have hnz : (n == 0) = false := beq_eq_false_iff_ne.2 hn
          clear HE
          go_enter Tryd.func24, Tryd.ntmps24
          go_wp2
          (try simp only [Exit.noGoto, Exit.inBlock, Exit.then]); go_ret
          exact ⟨rfl, below_alloc w _⟩
      · have htz : ¬ (t.length : Int) ≤ 65536 := by omega
        obtain rfl : V = false := by rw [HE.out]; exact decide_eq_false fun h => ht h.1
        clear HE
        go_enter Tryd.func24, Tryd.ntmps24
        go_wp2
        (try simp only [Exit.noGoto, Exit.inBlock, Exit.then]); go_ret
        exact ⟨rfl, below_alloc w _⟩
    · rw [if_neg k4] at e
      have k4z : (k == 4) = false := beq_eq_false_iff_ne.2 k4
      by_cases k5 : k = 5
      · subst k5
        rw [if_pos rfl] at e
        have HE := hid e
        clear e k1 k2 k4 k4z
        by_cases hn : n = 0
        · subst hn
          by_cases ht : t = []
          · subst ht
            by_cases h0 : l.length = 0
            · obtain rfl : V = true := by rw [HE.out]; exact decide_eq_true ⟨rfl, rfl, h0⟩
              rw [h0]
              clear HE
              go_enter Tryd.func24, Tryd.ntmps24
              go_wp2
              (try simp only [Exit.noGoto, Exit.inBlock, Exit.then]); go_ret
              exact ⟨rfl, below_alloc w _⟩
            · obtain rfl : V = false := by rw [HE.out]; exact decide_eq_false fun h => h0 h.2.2
              have h0z : ((l.length : Int) == 0) = false := beq_eq_false_iff_ne.2 (by omega)
              clear HE
              go_enter Tryd.func24, Tryd.ntmps24
              go_wp2
              (try simp only [Exit.noGoto, Exit.inBlock, Exit.then]); go_ret
              exact ⟨rfl, below_alloc w _⟩
          · obtain rfl : V = false := by rw [HE.out]; exact decide_eq_false fun h => ht h.2.1
            clear HE
            go_enter Tryd.func24, Tryd.ntmps24
            go_wp2
            (try simp only [Exit.noGoto, Exit.inBlock, Exit.then]); go_ret
            exact ⟨rfl, below_alloc w _⟩
        · obtain rfl : V = false := by rw [HE.out]; exact decide_eq_false fun h => hn h.1
          have hnz : (n != 0) = true := by simp [hn]
          clear HE
          go_enter Tryd.func24, Tryd.ntmps24
          go_wp2
          (try simp only [Exit.noGoto, Exit.inBlock, Exit.then]); go_ret
          exact ⟨rfl, below_alloc w _⟩
      · rw [if_neg k5] at e
        have k5z : (k == 5) = false := beq_eq_false_iff_ne.2 k5
        by_cases k3 : k = 3
        · subst k3
          rw [if_pos rfl] at e
          have HE := hid e
          clear e k1 k2 k4 k4z k5 k5z
          by_cases ht : t = []
          · subst ht
            by_cases h0 : l.length = 0
            · obtain rfl : V = true := by rw [HE.out]; exact decide_eq_true ⟨rfl, h0⟩
              rw [h0]
              clear HE
              go_enter Tryd.func24, Tryd.ntmps24
              go_wp2
              (try simp only [Exit.noGoto, Exit.inBlock, Exit.then]); go_ret
              exact ⟨rfl, below_alloc w _⟩
            · obtain rfl : V = false := by rw [HE.out]; exact decide_eq_false fun h => h0 h.2
              have h0z : ((l.length : Int) == 0) = false := beq_eq_false_iff_ne.2 (by omega)
              clear HE
              go_enter Tryd.func24, Tryd.ntmps24
              go_wp2
              (try simp only [Exit.noGoto, Exit.inBlock, Exit.then]); go_ret
              exact ⟨rfl, below_alloc w _⟩
          · obtain rfl : V = false := by rw [HE.out]; exact decide_eq_false fun h => ht h.1
            clear HE
            go_enter Tryd.func24, Tryd.ntmps24
            go_wp2
            (try simp only [Exit.noGoto, Exit.inBlock, Exit.then]); go_ret
            exact ⟨rfl, below_alloc w _⟩
        · rw [if_neg k3] at e
          have k3z : (k == 3) = false := beq_eq_false_iff_ne.2 k3
          by_cases k6 : k = 6
          · subst k6
            rw [if_pos rfl] at e
            have HE := hid e
            clear e k1 k2 k4 k4z k5 k5z k3 k3z
            by_cases hm : l.length ≤ 1024
            · have hmz : (l.length : Int) ≤ 1024 := by omega
              by_cases hr : 0 < room
              · have hrz : (0 : Int) < (room : Int) := by omega
                by_cases hn : n = 0
                · subst hn
                  by_cases ht : t = []
                  · subst ht
                    obtain rfl : V = true := by rw [HE.out]; exact decide_eq_true ⟨hm, hr, rfl, rfl⟩
                    clear HE
                    go_enter Tryd.func24, Tryd.ntmps24
                    go_wp2
                    (try simp only [Exit.noGoto, Exit.inBlock, Exit.then]); go_ret
                    exact ⟨rfl, below_alloc w _⟩
                  · obtain rfl : V = false := by rw [HE.out]; exact decide_eq_false fun h => ht h.2.2.2
                    have hte : t.isEmpty = false := by simp [ht]
                    clear HE
                    go_enter Tryd.func24, Tryd.ntmps24
                    go_wp2
                    (try simp only [Exit.noGoto, Exit.inBlock, Exit.then]); go_ret
                    exact ⟨rfl, below_alloc w _⟩
                · obtain rfl : V = false := by rw [HE.out]; exact decide_eq_false fun h => hn h.2.2.1
                  have hnz : (n == 0) = false := beq_eq_false_iff_ne.2 hn
                  clear HE
                  go_enter Tryd.func24, Tryd.ntmps24
                  go_wp2
                  (try simp only [Exit.noGoto, Exit.inBlock, Exit.then]); go_ret
                  exact ⟨rfl, below_alloc w _⟩
              · have hrz : ¬ (0 : Int) < (room : Int) := by omega
                obtain rfl : V = false := by rw [HE.out]; exact decide_eq_false fun h => hr h.2.1
                clear HE
                go_enter Tryd.func24, Tryd.ntmps24
                go_wp2
                (try simp only [Exit.noGoto, Exit.inBlock, Exit.then]); go_ret
                exact ⟨rfl, below_alloc w _⟩
            · have hmz : ¬ (l.length : Int) ≤ 1024 := by omega
              obtain rfl : V = false := by rw [HE.out]; exact decide_eq_false fun h => hm h.1
              clear HE
              go_enter Tryd.func24, Tryd.ntmps24
              go_wp2
              (try simp only [Exit.noGoto, Exit.inBlock, Exit.then]); go_ret
              exact ⟨rfl, below_alloc w _⟩
          · rw [if_neg k6] at e
            have k6z : (k == 6) = false := beq_eq_false_iff_ne.2 k6
            subst e
            clear k3 k4 k5 k6
            go_enter Tryd.func24, Tryd.ntmps24
            go_wp2
            (try simp only [Exit.noGoto, Exit.inBlock, Exit.then]); go_ret
            exact ⟨rfl, below_alloc w _⟩

end Go.Proofs.YtngkbacnajgmcaaDoor
