/- The parser in memory: New, Left, stop, keep. -/
import Derived.Test.YtjcegiponjpjiabDoorCutBytes
namespace Go.Proofs.YtjcegiponjpjiabDoor
open Go.RowKit

/-- nothing but block b has turned -/
structure Only (b : Nat) (w w' : World) : Prop where
  os : w'.os = w.os
  tape : w'.tape = w.tape
  output : w'.output = w.output
  size : w.heap.size ≤ w'.heap.size
  block : ∀ k, k < w.heap.size → k ≠ b → w'.heap[k]? = w.heap[k]?
theorem Only.refl (b : Nat) (w : World) : Only b w w := ⟨rfl, rfl, rfl, Nat.le_refl _, fun _ _ _ => rfl⟩
theorem Only.trans {b : Nat} {x y z : World} (h : Only b x y) (k : Only b y z) : Only b x z :=
  ⟨k.os.trans h.os, k.tape.trans h.tape, k.output.trans h.output, Nat.le_trans h.size k.size, fun i hi hb => (k.block i (Nat.lt_of_lt_of_le hi h.size) hb).trans (h.block i hi hb)⟩
theorem Only.of_below {b : Nat} {w w' : World} (h : Below w.heap.size w w') : Only b w w' := ⟨h.os, h.tape, h.output, h.size, fun k hk _ => h.block k hk⟩
theorem Only.drewN {b : Nat} {a w : World} (h : Only b a w) (n : Nat) : Only b a (w.drewN n) := ⟨h.os, h.tape, h.output, h.size, h.block⟩
theorem Only.setCell {b : Nat} {a w : World} (h : Only b a w) (i : Nat) (v : Value) : Only b a (w.setCell ⟨b, i, none⟩ v) :=
  h.trans ⟨rfl, rfl, rfl, by simp, fun k _ hk => heap_setCell_other w ⟨b, i, none⟩ k v (fun e => hk (by simp [e]))⟩
/-- a parser in block b: its stream and its fault -/
def Pars (w : World) (b : Nat) (v : Value) (e : Int) : Prop := w.heap[b]? = some (.cells #[v, .int .i64 e] 36 (0, 0))
theorem Pars.cell0 {w : World} {b : Nat} {v : Value} {e : Int} (h : Pars w b v e) : w.cell? ⟨b, 0, none⟩ = some v := cell_of_row w b 0 _ _ _ h
theorem Pars.cell1 {w : World} {b : Nat} {v : Value} {e : Int} (h : Pars w b v e) : w.cell? ⟨b, 1, none⟩ = some (.int .i64 e) := cell_of_row w b 1 _ _ _ h
theorem Pars.froz {w : World} {b : Nat} {v : Value} {e : Int} (h : Pars w b v e) (k : Nat) : w.frozen? ⟨b, k, none⟩ = false := frozen_of_row w b k _ _ h
theorem Pars.set0 {w : World} {b : Nat} {v : Value} {e : Int} (h : Pars w b v e) (u : Value) : Pars (w.setCell ⟨b, 0, none⟩ u) b u e := heap_setCell_same w b 0 _ _ u h
theorem Pars.set1 {w : World} {b : Nat} {v : Value} {e : Int} (h : Pars w b v e) (f : Int) : Pars (w.setCell ⟨b, 1, none⟩ (.int .i64 f)) b v f := heap_setCell_same w b 1 _ _ (.int .i64 f) h
theorem Pars.lt {w : World} {b : Nat} {v : Value} {e : Int} (h : Pars w b v e) : b < w.heap.size := by
  rcases Nat.lt_or_ge b w.heap.size with hb | hb
  · exact hb
  · unfold Pars at h
    rw [Array.getElem?_eq_none hb] at h; cases h
theorem Pars.drewN {w : World} {b : Nat} {v : Value} {e : Int} (h : Pars w b v e) (n : Nat) : Pars (w.drewN n) b v e := h
theorem Pars.below {w w' : World} {b : Nat} {v : Value} {e : Int} (h : Pars w b v e) (hb : Below w.heap.size w w') : Pars w' b v e := (hb.block b h.lt).trans h
set_option maxHeartbeats 1000000 in
set_option maxRecDepth 100000 in
theorem left_any (b : Nat) (a : Option Addr) (m cap : Nat) (e : Int) (w : World) (h : Pars w b (.slice a m cap) e) :
    Calls Tryd.prog 10 #[.pointer (some ⟨b, 0, none⟩)] w fun r w' => r = .returned (.int .i64 m) ∧ w' = w := by
  have c0 := h.cell0
  clear h
  go_enter Tryd.func10, Tryd.ntmps10
  go_wp2
  go_ret
  exact ⟨rfl, rfl⟩
set_option maxHeartbeats 1000000 in
set_option maxRecDepth 100000 in
theorem stop_more (b : Nat) (w : World) :
    Calls Tryd.prog 21 #[.pointer (some ⟨b, 0, none⟩), .int .i64 (-1)] w fun r w' => r = .returned (.int .i64 0) ∧ w' = w := by
  go_enter Tryd.func21, Tryd.ntmps21
  go_wp2
  go_ret
  exact ⟨rfl, rfl⟩
set_option maxHeartbeats 1000000 in
set_option maxRecDepth 100000 in
theorem stop_bad (b : Nat) (v : Value) (f e : Int) (w : World) (h : Pars w b v f) (he : ¬ e = -1) :
    Calls Tryd.prog 21 #[.pointer (some ⟨b, 0, none⟩), .int .i64 e] w fun r w' => r = .returned (.int .i64 e) ∧ w' = (w.setCell ⟨b, 0, none⟩ (.slice none 0 0)).setCell ⟨b, 1, none⟩ (.int .i64 e) := by
  have c0 := h.cell0
  have c1 := h.cell1
  have f0 := h.froz 0
  have f1 := h.froz 1
  have hne : (e == -1) = false := beq_eq_false_iff_ne.2 he
  clear h he
  go_enter Tryd.func21, Tryd.ntmps21
  go_wp2
  go_ret
  exact ⟨rfl, rfl⟩
theorem stop_any (b : Nat) (v : Value) (f e : Int) (w : World) (h : Pars w b v f) (he : ¬ e = -1) :
    Calls Tryd.prog 21 #[.pointer (some ⟨b, 0, none⟩), .int .i64 e] w fun r w' => r = .returned (.int .i64 e) ∧ Pars w' b (.slice none 0 0) e ∧ Only b w w' := by
  refine (stop_bad b v f e w h he).mono ?_
  rintro r w' ⟨rfl, rfl⟩
  exact ⟨rfl, (h.set0 _).set1 e, ((Only.refl b w).setCell 0 _).setCell 1 _⟩
set_option maxHeartbeats 1000000 in
set_option maxRecDepth 100000 in
theorem new_any (w : World) :
    Calls Tryd.prog 4 #[] w fun r w' => r = .returned (.pointer (some ⟨w.heap.size, 0, none⟩)) ∧ w' = w.alloc (.cells #[.slice none 0 0, .int .i64 0] 36) := by
  go_enter Tryd.func4, Tryd.ntmps4
  go_wp2
  go_ret
  exact ⟨rfl, rfl⟩
/-- where the rest of a slice begins -/
def restAt (a : Option Addr) (cap k : Nat) : Option Addr := if cap = k then a else a.map (·.add k)
set_option maxHeartbeats 2000000 in
set_option maxRecDepth 100000 in
theorem keep_some (b : Nat) (a : Addr) (m cap n c : Nat) (q : Option Addr) (f : Int) (w : World) (h : Pars w b (.slice (some a) m cap) f) (hn : n ≤ m) (hc : m ≤ cap) (hm : cap ≤ 9223372036854775807) :
    Calls Tryd.prog 14 #[.pointer (some ⟨b, 0, none⟩), .slice q n c] w fun r w' => r = .returned (.tuple #[]) ∧ Hid (Pars w' b (.slice (restAt (some a) cap (m - n)) n (cap - (m - n))) f ∧ Only b w w') := by
  have c0 := h.cell0
  have f0 := h.froz 0
  have HP := hid h
  clear h
  go_enter Tryd.func14, Tryd.ntmps14
  go_wp2
  go_region
  all_goals go_wp2
  all_goals go_end0
  all_goals
    first
    | (have hv : (.slice (some (a.add (m - n))) (m - (m - n)) (cap - (m - n)) : Value) = .slice (restAt (some a) cap (m - n)) n (cap - (m - n)) := by
        rw [show m - (m - n) = n by omega, restAt, if_neg (by assumption)]; rfl
       rw [hv]
       exact ⟨rfl, (HP.out.set0 _).drewN 1, ((Only.refl b w).setCell 0 _).drewN 1⟩)
    | (have hv : (.slice (some a) (m - (m - n)) 0 : Value) = .slice (restAt (some a) (m - n) (m - n)) n 0 := by
        rw [show m - (m - n) = n by omega, restAt, if_pos rfl]
       rw [hv]
       exact ⟨rfl, (HP.out.set0 _).drewN 1, ((Only.refl b w).setCell 0 _).drewN 1⟩)
set_option maxHeartbeats 1000000 in
set_option maxRecDepth 100000 in
theorem keep_none (b c : Nat) (q : Option Addr) (f : Int) (w : World) (h : Pars w b (.slice none 0 0) f) :
    Calls Tryd.prog 14 #[.pointer (some ⟨b, 0, none⟩), .slice q 0 c] w fun r w' => r = .returned (.tuple #[]) ∧ Hid (Pars w' b (.slice none 0 0) f ∧ Only b w w') := by
  have c0 := h.cell0
  have f0 := h.froz 0
  have HP := hid h
  clear h
  go_enter Tryd.func14, Tryd.ntmps14
  go_wp2
  go_region
  all_goals go_wp2
  all_goals go_end0
  all_goals exact ⟨rfl, (HP.out.set0 _).drewN 1, ((Only.refl b w).setCell 0 _).drewN 1⟩

end Go.Proofs.YtjcegiponjpjiabDoor
