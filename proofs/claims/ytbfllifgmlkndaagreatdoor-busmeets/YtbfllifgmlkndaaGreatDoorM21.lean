/- VwMem, VwRef1, VwRef2, VwRef3, VwRef4, VpMem. -/
import Derived.Test.YtbfllifgmlkndaaGreatDoorM04
import Derived.Test.YtbfllifgmlkndaaGreatDoorM18
import Derived.Test.YtbfllifgmlkndaaGreatDoorM17
import Derived.Deep.DeepCutAuto
import Derived.Test.YtbfllifgmlkndaaGreatDoorM09
namespace Go.Proofs.YtbfllifgmlkndaaGreatDoor
open Go.RowKit
open Slot

/-- the nodes: their epochs, and their slots in words, in block g -/
def Nd (w : World) (g : Nat) (E : Nat → Nat) (K : Nat → Nat → Bool) : Prop := ∃ C : Array Value, w.heap[g]? = some (.cells C 79 (0, 0)) ∧ ∀ n, n < 64 → C[n * 257]? = some (.int .u64 (E n : Int)) ∧ ∀ i, i < 256 → C[n * 257 + 1 + i]? = some (.int .u64 (word (K n) i : Int))
theorem Nd.lt {w : World} {g : Nat} {E : Nat → Nat} {K : Nat → Nat → Bool} (h : Nd w g E K) : g < w.heap.size := by
  obtain ⟨C, h1, _⟩ := h
  exact (Array.getElem?_eq_some_iff.1 h1).1
theorem Nd.turn {w w' : World} {g : Nat} {E : Nat → Nat} {K : Nat → Nat → Bool} (h : Nd w g E K) (hb : w'.heap[g]? = w.heap[g]?) : Nd w' g E K := by
  obtain ⟨C, h1, h2⟩ := h
  exact ⟨C, hb.trans h1, h2⟩
theorem Nd.below {w w' : World} {n g : Nat} {E : Nat → Nat} {K : Nat → Nat → Bool} (h : Nd w g E K) (hb : Below n w w') (hn : g < n) : Nd w' g E K := h.turn (hb.block g hn)
theorem Nd.ep {w : World} {g : Nat} {E : Nat → Nat} {K : Nat → Nat → Bool} (h : Nd w g E K) {n : Nat} (hn : n < 64) : w.cell? ⟨g, n * 257, none⟩ = some (.int .u64 (E n : Int)) := by
  obtain ⟨C, h1, h2⟩ := h
  rw [cell_of_row w g _ _ _ _ h1]
  exact (h2 n hn).1
theorem Nd.wd {w : World} {g : Nat} {E : Nat → Nat} {K : Nat → Nat → Bool} (h : Nd w g E K) {n i : Nat} (hn : n < 64) (hi : i < 256) : w.cell? ⟨g, n * 257 + 1 + i, none⟩ = some (.int .u64 (word (K n) i : Int)) := by
  obtain ⟨C, h1, h2⟩ := h
  rw [cell_of_row w g _ _ _ _ h1]
  exact (h2 n hn).2 i hi
theorem Nd.frozen {w : World} {g : Nat} {E : Nat → Nat} {K : Nat → Nat → Bool} (h : Nd w g E K) (j : Nat) : w.frozen? ⟨g, j, none⟩ = false := by
  obtain ⟨C, h1, _⟩ := h
  simp [World.frozen?, h1]
theorem Nd.congr {w : World} {g : Nat} {E F : Nat → Nat} {K L : Nat → Nat → Bool} (h : Nd w g E K) (hE : ∀ n, n < 64 → F n = E n) (hK : ∀ n i, n < 64 → i < 256 → word (L n) i = word (K n) i) : Nd w g F L := by
  obtain ⟨C, h1, h2⟩ := h
  refine ⟨C, h1, fun n hn => ⟨?_, fun i hi => ?_⟩⟩
  · rw [hE n hn]; exact (h2 n hn).1
  · rw [hK n i hn hi]; exact (h2 n hn).2 i hi

/-! words of sets -/
/-- the document's view, as a value -/
def rvc (self g cap cur : Nat) : Array Value := #[.int .i64 (self : Int), .slice (some ⟨g, 0, none⟩) 64 cap, .int .u64 (cur : Int)]
theorem rv_cells {w : World} {b self g cap cur : Nat} (h : w.heap[b]? = some (.cells (rvc self g cap cur) 34 (0, 0))) : w.cell? ⟨b, 0, none⟩ = some (.int .i64 (self : Int)) ∧ w.cell? ⟨b, 1, none⟩ = some (.slice (some ⟨g, 0, none⟩) 64 cap) ∧ w.cell? ⟨b, 2, none⟩ = some (.int .u64 (cur : Int)) :=
  ⟨cell_of_row w b 0 _ _ _ h, cell_of_row w b 1 _ _ _ h, cell_of_row w b 2 _ _ _ h⟩
/-- who owns a slot, as it is told -/
def ownI (v : Vw) (s : Int) : Int := if slotB s = true ∧ v.own s.toNat < 64 then (v.own s.toNat : Int) else -1
end Go.Proofs.YtbfllifgmlkndaaGreatDoor

namespace Go.Proofs.YtbfllifgmlkndaaGreatDoor
open Go.RowKit
open Slot

/-- a document's view in a block of its own -/
def RVb (w : World) (b self g cap cur : Nat) : Prop := w.heap[b]? = some (.cells (rvc self g cap cur) 34 (0, 0))
theorem RVb.lt {w : World} {b self g cap cur : Nat} (h : RVb w b self g cap cur) : b < w.heap.size := (Array.getElem?_eq_some_iff.1 h).1
theorem RVb.below {w w' : World} {n b self g cap cur : Nat} (h : RVb w b self g cap cur) (hb : Below n w w') (hn : b < n) : RVb w' b self g cap cur := (hb.block b hn).trans h
theorem RVb.only {w w' : World} {c b self g cap cur : Nat} (h : RVb w b self g cap cur) (hb : Only c w w') (hn : b ≠ c) : RVb w' b self g cap cur := (hb.block b h.lt hn).trans h
theorem RVb.frozen {w : World} {b self g cap cur : Nat} (h : RVb w b self g cap cur) (j : Nat) : w.frozen? ⟨b, j, none⟩ = false := by
  unfold RVb at h
  simp [World.frozen?, h]
theorem RVb.setCur {w : World} {b self g cap cur : Nat} (h : RVb w b self g cap cur) (x : Nat) : RVb (w.setCell ⟨b, 2, none⟩ (.int .u64 (x : Int))) b self g cap x := heap_setCell_same w b 2 _ _ _ h
theorem Nd.only {w w' : World} {c g : Nat} {E : Nat → Nat} {K : Nat → Nat → Bool} (h : Nd w g E K) (hb : Only c w w') (hn : g ≠ c) : Nd w' g E K := h.turn (hb.block g h.lt hn)
end Go.Proofs.YtbfllifgmlkndaaGreatDoor

namespace Go.Proofs.YtbfllifgmlkndaaGreatDoor
open Go.RowKit
open Slot

/-- what stays as it is while the nodes are written -/
structure Stys (w wr : World) (g me cap cur : Nat) (p : Pk) : Prop where
  only : Only g w wr
  rv : RVb wr w.heap.size me g cap cur
  pk : PBox wr (w.heap.size + 1) p
  res : wr.heap[w.heap.size + 2]? = some (.cells #[.int .i64 0, .slice none 0 0, .int .u64 0] 34 (0, 0))
theorem Stys.drew {w wr : World} {g self cap cur : Nat} {p : Pk} (h : Stys w wr g self cap cur p) : Stys w wr.drew g self cap cur p := ⟨h.only.drew, h.rv, h.pk, h.res⟩
theorem Stys.set {w wr : World} {g self cap cur : Nat} {p : Pk} (h : Stys w wr g self cap cur p) (hg : g < w.heap.size) (j : Nat) (y : Value) : Stys w (wr.setCell ⟨g, j, none⟩ y) g self cap cur p :=
  ⟨h.only.setCell j y, (Below.heap_setCell wr ⟨g, j, none⟩ y _ (by show w.heap.size ≠ g; omega)).trans h.rv, (Below.heap_setCell wr ⟨g, j, none⟩ y _ (by show w.heap.size + 1 ≠ g; omega)).trans h.pk, (Below.heap_setCell wr ⟨g, j, none⟩ y _ (by show w.heap.size + 2 ≠ g; omega)).trans h.res⟩
end Go.Proofs.YtbfllifgmlkndaaGreatDoor

namespace Go.Proofs.YtbfllifgmlkndaaGreatDoor
open Go.RowKit
open Slot

/-- an owner as it is kept -/
def ownZ (o : Nat) : Int := if o < 64 then (o : Int) else -1
/-- a view in block b -/
def VB (w : World) (b : Nat) (v : Vw) : Prop := ∃ C : Array Value, w.heap[b]? = some (.cells C 109 (0, 0)) ∧ C.size = 16450 ∧ C[0]? = some (.int .i64 (v.self : Int)) ∧ (∀ s, s < 16384 → C[1 + s]? = some (.int .i8 (ownZ (v.own s)))) ∧ (∀ n, n < 64 → C[16385 + n]? = some (.int .u64 (v.ep n : Int))) ∧ C[16449]? = some (.int .u64 (v.cur : Int))
theorem VB.lt {w : World} {b : Nat} {v : Vw} (h : VB w b v) : b < w.heap.size := by
  obtain ⟨C, h1, _⟩ := h
  exact (Array.getElem?_eq_some_iff.1 h1).1
theorem VB.turn {w w' : World} {b : Nat} {v : Vw} (h : VB w b v) (hb : w'.heap[b]? = w.heap[b]?) : VB w' b v := by
  obtain ⟨C, h1, h2⟩ := h
  exact ⟨C, hb.trans h1, h2⟩
theorem VB.below {w w' : World} {n b : Nat} {v : Vw} (h : VB w b v) (hb : Below n w w') (hn : b < n) : VB w' b v := h.turn (hb.block b hn)
theorem VB.self_ {w : World} {b : Nat} {v : Vw} (h : VB w b v) : w.cell? ⟨b, 0, none⟩ = some (.int .i64 (v.self : Int)) := by
  obtain ⟨C, h1, _, h2, _⟩ := h
  rw [cell_of_row w b _ _ _ _ h1]; exact h2
theorem VB.own_ {w : World} {b : Nat} {v : Vw} (h : VB w b v) {s : Nat} (hs : s < 16384) : w.cell? ⟨b, 1 + s, none⟩ = some (.int .i8 (ownZ (v.own s))) := by
  obtain ⟨C, h1, _, _, h2, _⟩ := h
  rw [cell_of_row w b _ _ _ _ h1]; exact h2 s hs
theorem VB.ep_ {w : World} {b : Nat} {v : Vw} (h : VB w b v) {n : Nat} (hn : n < 64) : w.cell? ⟨b, 16385 + n, none⟩ = some (.int .u64 (v.ep n : Int)) := by
  obtain ⟨C, h1, _, _, _, h2, _⟩ := h
  rw [cell_of_row w b _ _ _ _ h1]; exact h2 n hn
theorem VB.cur_ {w : World} {b : Nat} {v : Vw} (h : VB w b v) : w.cell? ⟨b, 16449, none⟩ = some (.int .u64 (v.cur : Int)) := by
  obtain ⟨C, h1, _, _, _, _, h2⟩ := h
  rw [cell_of_row w b _ _ _ _ h1]; exact h2
theorem VB.frozen {w : World} {b : Nat} {v : Vw} (h : VB w b v) (j : Nat) : w.frozen? ⟨b, j, none⟩ = false := by
  obtain ⟨C, h1, _⟩ := h
  simp [World.frozen?, h1]
theorem set_ne {C : Array Value} {i j : Nat} {x v : Value} (h : i ≠ j) (hv : C[j]? = some v) : (C.setIfInBounds i x)[j]? = some v := by
  rw [Array.getElem?_setIfInBounds_ne h]; exact hv
theorem set_eq {C : Array Value} {i : Nat} {x : Value} (h : i < C.size) : (C.setIfInBounds i x)[i]? = some x := Array.getElem?_setIfInBounds_self_of_lt h
theorem VB.setOwn {w : World} {b : Nat} {v : Vw} (h : VB w b v) {s n : Nat} (hs : s < 16384) : VB (w.setCell ⟨b, 1 + s, none⟩ (.int .i8 (ownZ n))) b (ownV v s n) := by
  obtain ⟨C, h1, h2, h3, h4, h5, h6⟩ := h
  refine ⟨_, heap_setCell_same w b (1 + s) C _ _ h1, by rw [Array.size_setIfInBounds]; exact h2, set_ne (by omega) h3, fun t ht => ?_, fun m hm => set_ne (by omega) (h5 m hm), set_ne (by omega) h6⟩
  show _ = some (Value.int .i8 (ownZ (if t = s then n else v.own t)))
  by_cases e : t = s
  · rw [if_pos e, e]; exact set_eq (by omega)
  · rw [if_neg e]; exact set_ne (by omega) (h4 t ht)
theorem VB.setEp {w : World} {b : Nat} {v : Vw} (h : VB w b v) {n : Nat} (hn : n < 64) (x : Nat) : VB (w.setCell ⟨b, 16385 + n, none⟩ (.int .u64 (x : Int))) b { v with ep := fun m => if m = n then x else v.ep m } := by
  obtain ⟨C, h1, h2, h3, h4, h5, h6⟩ := h
  refine ⟨_, heap_setCell_same w b (16385 + n) C _ _ h1, by rw [Array.size_setIfInBounds]; exact h2, set_ne (by omega) h3, fun t ht => set_ne (by omega) (h4 t ht), fun m hm => ?_, set_ne (by omega) h6⟩
  show _ = some (Value.int .u64 (((if m = n then x else v.ep m) : Nat) : Int))
  by_cases e : m = n
  · rw [if_pos e, e]; exact set_eq (by omega)
  · rw [if_neg e]; exact set_ne (by omega) (h5 m hm)
theorem VB.setCur {w : World} {b : Nat} {v : Vw} (h : VB w b v) (x : Nat) : VB (w.setCell ⟨b, 16449, none⟩ (.int .u64 (x : Int))) b { v with cur := x } := by
  obtain ⟨C, h1, h2, h3, h4, h5, h6⟩ := h
  exact ⟨_, heap_setCell_same w b 16449 C _ _ h1, by rw [Array.size_setIfInBounds]; exact h2, set_ne (by omega) h3, fun t ht => set_ne (by omega) (h4 t ht), fun m hm => set_ne (by omega) (h5 m hm), set_eq (by omega)⟩
theorem ownZ_lt (o : Nat) : -1 ≤ ownZ o ∧ ownZ o < 64 := by unfold ownZ; split <;> omega
theorem ownI_in (v : Vw) {s : Nat} (h : s < 16384) : ownI v s = ownZ (v.own s) := by
  unfold ownI slotB ownZ
  rw [decide_eq_true (show (0 : Int) ≤ (s : Int) ∧ (s : Int) < 16384 by omega), Int.toNat_natCast]
  simp
theorem ownI_out (v : Vw) {s : Int} (h : slotB s = false) : ownI v s = -1 := by unfold ownI; rw [h]; simp

set_option maxHeartbeats 1000000 in
theorem isslot_any (n : Int) (w : World) : Calls Tryz.prog 52 #[.int .i64 n] w fun e w' => e = .returned (.bool (slotB n)) ∧ w' = w := by
  have HB : Hid (∀ c, slotB n = c → slotB n = c) := fun _ h => h
  by_cases h0 : 0 ≤ n
  · by_cases h1 : n < 16384
    · have HR : Hid (slotB n = true) := decide_eq_true ⟨h0, h1⟩
      go_enter Tryz.func52, Tryz.ntmps52
      go_wp2
      go_ret
      exact ⟨by rw [HR.out]; rfl, rfl⟩
    · have HR : Hid (slotB n = false) := decide_eq_false (fun c => h1 c.2)
      go_enter Tryz.func52, Tryz.ntmps52
      go_wp2
      go_ret
      exact ⟨by rw [HR.out]; rfl, rfl⟩
  · have HR : Hid (slotB n = false) := decide_eq_false (fun c => h0 c.1)
    go_enter Tryz.func52, Tryz.ntmps52
    go_wp2
    go_ret
    exact ⟨by rw [HR.out]; rfl, rfl⟩
set_option maxHeartbeats 1000000 in
theorem isnode_any (n : Int) (w : World) : Calls Tryz.prog 45 #[.int .i64 n] w fun e w' => e = .returned (.bool (nodeB n)) ∧ w' = w := by
  by_cases h0 : 0 ≤ n
  · by_cases h1 : n < 64
    · have HR : Hid (nodeB n = true) := decide_eq_true ⟨h0, h1⟩
      go_enter Tryz.func45, Tryz.ntmps45
      go_wp2
      go_ret
      exact ⟨by rw [HR.out]; rfl, rfl⟩
    · have HR : Hid (nodeB n = false) := decide_eq_false (fun c => h1 c.2)
      go_enter Tryz.func45, Tryz.ntmps45
      go_wp2
      go_ret
      exact ⟨by rw [HR.out]; rfl, rfl⟩
  · have HR : Hid (nodeB n = false) := decide_eq_false (fun c => h0 c.1)
    go_enter Tryz.func45, Tryz.ntmps45
    go_wp2
    go_ret
    exact ⟨by rw [HR.out]; rfl, rfl⟩
set_option maxHeartbeats 1000000 in
/-- Owner -/
theorem owner_any (b : Nat) (v : Vw) (s : Int) (w : World) (hV : VB w b v) : Calls Tryz.prog 27 #[.pointer (some ⟨b, 0, none⟩), .int .i64 s] w fun e w' => e = .returned (.int .i64 (ownI v s)) ∧ w' = w := by
  have HS := hid (isslot_any s w)
  cases hs : slotB s with
  | false =>
    have HR := hid (ownI_out v hs)
    go_enter Tryz.func27, Tryz.ntmps27
    go_wp2_with fail
    refine HS.out.mono ?_; rintro e w' ⟨rfl, rfl⟩
    rw [hs]
    go_wp2
    go_ret
    exact ⟨by rw [HR.out]; rfl, rfl⟩
  | true =>
    have h := of_decide_eq_true hs
    obtain ⟨k, rfl⟩ := Int.eq_ofNat_of_zero_le h.1
    have hk : k < 16384 := by omega
    have HR : Hid (ownI v (k : Int) = ownZ (v.own k)) := ownI_in v hk
    have hc := hV.own_ hk
    obtain ⟨z0, z1⟩ := ownZ_lt (v.own k)
    have hkz : (k : Int) < 16384 := by omega
    have hw : IntKind.i64.wrap (ownZ (v.own k)) = ownZ (v.own k) := by rw [IntKind.wrap_i64]; omega
    generalize ownZ (v.own k) = z at *
    clear h
    go_enter Tryz.func27, Tryz.ntmps27
    go_wp2_with fail
    refine HS.out.mono ?_; rintro e w' ⟨rfl, rfl⟩
    rw [hs]
    go_wp2
    go_ret
    exact ⟨by rw [HR.out]; rfl, rfl⟩
/-- an epoch, as it is told -/
def epI (v : Vw) (n : Int) : Nat := if nodeB n = true then v.ep n.toNat else 0
theorem epI_in (v : Vw) {n : Nat} (h : n < 64) : epI v n = v.ep n := by
  unfold epI nodeB
  rw [if_pos (decide_eq_true (by omega)), Int.toNat_natCast]
theorem epI_out (v : Vw) {n : Int} (h : nodeB n = false) : epI v n = 0 := by unfold epI; rw [h]; simp
set_option maxHeartbeats 1000000 in
/-- Epoch -/
theorem epoch_any (b : Nat) (v : Vw) (n : Int) (w : World) (hV : VB w b v) : Calls Tryz.prog 19 #[.pointer (some ⟨b, 0, none⟩), .int .i64 n] w fun e w' => e = .returned (.int .u64 (epI v n : Int)) ∧ w' = w := by
  have HS := hid (isnode_any n w)
  cases hs : nodeB n with
  | false =>
    have HR := hid (epI_out v hs)
    go_enter Tryz.func19, Tryz.ntmps19
    go_wp2_with fail
    refine HS.out.mono ?_; rintro e w' ⟨rfl, rfl⟩
    rw [hs]
    go_wp2
    go_ret
    exact ⟨by rw [HR.out]; rfl, rfl⟩
  | true =>
    have h := of_decide_eq_true hs
    obtain ⟨k, rfl⟩ := Int.eq_ofNat_of_zero_le h.1
    have hk : k < 64 := by omega
    have HR : Hid (epI v (k : Int) = v.ep k) := epI_in v hk
    have hc := hV.ep_ hk
    have hkz : (k : Int) < 64 := by omega
    generalize v.ep k = z at *
    clear h
    go_enter Tryz.func19, Tryz.ntmps19
    go_wp2_with fail
    refine HS.out.mono ?_; rintro e w' ⟨rfl, rfl⟩
    rw [hs]
    go_wp2
    go_ret
    exact ⟨by rw [HR.out]; rfl, rfl⟩
set_option maxHeartbeats 1000000 in
theorem self_any (b : Nat) (v : Vw) (w : World) (hV : VB w b v) : Calls Tryz.prog 35 #[.pointer (some ⟨b, 0, none⟩)] w fun e w' => e = .returned (.int .i64 (v.self : Int)) ∧ w' = w := by
  have hc := hV.self_
  go_enter Tryz.func35, Tryz.ntmps35
  go_wp2
  go_ret
  exact ⟨rfl, rfl⟩

end Go.Proofs.YtbfllifgmlkndaaGreatDoor
