/- VpMem, VwRight. -/
import Derived.Test.YtdicjnkbmlamgabM09
import Derived.Test.YtdicjnkbmlamgabM06
namespace Go.Proofs.Ytdicjnkbmlamgab
open Go.RowKit
open Slot

/-- an owner as it is kept -/
def ownZ (o : Nat) : Int := if o < 64 then (o : Int) else -1
/-- a view in block b -/
def VB (w : World) (b : Nat) (v : Vw) : Prop := ∃ C : Array Value, w.heap[b]? = some (.cells C 68 (0, 0)) ∧ C.size = 16450 ∧ C[0]? = some (.int .i64 (v.self : Int)) ∧ (∀ s, s < 16384 → C[1 + s]? = some (.int .i8 (ownZ (v.own s)))) ∧ (∀ n, n < 64 → C[16385 + n]? = some (.int .u64 (v.ep n : Int))) ∧ C[16449]? = some (.int .u64 (v.cur : Int))
theorem VB.lt {w : World} {b : Nat} {v : Vw} (h : VB w b v) : b < w.heap.size := by
  obtain ⟨C, h1, _⟩ := h
  exact (Array.getElem?_eq_some_iff.1 h1).1
theorem VB.turn {w w' : World} {b : Nat} {v : Vw} (h : VB w b v) (hb : w'.heap[b]? = w.heap[b]?) : VB w' b v := by
  obtain ⟨C, h1, h2⟩ := h
  exact ⟨C, hb.trans h1, h2⟩
theorem VB.below {w w' : World} {n b : Nat} {v : Vw} (h : VB w b v) (hb : Below n w w') (hn : b < n) : VB w' b v := h.turn (hb.block b hn)
theorem VB.self_ {w : World} {b : Nat} {v : Vw} (h : VB w b v) : w.cell? ⟨b, 0, none⟩ = some (.int .i64 (v.self : Int)) := by
  obtain ⟨C, h1, _, h2, _⟩ := h
  rw [cell_of_row w b _ _ _ _ h1]; exact h2
theorem VB.own_ {w : World} {b : Nat} {v : Vw} (h : VB w b v) {s : Nat} (hs : s < 16384) : w.cell? ⟨b, 1 + s, none⟩ = some (.int .i8 (ownZ (v.own s))) := by
  obtain ⟨C, h1, _, _, h2, _⟩ := h
  rw [cell_of_row w b _ _ _ _ h1]; exact h2 s hs
theorem VB.ep_ {w : World} {b : Nat} {v : Vw} (h : VB w b v) {n : Nat} (hn : n < 64) : w.cell? ⟨b, 16385 + n, none⟩ = some (.int .u64 (v.ep n : Int)) := by
  obtain ⟨C, h1, _, _, _, h2, _⟩ := h
  rw [cell_of_row w b _ _ _ _ h1]; exact h2 n hn
theorem VB.cur_ {w : World} {b : Nat} {v : Vw} (h : VB w b v) : w.cell? ⟨b, 16449, none⟩ = some (.int .u64 (v.cur : Int)) := by
  obtain ⟨C, h1, _, _, _, _, h2⟩ := h
  rw [cell_of_row w b _ _ _ _ h1]; exact h2
theorem VB.frozen {w : World} {b : Nat} {v : Vw} (h : VB w b v) (j : Nat) : w.frozen? ⟨b, j, none⟩ = false := by
  obtain ⟨C, h1, _⟩ := h
  simp [World.frozen?, h1]
theorem set_ne {C : Array Value} {i j : Nat} {x v : Value} (h : i ≠ j) (hv : C[j]? = some v) : (C.setIfInBounds i x)[j]? = some v := by
  rw [Array.getElem?_setIfInBounds_ne h]; exact hv
theorem set_eq {C : Array Value} {i : Nat} {x : Value} (h : i < C.size) : (C.setIfInBounds i x)[i]? = some x := Array.getElem?_setIfInBounds_self_of_lt h
theorem VB.setOwn {w : World} {b : Nat} {v : Vw} (h : VB w b v) {s n : Nat} (hs : s < 16384) : VB (w.setCell ⟨b, 1 + s, none⟩ (.int .i8 (ownZ n))) b (ownV v s n) := by
  obtain ⟨C, h1, h2, h3, h4, h5, h6⟩ := h
  refine ⟨_, heap_setCell_same w b (1 + s) C _ _ h1, by rw [Array.size_setIfInBounds]; exact h2, set_ne (by omega) h3, fun t ht => ?_, fun m hm => set_ne (by omega) (h5 m hm), set_ne (by omega) h6⟩
  show _ = some (Value.int .i8 (ownZ (if t = s then n else v.own t)))
  by_cases e : t = s
  · rw [if_pos e, e]; exact set_eq (by omega)
  · rw [if_neg e]; exact set_ne (by omega) (h4 t ht)
theorem VB.setEp {w : World} {b : Nat} {v : Vw} (h : VB w b v) {n : Nat} (hn : n < 64) (x : Nat) : VB (w.setCell ⟨b, 16385 + n, none⟩ (.int .u64 (x : Int))) b { v with ep := fun m => if m = n then x else v.ep m } := by
  obtain ⟨C, h1, h2, h3, h4, h5, h6⟩ := h
  refine ⟨_, heap_setCell_same w b (16385 + n) C _ _ h1, by rw [Array.size_setIfInBounds]; exact h2, set_ne (by omega) h3, fun t ht => set_ne (by omega) (h4 t ht), fun m hm => ?_, set_ne (by omega) h6⟩
  show _ = some (Value.int .u64 (((if m = n then x else v.ep m) : Nat) : Int))
  by_cases e : m = n
  · rw [if_pos e, e]; exact set_eq (by omega)
  · rw [if_neg e]; exact set_ne (by omega) (h5 m hm)
theorem VB.setCur {w : World} {b : Nat} {v : Vw} (h : VB w b v) (x : Nat) : VB (w.setCell ⟨b, 16449, none⟩ (.int .u64 (x : Int))) b { v with cur := x } := by
  obtain ⟨C, h1, h2, h3, h4, h5, h6⟩ := h
  exact ⟨_, heap_setCell_same w b 16449 C _ _ h1, by rw [Array.size_setIfInBounds]; exact h2, set_ne (by omega) h3, fun t ht => set_ne (by omega) (h4 t ht), fun m hm => set_ne (by omega) (h5 m hm), set_eq (by omega)⟩
theorem ownZ_lt (o : Nat) : -1 ≤ ownZ o ∧ ownZ o < 64 := by unfold ownZ; split <;> omega
theorem ownI_in (v : Vw) {s : Nat} (h : s < 16384) : ownI v s = ownZ (v.own s) := by
  unfold ownI slotB ownZ
  rw [decide_eq_true (show (0 : Int) ≤ (s : Int) ∧ (s : Int) < 16384 by omega), Int.toNat_natCast]
  simp
theorem ownI_out (v : Vw) {s : Int} (h : slotB s = false) : ownI v s = -1 := by unfold ownI; rw [h]; simp

set_option maxHeartbeats 1000000 in
theorem isslot_any (n : Int) (w : World) : Calls Try.prog 33 #[.int .i64 n] w fun e w' => e = .returned (.bool (slotB n)) ∧ w' = w := by
  have HB : Hid (∀ c, slotB n = c → slotB n = c) := fun _ h => h
  by_cases h0 : 0 ≤ n
  · by_cases h1 : n < 16384
    · have HR : Hid (slotB n = true) := decide_eq_true ⟨h0, h1⟩
      go_enter Try.func33, Try.ntmps33
      go_wp2
      go_ret
      exact ⟨by rw [HR.out]; rfl, rfl⟩
    · have HR : Hid (slotB n = false) := decide_eq_false (fun c => h1 c.2)
      go_enter Try.func33, Try.ntmps33
      go_wp2
      go_ret
      exact ⟨by rw [HR.out]; rfl, rfl⟩
  · have HR : Hid (slotB n = false) := decide_eq_false (fun c => h0 c.1)
    go_enter Try.func33, Try.ntmps33
    go_wp2
    go_ret
    exact ⟨by rw [HR.out]; rfl, rfl⟩
set_option maxHeartbeats 1000000 in
theorem isnode_any (n : Int) (w : World) : Calls Try.prog 25 #[.int .i64 n] w fun e w' => e = .returned (.bool (nodeB n)) ∧ w' = w := by
  by_cases h0 : 0 ≤ n
  · by_cases h1 : n < 64
    · have HR : Hid (nodeB n = true) := decide_eq_true ⟨h0, h1⟩
      go_enter Try.func25, Try.ntmps25
      go_wp2
      go_ret
      exact ⟨by rw [HR.out]; rfl, rfl⟩
    · have HR : Hid (nodeB n = false) := decide_eq_false (fun c => h1 c.2)
      go_enter Try.func25, Try.ntmps25
      go_wp2
      go_ret
      exact ⟨by rw [HR.out]; rfl, rfl⟩
  · have HR : Hid (nodeB n = false) := decide_eq_false (fun c => h0 c.1)
    go_enter Try.func25, Try.ntmps25
    go_wp2
    go_ret
    exact ⟨by rw [HR.out]; rfl, rfl⟩
set_option maxHeartbeats 1000000 in
/-- Owner -/
theorem owner_any (b : Nat) (v : Vw) (s : Int) (w : World) (hV : VB w b v) : Calls Try.prog 19 #[.pointer (some ⟨b, 0, none⟩), .int .i64 s] w fun e w' => e = .returned (.int .i64 (ownI v s)) ∧ w' = w := by
  have HS := hid (isslot_any s w)
  cases hs : slotB s with
  | false =>
    have HR := hid (ownI_out v hs)
    go_enter Try.func19, Try.ntmps19
    go_wp2_with fail
    refine HS.out.mono ?_; rintro e w' ⟨rfl, rfl⟩
    rw [hs]
    go_wp2
    go_ret
    exact ⟨by rw [HR.out]; rfl, rfl⟩
  | true =>
    have h := of_decide_eq_true hs
    obtain ⟨k, rfl⟩ := Int.eq_ofNat_of_zero_le h.1
    have hk : k < 16384 := by omega
    have HR : Hid (ownI v (k : Int) = ownZ (v.own k)) := ownI_in v hk
    have hc := hV.own_ hk
    obtain ⟨z0, z1⟩ := ownZ_lt (v.own k)
    have hkz : (k : Int) < 16384 := by omega
    have hw : IntKind.i64.wrap (ownZ (v.own k)) = ownZ (v.own k) := by rw [IntKind.wrap_i64]; omega
    generalize ownZ (v.own k) = z at *
    clear h
    go_enter Try.func19, Try.ntmps19
    go_wp2_with fail
    refine HS.out.mono ?_; rintro e w' ⟨rfl, rfl⟩
    rw [hs]
    go_wp2
    go_ret
    exact ⟨by rw [HR.out]; rfl, rfl⟩
/-- an epoch, as it is told -/
def epI (v : Vw) (n : Int) : Nat := if nodeB n = true then v.ep n.toNat else 0
theorem epI_in (v : Vw) {n : Nat} (h : n < 64) : epI v n = v.ep n := by
  unfold epI nodeB
  rw [if_pos (decide_eq_true (by omega)), Int.toNat_natCast]
theorem epI_out (v : Vw) {n : Int} (h : nodeB n = false) : epI v n = 0 := by unfold epI; rw [h]; simp
set_option maxHeartbeats 1000000 in
/-- Epoch -/
theorem epoch_any (b : Nat) (v : Vw) (n : Int) (w : World) (hV : VB w b v) : Calls Try.prog 9 #[.pointer (some ⟨b, 0, none⟩), .int .i64 n] w fun e w' => e = .returned (.int .u64 (epI v n : Int)) ∧ w' = w := by
  have HS := hid (isnode_any n w)
  cases hs : nodeB n with
  | false =>
    have HR := hid (epI_out v hs)
    go_enter Try.func9, Try.ntmps9
    go_wp2_with fail
    refine HS.out.mono ?_; rintro e w' ⟨rfl, rfl⟩
    rw [hs]
    go_wp2
    go_ret
    exact ⟨by rw [HR.out]; rfl, rfl⟩
  | true =>
    have h := of_decide_eq_true hs
    obtain ⟨k, rfl⟩ := Int.eq_ofNat_of_zero_le h.1
    have hk : k < 64 := by omega
    have HR : Hid (epI v (k : Int) = v.ep k) := epI_in v hk
    have hc := hV.ep_ hk
    have hkz : (k : Int) < 64 := by omega
    generalize v.ep k = z at *
    clear h
    go_enter Try.func9, Try.ntmps9
    go_wp2_with fail
    refine HS.out.mono ?_; rintro e w' ⟨rfl, rfl⟩
    rw [hs]
    go_wp2
    go_ret
    exact ⟨by rw [HR.out]; rfl, rfl⟩
set_option maxHeartbeats 1000000 in
theorem current_any (b : Nat) (v : Vw) (w : World) (hV : VB w b v) : Calls Try.prog 12 #[.pointer (some ⟨b, 0, none⟩)] w fun e w' => e = .returned (.int .u64 (v.cur : Int)) ∧ w' = w := by
  have hc := hV.cur_
  go_enter Try.func12, Try.ntmps12
  go_wp2
  go_ret
  exact ⟨rfl, rfl⟩
end Go.Proofs.Ytdicjnkbmlamgab

namespace Go.Proofs.Ytdicjnkbmlamgab
open Go.RowKit
open Slot

set_option maxHeartbeats 2000000 in
theorem rright_core (k f o : Int) (ep cu : Nat) (S : Nat → Bool) (w : World) : Calls Try.prog 40 #[.agg (pkCells ⟨k, f, o, ep, cu, S⟩)] w fun e w' => e = .returned (.bool (rightP ⟨k, f, o, ep, cu, S⟩)) ∧ Below w.heap.size w w' := by
  have HP := hid (pbox_new w ⟨k, f, o, ep, cu, S⟩)
  have HW := hid (below_alloc w (.cells (pkCells ⟨k, f, o, ep, cu, S⟩) 29))
  obtain ⟨c0, c1, c2, c3, c4⟩ := HP.out.cells
  dsimp only at c0 c1 c2 c3 c4
  have HF : Hid (rightP ⟨k, f, o, ep, cu, S⟩ = decide ((k = 1 ∨ k = 2 ∨ k = 3 ∨ k = 4) ∧ (0 ≤ f ∧ f < 64) ∧ (0 ≤ o ∧ o < 64) ∧ (k = 3 ∨ o = 0) ∧ ep ≤ cu)) := rfl
  generalize rightP ⟨k, f, o, ep, cu, S⟩ = R at HF ⊢
  generalize pkCells ⟨k, f, o, ep, cu, S⟩ = PC at *
  by_cases h1 : k < 1
  · obtain rfl : R = false := by rw [HF.out]; exact decide_eq_false (by omega)
    go_enter Try.func40, Try.ntmps40
    go_wp2
    go_ret
    exact ⟨rfl, HW.out⟩
  by_cases h2 : 4 < k
  · obtain rfl : R = false := by rw [HF.out]; exact decide_eq_false (by omega)
    go_enter Try.func40, Try.ntmps40
    go_wp2
    go_ret
    exact ⟨rfl, HW.out⟩
  by_cases h3 : f < 0
  · obtain rfl : R = false := by rw [HF.out]; exact decide_eq_false (by omega)
    go_enter Try.func40, Try.ntmps40
    go_wp2
    go_ret
    exact ⟨rfl, HW.out⟩
  by_cases h4 : 63 < f
  · obtain rfl : R = false := by rw [HF.out]; exact decide_eq_false (by omega)
    go_enter Try.func40, Try.ntmps40
    go_wp2
    go_ret
    exact ⟨rfl, HW.out⟩
  by_cases h5 : (cu : Int) < (ep : Int)
  · obtain rfl : R = false := by rw [HF.out]; exact decide_eq_false (by omega)
    go_enter Try.func40, Try.ntmps40
    go_wp2
    go_ret
    exact ⟨rfl, HW.out⟩
  by_cases h6 : k = 3
  · subst h6
    by_cases h7 : 0 ≤ o
    · by_cases h8 : o ≤ 63
      · obtain rfl : R = true := by rw [HF.out]; exact decide_eq_true (by omega)
        go_enter Try.func40, Try.ntmps40
        go_wp2
        go_ret
        exact ⟨rfl, HW.out⟩
      · obtain rfl : R = false := by rw [HF.out]; exact decide_eq_false (by omega)
        go_enter Try.func40, Try.ntmps40
        go_wp2
        go_ret
        exact ⟨rfl, HW.out⟩
    · obtain rfl : R = false := by rw [HF.out]; exact decide_eq_false (by omega)
      go_enter Try.func40, Try.ntmps40
      go_wp2
      go_ret
      exact ⟨rfl, HW.out⟩
  · by_cases h7 : o = 0
    · obtain rfl : R = true := by rw [HF.out]; exact decide_eq_true (by omega)
      subst h7
      go_enter Try.func40, Try.ntmps40
      go_wp2
      go_ret
      exact ⟨rfl, HW.out⟩
    · obtain rfl : R = false := by rw [HF.out]; exact decide_eq_false (by omega)
      have h7' : (o == 0) = false := by simpa using h7
      go_enter Try.func40, Try.ntmps40
      go_wp2
      go_ret
      exact ⟨rfl, HW.out⟩
/-- the document's Right -/
theorem rright_any (p : Pk) (w : World) : Calls Try.prog 40 #[.agg (pkCells p)] w fun e w' => e = .returned (.bool (rightP p)) ∧ Below w.heap.size w w' :=
  rright_core p.kind p.frm p.of_ p.epoch p.cur p.cl w


end Go.Proofs.Ytdicjnkbmlamgab
