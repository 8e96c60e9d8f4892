/- The walk of the law SlotMakes; and how a slice of ranges that came in is read. -/
import Derived.Test.YtjjecdeacjbhaabDoorRefMake
import Derived.Test.YtjjecdeacjbhaabDoorAlive
import Derived.Deep.SlicePairs
import Derived.RowKit
import Derived.ProofKit
import Derived.OpenShut
namespace Go.Proofs.YtjjecdeacjbhaabDoor
open Go.ChangeShapes Go.WideShapes Go.ChangeAt Go.RowKit
open Slot

/-- what the law needs of a slice of ranges -/
def Comes (w : World) (a : Option Addr) (len : Nat) : Prop := ∃ l : List (Int × Int), l.length = len ∧ RowR w a l ∧ ∀ j (h : j < l.length), -9223372036854775808 ≤ l[j].1 ∧ l[j].1 ≤ 9223372036854775807 ∧ -9223372036854775808 ≤ l[j].2 ∧ l[j].2 ≤ 9223372036854775807
theorem addr_plain {w : World} {a : Addr} {v : Value} (h : w.cell? (a.add (0 * 2)) = some v) : a = ⟨a.block, a.off, none⟩ := by
  obtain ⟨b, o, s⟩ := a
  cases s with
  | none => rfl
  | some s =>
    exfalso
    have e : (⟨b, o, some s⟩ : Addr).add (0 * 2) = ⟨b, o, some s⟩ := by simp [Addr.add]
    rw [e] at h
    simp only [World.cell?, Option.isSome_some, if_true] at h
    split at h <;> simp at h
theorem open_ranges {H : Type} {enc : TypeId × Value → H} {W : World} {base : Nat} {held : Bool} {fuel : Nat} {a : Option Addr} {len cap : Nat} {x : DataW H × List MemPlace} (h : DataW.trod enc Tryd.prog W base (fun _ => true) held fuel 22 [.slice a len cap] = some x) (hlen : len ≤ 300) : Comes W a len := by
  rcases Deep.open_slice_pairs Tryd.underlying22 Tryd.underlying42 (by kernel_rfl) rfl rfl (by kernel_rfl) (by kernel_rfl) h with ⟨hcs, _⟩ | ⟨a', len', cap', m, n, V0, V1, D0, D1, P0, P1, hcs, _, hl, _, hm, _, hx⟩
  · simp at hcs
    obtain ⟨rfl, rfl, rfl⟩ := hcs
    exact ⟨[], rfl, ⟨by simp, fun h => absurd rfl h⟩, fun j h => by simp at h⟩
  · simp at hcs
    obtain ⟨rfl, rfl, rfl⟩ := hcs
    have hm' : m = cap := by simpa using hm
    have key : ∀ i, i < len → ∃ p q : Int, W.cell? (a'.add (i * 2)) = some (.int .i64 p) ∧ W.cell? (a'.add (i * 2 + 1)) = some (.int .i64 q) ∧ -9223372036854775808 ≤ p ∧ p ≤ 9223372036854775807 ∧ -9223372036854775808 ≤ q ∧ q ≤ 9223372036854775807 := fun i hi => by
      obtain ⟨h0, h1, t0, t1⟩ := hx i (by omega)
      obtain ⟨p, e0, _, w0⟩ := DataW.trod_int Tryd.underlying3 t0
      obtain ⟨q, e1, _, w1⟩ := DataW.trod_int Tryd.underlying3 t1
      simp at e0 e1
      have b0 := bounds_i64 w0
      have b1 := bounds_i64 w1
      exact ⟨p, q, by rw [h0, e0], by rw [h1, e1], by omega, by omega, by omega, by omega⟩
    let f : Nat → Int × Int := fun i => match W.cell? (a'.add (i * 2)), W.cell? (a'.add (i * 2 + 1)) with | some (.int _ p), some (.int _ q) => (p, q) | _, _ => (0, 0)
    have hf : ∀ i, i < len → W.cell? (a'.add (i * 2)) = some (.int .i64 (f i).1) ∧ W.cell? (a'.add (i * 2 + 1)) = some (.int .i64 (f i).2) ∧ -9223372036854775808 ≤ (f i).1 ∧ (f i).1 ≤ 9223372036854775807 ∧ -9223372036854775808 ≤ (f i).2 ∧ (f i).2 ≤ 9223372036854775807 := fun i hi => by
      obtain ⟨p, q, h0, h1, h2, h3, h4, h5⟩ := key i hi
      have e : f i = (p, q) := by simp only [f, h0, h1]
      rw [e]
      exact ⟨h0, h1, h2, h3, h4, h5⟩
    refine ⟨(List.range len).map f, by simp, ⟨by simp; omega, fun hne => ?_⟩, fun j hj => ?_⟩
    · have hpos : 0 < len := by
        rcases Nat.eq_zero_or_pos len with h | h
        · subst h; simp at hne
        · exact h
      have ha := addr_plain (hf 0 hpos).1
      refine ⟨a'.block, a'.off, by rw [← ha], fun j hj => ?_⟩
      have hj' : j < len := by simpa using hj
      obtain ⟨h0, h1, _⟩ := hf j hj'
      rw [ha, Go.WideShapes.add_plain] at h0 h1
      simp only [List.getElem_map, List.getElem_range]
      exact ⟨h0, by rw [← Nat.add_assoc] at h1; exact h1⟩
    · have hj' : j < len := by simpa using hj
      obtain ⟨_, _, h2, h3, h4, h5⟩ := hf j hj'
      simp only [List.getElem_map, List.getElem_range]
      exact ⟨h2, h3, h4, h5⟩

theorem ranges_len {H : Type} {enc : TypeId × Value → H} {W : World} {base : Nat} {spare : Nat → Bool} {held : Bool} {fuel : Nat} {a : Option Addr} {len cap : Nat} {x : DataW H × List MemPlace} (h : DataW.trod enc Tryd.prog W base spare held fuel 22 [.slice a len cap] = some x) : len ≤ 9223372036854775807 := by
  rcases Deep.open_slice_pairs Tryd.underlying22 Tryd.underlying42 (by kernel_rfl) rfl rfl (by kernel_rfl) (by kernel_rfl) h with ⟨hcs, _⟩ | ⟨a', len', cap', m, n, V0, V1, D0, D1, P0, P1, hcs, _, hl, hmx, _⟩
  · simp at hcs
    omega
  · simp at hcs
    obtain ⟨rfl, rfl, rfl⟩ := hcs
    unfold maxLen at hmx
    omega
theorem sameB_refl (S : Nat → Bool) : sameB S S = true := (sameB_iff S S).2 fun _ _ => rfl
set_option maxHeartbeats 2000000 in
set_option maxRecDepth 100000 in
theorem slotMakes_walk (a : Option Addr) (len cap : Nat) (w : World) (hE : Env w) (hlen : len ≤ 9223372036854775807) (hrow : len ≤ 300 → Comes w a len) :
    Calls Tryd.prog 3 #[.slice a len cap] w fun e w' => e = .returned (.bool true) ∧ Below w.heap.size w w' := by
  have hz := zeroBits
  have HE := hid hE
  by_cases h300 : len ≤ 300
  · obtain ⟨l, rfl, hr, hi⟩ := hrow h300
    obtain ⟨X, e, hX⟩ := makeVal_form l
    have HM := hid (make_any a cap l w hr hi)
    rw [hX] at HM
    have HMr : Hid (∀ W, Below w.heap.size w W → Calls Tryd.prog 10 #[.slice a l.length cap] W fun e' w' => e' = .returned (.tuple #[.agg (cellsOf X), .int .i64 e]) ∧ Below W.heap.size W w') := fun W hb => by
      have := rMake_any a cap l W (hr.below hb) hi
      rwa [hX] at this
    have heq := eq_bits X X
    rw [sameB_refl] at heq
    clear hr hi hX hE hrow
    go_enter Tryd.func3, Tryd.ntmps3
    go_wp2_with fail
    refine HM.out.mono ?_; rintro e1 w1 ⟨rfl, hb1⟩
    have W1 := hid hb1
    have Z1 : Hid (Box (w1.alloc (.cells (cellsOf fun _ => false) 26)) w1.heap.size (fun _ => false)) := box_new w1 _
    clear hb1
    go_wp2_with (refine wpList_store_row rfl 26 _ _ rfl w1.heap.size (cellsOf X) rfl rfl 26 _ Z1.out (infoBits _) (sizes _ _) (oneCells _) (Hid.out ?_))
    have B2 : Hid (Box ((w1.alloc (.cells (cellsOf fun _ => false) 26)).setRow w1.heap.size (cellsOf X)) w1.heap.size X) := box_size Z1.out
    have W2 : Hid (Below w.heap.size w ((w1.alloc (.cells (cellsOf fun _ => false) 26)).setRow w1.heap.size (cellsOf X))) := below_setRow (W1.out.alloc W1.out.size _) W1.out.size _
    generalize (w1.alloc (.cells (cellsOf fun _ => false) 26)).setRow w1.heap.size (cellsOf X) = w2 at B2 W2 ⊢
    generalize w1.heap.size = b2 at B2 ⊢
    refine hid ?_
    clear Z1 W1 HM
    go_wp2_with fail
    refine (HMr.out w2 W2.out).mono ?_; rintro e1 w3 ⟨rfl, hb3⟩
    have B3 := hid (B2.out.below hb3 B2.out.lt)
    have W3 := hid (W2.out.trans (hb3.mono W2.out.size))
    have Z3 : Hid (Box (w3.alloc (.cells (cellsOf fun _ => false) 26)) w3.heap.size (fun _ => false)) := box_new w3 _
    clear hb3
    go_wp2_with (refine wpList_store_row rfl 26 _ _ rfl w3.heap.size (cellsOf X) rfl rfl 26 _ Z3.out (infoBits _) (sizes _ _) (oneCells _) (Hid.out ?_))
    have C4 : Hid (Box ((w3.alloc (.cells (cellsOf fun _ => false) 26)).setRow w3.heap.size (cellsOf X)) w3.heap.size X) := box_size Z3.out
    have B4 : Hid (Box ((w3.alloc (.cells (cellsOf fun _ => false) 26)).setRow w3.heap.size (cellsOf X)) b2 X) := by
      have h1 := B3.out.below (below_alloc w3 (.cells (cellsOf fun _ => false) 26)) B3.out.lt
      exact (setRow_other _ _ _ _ (by have := B3.out.lt; omega)).trans h1
    have W4 : Hid (Below w.heap.size w ((w3.alloc (.cells (cellsOf fun _ => false) 26)).setRow w3.heap.size (cellsOf X))) := below_setRow (W3.out.alloc W3.out.size _) W3.out.size _
    generalize (w3.alloc (.cells (cellsOf fun _ => false) 26)).setRow w3.heap.size (cellsOf X) = w4 at C4 B4 W4 ⊢
    generalize w3.heap.size = b4 at C4 ⊢
    refine hid ?_
    have HA := hid (alive_any w4 (HE.out.below W4.out HE.out.room))
    clear Z3 W3 B3 B2 W2 HMr
    go_wp2_with fail
    refine HA.out.mono ?_; rintro e1 w5 ⟨rfl, hb5⟩
    have B5 := hid (B4.out.below hb5 B4.out.lt)
    have C5 := hid (C4.out.below hb5 C4.out.lt)
    have W5 := hid (W4.out.trans (hb5.mono W4.out.size))
    clear hb5
    go_wp2_with (first | (refine wpList_load_want rfl 26 _ rfl b2 rfl 26 _ (0, 0) _ B5.out Tryd.underlying26 rfl (infoBits _) ?_) | (refine wpList_load_want rfl 26 _ rfl b4 rfl 26 _ (0, 0) _ C5.out Tryd.underlying26 rfl (infoBits _) ?_))
    go_ret
    exact ⟨ret_bool (by simp), W5.out⟩
  · have HA := hid (alive_any w hE)
    clear hE hrow
    go_enter Tryd.func3, Tryd.ntmps3
    go_wp2_with fail
    refine HA.out.mono ?_; rintro e1 w1 ⟨rfl, hb1⟩
    have W1 := hid hb1
    clear hb1
    go_wp2
    go_ret
    exact ⟨rfl, W1.out⟩

end Go.Proofs.YtjjecdeacjbhaabDoor
