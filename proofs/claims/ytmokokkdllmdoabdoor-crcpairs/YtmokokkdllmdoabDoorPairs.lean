/- Two texts of two bytes: the walk of the law CrcPairs. -/
import Derived.Test.YtmokokkdllmdoabDoorOwn
import Derived.Test.YtmokokkdllmdoabDoorBurst
import Derived.Deep.RegionWith
import Derived.RegionTactic
import Derived.ChangeAlike
namespace Go.Proofs.YtmokokkdllmdoabDoor
open Go.RowKit
open Crc

theorem byte_bit (x : BitVec 8) (h : x ≠ 0#8) : ∃ i, i < 8 ∧ x.getLsbD (7 - i) = true := by
  by_cases hx : ∃ i, i < 8 ∧ x.getLsbD (7 - i) = true
  · exact hx
  · exfalso
    apply h
    apply BitVec.eq_of_getLsbD_eq
    intro i hi
    cases e : x.getLsbD i
    · simp
    · exact absurd ⟨7 - i, by omega, by rw [show 7 - (7 - i) = i by omega]; exact e⟩ hx
theorem pair_zero (x y : BitVec 8) (h : more 0#16 [x, y] = 0#16) : x = 0#8 ∧ y = 0#8 := by
  have key : ¬ ∃ j, j < 8 * [x, y].length ∧ bitAt [x, y] j = true := fun hex => by
    refine burst [x, y] 0 (bitAt [x, y]) (fun _ _ => rfl) (fun j hj => by omega) (fun j hj => ?_) hex h
    unfold bitAt
    have : 2 ≤ j / 8 := by omega
    simp [List.getD, List.getElem?_eq_none (show [x, y].length ≤ j / 8 from this)]
  constructor
  · by_cases hx : x = 0#8
    · exact hx
    · obtain ⟨i, hi, hb⟩ := byte_bit x hx
      exact absurd ⟨i, by simp; omega, by unfold bitAt; rw [show i / 8 = 0 by omega, show i % 8 = i by omega]; exact hb⟩ key
  · by_cases hx : y = 0#8
    · exact hx
    · obtain ⟨i, hi, hb⟩ := byte_bit y hx
      exact absurd ⟨8 + i, by simp; omega, by unfold bitAt; rw [show (8 + i) / 8 = 1 by omega, show (8 + i) % 8 = i by omega]; exact hb⟩ key
theorem pair_eq (x0 x1 y0 y1 : BitVec 8) (h : more 0#16 [x0, x1] = more 0#16 [y0, y1]) : x0 = y0 ∧ x1 = y1 := by
  have hx := more_xor [x0, x1] [y0, y1] rfl 0#16 0#16
  rw [h, show (0#16 ^^^ 0#16) = 0#16 by decide, BitVec.xor_self] at hx
  obtain ⟨h0, h1⟩ := pair_zero _ _ hx
  exact ⟨BitVec.xor_eq_zero_iff.1 h0, BitVec.xor_eq_zero_iff.1 h1⟩

theorem Tab.drew {w : World} (h : Tab w) : Tab w.drew := h
theorem undrew {w w1 : World} (h : Below w.drew.heap.size w.drew w1) : Below w.heap.size w w1 := ⟨h.os, h.tape, h.output, h.size, h.block⟩

/-- the two boxes: two rows of two bytes each, whatever has come since -/
theorem boxes (x0 x1 y0 y1 : BitVec 8) (w : World) (W : World)
    (hb : Below ((w.alloc (.cells #[.int .u8 (x0.toNat : Int), .int .u8 (x1.toNat : Int)] 27)).alloc (.cells #[.int .u8 (y0.toNat : Int), .int .u8 (y1.toNat : Int)] 27)).heap.size ((w.alloc (.cells #[.int .u8 (x0.toNat : Int), .int .u8 (x1.toNat : Int)] 27)).alloc (.cells #[.int .u8 (y0.toNat : Int), .int .u8 (y1.toNat : Int)] 27)) W) :
    W.cell? ⟨w.heap.size, 0, none⟩ = some (.int .u8 (x0.toNat : Int)) ∧ W.cell? ⟨w.heap.size, 1, none⟩ = some (.int .u8 (x1.toNat : Int)) ∧ W.cell? ⟨w.heap.size + 1, 0, none⟩ = some (.int .u8 (y0.toNat : Int)) ∧ W.cell? ⟨w.heap.size + 1, 1, none⟩ = some (.int .u8 (y1.toNat : Int)) ∧
      Row W (some ⟨w.heap.size, 0, none⟩) [x0, x1] ∧ Row W (some ⟨w.heap.size + 1, 0, none⟩) [y0, y1] ∧ Below w.heap.size w W := by
  have s1 : w.heap.size < ((w.alloc (.cells #[.int .u8 (x0.toNat : Int), .int .u8 (x1.toNat : Int)] 27)).alloc (.cells #[.int .u8 (y0.toNat : Int), .int .u8 (y1.toNat : Int)] 27)).heap.size := by simp; omega
  have s2 : w.heap.size + 1 < ((w.alloc (.cells #[.int .u8 (x0.toNat : Int), .int .u8 (x1.toNat : Int)] 27)).alloc (.cells #[.int .u8 (y0.toNat : Int), .int .u8 (y1.toNat : Int)] 27)).heap.size := by simp
  have c0 : W.cell? ⟨w.heap.size, 0, none⟩ = some (.int .u8 (x0.toNat : Int)) := by rw [hb.cell (p := ⟨w.heap.size, 0, none⟩) s1]; simp
  have c1 : W.cell? ⟨w.heap.size, 1, none⟩ = some (.int .u8 (x1.toNat : Int)) := by rw [hb.cell (p := ⟨w.heap.size, 1, none⟩) s1]; simp
  have c2 : W.cell? ⟨w.heap.size + 1, 0, none⟩ = some (.int .u8 (y0.toNat : Int)) := by rw [hb.cell (p := ⟨w.heap.size + 1, 0, none⟩) s2]; simp
  have c3 : W.cell? ⟨w.heap.size + 1, 1, none⟩ = some (.int .u8 (y1.toNat : Int)) := by rw [hb.cell (p := ⟨w.heap.size + 1, 1, none⟩) s2]; simp
  refine ⟨c0, c1, c2, c3, ⟨by simp, fun _ => ⟨_, _, rfl, fun j hj => ?_⟩⟩, ⟨by simp, fun _ => ⟨_, _, rfl, fun j hj => ?_⟩⟩, ?_⟩
  · rcases (show j = 0 ∨ j = 1 by simp at hj; omega) with rfl | rfl
    · exact c0
    · exact c1
  · rcases (show j = 0 ∨ j = 1 by simp at hj; omega) with rfl | rfl
    · exact c2
    · exact c3
  · exact (((Below.refl w.heap.size w).alloc (Nat.le_refl _) _).alloc (by simp) _).trans (hb.mono (by simp; omega))

theorem eq_pair (a b c d : Int) (w : World) : (Op.equalIn 10000 27 (.agg #[.int .u8 a, .int .u8 b]) (.agg #[.int .u8 c, .int .u8 d])).run Tryd.prog w = .ok (a == c && b == d) w := by
  have u3 := Tryd.underlying5
  have a3 := Tryd.isAgg5
  have z3 := Tryd.sizeOf5
  rw [show (10000 : Nat) = 9999 + 1 from rfl, Op.equalIn]
  simp only [Sem.run_bind, run_underlying Tryd.underlying27, Result.andThen_ok]
  simp only [Std.Legacy.Range.forIn_eq_forIn_range', Std.Legacy.Range.size, Nat.sub_zero, Nat.add_sub_cancel, Nat.div_one, List.range'_succ, List.range'_zero, List.forIn_cons, List.forIn_nil]
  go_simp
  by_cases h1 : a = c <;> by_cases h2 : b = d <;> simp [h1, h2]

theorem ret_bool {a b : Bool} (h : a = b) : Ending.returned (.bool a) = .returned (.bool b) := by rw [h]
theorem pair_beq (x0 x1 y0 y1 : BitVec 8) : ((((more 0#16 [x0, x1]).toNat : Int) == ((more 0#16 [y0, y1]).toNat : Int)) == (((x0.toNat : Int) == (y0.toNat : Int)) && ((x1.toNat : Int) == (y1.toNat : Int)))) = true := by
  by_cases h : x0 = y0 ∧ x1 = y1
  · obtain ⟨rfl, rfl⟩ := h
    simp
  · have h1 : ¬ more 0#16 [x0, x1] = more 0#16 [y0, y1] := fun e => h (pair_eq x0 x1 y0 y1 e)
    have e1 : (((more 0#16 [x0, x1]).toNat : Int) == ((more 0#16 [y0, y1]).toNat : Int)) = false := by
      rw [beq_eq_false_iff_ne]
      exact fun e => h1 (BitVec.eq_of_toNat_eq (by omega))
    have e2 : (((x0.toNat : Int) == (y0.toNat : Int)) && ((x1.toNat : Int) == (y1.toNat : Int))) = false := by
      rw [Bool.and_eq_false_iff, beq_eq_false_iff_ne, beq_eq_false_iff_ne]
      by_cases h0 : x0 = y0
      · exact .inr fun e => h ⟨h0, BitVec.eq_of_toNat_eq (by omega)⟩
      · exact .inl fun e => h0 (BitVec.eq_of_toNat_eq (by omega))
    rw [e1, e2]
    rfl

set_option maxHeartbeats 2000000 in
theorem pairs_walk (x0 x1 y0 y1 : BitVec 8) (w : World) (ht : Tab w) :
    Calls Tryd.prog 4 #[.agg #[.int .u8 (x0.toNat : Int), .int .u8 (x1.toNat : Int)], .agg #[.int .u8 (y0.toNat : Int), .int .u8 (y1.toNat : Int)]] w fun e w' => e = .returned (.bool true) ∧ Below w.heap.size w w' := by
  have HBX := hid (boxes x0 x1 y0 y1 w)
  have HS : Hid (∀ W, Below w.heap.size w W → ∀ (q : Addr) l, Row W (some q) l → l.length = 2 → Calls Tryd.prog 6 #[.slice (some q) 2 2] W fun e w' => e = .returned (.int .u16 ((more 0#16 l).toNat : Int)) ∧ w' = W) := fun W hW q l hr h2 => by
    have := sum_any (some q) 2 l W (ht.below hW) hr
    rwa [h2] at this
  have HA : Hid (∀ W, Below w.heap.size w W → Calls Tryd.prog 5 #[] W fun e w' => e = .returned (.bool true) ∧ Below W.heap.size W w') := fun W hW => alive_any W (ht.below hW)
  have HF := hid (pair_beq x0 x1 y0 y1)
  have heq := eq_pair (x0.toNat : Int) (x1.toNat : Int) (y0.toNat : Int) (y1.toNat : Int)
  clear ht
  go_enter Tryd.func4, Tryd.ntmps4
  go_wp2_with fail
  go_region_with (first
    | (go_at_call 5; refine (HA.out _ ?_).mono ?_; exact (HBX.out _ (Below.refl _ _).drew).2.2.2.2.2.2; rintro e w1 ⟨rfl, hb⟩; replace hb := HBX.out _ (undrew hb); obtain ⟨c0, c1, c2, c3, r0, r1, hbel⟩ := hb; have R0 := hid r0; have R1 := hid r1; have HBel := hid hbel; clear r0 r1 hbel)
    | (go_at_call_of 6 (Value.slice (some ⟨w.heap.size, 0, none⟩) 2 2); refine (HS.out _ HBel.out _ _ R0.out rfl).mono ?_; rintro e w' ⟨rfl, rfl⟩)
    | (go_at_call 6; refine (HS.out _ HBel.out _ _ R1.out rfl).mono ?_; rintro e w' ⟨rfl, rfl⟩))
  all_goals go_wp2
  all_goals go_ret
  all_goals exact ⟨ret_bool HF.out, HBel.out⟩

end Go.Proofs.YtmokokkdllmdoabDoor
