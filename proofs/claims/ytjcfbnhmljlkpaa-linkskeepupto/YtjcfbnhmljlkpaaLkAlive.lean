/- alive. -/
import Derived.Test.YtjcfbnhmljlkpaaLkStands
namespace Go.Proofs.Ytjcfbnhmljlkpaa
open Go.RowKit

/-- a letter of a number alone -/
def numLt (n : Int) : Lt := ⟨0, n, 0, 0, [], [], [], .mk 0 0 [] [], false, 0⟩
theorem num_lt (P : Nat → Prop) (w : World) (n : Int) : LtR P w (numLt n) none none :=
  ⟨fun h => absurd rfl h, ⟨0, fun h => absurd rfl h⟩, by constructor <;> simp [numLt, Rep.kind, Rep.int, Rep.text, Rep.list]⟩
theorem num_few (n : Int) : FewL (numLt n) := ⟨⟨Nat.zero_le _, fun i h => absurd h (Nat.not_lt_zero i)⟩, Nat.zero_le _⟩
abbrev numC (n : Int) : Array Value := #[.int .i64 0, .int .i64 n, .int .i64 0, .int .i64 0, .string ⟨#[]⟩, .string ⟨#[]⟩, .slice none 0 0, .int .i64 0, .int .i64 0, .string ⟨#[]⟩, .slice none 0 0, .bool false, .int .i64 0]
theorem num_cells (n : Int) : ltC (numLt n) none 0 none 0 = numC n := rfl
def placesL : Array (Nat × Nat) := #[(0, 1), (1, 1), (2, 1), (3, 1), (4, 1), (5, 1), (6, 1), (7, 4), (11, 1), (12, 1)]
/-- Send of a letter of a number alone -/
theorem LinksIs.num {LB : World → Nat → (Nat → Prop) → (Nat → Prop) → List Wy → Prop} (C : LinksIs LB) {w : World} {b : Nat} {F R : Nat → Prop} {ws : List Wy} (h : LB w b F R ws) (f t n : Int) (hie : IE f t) (hl : ws.length ≤ 100000) :
    Calls Try.prog 14 #[ptr b, .int .i64 f, .int .i64 t, .agg (numC n)] w fun e w' => e = .returned (.tuple #[]) ∧ Hid (∃ F' R', LB w' b F' R' (ws ++ [⟨f, t, numLt n⟩]) ∧ Kp F F' R R' w w') := by
  rw [← num_cells]
  exact C.send h f t (numLt n) none 0 none 0 (num_lt _ _ _) (num_few n) hie hl
set_option maxHeartbeats 4000000 in
set_option maxRecDepth 100000 in
/-- alive -/
theorem alive_any {LB : World → Nat → (Nat → Prop) → (Nat → Prop) → List Wy → Prop} (C : LinksIs LB) (w : World) :
    Calls Try.prog 10 #[] w fun e w' => e = .returned (.bool true) ∧ Hid (Below w.heap.size w w') := by
  have HN := hid (C.new w)
  go_enter Try.func10, Try.ntmps10
  go_wp2_with fail
  refine HN.out.mono ?_; rintro e w1 ⟨b, F1, R1, rfl, hh⟩
  obtain ⟨hlb1, hf1, hb1⟩ := hh.out
  have HF1 := hid hf1
  have HB1 := hid hb1
  have HS1 := hid (C.num hlb1 1 2 5 ⟨by decide, by decide⟩ (by decide))
  clear hh hlb1 hf1 hb1 HN
  go_wp2_with fail
  refine HS1.out.mono ?_; rintro e w2 ⟨rfl, hh⟩
  obtain ⟨F2, R2, hlb2, hk2⟩ := hh.out
  have HK2 := hid hk2
  have HS2 := hid (C.num hlb2 1 2 6 ⟨by decide, by decide⟩ (by decide))
  clear hh hlb2 hk2 HS1
  go_wp2_with fail
  refine HS2.out.mono ?_; rintro e w3 ⟨rfl, hh⟩
  obtain ⟨F3, R3, hlb3, hk3⟩ := hh.out
  have HK3 := hid (HK2.out.trans hk3)
  have HS3 := hid (C.next hlb3 1 2 ⟨by decide, by decide⟩ (by decide))
  clear hh hlb3 hk3 HS2
  go_wp2_with fail
  refine HS3.out.mono ?_; rintro e w4 ⟨ap, ac, rp, rc, rfl, hh⟩
  obtain ⟨F4, R4, -, hlb4, hk4⟩ := hh.out
  have HK4 := hid (HK3.out.trans hk4)
  have hW : headV ([] ++ [⟨1, 2, numLt 5⟩] ++ [⟨1, 2, numLt 6⟩]) 1 2 = numLt 5 := rfl
  rw [hW, show (!(onV ([] ++ [⟨1, 2, numLt 5⟩] ++ [⟨1, 2, numLt 6⟩]) 1 2).isEmpty) = true from rfl]
  rw [show cutV ([] ++ [⟨1, 2, numLt 5⟩] ++ [⟨1, 2, numLt 6⟩]) 1 2 = [⟨1, 2, numLt 6⟩] from rfl] at hlb4
  obtain ⟨CL, hCL⟩ : ∃ C, ltC (numLt 5) ap ac rp rc = C := ⟨_, rfl⟩
  have hCs : CL.size = 13 := by rw [← hCL]; rfl
  have hC1 : CL.all (·.oneCell') = true := by rw [← hCL]; exact ltC_one _ _ _ _ _
  have hc1 : CL[1]? = some (.int .i64 5) := by rw [← hCL]; rfl
  rw [hCL]
  have iC := infoLt CL hCs
  obtain ⟨w5, hw5⟩ : ∃ W, (w4.alloc (.cells zeroL 33)).setRow w4.heap.size CL = W := ⟨_, rfl⟩
  have HW5 := hid hw5
  have hr5 : w5.heap[w4.heap.size]? = some (.cells CL 33 (0, 0)) := by rw [← hw5]; exact setRow_heap _ _ _ _ _ _ (heap_alloc_new w4 _)
  have hb5 : Below w4.heap.size w4 w5 := by rw [← hw5]; exact below_setRow (below_alloc w4 _) (Nat.le_refl _) _
  have y1 : w5.cell? ⟨w4.heap.size, 1, none⟩ = some (.int .i64 5) := by rw [cell_of_row w5 _ 1 _ _ _ hr5]; exact hc1
  have HK5 := hid (HK4.out.trans (Kp.of_below hb5 (Nat.le_refl _)))
  have hlt4 := C.lt hlb4
  have HLB5 := hid (C.keep hlb4 (fun k hk => hb5.block k (hlt4 k hk)) hb5.size)
  have HWt := hid (C.waiting HLB5.out 1 2 ⟨by decide, by decide⟩ (by decide))
  rw [show (onV [⟨1, 2, numLt 6⟩] 1 2).length = 1 from rfl] at HWt
  clear hh hlb4 hk4 hCL hw5 hr5 hb5 hc1 hW HS3
  go_wp2_with (refine wpList_store_row rfl 33 _ _ rfl w4.heap.size CL rfl rfl 33 zeroL (heap_alloc_new w4 _) iC (by rw [hCs]; rfl) hC1 (Hid.out ?_))
  rw [HW5.out]
  refine hid ?_
  go_wp2_with fail
  refine HWt.out.mono ?_; rintro e w6 ⟨rfl, hb6⟩
  have HLB6 := hid (C.keep HLB5.out (fun k hk => hb6.out.block k (C.lt HLB5.out k hk)) hb6.out.size)
  have HPr := hid (C.pairs HLB6.out (by decide))
  rw [show (pairsV [⟨1, 2, numLt 6⟩]).length = 1 from rfl] at HPr
  have HK6 := hid (HK5.out.trans (Kp.of_below hb6.out (Nat.le_refl _)))
  clear hb6
  go_wp2_with fail
  refine HPr.out.mono ?_; rintro e w7 ⟨q, d, rfl, hh⟩
  have HK7 := hid (HK6.out.trans (Kp.of_below hh.out.2 (Nat.le_refl _)))
  clear hh
  go_wp2_with fail
  go_ret
  exact ⟨rfl, HB1.out.trans (HK7.out.below (fun k hk => HF1.out k (.inl hk)) HB1.out.size)⟩

end Go.Proofs.Ytjcfbnhmljlkpaa
