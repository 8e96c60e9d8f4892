/- A command that is read: the law's alive. -/
import Derived.Test.YtjcegiponjpjiabDoorFed
namespace Go.Proofs.YtjcegiponjpjiabDoor
open Go.RowKit

theorem Only.below {b n : Nat} {w w' : World} (h : Only b w w') (hn : n ≤ b) (hs : n ≤ w.heap.size) : Below n w w' := ⟨h.os, h.tape, h.output, h.size, fun k hk => h.block k (by omega) (by omega)⟩
/-- a stream of two commands -/
def ping : List UInt8 := [42, 49, 13, 10, 36, 52, 13, 10, 80, 73, 78, 71, 13, 10, 103, 101, 116, 32, 97, 10]
theorem ping_runs : Runs ping [[[80, 73, 78, 71]], [[103, 101, 116], [97]]] [] 0 := by
  have h1 : one ping = .got [[80, 73, 78, 71]] [103, 101, 116, 32, 97, 10] := by kernel_rfl
  have h2 : one [103, 101, 116, 32, 97, 10] = .got [[103, 101, 116], [97]] [] := by kernel_rfl
  have h3 : one [] = .stop (-1) := by kernel_rfl
  exact .some h1 (by simp) (.some h2 (by simp) (.more h3))
theorem at_bytes (w : World) (C : Array Value) (l : List UInt8) (fr : Nat × Nat) (hC : C = (Lib.byteCells l).toArray) : At (w.alloc (.cells C 5 fr)) (some ⟨w.heap.size, 0, none⟩) l := fun _ => ⟨w.heap.size, 0, rfl, fun i hi => by
  rw [Nat.zero_add, cell_of_row _ _ _ _ _ _ (heap_alloc_new w _), hC]
  simp [Lib.byteCells, hi], _, _, heap_alloc_new w _⟩
set_option maxHeartbeats 2000000 in
set_option maxRecDepth 100000 in
theorem alive_any (w : World) (hE : Envs w) :
    Calls Tryd.prog 5 #[] w fun r w' => r = .returned (.bool true) ∧ Hid (Below w.heap.size w w') := by
  have HN := hid (new_par w)
  have HE := hid hE
  clear hE
  go_enter Tryd.func5, Tryd.ntmps5
  go_wp2_with fail
  refine HN.out.mono ?_; rintro e w1 ⟨rfl, hh⟩
  obtain ⟨hp1, hb1, hlt1⟩ := hh.out
  obtain ⟨b, hb⟩ : ∃ b, b = w.heap.size := ⟨_, rfl⟩
  rw [← hb] at hp1 hlt1 ⊢
  have hkc := Lib.run_convert_bytes_const (P := Tryd.prog) w1 26 5 #[.int .u8 42, .int .u8 49, .int .u8 13, .int .u8 10, .int .u8 36, .int .u8 52, .int .u8 13, .int .u8 10, .int .u8 80, .int .u8 73, .int .u8 78, .int .u8 71, .int .u8 13, .int .u8 10, .int .u8 103, .int .u8 101, .int .u8 116, .int .u8 32, .int .u8 97, .int .u8 10] 20 20 Tryd.underlying26 Tryd.underlying5
  simp only [List.size_toArray, List.length_cons, List.length_nil, Nat.zero_add, Nat.reduceAdd] at hkc
  have hat := at_bytes w1 #[.int .u8 42, .int .u8 49, .int .u8 13, .int .u8 10, .int .u8 36, .int .u8 52, .int .u8 13, .int .u8 10, .int .u8 80, .int .u8 73, .int .u8 78, .int .u8 71, .int .u8 13, .int .u8 10, .int .u8 103, .int .u8 101, .int .u8 116, .int .u8 32, .int .u8 97, .int .u8 10] ping (20, 21) rfl
  have hba := below_alloc w1 (.cells #[.int .u8 42, .int .u8 49, .int .u8 13, .int .u8 10, .int .u8 36, .int .u8 52, .int .u8 13, .int .u8 10, .int .u8 80, .int .u8 73, .int .u8 78, .int .u8 71, .int .u8 13, .int .u8 10, .int .u8 103, .int .u8 101, .int .u8 116, .int .u8 32, .int .u8 97, .int .u8 10] 5 (20, 21))
  obtain ⟨W1, hW1⟩ : ∃ W1, W1 = w1.alloc (.cells #[.int .u8 42, .int .u8 49, .int .u8 13, .int .u8 10, .int .u8 36, .int .u8 52, .int .u8 13, .int .u8 10, .int .u8 80, .int .u8 73, .int .u8 78, .int .u8 71, .int .u8 13, .int .u8 10, .int .u8 103, .int .u8 101, .int .u8 116, .int .u8 32, .int .u8 97, .int .u8 10] 5 (20, 21)) := ⟨_, rfl⟩
  rw [← hW1] at hkc hat hba
  have HF := hid (feed_par b [] ping (some ⟨w1.heap.size, 0, none⟩) 20 W1 (hp1.below hba) hat (by decide))
  have hb1' : Below w.heap.size w W1 := hb1.trans (hba.mono hb1.size)
  have HB1 := hid hb1'
  have Hb := hid hb
  clear hh hp1 hb1 hlt1 hat hba hW1 hb1' hb HN
  go_wp2_with fail
  refine HF.out.mono ?_; rintro e w2 ⟨rfl, hh⟩
  obtain ⟨hp2, hf2⟩ := hh.out
  rw [List.nil_append] at hp2
  have hb2 : Below w.heap.size w w2 := HB1.out.trans (hf2.below _ (by rw [Hb.out]; exact Nat.le_refl _))
  have hE2 := HE.out.below hb2 HE.out.room
  have HA := hid (all_any b ping [] [[[80, 73, 78, 71]], [[103, 101, 116], [97]]] 0 9 w2 hE2 (by rw [Hb.out]; exact HE.out.room) hp2 ping_runs (by decide) (by decide) (by decide))
  have HB2 := hid hb2
  clear hh hp2 hf2 hb2 hE2 HF HB1
  go_wp2_with fail
  refine HA.out.mono ?_; rintro e w3 ⟨a, cap, rfl, hh⟩
  obtain ⟨ho3, hp3, hon⟩ := hh.out
  have hb3 : Below w.heap.size w w3 := HB2.out.trans (hon.below (by rw [Hb.out]; exact Nat.le_refl _) HB2.out.size)
  obtain ⟨g, o, rfl, hcell⟩ := ho3.cmds (by simp)
  obtain ⟨q0, c0, k0, s0⟩ := hcell 0 (by simp)
  obtain ⟨q1, c1, k1, s1⟩ := hcell 1 (by simp)
  obtain ⟨qb, qo, rfl, hs⟩ := s0 (by simp)
  have hs0 := hs 0 (by simp)
  simp only [List.getElem_cons_zero, List.getElem_cons_succ, List.length_cons, List.length_nil, Nat.zero_add, Nat.add_zero, Nat.reduceAdd] at k0 k1 hs0 ⊢
  have HL := hid (left_par b [] 0 w3 hp3)
  have HB3 := hid hb3
  clear hh ho3 hp3 hon hb3 hcell s0 s1 hs HA HB2
  go_wp2_with fail
  refine HL.out.mono ?_; rintro e w4 ⟨rfl, rfl⟩
  go_wp2
  go_ret
  exact ⟨rfl, HB3.out⟩

end Go.Proofs.YtjcegiponjpjiabDoor
