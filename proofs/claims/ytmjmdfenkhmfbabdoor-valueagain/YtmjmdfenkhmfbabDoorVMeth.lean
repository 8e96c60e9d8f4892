/- What the program's calls do: what the laws lean on; few; alive. -/
import Derived.Test.YtmjmdfenkhmfbabDoorSame10
namespace Go.Proofs.YtmjmdfenkhmfbabDoor
open Go.RowKit

structure MethV (V : World → Prop) : Prop where
  env : ∀ {w w' : World}, V w → Below w.heap.size w w' → V w'
  dump : ∀ (m : Vl) (pp : Option Addr) (pc' : Nat) (ip : Option Addr) (ic : Nat) (w : World), V w → Came m → VI w m pp pc' ip ic → Calls Tryd.prog 7 #[vv m pp pc' ip ic] w fun e w' => e = .returned (.tuple #[txt (dumpS m), .bool (rightB m)]) ∧ Hid (Below w.heap.size w w')
  load : ∀ (s : Nm) (w : World), V w → s.length ≤ 140737488351232 → Calls Tryd.prog 5 #[txt s] w fun e w' => ∃ pp pc' ip ic, e = .returned (.tuple #[vv (loadV s).1 pp pc' ip ic, .int .i64 (loadV s).2]) ∧ Hid (VI w' (loadV s).1 pp pc' ip ic ∧ Below w.heap.size w w')
  type : ∀ (m : Vl) (pp : Option Addr) (pc' : Nat) (ip : Option Addr) (ic : Nat) (w : World), V w → Calls Tryd.prog 11 #[vv m pp pc' ip ic] w fun e w' => e = .returned (txt (typeV m.kind)) ∧ Hid (Below w.heap.size w w')
  same : ∀ (a b : Vl) (pp : Option Addr) (pc' : Nat) (ip : Option Addr) (ic : Nat) (pp2 : Option Addr) (pc2 : Nat) (ip2 : Option Addr) (ic2 : Nat) (w : World), V w → Came a → Came b → VI w a pp pc' ip ic → VI w b pp2 pc2 ip2 ic2 → Calls Tryd.prog 12 #[vv a pp pc' ip ic, vv b pp2 pc2 ip2 ic2] w fun e w' => e = .returned (.bool (decide (a = b))) ∧ Hid (Below w.heap.size w w')
def ab : Vl := ⟨1, [97, 98], [], [], 0, 0⟩
theorem rt_ab : RtV ab := rtv1 (by decide)
theorem right_ab : rightB ab = true := rightB_iff.2 rt_ab
theorem dump_ab : dumpS ab = dumpV ab := if_pos right_ab
theorem body_ab : bodyV ab = [1, 0, 2, 97, 98] := rfl
theorem came_ab : Came ab := ⟨by decide, by decide, by decide, (fun x hx => by cases hx), (fun x hx => by cases hx), (fun x hx => by cases hx), by decide, by decide, by decide⟩
set_option maxHeartbeats 2000000 in
set_option maxRecDepth 100000 in
theorem alive_any {V : World → Prop} (M : MethV V) (w : World) (hV : V w) : Calls Tryd.prog 6 #[] w fun e w' => e = .returned (.bool true) ∧ Hid (Below w.heap.size w w') := by
  have HM := hid M
  have HV := hid hV
  have HD := hid (M.dump ab none 0 none 0 w hV came_ab ⟨Rp.nilRow w, Rd.nilRow w⟩)
  rw [right_ab, dump_ab] at HD
  have hl : (dumpV ab).length = 7 := by rw [dump_len, body_ab]; rfl
  have ht : (dumpV ab).take 5 = [1, 0, 2, 97, 98] := by unfold dumpV; rw [body_ab]; rfl
  have HL := hid (fun W h => HM.out.load (dumpV ab) W h (by omega))
  rw [load_dump rt_ab] at HL
  have HT := hid (fun pp pc' ip ic W h => HM.out.type ab pp pc' ip ic W h)
  rw [show typeV ab.kind = [115, 116, 114, 105, 110, 103] from rfl] at HT
  have HS := hid (fun pp pc' ip ic W h k => HM.out.same ab ab pp pc' ip ic pp pc' ip ic W h came_ab came_ab k k)
  rw [decide_eq_true (rfl : ab = ab)] at HS
  obtain ⟨T, hT⟩ : ∃ T : ByteArray, T = ⟨(dumpV ab).toArray⟩ := ⟨_, rfl⟩
  have hTs : (T.size : Int) = 7 := by rw [hT]; simp [ByteArray.size, hl]
  have e5 : T.extract 0 5 = ⟨#[1, 0, 2, 97, 98]⟩ := by
    rw [hT]
    apply ByteArray.ext
    simp [ByteArray.data_extract, ht]
  have htx : txt (dumpV ab) = .string T := by rw [hT]
  rw [htx] at HD HL
  clear hT htx hl ht M hV
  unfold ab at HD HL HT HS
  dsimp only at HL
  go_enter Tryd.func6, Tryd.ntmps6
  go_wp2_with fail
  refine HD.out.mono ?_; rintro e w1 ⟨rfl, hh⟩
  have HW1 := hid hh.out
  clear hh
  go_wp2_with fail
  refine (HL.out _ (HM.out.env HV.out HW1.out)).mono ?_; rintro e w2 ⟨pp, pc', ip, ic, rfl, hh⟩
  have HX := hid (heap_alloc_new w2 (vob ⟨1, [97, 98], [], [], 0, 0⟩ pp pc' ip ic))
  have HVI := hid (hh.out.1.below (below_alloc w2 (vob ⟨1, [97, 98], [], [], 0, 0⟩ pp pc' ip ic)))
  have HW2 := hid (HW1.out.trans (hh.out.2.mono HW1.out.size))
  have HW3 := hid (HW2.out.trans ((below_alloc w2 (vob ⟨1, [97, 98], [], [], 0, 0⟩ pp pc' ip ic)).mono HW2.out.size))
  clear hh
  obtain ⟨c0, c1, c2, c3, c4, c5⟩ := val_facts HX.out
  go_wp2_with fail
  refine (HT.out pp pc' ip ic _ (HM.out.env HV.out HW3.out)).mono ?_; rintro e w4 ⟨rfl, hh⟩
  have HX4 := hid ((hh.out.block w2.heap.size (by simp)).trans HX.out)
  have HV4 := hid (HVI.out.below hh.out)
  have HW4 := hid (HW3.out.trans (hh.out.mono HW3.out.size))
  clear hh c0 c1 c2 c3 c4 c5
  obtain ⟨c0, c1, c2, c3, c4, c5⟩ := val_facts HX4.out
  go_wp2_with fail
  refine (HS.out pp pc' ip ic _ (HM.out.env HV.out HW4.out) HV4.out).mono ?_; rintro e w5 ⟨rfl, hh⟩
  have HW5 := hid (HW4.out.trans (hh.out.mono HW4.out.size))
  clear hh
  go_wp2_with fail
  go_ret
  exact ⟨rfl, HW5.out⟩

end Go.Proofs.YtmjmdfenkhmfbabDoor
