/- The slot of a key, by the document, and the walk of the law SlotOf. -/
import Derived.Test.YtjjecdeacjbhaaaDoorRefTag
import Derived.Test.YtjjecdeacjbhaaaDoorCrcRef
namespace Go.Proofs.YtjjecdeacjbhaaaDoor
open Go.RowKit
open Slot

theorem rsum_of (l : List UInt8) (c : Nat) (w : World) (hl : l.length ≤ 9223372036854775807) :
    Calls Tryd.prog 28 #[.slice (some ⟨w.heap.size, 0, none⟩) l.length c] (Lib.bytesWorld w 5 ⟨l.toArray⟩) fun e w' => e = .returned (.int .u16 ((Crc.more 0#16 (l.map UInt8.toBitVec)).toNat : Int)) ∧ w' = Lib.bytesWorld w 5 ⟨l.toArray⟩ := by
  have := rsum_any (some ⟨w.heap.size, 0, none⟩) c (l.map UInt8.toBitVec) (Lib.bytesWorld w 5 ⟨l.toArray⟩) (bytesWorld_row w _ l hl)
  rw [List.length_map] at this
  exact this
set_option maxHeartbeats 1000000 in
theorem rOf_any (l : List UInt8) (w : World) (hl : l.length ≤ 9223372036854775806) :
    Calls Tryd.prog 13 #[.string ⟨l.toArray⟩] w fun e w' => e = .returned (.int .i64 (slotOf l : Int)) ∧ Below w.heap.size w w' := by
  have kc := fun (w : World) (s : ByteArray) => Lib.run_convert_string_bytes (P := Tryd.prog) w 9 26 5 s Tryd.underlying9 Tryd.underlying26 Tryd.underlying5
  have HG := hid fun w => rTag_any l w hl
  have HS := hid fun c => rsum_of (tag l) c w (by have := tag_length l; omega)
  have HB := hid (bytesWorld_below w 5 ⟨(tag l).toArray⟩)
  have hd : Hid (slotOf l = (Crc.more 0#16 ((tag l).map UInt8.toBitVec)).toNat % 16384) := rfl
  have hx := (Crc.more 0#16 ((tag l).map UInt8.toBitVec)).isLt
  generalize tag l = T at HG HS hd hx HB
  generalize (Crc.more 0#16 (T.map UInt8.toBitVec)).toNat = x at HS hd hx
  clear hl
  go_enter Tryd.func13, Tryd.ntmps13
  go_wp2_with fail
  refine (HG.out _).mono ?_; rintro e w' ⟨rfl, rfl⟩
  go_wp2_with fail
  refine (HS.out _).mono ?_; rintro e w' ⟨rfl, rfl⟩
  go_wp2
  go_ret
  exact ⟨ret_int (by rw [hd.out]; simp), HB.out⟩
set_option maxHeartbeats 1000000 in
theorem slotOf_walk (l : List UInt8) (w : World) (hE : Env w) (hl : l.length ≤ 140737488351232) :
    Calls Tryd.prog 4 #[.string ⟨l.toArray⟩] w fun e w' => e = .returned (.bool true) ∧ Below w.heap.size w w' := by
  have HO := hid (of_any l w hE.tab hE.room (by omega))
  have HA := hid fun w h => alive_any w h
  have HR := hid fun w => rOf_any l w (by omega)
  have hN : slotOf l < 16384 := Nat.mod_lt _ (by decide)
  have HE := hid hE
  generalize slotOf l = N at HO HR hN
  clear hE
  go_enter Tryd.func4, Tryd.ntmps4
  go_wp2_with fail
  refine HO.out.mono ?_; rintro e w1 ⟨rfl, hb1⟩
  have HB1 := hid hb1
  have HE1 := hid (HE.out.below hb1 HE.out.room)
  clear hb1
  go_wp2_with fail
  refine (HA.out _ HE1.out).mono ?_; rintro e w2 ⟨rfl, hb2⟩
  have HB2 := hid (HB1.out.trans (hb2.mono HB1.out.size))
  clear hb2
  go_wp2_with fail
  refine (HR.out _).mono ?_; rintro e w3 ⟨rfl, hb3⟩
  have HB3 := hid (HB2.out.trans (hb3.mono HB2.out.size))
  clear hb3
  go_wp2
  go_ret
  exact ⟨ret_bool (by simp; omega), HB3.out⟩

end Go.Proofs.YtjjecdeacjbhaaaDoor
