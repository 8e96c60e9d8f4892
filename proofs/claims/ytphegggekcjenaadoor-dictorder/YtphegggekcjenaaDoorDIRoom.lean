/- The program's dict: room. -/
import Derived.Test.YtphegggekcjenaaDoorDIPlace
import Derived.Test.YtphegggekcjenaaDoorCrc
namespace Go.Proofs.YtphegggekcjenaaDoor.DI
open Go.RowKit

set_option maxHeartbeats 1000000 in
set_option maxRecDepth 100000 in
/-- room -/
theorem room_any (nb N : Nat) (n : Nm) (w : World) (ht : Tab w) (hg : 0 < w.heap.size) (h0 : 0 < N) (hN : N ≤ 1000000) (hn : n.length ≤ 140737488351232) :
    Calls Tryd.prog 45 #[.slice (some ⟨nb, 0, none⟩) N N, txt n] w fun e w' => e = .returned (.pointer (some ⟨nb, sumN n % N, none⟩)) ∧ Hid (Below w.heap.size w w') := by
  have kc := fun (w : World) (s : ByteArray) => Lib.run_convert_string_bytes (P := Tryd.prog) w 9 48 5 s Tryd.underlying9 Tryd.underlying48 Tryd.underlying5
  have HS := hid fun c => sum_of n c w ht hg (by omega)
  have HB := hid (bytesWorld_below w 5 ⟨n.toArray⟩)
  have hx := (Crc.more 0#16 (n.map UInt8.toBitVec)).isLt
  unfold sumN
  generalize (Crc.more 0#16 (n.map UInt8.toBitVec)).toNat = x at HS hx ⊢
  obtain ⟨k, hk⟩ : ∃ k, k = x % N := ⟨_, rfl⟩
  have hkN : k < N := by rw [hk]; exact Nat.mod_lt _ h0
  have hr : (x : Int) % (N : Int) = (k : Int) := by rw [hk]; simp
  have hrt : (x : Int).tmod (N : Int) = (k : Int) := by rw [Int.tmod_eq_emod_of_nonneg (by omega)]; exact hr
  rw [← hk]
  have hx' : (x : Int) ≤ 65535 := by omega
  have h0z : (0 : Int) < (N : Int) := by omega
  have hnz : ((N : Int) == 0) = false := by simpa using by omega
  have hkz : (k : Int) < (N : Int) := by omega
  clear ht hg hk
  go_enter Tryd.func45, Tryd.ntmps45
  go_wp2_with fail
  refine (HS.out _).mono ?_; rintro e w' ⟨rfl, rfl⟩
  go_wp2
  go_ret
  exact ⟨rfl, HB.out⟩

end Go.Proofs.YtphegggekcjenaaDoor.DI
