/- The cuts of a text, as runs. -/
import Derived.Test.YtgpdbcigogkkbaaDoorPkBuild
import Derived.Laws.Strings2
namespace Go.Proofs.YtgpdbcigogkkbaaDoor
open Go.RowKit
open Slot

theorem ba_size (s : Bs) : (⟨s.toArray⟩ : ByteArray).size = s.length := by simp [ByteArray.size]
theorem index_at (s : Bs) (k : Nat) (h : k < s.length) (W : World) : (Instr.index 9 (.string ⟨s.toArray⟩) (.int .i64 (k : Int))).run Tryd.prog W = .ok (.int .u8 (s[k].toNat : Int)) W := by
  have hz := ba_size s
  rw [run_index_string W 9 ⟨s.toArray⟩ .i64 (k : Int) Tryd.underlying9, dif_pos ⟨by omega, by omega⟩]
  rfl
theorem slice_at (s : Bs) (a b : Nat) (za zb : Int) (ha : za = a) (hb : zb = b) (hab : a ≤ b) (h : b ≤ s.length) (W : World) : (Instr.slice 9 (.string ⟨s.toArray⟩) (some (.int .i64 za)) (some (.int .i64 zb)) none).run Tryd.prog W = .ok (.string ⟨((s.drop a).take (b - a)).toArray⟩) W := by
  have hz := ba_size s
  have := run_slice_string (P := Tryd.prog) W 9 ⟨s.toArray⟩ .i64 .i64 za zb Tryd.underlying9 (by omega) (by omega) (by omega)
  rw [show za.toNat = a by omega, show zb.toNat = b by omega, ByteArray.extract_mk] at this
  exact this

end Go.Proofs.YtgpdbcigogkkbaaDoor
