/- CrcRef, VMem, Ref1, Ref2. -/
import Derived.Test.YtppgifaegnmciaaDoorM04
import Derived.Test.YtppgifaegnmciaaDoorM06
namespace Go.Proofs.YtppgifaegnmciaaDoor
open Go.RowKit
open Crc

theorem start16 (d : BitVec 16) (x : BitVec 8) : bits BinOp.xor IntKind.u16 (d.toNat : Int) ((x.toNat : Int) * 256) = ((d ^^^ (x.setWidth 16 * 256#16)).toNat : Int) := by
  have h := x.isLt
  have e : ((x.toNat : Int) * 256) = ((x.setWidth 16 * 256#16).toNat : Int) := by
    rw [BitVec.toNat_mul, BitVec.toNat_setWidth]
    simp
    omega
  rw [e, xor16]
theorem dbl (e : BitVec 16) : IntKind.u16.wrap ((e.toNat : Int) * 2) = ((e * 2#16).toNat : Int) := by
  rw [IntKind.wrap_u16, BitVec.toNat_mul]
  simp
theorem dbl_hi (e : BitVec 16) (h : 32768 ≤ e.toNat) : ((zstep e).toNat : Int) = bits BinOp.xor IntKind.u16 (IntKind.u16.wrap ((e.toNat : Int) * 2)) 4129 := by
  rw [dbl, zstep, if_pos h]
  exact (xor16 _ 4129#16).symm
theorem dbl_lo (e : BitVec 16) (h : ¬ 32768 ≤ e.toNat) : ((zstep e).toNat : Int) = (e.toNat : Int) * 2 := by
  have := e.isLt
  rw [zstep, if_neg h, ← dbl, IntKind.wrap_u16]
  omega

end Go.Proofs.YtppgifaegnmciaaDoor

namespace Go.Proofs.YtppgifaegnmciaaDoor
open Go.RowKit

end Go.Proofs.YtppgifaegnmciaaDoor

namespace Go.Proofs.YtppgifaegnmciaaDoor
open Go.RowKit

theorem conv_two (b : Nat) (x y : UInt8) (W : World) (h0 : W.cell? ⟨b, 0, none⟩ = some (.int .u8 (x.toNat : Int))) (h1 : W.cell? ⟨b, 1, none⟩ = some (.int .u8 (y.toNat : Int))) : (convert 28 9 (.slice (some ⟨b, 0, none⟩) 2 2)).run Tryd.prog W = .ok (.string ⟨#[x, y]⟩) W :=
  run_convert_bytes_back (P := Tryd.prog) W 28 9 5 ⟨b, 0, none⟩ 2 [x, y] Tryd.underlying28 Tryd.underlying5 Tryd.underlying9 (fun j hj => by
    rw [Go.WideShapes.add_plain]
    have : j = 0 ∨ j = 1 := by simp at hj; omega
    rcases this with rfl | rfl
    · simpa using h0
    · simpa using h1)
end Go.Proofs.YtppgifaegnmciaaDoor

namespace Go.Proofs.YtppgifaegnmciaaDoor
open Go.RowKit

end Go.Proofs.YtppgifaegnmciaaDoor
