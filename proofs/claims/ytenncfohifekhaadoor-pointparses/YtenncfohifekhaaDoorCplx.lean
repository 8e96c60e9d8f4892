/- Complex numbers of whole parts, as operations run them. -/
import Derived.Test.YtenncfohifekhaaDoorPtsB
import Derived.Test.YtenncfohifekhaaDoorWhole
namespace Go.Proofs.YtenncfohifekhaaDoor
open Go.RowKit

/-- float64 of a number -/
theorem of_int_run (n : Int) (W : World) : (convert 3 42 (.int .i64 n)).run Tryd.prog W = .ok (.float .f64 (floatOfInt .f64 n)) W := by go_simp
/-- int of a float that is whole -/
theorem to_int_run {b : Nat} {n : Int} (h : Is b n) (h0 : -9223372036854775808 ≤ n) (h1 : n ≤ 9223372036854775807) (W : World) : (convert 42 3 (.float .f64 b)).run Tryd.prog W = .ok (.int .i64 n) W :=
  run_convert_float_int W 42 3 .f64 .i64 b n (by rw [Tryd.underlying42]; rfl) Tryd.underlying3 (h.toInt h0 h1)
theorem cadd_run {a b c d : Nat} {x y u v : Int} (ha : Is a x) (hb : Is b y) (hc : Is c u) (hd : Is d v) (h1 : (x + u).natAbs < 9007199254740992) (h2 : (y + v).natAbs < 9007199254740992) :
    ∃ re im, (∀ W, (binOp .add 37 (.complex .f64 a b) (.complex .f64 c d)).run Tryd.prog W = .ok (.complex .f64 re im) W) ∧ Is re (x + u) ∧ Is im (y + v) := by
  obtain ⟨re, im, e, i1, i2⟩ := ha.csum hb hc hd h1 h2
  exact ⟨re, im, fun W => run_complex_sum W .add (.inl rfl) 37 .f64 a b c d re im e, i1, i2⟩
theorem cmul_run {a b c d : Nat} {x y u v : Int} (ha : Is a x) (hb : Is b y) (hc : Is c u) (hd : Is d v) (x0 : -2097152 ≤ x) (x1 : x ≤ 2097152) (y0 : -2097152 ≤ y) (y1 : y ≤ 2097152) (u0 : -2097152 ≤ u) (u1 : u ≤ 2097152) (v0 : -2097152 ≤ v) (v1 : v ≤ 2097152) :
    ∃ re im, (∀ W, (binOp .mul 37 (.complex .f64 a b) (.complex .f64 c d)).run Tryd.prog W = .ok (.complex .f64 re im) W) ∧ Is re (x * u - y * v) ∧ Is im (x * v + y * u) := by
  have pm : ∀ {p q : Int}, -2097152 ≤ p → p ≤ 2097152 → -2097152 ≤ q → q ≤ 2097152 → (p * q).natAbs ≤ 4398046511104 := fun {p q} p0 p1 q0 q1 => by
    rw [Int.natAbs_mul]
    have h1 : p.natAbs ≤ 2097152 := by omega
    have h2 : q.natAbs ≤ 2097152 := by omega
    exact Nat.le_trans (Nat.mul_le_mul h1 h2) (by decide)
  have m1 := pm x0 x1 u0 u1
  have m2 := pm y0 y1 v0 v1
  have m3 := pm x0 x1 v0 v1
  have m4 := pm y0 y1 u0 u1
  obtain ⟨re, im, e, i1, i2⟩ := ha.cmul hb hc hd (by omega) (by omega) (by omega) (by omega) (by omega) (by omega)
  exact ⟨re, im, fun W => run_complex_mul W 37 a b c d re im e, i1, i2⟩
theorem is_zero : Is 0 0 := by
  show Val (Ieee.double.read 0) 0
  rw [show Ieee.double.read 0 = .number false 0 (-((1074 : Nat) : Int)) from rfl]
  exact val_zero false 1074
theorem is_one : Is 4607182418800017408 1 := Is.of_int 1 (by decide)

end Go.Proofs.YtenncfohifekhaaDoor
