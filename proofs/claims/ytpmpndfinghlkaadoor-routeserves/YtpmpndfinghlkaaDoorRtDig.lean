/- A number's digits, by the document: ref04's below and Digits. -/
import Derived.Test.YtpmpndfinghlkaaDoorRtBase
import Derived.Test.YtpmpndfinghlkaaDoorModel
import Derived.Lib.ItoaLen
namespace Go.Proofs.YtpmpndfinghlkaaDoor
open Go.RowKit

theorem ret_str {a b : List UInt8} (h : a = b) : Ending.returned (.string ⟨a.toArray⟩) = .returned (.string ⟨b.toArray⟩) := by rw [h]
theorem conv_one (b : Nat) (c : UInt8) (W : World) (h : W.cell? ⟨b, 0, none⟩ = some (.int .u8 (c.toNat : Int))) : (convert 58 9 (.slice (some ⟨b, 0, none⟩) 1 1)).run Tryd.prog W = .ok (.string ⟨#[c]⟩) W :=
  run_convert_bytes_back (P := Tryd.prog) W 58 9 5 ⟨b, 0, none⟩ 1 [c] Tryd.underlying58 Tryd.underlying5 Tryd.underlying9 (fun j hj => by
    have : j = 0 := by simp at hj; omega
    subst this
    rw [Go.WideShapes.add_plain]
    simpa using h)
theorem digit_int (n : Nat) (h : n < 10) : ((UInt8.ofNat (48 + n)).toNat : Int) = 48 + (n : Int) := by
  rw [UInt8.toNat_ofNat']; omega
theorem itoa_len (v : Int) (h0 : -9223372036854775808 ≤ v) (h1 : v ≤ 9223372036854775807) : (Lib.itoa v).length ≤ 21 := Lib.itoa_length_le v h0 h1
theorem app_ba (a b : List UInt8) : (⟨a.toArray⟩ ++ ⟨b.toArray⟩ : ByteArray) = ⟨(a ++ b).toArray⟩ := by
  apply ByteArray.ext
  simp
theorem tmod_neg (m : Nat) : (-(m : Int)).tmod 10 = -((m % 10 : Nat) : Int) := by
  rw [Int.neg_tmod, Int.tmod_eq_emod_of_nonneg (by omega)]; omega
theorem tdiv_neg (m : Nat) : (-(m : Int)).tdiv 10 = -((m / 10 : Nat) : Int) := by
  rw [Int.neg_tdiv, Int.tdiv_eq_ediv_of_nonneg (by omega)]; omega
set_option maxHeartbeats 2000000 in
set_option maxRecDepth 100000 in
theorem below_go (k : Nat) : ∀ (m : Nat) (z : Int) (w : World), z = -(m : Int) → m < 10 ^ (k + 1) → m ≤ 9223372036854775808 →
    Calls Tryd.prog 28 #[.int .i64 z] w fun e w' => e = .returned (.string ⟨(dec m).toArray⟩) ∧ Below w.heap.size w w' := by
  have base : ∀ (m : Nat) (z : Int) (w : World), z = -(m : Int) → m < 10 → Calls Tryd.prog 28 #[.int .i64 z] w fun e w' => e = .returned (.string ⟨(dec m).toArray⟩) ∧ Below w.heap.size w w' := by
    intro m z w hz h
    obtain ⟨c, hc⟩ : ∃ c, c = UInt8.ofNat (48 + m) := ⟨_, rfl⟩
    have t1 : z.tmod 10 = z := by rw [hz, tmod_neg]; omega
    obtain ⟨D, hD⟩ : ∃ D : Int, D = 48 - z := ⟨_, rfl⟩
    have hDc : D = (c.toNat : Int) := by rw [hD, hc, digit_int m h]; omega
    have t2 : 48 - z = D := hD.symm
    have t3 : IntKind.u8.wrap D = D := by rw [IntKind.wrap_u8]; omega
    have hcv := conv_one w.heap.size c (w.alloc (.cells #[.int .u8 D] 5)) (by rw [hDc]; simp)
    have HD : Hid ([c] = dec m) := by unfold Hid; rw [hc]; exact (dec_small h).symm
    have z1 : ¬ z ≤ -10 := by omega
    have z2 : -10 < z := by omega
    have z3 : z ≤ 0 := by omega
    clear hc hD hDc hz
    go_enter Tryd.func28, Tryd.ntmps28
    go_wp2_with fail
    go_ret
    exact ⟨ret_str HD.out, below_alloc _ _⟩
  induction k with
  | zero => exact fun m z w hz h _ => base m z w hz (by simpa using h)
  | succ k ih =>
    intro m z w hz h hm
    by_cases h10 : m < 10
    · exact base m z w hz h10
    · obtain ⟨c, hc⟩ : ∃ c, c = UInt8.ofNat (48 + m % 10) := ⟨_, rfl⟩
      obtain ⟨q, hq⟩ : ∃ q, q = m / 10 := ⟨_, rfl⟩
      obtain ⟨R, hR⟩ : ∃ R : Int, R = -((m % 10 : Nat) : Int) := ⟨_, rfl⟩
      obtain ⟨Q, hQ⟩ : ∃ Q : Int, Q = -(q : Int) := ⟨_, rfl⟩
      have t1 : z.tmod 10 = R := by rw [hz, tmod_neg, hR]
      have t4 : z.tdiv 10 = Q := by rw [hz, tdiv_neg, hQ, hq]
      obtain ⟨D, hD⟩ : ∃ D : Int, D = 48 - R := ⟨_, rfl⟩
      have hDc : D = (c.toNat : Int) := by rw [hD, hc, digit_int _ (by omega)]; omega
      have t2 : 48 - R = D := hD.symm
      have t3 : IntKind.u8.wrap D = D := by rw [IntKind.wrap_u8]; omega
      have hcv := conv_one w.heap.size c (w.alloc (.cells #[.int .u8 D] 5)) (by rw [hDc]; simp)
      have HI := hid (ih q Q (w.alloc (.cells #[.int .u8 D] 5)) hQ (by rw [Nat.pow_succ] at h; omega) (by omega))
      have hcat : (⟨(dec q).toArray⟩ ++ ⟨#[c]⟩ : ByteArray) = ⟨(dec m).toArray⟩ := by
        rw [show (⟨#[c]⟩ : ByteArray) = ⟨[c].toArray⟩ from rfl, app_ba, dec_big h10, ← hq, ← hc]
      have z1 : z ≤ -10 := by omega
      have r1 : -9 ≤ R := by omega
      have r2 : R ≤ 0 := by omega
      have q1 : Q ≤ 0 := by omega
      have q2 : -922337203685477580 ≤ Q := by omega
      have hDl : (dec q).length ≤ 30 := by
        have := itoa_len (q : Nat) (by omega) (by omega)
        rw [Lib.itoa_nonneg] at this
        unfold dec
        omega
      generalize dec q = DQ at HI hcat hDl
      generalize dec m = DM at hcat ⊢
      clear hc hD hDc hz hR hQ hq ih base h h10
      go_enter Tryd.func28, Tryd.ntmps28
      go_wp2_with fail
      refine HI.out.mono ?_; rintro e w2 ⟨rfl, hb2⟩
      have HB := hid ((below_alloc w _).trans (hb2.mono (by simp)))
      clear hb2 HI
      go_wp2_with fail
      go_ret
      exact ⟨rfl, HB.out⟩
set_option maxHeartbeats 2000000 in
set_option maxRecDepth 100000 in
/-- ref Digits -/
theorem digits_any (n : Int) (w : World) (h0 : -9223372036854775808 ≤ n) (h1 : n ≤ 9223372036854775807) :
    Calls Tryd.prog 23 #[.int .i64 n] w fun e w' => e = .returned (.string ⟨(Lib.itoa n).toArray⟩) ∧ Below w.heap.size w w' := by
  by_cases hn : n < 0
  · obtain ⟨m, hm⟩ : ∃ m : Nat, n = -(m : Int) := ⟨n.natAbs, by omega⟩
    have HI := hid (below_go 19 m n w hm (by omega) (by omega))
    have hcat : (⟨#[45]⟩ ++ ⟨(dec m).toArray⟩ : ByteArray) = ⟨(Lib.itoa n).toArray⟩ := by
      rw [show (⟨#[45]⟩ : ByteArray) = ⟨[45].toArray⟩ from rfl, app_ba, hm, Lib.itoa_neg m (by omega)]; rfl
    have hDl : (dec m).length ≤ 30 := by
      have := itoa_len n h0 h1
      rw [hm, Lib.itoa_neg m (by omega)] at this
      simp at this
      unfold dec
      omega
    generalize Lib.itoa n = T at hcat ⊢
    generalize dec m = DM at HI hcat hDl
    clear hm
    go_enter Tryd.func23, Tryd.ntmps23
    go_wp2_with fail
    refine HI.out.mono ?_; rintro e w2 ⟨rfl, hb2⟩
    have HB := hid hb2
    clear hb2
    go_wp2_with fail
    go_ret
    exact ⟨rfl, HB.out⟩
  · obtain ⟨m, rfl⟩ := Int.eq_ofNat_of_zero_le (show 0 ≤ n by omega)
    have HI := hid (below_go 19 m (-(m : Int)) w rfl (by omega) (by omega))
    rw [Lib.itoa_nonneg]
    go_enter Tryd.func23, Tryd.ntmps23
    go_wp2_with fail
    refine HI.out.mono ?_; rintro e w2 ⟨rfl, hb2⟩
    have HB := hid hb2
    clear hb2
    go_wp2_with fail
    go_ret
    exact ⟨rfl, HB.out⟩

end Go.Proofs.YtpmpndfinghlkaaDoor
