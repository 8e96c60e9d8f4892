/- A number's digits, by the document: ref decimal. -/
import Derived.Test.YtgpdbcigogkkbaaDoorPrint
import Derived.Test.YtgpdbcigogkkbaaDoorBase
namespace Go.Proofs.YtgpdbcigogkkbaaDoor
open Go.RowKit
open Slot

theorem conv_one (b : Nat) (c : UInt8) (W : World) (h : W.cell? ⟨b, 0, none⟩ = some (.int .u8 (c.toNat : Int))) : (convert 36 9 (.slice (some ⟨b, 0, none⟩) 1 1)).run Tryd.prog W = .ok (.string ⟨#[c]⟩) W :=
  run_convert_bytes_back (P := Tryd.prog) W 36 9 5 ⟨b, 0, none⟩ 1 [c] Tryd.underlying36 Tryd.underlying5 Tryd.underlying9 (fun j hj => by
    have : j = 0 := by simp at hj; omega
    subst this
    rw [Go.WideShapes.add_plain]
    simpa using h)
theorem digit_nat (n : Nat) (h : n < 10) : ((UInt8.ofNat (48 + n)).toNat : Int) = 48 + (n : Int) := by
  rw [UInt8.toNat_ofNat']; omega
theorem dec_small {n : Nat} (h : n < 10) : dec n = [UInt8.ofNat (48 + n)] := Lib.decDigits_one h
theorem dec_big {n : Nat} (h : ¬ n < 10) : dec n = dec (n / 10) ++ [UInt8.ofNat (48 + n % 10)] := by
  unfold dec; rw [Lib.decDigits, dif_neg h]

set_option maxHeartbeats 2000000 in
set_option maxRecDepth 100000 in
theorem decimal_any (k : Nat) : ∀ (n : Nat) (w : World), n < 10 ^ (k + 1) → n < 16384 →
    Calls Tryd.prog 32 #[.int .i64 n] w fun e w' => e = .returned (.string ⟨(dec n).toArray⟩) ∧ Below w.heap.size w w' := by
  have base : ∀ (n : Nat) (w : World), n < 10 → Calls Tryd.prog 32 #[.int .i64 n] w fun e w' => e = .returned (.string ⟨(dec n).toArray⟩) ∧ Below w.heap.size w w' := fun n w h => by
    obtain ⟨c, hc⟩ : ∃ c, c = UInt8.ofNat (48 + n) := ⟨_, rfl⟩
    have hcv := conv_one w.heap.size c (w.alloc (.cells #[.int .u8 (48 + (n : Int))] 5)) (by rw [hc, digit_nat n h]; simp)
    have HD : Hid ([c] = dec n) := by unfold Hid; rw [hc]; exact (dec_small h).symm
    clear hc
    go_enter Tryd.func32, Tryd.ntmps32
    go_wp2_with fail
    go_ret
    exact ⟨ret_str HD.out, below_alloc _ _⟩
  induction k with
  | zero => exact fun n w h _ => base n w (by omega)
  | succ k ih =>
    intro n w hn h16
    by_cases h10 : n < 10
    · exact base n w h10
    · obtain ⟨q, hq⟩ : ∃ q, q = n / 10 := ⟨_, rfl⟩
      obtain ⟨r, hr⟩ : ∃ q, q = n % 10 := ⟨_, rfl⟩
      obtain ⟨c, hc⟩ : ∃ c, c = UInt8.ofNat (48 + n % 10) := ⟨_, rfl⟩
      have q1 : (n : Int) / 10 = (q : Int) := by omega
      have q2 : (n : Int).tdiv 10 = (q : Int) := by rw [Int.tdiv_eq_ediv_of_nonneg (by omega)]; omega
      have q3 : IntKind.i64.wrap (q : Int) = (q : Int) := by rw [IntKind.wrap_i64]; omega
      have r1 : (n : Int) % 10 = (r : Int) := by omega
      have r2 : (n : Int).tmod 10 = (r : Int) := by rw [Int.tmod_eq_emod_of_nonneg (by omega)]; omega
      have r3 : IntKind.i64.wrap (48 + (r : Int)) = 48 + (r : Int) := by rw [IntKind.wrap_i64]; omega
      have r4 : IntKind.u8.wrap (48 + (r : Int)) = 48 + (r : Int) := by rw [IntKind.wrap_u8]; omega
      have hcr : ((c.toNat : Nat) : Int) = 48 + (r : Int) := by rw [hc, hr]; exact digit_nat _ (by omega)
      obtain ⟨D, hD⟩ : ∃ D, D = dec q := ⟨_, rfl⟩
      have HI := hid fun W => ih q W (by rw [Nat.pow_succ] at hn; omega) (by omega)
      rw [← hD] at HI
      obtain ⟨M, hM⟩ : ∃ M, M = dec n := ⟨_, rfl⟩
      have p1 : ((⟨D.toArray⟩ : ByteArray) ++ ⟨#[c]⟩) = ⟨M.toArray⟩ := by
        rw [hM, dec_big h10, ← hq, ← hD, ← hc]
        apply ByteArray.ext
        simp
      have hDl : D.length ≤ 5 := by rw [hD]; exact dec_len q (by omega)
      rw [← hM]
      have hcv0 := conv_one w.heap.size c ((w.alloc (.cells #[.int .u8 (48 + (r : Int))] 5)).drew) (by rw [hcr]; simp)
      have HCc := hid fun b W h => conv_one b c W h
      have hn10 : ¬ ((n : Int) < 10) := by omega
      clear hq hr hc hD hM ih base h10
      go_enter Tryd.func32, Tryd.ntmps32
      go_wp2_with fail
      go_region_with (first
        | (go_at_call 32; refine (HI.out ((w.alloc (.cells #[.int .u8 (48 + (r : Int))] 5)).drew)).mono ?_; rintro e w1 ⟨rfl, hb1⟩; have hx := HCc.out w.heap.size w1 (by rw [hb1.cell (p := ⟨w.heap.size, 0, none⟩) (by simp), hcr]; simp); have HB1 := hid (Below.trans ((below_alloc w _).drew) (hb1.mono (by simp))); clear hb1)
        | (go_at_call 32; refine (HI.out w.drew).mono ?_; rintro e w1 ⟨rfl, hb1⟩; have hx := HCc.out w1.heap.size (w1.alloc (.cells #[.int .u8 (48 + (r : Int))] 5)) (by rw [hcr]; simp); have HB1 := hid (Below.trans (Below.drew (Below.refl _ w)) hb1); clear hb1))
      all_goals go_wp2_with fail
      all_goals go_ret
      all_goals first
        | exact ⟨rfl, HB1.out.alloc HB1.out.size _⟩
        | exact ⟨rfl, HB1.out⟩

end Go.Proofs.YtgpdbcigogkkbaaDoor
