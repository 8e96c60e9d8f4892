/- The document's names, values, two, text, part. -/
import Derived.Test.YtmjmdfenkhmfbaaDoorVMem
namespace Go.Proofs.YtmjmdfenkhmfbaaDoor
open Go.RowKit

theorem conv_two (b : Nat) (x y : UInt8) (W : World) (h0 : W.cell? ⟨b, 0, none⟩ = some (.int .u8 (x.toNat : Int))) (h1 : W.cell? ⟨b, 1, none⟩ = some (.int .u8 (y.toNat : Int))) : (convert 40 9 (.slice (some ⟨b, 0, none⟩) 2 2)).run Tryd.prog W = .ok (.string ⟨#[x, y]⟩) W :=
  run_convert_bytes_back (P := Tryd.prog) W 40 9 5 ⟨b, 0, none⟩ 2 [x, y] Tryd.underlying40 Tryd.underlying5 Tryd.underlying9 (fun j hj => by
    rw [Go.WideShapes.add_plain]
    have : j = 0 ∨ j = 1 := by simp at hj; omega
    rcases this with rfl | rfl
    · simpa using h0
    · simpa using h1)
set_option maxHeartbeats 1000000 in
set_option maxRecDepth 100000 in
/-- ref two -/
theorem two_any (n : Nat) (w : World) (hn : n < 65536) : Calls Tryd.prog 38 #[.int .i64 (n : Int)] w fun e w' => e = .returned (txt (two n)) ∧ Hid (Below w.heap.size w w') := by
  have HW := hid (below_alloc w (.cells #[.int .u8 ((n / 256 : Nat) : Int), .int .u8 ((n % 256 : Nat) : Int)] 5))
  have e0 : ((UInt8.ofNat (n / 256)).toNat : Int) = ((n / 256 : Nat) : Int) := by rw [UInt8.toNat_ofNat']; omega
  have e1 : ((UInt8.ofNat (n % 256)).toNat : Int) = ((n % 256 : Nat) : Int) := by rw [UInt8.toNat_ofNat']; omega
  have hr := conv_two w.heap.size (UInt8.ofNat (n / 256)) (UInt8.ofNat (n % 256)) (w.alloc (.cells #[.int .u8 ((n / 256 : Nat) : Int), .int .u8 ((n % 256 : Nat) : Int)] 5)) (by rw [e0]; simp) (by rw [e1]; simp)
  have t0 : (n : Int).tdiv 256 = ((n / 256 : Nat) : Int) := by rw [Int.tdiv_eq_ediv_of_nonneg (by omega)]; omega
  have t1 : (n : Int).tmod 256 = ((n % 256 : Nat) : Int) := by rw [Int.tmod_eq_emod_of_nonneg (by omega)]; omega
  have d0 : (n : Int) / 256 = ((n / 256 : Nat) : Int) := by omega
  have d1 : (n : Int) % 256 = ((n % 256 : Nat) : Int) := by omega
  have b0 : n / 256 < 256 := by omega
  have b1 : n % 256 < 256 := by omega
  have q0 : ((n / 256 : Nat) : Int) < 256 := by omega
  have q1 : ((n % 256 : Nat) : Int) < 256 := by omega
  have q2 : (0 : Int) ≤ ((n / 256 : Nat) : Int) := by omega
  have q3 : (0 : Int) ≤ ((n % 256 : Nat) : Int) := by omega
  unfold two
  generalize UInt8.ofNat (n / 256) = X at *
  generalize UInt8.ofNat (n % 256) = Y at *
  have k0 : IntKind.u8.wrap ((n / 256 : Nat) : Int) = ((n / 256 : Nat) : Int) := by rw [IntKind.wrap_u8]; omega
  have k1 : IntKind.u8.wrap ((n % 256 : Nat) : Int) = ((n % 256 : Nat) : Int) := by rw [IntKind.wrap_u8]; omega
  generalize ((n / 256 : Nat) : Int) = A at *
  generalize ((n % 256 : Nat) : Int) = B at *
  have hn1 : (n : Int) < 65536 := by omega
  clear hn b0 b1 e0 e1
  go_enter Tryd.func38, Tryd.ntmps38
  go_wp2_with fail
  go_ret
  exact ⟨rfl, HW.out⟩
set_option maxHeartbeats 1000000 in
set_option maxRecDepth 100000 in
/-- ref text -/
theorem text_any (s : Nm) (w : World) (hs : s.length < 65536) : Calls Tryd.prog 51 #[txt s] w fun e w' => e = .returned (txt (tx s)) ∧ Hid (Below w.heap.size w w') := by
  have HT := hid (fun W => two_any s.length W hs)
  have hc : (⟨(two s.length).toArray⟩ ++ ⟨s.toArray⟩ : ByteArray) = ⟨(tx s).toArray⟩ := app_ba _ _
  have hl := two_len s.length
  have hsz : (s.length : Int) < 65536 := by omega
  have n1 : ¬ 9223372036854775807 < 2 + s.length := by omega
  have n2 : ¬ 9223372036854775807 < (two s.length).length + s.length := by omega
  generalize tx s = R at *
  generalize two s.length = T2 at *
  clear hs
  go_enter Tryd.func51, Tryd.ntmps51
  go_wp2_with fail
  refine (HT.out _).mono ?_; rintro e w1 ⟨rfl, hh⟩
  go_wp2_with fail
  go_ret
  exact ⟨rfl, hh⟩
set_option maxHeartbeats 1000000 in
set_option maxRecDepth 100000 in
/-- ref part -/
theorem part_any (n : Int) (w : World) (h0 : -1048576 ≤ n) (h1 : n ≤ 1048576) : Calls Tryd.prog 52 #[.int .i64 n] w fun e w' => e = .returned (txt (part n)) ∧ Hid (Below w.heap.size w w') := by
  obtain ⟨z, hz⟩ : ∃ z : Nat, z = (n % 4294967296).toNat := ⟨_, rfl⟩
  have hzl : z < 4294967296 := by omega
  have HA := hid (fun W => two_any (z / 65536) W (by omega))
  have HB := hid (fun W => two_any (z % 65536) W (by omega))
  have hc : (⟨(two (z / 65536)).toArray⟩ ++ ⟨(two (z % 65536)).toArray⟩ : ByteArray) = ⟨(part n).toArray⟩ := by rw [app_ba, hz]; rfl
  have l1 := two_len (z / 65536)
  have l2 := two_len (z % 65536)
  have t0 : (z : Int).tdiv 65536 = ((z / 65536 : Nat) : Int) := by rw [Int.tdiv_eq_ediv_of_nonneg (by omega)]; omega
  have t1 : (z : Int).tmod 65536 = ((z % 65536 : Nat) : Int) := by rw [Int.tmod_eq_emod_of_nonneg (by omega)]; omega
  have d0 : (z : Int) / 65536 = ((z / 65536 : Nat) : Int) := by omega
  have d1 : (z : Int) % 65536 = ((z % 65536 : Nat) : Int) := by omega
  have hzz : (z : Int) < 4294967296 := by omega
  generalize part n = R at *
  generalize two (z / 65536) = P at *
  generalize two (z % 65536) = Q at *
  have n1 : ¬ 9223372036854775807 < P.length + Q.length := by omega
  by_cases hn : n < 0
  · have e : n + 4294967296 = (z : Int) := by omega
    generalize ((z / 65536 : Nat) : Int) = A at *
    generalize ((z % 65536 : Nat) : Int) = B at *
    clear hz hzl
    go_enter Tryd.func52, Tryd.ntmps52
    go_wp2_with fail
    refine (HA.out _).mono ?_; rintro e w1 ⟨rfl, hh⟩
    have HW := hid hh.out
    clear hh
    go_wp2_with fail
    refine (HB.out _).mono ?_; rintro e w2 ⟨rfl, hh⟩
    have HW2 := hid (HW.out.trans (hh.out.mono HW.out.size))
    clear hh
    go_wp2_with fail
    go_ret
    exact ⟨rfl, HW2.out⟩
  · obtain rfl : n = (z : Int) := by omega
    generalize ((z / 65536 : Nat) : Int) = A at *
    generalize ((z % 65536 : Nat) : Int) = B at *
    clear hz hzl
    go_enter Tryd.func52, Tryd.ntmps52
    go_wp2_with fail
    refine (HA.out _).mono ?_; rintro e w1 ⟨rfl, hh⟩
    have HW := hid hh.out
    clear hh
    go_wp2_with fail
    refine (HB.out _).mono ?_; rintro e w2 ⟨rfl, hh⟩
    have HW2 := hid (HW.out.trans (hh.out.mono HW.out.size))
    clear hh
    go_wp2_with fail
    go_ret
    exact ⟨rfl, HW2.out⟩

end Go.Proofs.YtmjmdfenkhmfbaaDoor
