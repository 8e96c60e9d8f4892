/- The law of many names. -/
import Derived.Test.YtphegggekcjenaaDoorLawAll
import Derived.Test.YtphegggekcjenaaDoorManyP
import Derived.Laws.IdiomStrings
namespace Go.Proofs.YtphegggekcjenaaDoor
open Go.RowKit

theorem conv_name (i : Nat) (hi : i < 3000) (w : World) : (convert 48 9 (.slice (some ⟨w.heap.size, 0, none⟩) 3 3)).run Tryd.prog (w.alloc (.cells #[.int .u8 ((i : Int) % 256), .int .u8 ((i : Int) / 256), .int .u8 120] 5)) = .ok (txt (nam i)) (w.alloc (.cells #[.int .u8 ((i : Int) % 256), .int .u8 ((i : Int) / 256), .int .u8 120] 5)) :=
  run_convert_bytes_back (P := Tryd.prog) _ 48 9 5 ⟨w.heap.size, 0, none⟩ 3 (nam i) Tryd.underlying48 Tryd.underlying5 Tryd.underlying9 (fun j hj => by
    have hj3 : j < 3 := hj
    rw [Go.WideShapes.add_plain, cell_of_row _ _ _ _ _ _ (heap_alloc_new w _), Nat.zero_add]
    match j, hj3 with
    | 0, _ => show some (Value.int .u8 ((i : Int) % 256)) = some (Value.int .u8 ((UInt8.ofNat i).toNat : Int)); rw [UInt8.toNat_ofNat']; congr 2
    | 1, _ =>
      show some (Value.int .u8 ((i : Int) / 256)) = some (Value.int .u8 ((UInt8.ofNat (i / 256)).toNat : Int))
      rw [UInt8.toNat_ofNat', Nat.mod_eq_of_lt (by omega)]; congr 2
    | 2, _ => rfl)
set_option maxHeartbeats 2000000 in
set_option maxRecDepth 100000 in
/-- the name of a number -/
theorem name_any (i : Nat) (hi : i < 3000) (w : World) : Calls Tryd.prog 21 #[.int .i64 i] w fun e w' => e = .returned (txt (nam i)) ∧ Hid (Below w.heap.size w w') := by
  have hz : (i : Int) < 3000 := by omega
  have hc := conv_name i hi w
  generalize nam i = N at *
  go_enter Tryd.func21, Tryd.ntmps21
  go_wp2_with fail
  go_ret
  exact ⟨rfl, below_alloc w _⟩
set_option maxHeartbeats 4000000 in
set_option maxRecDepth 100000 in
theorem many_any {V : World → Prop} {B : Nat} {Dq : World → Nat → (Nat → Prop) → DM Int → Prop} (M : MethI V B Dq) (m : Int) (w : World) (hV : V w) (hB : B ≤ w.heap.size) (m0 : -9223372036854775808 ≤ m) (m1 : m ≤ 9223372036854775807) :
    Calls Tryd.prog 6 #[.int .i64 m] w fun e w' => e = .returned (.bool true) ∧ Below w.heap.size w w' := by
  have HM := hid M
  have HV := hid hV
  have HN := hid (M.new w hV hB)
  clear M hV
  by_cases hbig : m < 0 ∨ 3000 < m
  · by_cases h1 : m < 0
    all_goals by_cases h2 : 3000 < m
    all_goals first | (exfalso; omega) | skip
    all_goals
      clear hbig
      go_enter Tryd.func6, Tryd.ntmps6
      go_wp2_with fail
      refine HN.out.mono ?_; rintro e w1 ⟨b1, rfl, hh⟩
      obtain ⟨O0, hO0⟩ := hh.out
      have HB2 := hid hO0.2.2
      clear hh hO0
      go_wp2_with fail
      refine (alive_any HM.out _ (HM.out.envB HV.out hB hB HB2.out) (Nat.le_trans hB HB2.out.size)).mono ?_; rintro e w3 ⟨rfl, hh⟩
      have HB3 := hid (HB2.out.trans (hh.out.mono HB2.out.size))
      clear hh
      go_wp2_with fail
      go_ret
      exact ⟨rfl, HB3.out⟩
  · have h1 : ¬ m < 0 := by omega
    have h2 : ¬ 3000 < m := by omega
    clear hbig m0 m1
    obtain ⟨m, rfl⟩ : ∃ k : Nat, m = (k : Int) := ⟨m.toNat, by omega⟩
    have hm : m ≤ 3000 := by omega
    go_enter Tryd.func6, Tryd.ntmps6
    go_wp2_with fail
    refine HN.out.mono ?_; rintro e w1 ⟨b, rfl, hh⟩
    obtain ⟨O0, hO0⟩ := hh.out
    have H1 := hid hO0
    clear hh hO0 HN
    go_wp2_with fail
    go_loopw [5, 29] (fun _ v29 W => ∃ i : Nat, v29 = .int .i64 i ∧ i ≤ m ∧ Hid (∃ O, Dq W b O (manyD i) ∧ (∀ k, O k → w.heap.size ≤ k)) ∧ Hid (Below w.heap.size w W)) (fun _ v29 _ => m - (intOf v29).toNat)
    case atStart => exact ⟨0, rfl, Nat.zero_le _, ⟨O0, H1.out.1, H1.out.2.1⟩, H1.out.2.2⟩
    case round =>
      obtain ⟨i, rfl, hi, HDD, HW⟩ := hrel
      obtain ⟨O, hDO⟩ := HDD.out
      have HD := hid hDO
      clear hDO HDD
      by_cases hlt : i < m
      · have hlz : (i : Int) < (m : Int) := by omega
        have HP := hid fun W h => HM.out.put b O (manyD i) (nam i) i W h ((many_small i).mono (by omega)) (by simp [nam])
        rw [many_new (show i < 65536 by omega), show putD (manyD i) (nam i) i = manyD (i + 1) from rfl] at HP
        go_wp2_with fail
        refine (name_any i (by omega) _).mono ?_; rintro e w2 ⟨rfl, hh⟩
        have HD2 := hid (HM.out.below HD.out.1 hh.out)
        have HW2 := hid (HW.out.trans (hh.out.mono HW.out.size))
        clear hh
        go_wp2_with fail
        refine (HP.out _ HD2.out).mono ?_; rintro e w3 ⟨rfl, hh⟩
        obtain ⟨O3, k1, k2, k3⟩ := hh.out
        have HD3 : Hid (∃ O, Dq w3 b O (manyD (i + 1)) ∧ (∀ k, O k → w.heap.size ≤ k)) := ⟨O3, k1, fun k hk => by rcases k2 k hk with g | g; exact HD.out.2 k g; exact Nat.le_trans HW2.out.size g⟩
        have HW3 := hid (keep_off_below HW2.out k3 HD.out.2 HW2.out.size)
        clear hh k1 k2 k3
        go_wp2_with fail
        exact ⟨⟨i + 1, by go_num, by omega, HD3.out, HW3.out⟩, by simp [intOf]; omega⟩
      · obtain rfl : i = m := by omega
        go_wp2_with fail
        go_loopw [6, 7, 8, 40] (fun _ _ _ v40 W => ∃ j : Nat, v40 = .int .i64 j ∧ j ≤ i ∧ Hid (Dq W b O (manyD i)) ∧ Hid (Below w.heap.size w W)) (fun _ _ _ v40 _ => i - (intOf v40).toNat)
        case atStart => exact ⟨0, rfl, Nat.zero_le _, HD.out.1, HW.out⟩
        case round =>
          obtain ⟨j, rfl, hj, HDj, HWj⟩ := hrel
          by_cases hlj : j < i
          · have hjz : (j : Int) < (i : Int) := by omega
            have HG := hid fun W h => HM.out.get b O (manyD i) (nam j) W h ((many_small i).mono (by omega)) (by simp [nam])
            rw [many_get (show i ≤ 65536 by omega) hlj] at HG
            simp only [Option.getD_some, Option.isSome_some] at HG
            go_wp2_with fail
            refine (name_any j (by omega) _).mono ?_; rintro e w2 ⟨rfl, hh⟩
            have HD2 := hid (HM.out.below HDj.out hh.out)
            have HW2 := hid (HWj.out.trans (hh.out.mono HWj.out.size))
            clear hh
            go_wp2_with fail
            refine (HG.out _ HD2.out).mono ?_; rintro e w3 ⟨rfl, hh⟩
            have HD3 := hid (HM.out.below HD2.out hh.out)
            have HW3 := hid (HW2.out.trans (hh.out.mono HW2.out.size))
            clear hh
            go_wp2_with fail
            exact ⟨⟨j + 1, by go_num, by omega, HD3.out, HW3.out⟩, by simp [intOf]; omega⟩
          · obtain rfl : j = i := by omega
            go_wp2_with fail
            go_loopw [9, 60] (fun _ v60 W => ∃ k : Nat, v60 = .int .i64 k ∧ k ≤ j ∧ Hid (∃ O, Dq W b O (goneD j k) ∧ (∀ k, O k → w.heap.size ≤ k)) ∧ Hid (Below w.heap.size w W)) (fun _ v60 _ => j - (intOf v60).toNat)
            case atStart => exact ⟨0, rfl, Nat.zero_le _, ⟨O, HDj.out, HD.out.2⟩, HWj.out⟩
            case round =>
              obtain ⟨k, rfl, hk, HDD, HWk⟩ := hrel
              obtain ⟨O5, hDO⟩ := HDD.out
              have HDk := hid hDO
              clear hDO HDD
              by_cases hlk : k < j
              · have hkz : (k : Int) < (j : Int) := by omega
                have HP := hid fun W h => HM.out.del b O5 (goneD j k) (nam k) W h ((gone_small j k).mono (by omega)) (by simp [nam])
                rw [gone_has (show j ≤ 65536 by omega) hlk, show delD (goneD j k) (nam k) = goneD j (k + 1) from rfl] at HP
                go_wp2_with fail
                refine (name_any k (by omega) _).mono ?_; rintro e w2 ⟨rfl, hh⟩
                have HD2 := hid (HM.out.below HDk.out.1 hh.out)
                have HW2 := hid (HWk.out.trans (hh.out.mono HWk.out.size))
                clear hh
                go_wp2_with fail
                refine (HP.out _ HD2.out).mono ?_; rintro e w3 ⟨rfl, hh⟩
                obtain ⟨O3, k1, k2, k3⟩ := hh.out
                have HD3 : Hid (∃ O, Dq w3 b O (goneD j (k + 1)) ∧ (∀ k, O k → w.heap.size ≤ k)) := ⟨O3, k1, fun k hk => by rcases k2 k hk with g | g; exact HDk.out.2 k g; exact Nat.le_trans HW2.out.size g⟩
                have HW3 := hid (keep_off_below HW2.out k3 HDk.out.2 HW2.out.size)
                clear hh k1 k2 k3
                go_wp2_with fail
                exact ⟨⟨k + 1, by go_num, by omega, HD3.out, HW3.out⟩, by simp [intOf]; omega⟩
              · obtain rfl : k = j := by omega
                go_wp2_with fail
                go_loopw [70] (fun v70 W => ∃ n : Nat, v70 = .int .i64 n ∧ n ≤ 8000 ∧ Hid (∃ O, Dq W b O (finD k n) ∧ (∀ k, O k → w.heap.size ≤ k)) ∧ Hid (Below w.heap.size w W)) (fun v70 _ => 8000 - (intOf v70).toNat)
                case atStart => exact ⟨0, rfl, Nat.zero_le _, ⟨O5, HDk.out.1, HDk.out.2⟩, HWk.out⟩
                case round =>
                  obtain ⟨n, rfl, hn, HDD, HWn⟩ := hrel
                  obtain ⟨O6, hDO⟩ := HDD.out
                  have HDn := hid hDO
                  clear hDO HDD
                  by_cases hln : n < 8000
                  · have hnz : (n : Int) < 8000 := by omega
                    have HS1 := hid (HM.out.step b O6 (finD k n) _ HDn.out.1 ((fin_small k n).mono (by omega)))
                    have HP := hid fun O7 W h => HM.out.del b O7 (stepD (finD k n)) [] W h ((fin_small k n).step.mono (by omega)) (by simp)
                    rw [show delD (stepD (finD k n)) [] = finD k (n + 1) from rfl] at HP
                    go_wp2_with fail
                    refine HS1.out.mono ?_; rintro e w2 ⟨rfl, hh⟩
                    obtain ⟨O7, k1, k2, k3⟩ := hh.out
                    have HD2 := hid k1
                    have HO7 : Hid (∀ k, O7 k → w.heap.size ≤ k) := fun k hk => by rcases k2 k hk with g | g; exact HDn.out.2 k g; exact Nat.le_trans HWn.out.size g
                    have HW2 := hid (keep_off_below HWn.out k3 HDn.out.2 HWn.out.size)
                    clear hh k1 k2 k3
                    go_wp2_with fail
                    refine (HP.out O7 _ HD2.out).mono ?_; rintro e w3 ⟨rfl, hh⟩
                    obtain ⟨O3, k1, k2, k3⟩ := hh.out
                    have HD3 : Hid (∃ O, Dq w3 b O (finD k (n + 1)) ∧ (∀ k, O k → w.heap.size ≤ k)) := ⟨O3, k1, fun k hk => by rcases k2 k hk with g | g; exact HO7.out k g; exact Nat.le_trans HW2.out.size g⟩
                    have HW3 := hid (keep_off_below HW2.out k3 HO7.out HW2.out.size)
                    clear hh k1 k2 k3
                    go_wp2_with fail
                    exact ⟨⟨n + 1, by go_num, by omega, HD3.out, HW3.out⟩, by simp [intOf]; omega⟩
                  · obtain rfl : n = 8000 := by omega
                    have hend := (fin_fin hm 8000 0 rfl)
                    have HR := hid fun W h => HM.out.rooms b O6 (finD k 8000) W h ((fin_small k 8000).mono (by omega))
                    have HL := hid fun W h => HM.out.length b O6 (finD k 8000) W h
                    rw [hend.end.1, hend.end.2] at HR
                    rw [hend.1] at HL
                    go_wp2_with fail
                    refine (HR.out _ HDn.out.1).mono ?_; rintro e w2 ⟨rfl, hh⟩
                    have HD2 := hid (HM.out.below HDn.out.1 hh.out)
                    have HW2 := hid (HWn.out.trans (hh.out.mono HWn.out.size))
                    clear hh
                    go_wp2_with fail
                    refine (alive_any HM.out _ (HM.out.envB HV.out hB hB HW2.out) (Nat.le_trans hB HW2.out.size)).mono ?_; rintro e w3 ⟨rfl, hh⟩
                    have HD3 := hid (HM.out.below HD2.out hh.out)
                    have HW3 := hid (HW2.out.trans (hh.out.mono HW2.out.size))
                    clear hh
                    go_wp2_with fail
                    refine (HL.out _ HD3.out).mono ?_; rintro e w4 ⟨rfl, hh⟩
                    have HW4 := hid (HW3.out.trans (hh.out.mono HW3.out.size))
                    clear hh
                    go_wp2_with fail
                    go_ret
                    exact ⟨rfl, HW4.out⟩

end Go.Proofs.YtphegggekcjenaaDoor
