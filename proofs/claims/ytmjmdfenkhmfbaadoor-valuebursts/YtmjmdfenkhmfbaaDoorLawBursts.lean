/- The law of bits turned: ValueBursts. -/
import Derived.Test.YtmjmdfenkhmfbaaDoorBurstMem
namespace Go.Proofs.YtmjmdfenkhmfbaaDoor
open Go.RowKit
open Crc

set_option maxHeartbeats 4000000 in
set_option maxRecDepth 100000 in
theorem bursts_out {V : World → Prop} (M : MethV V) (m : Vl) (pp : Option Addr) (pc' : Nat) (ip : Option Addr) (ic : Nat) (p : Int) (T : BitVec 16) (w : World) (hV : V w) (hC : Came m) (hI : VI w m pp pc' ip ic) (h : rightB m = false ∨ p < 0 ∨ 8 * ((dumpS m).length : Int) ≤ p) :
    Calls Tryd.prog 7 #[vv m pp pc' ip ic, .int .i64 p, .int .u16 (T.toNat : Int)] w fun e w' => e = .returned (.bool true) ∧ Below w.heap.size w w' := by
  have HM := hid M
  have HV := hid hV
  have HVI := hid hI
  have HX := hid (val_new w m pp pc' ip ic)
  have HB := hid (below_alloc w (vob m pp pc' ip ic))
  obtain ⟨c0, c1, c2, c3, c4, c5⟩ := val_facts HX.out
  have H1 := hid (fun W h k => HM.out.dump m pp pc' ip ic W h hC k)
  have hmx := dumpS_max m
  generalize dumpS m = D at *
  generalize rightB m = R at *
  have hz : (D.length : Int) ≤ 1000002 := by omega
  clear M hV hI hmx
  go_enter Tryd.func7, Tryd.ntmps7
  go_wp2_with fail
  refine (H1.out _ (HM.out.env HV.out HB.out) (HVI.out.below HB.out)).mono ?_; rintro e w1 ⟨rfl, hh⟩
  have HW1 := hid (HB.out.trans (hh.out.mono HB.out.size))
  clear hh c0 c1 c2 c3 c4 c5
  have HA := hid (alive_any HM.out _ (HM.out.env HV.out HW1.out))
  cases R with
  | false =>
    go_wp2_with fail
    refine HA.out.mono ?_; rintro e w2 ⟨rfl, hh⟩
    have HW2 := hid (HW1.out.trans (hh.out.mono HW1.out.size))
    clear hh
    go_wp2_with fail
    go_ret
    exact ⟨rfl, HW2.out⟩
  | true =>
    by_cases h0 : p < 0
    · go_wp2_with fail
      refine HA.out.mono ?_; rintro e w2 ⟨rfl, hh⟩
      have HW2 := hid (HW1.out.trans (hh.out.mono HW1.out.size))
      clear hh
      go_wp2_with fail
      go_ret
      exact ⟨rfl, HW2.out⟩
    · have h8 : 8 * (D.length : Int) ≤ p := by
        rcases h with h | h | h
        · cases h
        · exact absurd h h0
        · exact h
      clear h
      go_wp2_with fail
      refine HA.out.mono ?_; rintro e w2 ⟨rfl, hh⟩
      have HW2 := hid (HW1.out.trans (hh.out.mono HW1.out.size))
      clear hh
      go_wp2_with fail
      go_ret
      exact ⟨rfl, HW2.out⟩
set_option maxHeartbeats 8000000 in
set_option maxRecDepth 100000 in
theorem bursts_in {V : World → Prop} (M : MethV V) (m : Vl) (pp : Option Addr) (pc' : Nat) (ip : Option Addr) (ic : Nat) (p : Nat) (T : BitVec 16) (w : World) (hV : V w) (hC : Came m) (hI : VI w m pp pc' ip ic) (hr : rightB m = true) (hp : p < 8 * (dumpS m).length) :
    Calls Tryd.prog 7 #[vv m pp pc' ip ic, .int .i64 (p : Int), .int .u16 (T.toNat : Int)] w fun e w' => e = .returned (.bool true) ∧ Below w.heap.size w w' := by
  have HM := hid M
  have HV := hid hV
  have HVI := hid hI
  have HX := hid (val_new w m pp pc' ip ic)
  have HB := hid (below_alloc w (vob m pp pc' ip ic))
  obtain ⟨c0, c1, c2, c3, c4, c5⟩ := val_facts HX.out
  have H1 := hid (fun W h k => HM.out.dump m pp pc' ip ic W h hC k)
  rw [hr] at H1
  have hmx := dumpS_max m
  have HS0 : Hid (sumN (dumpS m) = 0) := by rw [show dumpS m = dumpV m from if_pos hr]; exact sum_dump m
  have HL3 : Hid (3 ≤ (dumpS m).length) := by rw [show dumpS m = dumpV m from if_pos hr, dump_len]; have := body_len m; show 3 ≤ _; omega
  have kc := fun (w : World) (s : ByteArray) => Lib.run_convert_string_bytes (P := Tryd.prog) w 9 40 5 s Tryd.underlying9 Tryd.underlying40 Tryd.underlying5
  have HLd := hid (fun s W h k => HM.out.load s W h k)
  generalize dumpS m = D at *
  obtain ⟨l, hl⟩ : ∃ l, l = D.map UInt8.toBitVec := ⟨_, rfl⟩
  have hll : l.length = D.length := by rw [hl]; simp
  have HN := hid hll
  have HLm := hid hl
  have hz : (D.length : Int) ≤ 1000002 := by omega
  have hnp : ¬ (p : Int) < 0 := by omega
  have hn8 : ¬ 8 * (D.length : Int) ≤ (p : Int) := by omega
  have hpz : (p : Int) < 8 * (D.length : Int) := by omega
  have ht16 := T.isLt
  have htt : (T.toNat : Int) ≤ 65535 := by omega
  have HMX := hid hmx
  have HP := hid hp
  clear M hV hI hmx hr hl hll
  obtain ⟨n, hn⟩ : ∃ n, n = D.length := ⟨_, rfl⟩
  go_enter Tryd.func7, Tryd.ntmps7
  go_wp2_with fail
  refine (H1.out _ (HM.out.env HV.out HB.out) (HVI.out.below HB.out)).mono ?_; rintro e w1 ⟨rfl, hh⟩
  have HW1 := hid (HB.out.trans (hh.out.mono HB.out.size))
  clear hh c0 c1 c2 c3 c4 c5
  have HBR : Hid (BR (Lib.bytesWorld w1 5 ⟨D.toArray⟩) w1.heap.size l) := by rw [HLm.out]; exact br_new w1 D
  have HW2 := hid (HW1.out.trans ((bytesWorld_below w1 5 ⟨D.toArray⟩).mono HW1.out.size))
  have hgw := HW1.out.size
  go_wp2_with fail
  clear kc
  rw [← hn]
  rw [← hn] at hz hn8 hpz hp
  go_loopw [10, 11, 12, 36] (fun tv _ _ i wr => ∃ (k : Nat) (d : List (BitVec 8)) (t : Bool), k ≤ 16 ∧ i = .int .i64 k ∧ tv = .bool t ∧ Hid (BR wr w1.heap.size (List.zipWith (· ^^^ ·) l d)) ∧ Hid (Below w.heap.size w wr) ∧ Hid (Turns p T n k d t)) (fun _ _ _ i _ => 16 - (intOf i).toNat)
  case atStart => exact ⟨0, List.replicate n 0#8, false, by omega, rfl, rfl, by rw [hn, ← HN.out, zip_zero]; exact HBR.out, HW2.out, Turns.start p T n⟩
  case round =>
    obtain ⟨k, d, t, hk, rfl, rfl, HO2, HB2, HTu⟩ := hrel
    by_cases hlt : k < 16
    · have hbit := and_bit T k
      have hkz : (k : Int) < 16 := by omega
      by_cases hb : T.getLsbD k = true
      · rw [if_pos hb] at hbit
        by_cases hin : p + k < 8 * n
        · have hin' : (p : Int) + (k : Int) < 8 * (n : Int) := by omega
          obtain ⟨q, hq⟩ : ∃ q : Nat, (p + k) / 8 = q := ⟨_, rfl⟩
          obtain ⟨r, hr⟩ : ∃ r : Nat, (p + k) % 8 = r := ⟨_, rfl⟩
          have hq' : ((p : Int) + (k : Int)) / 8 = (q : Int) := by omega
          have hr' : ((p : Int) + (k : Int)) % 8 = (r : Int) := by omega
          have hr7 : r ≤ 7 := by omega
          have hqn : q < n := by omega
          have hmk := mask_nat r (by omega)
          have HTu2 := hid (HTu.out.turn hb hin)
          rw [hq, hr] at HTu2
          have HD := hid HTu.out.1
          have hzl : (List.zipWith (· ^^^ ·) l d).length = n := by rw [List.length_zipWith, HD.out, HN.out]; omega
          have hx := HO2.out.cell q (by rw [hzl]; exact hqn)
          have hf := HO2.out.frozen q (by rw [hzl]; exact hqn)
          have hxor := xor8 ((List.zipWith (· ^^^ ·) l d).getD q 0#8) (128#8 >>> r)
          have HO3 := hid (HO2.out.set q ((List.zipWith (· ^^^ ·) l d).getD q 0#8 ^^^ (128#8 >>> r)))
          rw [zip_set l d q (128#8 >>> r) (by rw [HD.out, HN.out, hn]) (by rw [HN.out, ← hn]; exact hqn)] at HO3
          have HB3 := hid (HB2.out.setCell (p := ⟨w1.heap.size, q, none⟩) hgw (.int .u8 (((List.zipWith (· ^^^ ·) l d).getD q 0#8 ^^^ (128#8 >>> r)).toNat : Int)))
          have HDR : Hid (∃ d', BR (wr.setCell ⟨w1.heap.size, q, none⟩ (.int .u8 (((List.zipWith (· ^^^ ·) l d).getD q 0#8 ^^^ (128#8 >>> r)).toNat : Int))) w1.heap.size (List.zipWith (· ^^^ ·) l d') ∧ Turns p T n (k + 1) d' true) := ⟨_, HO3.out, HTu2.out⟩
          clear HO3 HTu2 hzl hq hr HD hn
          generalize (((List.zipWith (· ^^^ ·) l d).getD q 0#8 ^^^ (128#8 >>> r)).toNat : Int) = z at hxor HB3 HDR
          generalize (((List.zipWith (· ^^^ ·) l d).getD q 0#8).toNat : Int) = x at hxor hx
          generalize ((128#8 >>> r).toNat : Int) = y at hxor hmk
          go_wp2
          go_region
          all_goals go_wp2
          all_goals go_roundw
          case rel =>
            obtain ⟨d', h1, h2⟩ := HDR.out
            exact ⟨k + 1, d', true, by omega, by go_num, rfl, h1, HB3.out.drew, h2⟩
          case measure => simp [intOf]; omega
        · have hin' : ¬ (p : Int) + (k : Int) < 8 * (n : Int) := by omega
          have HTu2 := hid (HTu.out.skip (.inr hin))
          clear hn
          go_wp2
          all_goals go_roundw
          case rel => exact ⟨k + 1, d, t, by omega, by go_num, rfl, HO2.out, HB2.out, HTu2.out⟩
          case measure => simp [intOf]; omega
      · rw [if_neg hb] at hbit
        have HTu2 := hid (HTu.out.skip (.inl (by simpa using hb)))
        clear hn
        go_wp2
        all_goals go_roundw
        case rel => exact ⟨k + 1, d, t, by omega, by go_num, rfl, HO2.out, HB2.out, HTu2.out⟩
        case measure => simp [intOf]; omega
    · obtain rfl : k = 16 := by omega
      have hzl : (List.zipWith (· ^^^ ·) l d).length = n := by rw [List.length_zipWith, HTu.out.1, HN.out]; omega
      have hcv := fun cap => br_text (cap := cap) HO2.out
      rw [hzl] at hcv
      obtain ⟨X, hX⟩ : ∃ X, X = (List.zipWith (· ^^^ ·) l d).map UInt8.ofBitVec := ⟨_, rfl⟩
      have hXl : X.length = n := by rw [hX, List.length_map, hzl]
      have HSX : Hid (t = true → loadV X = (zeroV, 101)) := fun ht => by
        refine load_turned (by rw [hXl, hn]; exact HL3.out) ?_
        rw [hX, sum_bits]
        have h := Turns.other (l := l) (by rw [HN.out, ← hn]; exact HTu.out) ht
        have h0 : (more 0#16 l).toNat = 0 := by rw [HLm.out]; exact HS0.out
        intro e
        exact h (BitVec.eq_of_toNat_eq (by omega))
      rw [← hX] at hcv
      have HLX := hid (fun W h => HLd.out X W h (by have := HMX.out; omega))
      generalize loadV X = P at *
      obtain ⟨m2, z⟩ := P
      dsimp only at HLX
      clear hX hn hXl hzl
      go_wp2_with fail
      refine (HLX.out _ (HM.out.env HV.out HB2.out)).mono ?_; rintro e w4 ⟨pp2, pc2, ip2, ic2, rfl, hh⟩
      have HW4 := hid (HB2.out.trans (hh.out.2.mono HB2.out.size))
      have HW5 := hid (HW4.out.trans ((below_alloc w4 (vob m2 pp2 pc2 ip2 ic2)).mono HW4.out.size))
      clear hh
      go_wp2_with fail
      refine (alive_any HM.out _ (HM.out.env HV.out HW5.out)).mono ?_; rintro e w5 ⟨rfl, hh⟩
      have HW6 := hid (HW5.out.trans (hh.out.mono HW5.out.size))
      clear hh
      cases t with
      | false =>
        go_wp2_with fail
        go_ret
        exact ⟨rfl, HW6.out⟩
      | true =>
        obtain rfl : z = 101 := (Prod.mk.inj (HSX.out rfl)).2
        go_wp2_with fail
        go_ret
        exact ⟨rfl, HW6.out⟩
/-- the law's call, of whatever value, place and bits -/
theorem bursts_any {V : World → Prop} (M : MethV V) (m : Vl) (pp : Option Addr) (pc' : Nat) (ip : Option Addr) (ic : Nat) (p : Int) (T : BitVec 16) (w : World) (hV : V w) (hC : Came m) (hI : VI w m pp pc' ip ic) :
    Calls Tryd.prog 7 #[vv m pp pc' ip ic, .int .i64 p, .int .u16 (T.toNat : Int)] w fun e w' => e = .returned (.bool true) ∧ Below w.heap.size w w' := by
  by_cases hr : rightB m = true
  · by_cases h0 : p < 0
    · exact bursts_out M m pp pc' ip ic p T w hV hC hI (.inr (.inl h0))
    · by_cases h8 : 8 * ((dumpS m).length : Int) ≤ p
      · exact bursts_out M m pp pc' ip ic p T w hV hC hI (.inr (.inr h8))
      · obtain ⟨q, rfl⟩ := Int.eq_ofNat_of_zero_le (show 0 ≤ p by omega)
        exact bursts_in M m pp pc' ip ic q T w hV hC hI hr (by omega)
  · exact bursts_out M m pp pc' ip ic p T w hV hC hI (.inl (by simpa using hr))

end Go.Proofs.YtmjmdfenkhmfbaaDoor
