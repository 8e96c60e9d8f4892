/- The law of bits turned: PacketBursts. -/
import Derived.Test.YtgpdbcigogkkbaaDoorLawPk2
import Derived.Test.YtgpdbcigogkkbaaDoorBurst
namespace Go.Proofs.YtgpdbcigogkkbaaDoor
open Go.RowKit
open Crc

set_option maxHeartbeats 4000000 in
set_option maxRecDepth 100000 in
theorem bursts_core (q : Pk) (D : Bs) (y p : Int) (T : BitVec 16) (w : World) (hE : Env w) (hln : D.length ≤ 100000)
    (hEn : ∀ w, Env w → Calls Tryd.prog 9 #[.agg (pkCells q)] w fun e w' => e = .returned (.tuple #[.string ⟨D.toArray⟩, .int .i64 y]) ∧ Below w.heap.size w w')
    (h : y ≠ 0 ∨ p < 0 ∨ 8 * (D.length : Int) ≤ p) : Calls Tryd.prog 6 #[.agg (pkCells q), .int .i64 p, .int .u16 (T.toNat : Int)] w fun e w' => e = .returned (.bool true) ∧ Below w.heap.size w w' := by
  have HP := hid (pbox_new w q)
  have HW := hid (below_alloc w (.cells (pkCells q) 26))
  have HE := hid hE
  have HA := hid alive_any
  have HEn := hid hEn
  have HH := hid h
  have hlz : (D.length : Int) ≤ 100000 := by omega
  clear hE h hln hEn
  go_enter Tryd.func6, Tryd.ntmps6
  go_wp2_with (refine wpList_load_row rfl 26 _ rfl w.heap.size rfl 26 _ (0, 0) _ HP.out Tryd.underlying26 rfl (infoPk _) (Hid.out ?_))
  refine hid ?_
  go_wp2_with fail
  refine (HEn.out _ (HE.out.below HW.out HE.out.room)).mono ?_; rintro e w1 ⟨rfl, hb⟩
  have W1 := hid (HW.out.trans (hb.mono HW.out.size))
  have HA1 := hid (HA.out w1 (HE.out.below W1.out HE.out.room))
  clear hb HP HW HEn HA
  by_cases hy : y = 0
  · subst hy
    by_cases h0 : p < 0
    · go_wp2_with fail
      refine HA1.out.mono ?_; rintro e w2 ⟨rfl, hb⟩
      have W2 := hid (W1.out.trans (hb.mono W1.out.size))
      clear hb
      go_wp2_with fail
      go_ret
      exact ⟨rfl, W2.out⟩
    · have h8 : 8 * (D.length : Int) ≤ p := by
        rcases HH.out with h | h | h
        · exact absurd rfl h
        · exact absurd h h0
        · exact h
      clear HH
      go_wp2_with fail
      refine HA1.out.mono ?_; rintro e w2 ⟨rfl, hb⟩
      have W2 := hid (W1.out.trans (hb.mono W1.out.size))
      clear hb
      go_wp2_with fail
      go_ret
      exact ⟨rfl, W2.out⟩
  · have hy2 : (y == 0) = false := beq_eq_false_iff_ne.2 hy
    clear HH
    go_wp2_with fail
    refine HA1.out.mono ?_; rintro e w2 ⟨rfl, hb⟩
    have W2 := hid (W1.out.trans (hb.mono W1.out.size))
    clear hb
    go_wp2_with fail
    go_ret
    exact ⟨rfl, W2.out⟩
set_option maxHeartbeats 8000000 in
set_option maxRecDepth 100000 in
theorem bursts_in (q : Pk) (p : Nat) (T : BitVec 16) (w : World) (hE : Env w) (hr : rightP q = true) (hp : p < 8 * (enc q).length) :
    Calls Tryd.prog 6 #[.agg (pkCells q), .int .i64 (p : Int), .int .u16 (T.toNat : Int)] w fun e w' => e = .returned (.bool true) ∧ Below w.heap.size w w' := by
  have hzk := zeroPk
  have HX := hid (pbox_new w q)
  have HB := hid (below_alloc w (.cells (pkCells q) 26))
  have HE := hid hE
  have HA := hid alive_any
  have HEn : Hid (∀ w, Env w → Calls Tryd.prog 9 #[.agg (pkCells q)] w fun e w' => e = .returned (.tuple #[.string ⟨(enc q).toArray⟩, .int .i64 0]) ∧ Below w.heap.size w w') := fun w h => by
    have := encode_any q w h
    unfold encS encE at this
    rwa [if_pos hr, if_pos hr] at this
  have hmx : (enc q).length ≤ 100000 := by rw [enc_len]; have := ctext_len q.cl; omega
  have HS0 := hid (sum_enc q)
  have kc := fun (w : World) (s : ByteArray) => Lib.run_convert_string_bytes (P := Tryd.prog) w 9 36 5 s Tryd.underlying9 Tryd.underlying36 Tryd.underlying5
  generalize enc q = D at *
  obtain ⟨l, hl⟩ : ∃ l, l = D.map UInt8.toBitVec := ⟨_, rfl⟩
  have hll : l.length = D.length := by rw [hl]; simp
  have HN := hid hll
  have HLm := hid hl
  have hz : (D.length : Int) ≤ 100000 := by omega
  have hnp : ¬ (p : Int) < 0 := by omega
  have hn8 : ¬ 8 * (D.length : Int) ≤ (p : Int) := by omega
  have hpz : (p : Int) < 8 * (D.length : Int) := by omega
  have ht16 := T.isLt
  have htt : (T.toNat : Int) ≤ 65535 := by omega
  have HMX := hid hmx
  clear hE hmx hr hl hll
  obtain ⟨n, hn⟩ : ∃ n, n = D.length := ⟨_, rfl⟩
  go_enter Tryd.func6, Tryd.ntmps6
  go_wp2_with (refine wpList_load_row rfl 26 _ rfl w.heap.size rfl 26 _ (0, 0) _ HX.out Tryd.underlying26 rfl (infoPk _) (Hid.out ?_))
  refine hid ?_
  go_wp2_with fail
  refine (HEn.out _ (HE.out.below HB.out HE.out.room)).mono ?_; rintro e w1 ⟨rfl, hh⟩
  have HW1 := hid (HB.out.trans (hh.mono HB.out.size))
  clear hh HX HEn
  have HBR : Hid (BR (Lib.bytesWorld w1 5 ⟨D.toArray⟩) w1.heap.size l) := by rw [HLm.out]; exact br_new w1 D
  have HW2 := hid (HW1.out.trans ((bytesWorld_below w1 5 ⟨D.toArray⟩).mono HW1.out.size))
  have hgw := HW1.out.size
  go_wp2_with fail
  clear kc
  rw [← hn]
  rw [← hn] at hz hn8 hpz hp
  go_loopw [10, 11, 12, 36] (fun tv _ _ i wr => ∃ (k : Nat) (d : List (BitVec 8)) (t : Bool), k ≤ 16 ∧ i = .int .i64 k ∧ tv = .bool t ∧ Hid (BR wr w1.heap.size (List.zipWith (· ^^^ ·) l d)) ∧ Hid (Below w.heap.size w wr) ∧ Hid (Turns p T n k d t)) (fun _ _ _ i _ => 16 - (intOf i).toNat)
  case atStart => exact ⟨0, List.replicate n 0#8, false, by omega, rfl, rfl, by rw [hn, ← HN.out, zip_zero]; exact HBR.out, HW2.out, Turns.start p T n⟩
  case round =>
    obtain ⟨k, d, t, hk, rfl, rfl, HO2, HB2, HTu⟩ := hrel
    by_cases hlt : k < 16
    · have hbit := and_bit T k
      have hkz : (k : Int) < 16 := by omega
      by_cases hb : T.getLsbD k = true
      · rw [if_pos hb] at hbit
        by_cases hin : p + k < 8 * n
        · have hin' : (p : Int) + (k : Int) < 8 * (n : Int) := by omega
          obtain ⟨q, hq⟩ : ∃ q : Nat, (p + k) / 8 = q := ⟨_, rfl⟩
          obtain ⟨r, hr⟩ : ∃ r : Nat, (p + k) % 8 = r := ⟨_, rfl⟩
          have hq' : ((p : Int) + (k : Int)) / 8 = (q : Int) := by omega
          have hr' : ((p : Int) + (k : Int)) % 8 = (r : Int) := by omega
          have hr7 : r ≤ 7 := by omega
          have hqn : q < n := by omega
          have hmk := mask_nat r (by omega)
          have HTu2 := hid (HTu.out.turn hb hin)
          rw [hq, hr] at HTu2
          have HD := hid HTu.out.1
          have hzl : (List.zipWith (· ^^^ ·) l d).length = n := by rw [List.length_zipWith, HD.out, HN.out]; omega
          have hx := HO2.out.cell q (by rw [hzl]; exact hqn)
          have hf := HO2.out.frozen q (by rw [hzl]; exact hqn)
          have hxor := xor8 ((List.zipWith (· ^^^ ·) l d).getD q 0#8) (128#8 >>> r)
          have HO3 := hid (HO2.out.set q ((List.zipWith (· ^^^ ·) l d).getD q 0#8 ^^^ (128#8 >>> r)))
          rw [zip_set l d q (128#8 >>> r) (by rw [HD.out, HN.out, hn]) (by rw [HN.out, ← hn]; exact hqn)] at HO3
          have HB3 := hid (HB2.out.setCell (p := ⟨w1.heap.size, q, none⟩) hgw (.int .u8 (((List.zipWith (· ^^^ ·) l d).getD q 0#8 ^^^ (128#8 >>> r)).toNat : Int)))
          have HDR : Hid (∃ d', BR (wr.setCell ⟨w1.heap.size, q, none⟩ (.int .u8 (((List.zipWith (· ^^^ ·) l d).getD q 0#8 ^^^ (128#8 >>> r)).toNat : Int))) w1.heap.size (List.zipWith (· ^^^ ·) l d') ∧ Turns p T n (k + 1) d' true) := ⟨_, HO3.out, HTu2.out⟩
          clear HO3 HTu2 hzl hq hr HD hn
          generalize (((List.zipWith (· ^^^ ·) l d).getD q 0#8 ^^^ (128#8 >>> r)).toNat : Int) = z at hxor HB3 HDR
          generalize (((List.zipWith (· ^^^ ·) l d).getD q 0#8).toNat : Int) = x at hxor hx
          generalize ((128#8 >>> r).toNat : Int) = y at hxor hmk
          go_wp2
          go_region
          all_goals go_wp2
          all_goals go_roundw
          case rel =>
            obtain ⟨d', h1, h2⟩ := HDR.out
            exact ⟨k + 1, d', true, by omega, by go_num, rfl, h1, HB3.out.drew, h2⟩
          case measure => simp [intOf]; omega
        · have hin' : ¬ (p : Int) + (k : Int) < 8 * (n : Int) := by omega
          have HTu2 := hid (HTu.out.skip (.inr hin))
          clear hn
          go_wp2
          all_goals go_roundw
          case rel => exact ⟨k + 1, d, t, by omega, by go_num, rfl, HO2.out, HB2.out, HTu2.out⟩
          case measure => simp [intOf]; omega
      · rw [if_neg hb] at hbit
        have HTu2 := hid (HTu.out.skip (.inl (by simpa using hb)))
        clear hn
        go_wp2
        all_goals go_roundw
        case rel => exact ⟨k + 1, d, t, by omega, by go_num, rfl, HO2.out, HB2.out, HTu2.out⟩
        case measure => simp [intOf]; omega
    · obtain rfl : k = 16 := by omega
      have hzl : (List.zipWith (· ^^^ ·) l d).length = n := by rw [List.length_zipWith, HTu.out.1, HN.out]; omega
      have hcv := fun cap => br_text (cap := cap) HO2.out
      rw [hzl] at hcv
      obtain ⟨X, hX⟩ : ∃ X, X = (List.zipWith (· ^^^ ·) l d).map UInt8.ofBitVec := ⟨_, rfl⟩
      have hXl : X.length = n := by rw [hX, List.length_map, hzl]
      have HSX : Hid (t = true → decE X = 140) := fun ht => by
        refine (dec_not (dec_sum ?_)).2
        rw [hX, sum_bits]
        have h := Turns.other (l := l) (by rw [HN.out, ← hn]; exact HTu.out) ht
        have h0 : (more 0#16 l).toNat = 0 := by rw [HLm.out]; exact HS0.out
        intro e
        exact h (BitVec.eq_of_toNat_eq (by omega))
      rw [← hX] at hcv
      have HLX := hid (fun W h => decode_any X W h (by have := HMX.out; omega))
      generalize decE X = z at *
      generalize decPk X = R at *
      clear hX hn hXl hzl
      go_wp2_with fail
      refine (HLX.out _ (HE.out.below HB2.out HE.out.room)).mono ?_; rintro e w4 ⟨rfl, hh⟩
      have HW4 := hid (HB2.out.trans (hh.mono HB2.out.size))
      have HZ4 : Hid (PBox (w4.alloc (.cells (pkCells zeroP) 26)) w4.heap.size zeroP) := pbox_new w4 zeroP
      clear hh HLX hcv
      go_wp2_with (refine wpList_store_row rfl 26 _ _ rfl w4.heap.size (pkCells R) rfl rfl 26 _ HZ4.out (infoPk _) (sizesPk _ _) (onePk _) (Hid.out ?_))
      have HW5 : Hid (Below w.heap.size w ((w4.alloc (.cells (pkCells zeroP) 26)).setRow w4.heap.size (pkCells R))) := below_setRow (HW4.out.alloc HW4.out.size _) HW4.out.size _
      generalize (w4.alloc (.cells (pkCells zeroP) 26)).setRow w4.heap.size (pkCells R) = w5 at HW5 ⊢
      refine hid ?_
      clear HZ4 HW4
      go_wp2_with fail
      refine (HA.out _ (HE.out.below HW5.out HE.out.room)).mono ?_; rintro e w6 ⟨rfl, hh⟩
      have HW6 := hid (HW5.out.trans (hh.mono HW5.out.size))
      clear hh
      cases t with
      | false =>
        go_wp2_with fail
        go_ret
        exact ⟨rfl, HW6.out⟩
      | true =>
        obtain rfl : z = 140 := HSX.out rfl
        go_wp2_with fail
        go_ret
        exact ⟨rfl, HW6.out⟩
/-- PacketBursts -/
theorem bursts_any (q : Pk) (p : Int) (T : BitVec 16) (w : World) (hE : Env w) (_hep : q.epoch < 18446744073709551616) (_hcu : q.cur < 18446744073709551616) :
    Calls Tryd.prog 6 #[.agg (pkCells q), .int .i64 p, .int .u16 (T.toNat : Int)] w fun e w' => e = .returned (.bool true) ∧ Below w.heap.size w w' := by
  have hln : (enc q).length ≤ 100000 := by rw [enc_len]; have := ctext_len q.cl; omega
  cases hr : rightP q
  · exact bursts_core q [] 140 p T w hE (by decide) (fun w _ => encode_bad q w hr) (.inl (by decide))
  · have hEn : ∀ w, Env w → Calls Tryd.prog 9 #[.agg (pkCells q)] w fun e w' => e = .returned (.tuple #[.string ⟨(enc q).toArray⟩, .int .i64 0]) ∧ Below w.heap.size w w' := fun w h => by
      have := encode_any q w h
      unfold encS encE at this
      rwa [if_pos hr, if_pos hr] at this
    by_cases h0 : p < 0
    · exact bursts_core q (enc q) 0 p T w hE hln hEn (.inr (.inl h0))
    · by_cases h8 : 8 * ((enc q).length : Int) ≤ p
      · exact bursts_core q (enc q) 0 p T w hE hln hEn (.inr (.inr h8))
      · obtain ⟨k, rfl⟩ := Int.eq_ofNat_of_zero_le (show 0 ≤ p by omega)
        exact bursts_in q k T w hE hr (by omega)

end Go.Proofs.YtgpdbcigogkkbaaDoor
