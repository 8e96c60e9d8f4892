/- The laws PacketCuts and PacketReads. -/
import Derived.Test.YtgpdbcigogkkbaaDoorLawPk1
namespace Go.Proofs.YtgpdbcigogkkbaaDoor
open Go.RowKit
open Slot

theorem take_at (s : Bs) (n : Nat) (h : n ≤ s.length) (W : World) : (Instr.slice 9 (.string ⟨s.toArray⟩) none (some (.int .i64 (n : Int))) none).run Tryd.prog W = .ok (.string ⟨(s.take n).toArray⟩) W := by
  have hz := ba_size s
  have := run_slice_string_h (P := Tryd.prog) (w := W) (t := 9) (s := ⟨s.toArray⟩) Tryd.underlying9 .i64 (n : Int) (by omega) (by omega)
  rw [Int.toNat_natCast, ByteArray.extract_mk, List.drop_zero, Nat.sub_zero] at this
  exact this
set_option maxHeartbeats 4000000 in
set_option maxRecDepth 100000 in
theorem cuts_core (p : Pk) (D : Bs) (y n : Int) (m : Bs) (w : World) (hE : Env w) (hm : m.length ≤ 140737488351232) (hln : D.length ≤ 100000)
    (hEn : ∀ w, Env w → Calls Tryd.prog 9 #[.agg (pkCells p)] w fun e w' => e = .returned (.tuple #[.string ⟨D.toArray⟩, .int .i64 y]) ∧ Below w.heap.size w w')
    (h : y ≠ 0 ∨ n < 0 ∨ (D.length : Int) ≤ n ∨ 1000 < m.length) : Calls Tryd.prog 7 #[.agg (pkCells p), .int .i64 n, .string ⟨m.toArray⟩] w fun e w' => e = .returned (.bool true) ∧ Below w.heap.size w w' := by
  have HP := hid (pbox_new w p)
  have HW := hid (below_alloc w (.cells (pkCells p) 26))
  have HE := hid hE
  have HA := hid alive_any
  have HEn := hid hEn
  have HH := hid h
  have hlz : (D.length : Int) ≤ 100000 := by omega
  have hmz : (m.length : Int) ≤ 140737488351232 := by omega
  clear hE h hm hln hEn
  go_enter Tryd.func7, Tryd.ntmps7
  go_wp2_with (refine wpList_load_row rfl 26 _ rfl w.heap.size rfl 26 _ (0, 0) _ HP.out Tryd.underlying26 rfl (infoPk _) (Hid.out ?_))
  refine hid ?_
  go_wp2_with fail
  refine (HEn.out _ (HE.out.below HW.out HE.out.room)).mono ?_; rintro e w1 ⟨rfl, hb⟩
  have W1 := hid (HW.out.trans (hb.mono HW.out.size))
  have HA1 := hid (HA.out w1 (HE.out.below W1.out HE.out.room))
  clear hb HP HW HEn HA
  by_cases hy : y = 0
  · subst hy
    by_cases h0 : n < 0
    · go_wp2_with fail
      refine HA1.out.mono ?_; rintro e w2 ⟨rfl, hb⟩
      have W2 := hid (W1.out.trans (hb.mono W1.out.size))
      clear hb
      go_wp2_with fail
      go_ret
      exact ⟨rfl, W2.out⟩
    · by_cases h1 : (D.length : Int) ≤ n
      · go_wp2_with fail
        refine HA1.out.mono ?_; rintro e w2 ⟨rfl, hb⟩
        have W2 := hid (W1.out.trans (hb.mono W1.out.size))
        clear hb
        go_wp2_with fail
        go_ret
        exact ⟨rfl, W2.out⟩
      · have h2 : (1000 : Int) < (m.length : Int) := by
          rcases HH.out with h | h | h | h
          · exact absurd rfl h
          · exact absurd h h0
          · exact absurd h h1
          · omega
        clear HH
        go_wp2_with fail
        refine HA1.out.mono ?_; rintro e w2 ⟨rfl, hb⟩
        have W2 := hid (W1.out.trans (hb.mono W1.out.size))
        clear hb
        go_wp2_with fail
        go_ret
        exact ⟨rfl, W2.out⟩
  · have hy2 : (y == 0) = false := beq_eq_false_iff_ne.2 hy
    clear HH
    go_wp2_with fail
    refine HA1.out.mono ?_; rintro e w2 ⟨rfl, hb⟩
    have W2 := hid (W1.out.trans (hb.mono W1.out.size))
    clear hb
    go_wp2_with fail
    go_ret
    exact ⟨rfl, W2.out⟩
theorem cuts_out (p : Pk) (n : Int) (m : Bs) (w : World) (hE : Env w) (hm : m.length ≤ 140737488351232) (h : rightP p = false ∨ n < 0 ∨ ((enc p).length : Int) ≤ n ∨ 1000 < m.length) : Calls Tryd.prog 7 #[.agg (pkCells p), .int .i64 n, .string ⟨m.toArray⟩] w fun e w' => e = .returned (.bool true) ∧ Below w.heap.size w w' := by
  have hln : (enc p).length ≤ 100000 := by rw [enc_len]; have := ctext_len p.cl; omega
  cases hr : rightP p
  · exact cuts_core p [] 140 n m w hE hm (by decide) (fun w _ => encode_bad p w hr) (.inl (by decide))
  · refine cuts_core p (enc p) 0 n m w hE hm hln (fun w h => ?_) (.inr ?_)
    · have := encode_any p w h
      unfold encS encE at this
      rwa [if_pos hr, if_pos hr] at this
    · rcases h with h | h
      · rw [hr] at h; cases h
      · exact h
set_option maxHeartbeats 4000000 in
set_option maxRecDepth 100000 in
theorem cuts_in (p : Pk) (n : Nat) (m : Bs) (w : World) (hE : Env w) (hr : rightP p = true) (hep : p.epoch < 18446744073709551616) (hcu : p.cur < 18446744073709551616) (hn : n < (enc p).length) (hm : m.length ≤ 1000) : Calls Tryd.prog 7 #[.agg (pkCells p), .int .i64 (n : Int), .string ⟨m.toArray⟩] w fun e w' => e = .returned (.bool true) ∧ Below w.heap.size w w' := by
  have hz := zeroPk
  have HP := hid (pbox_new w p)
  have HW := hid (below_alloc w (.cells (pkCells p) 26))
  have HE := hid hE
  have HA := hid alive_any
  have HEn : Hid (∀ w, Env w → Calls Tryd.prog 9 #[.agg (pkCells p)] w fun e w' => e = .returned (.tuple #[.string ⟨(enc p).toArray⟩, .int .i64 0]) ∧ Below w.heap.size w w') := fun w h => by
    have := encode_any p w h
    unfold encS encE at this
    rwa [if_pos hr, if_pos hr] at this
  have hln : (enc p).length ≤ 100000 := by rw [enc_len]; have := ctext_len p.cl; omega
  have hsl := fun W => take_at (enc p) n (Nat.le_of_lt hn) W
  obtain ⟨e1, e2⟩ := dec_not (dec_cut p n hn)
  have HD1 : Hid (∀ w, Env w → Calls Tryd.prog 14 #[.string ⟨((enc p).take n).toArray⟩] w fun e w' => e = .returned (.tuple #[.agg (pkCells zeroP), .int .i64 140]) ∧ Below w.heap.size w w') := fun w h => by
    have := decode_any ((enc p).take n) w h (by rw [List.length_take]; omega)
    rwa [e1, e2] at this
  have HD2 : Hid (∀ w, Env w → Calls Tryd.prog 14 #[.string ((⟨(enc p).toArray⟩ : ByteArray) ++ ⟨m.toArray⟩)] w fun e w' => e = .returned (.tuple #[.agg (pkCells (decPk (enc p ++ m))), .int .i64 (decE (enc p ++ m))]) ∧ Below w.heap.size w w') := fun w h => by
    rw [bytes_append]
    exact decode_any (enc p ++ m) w h (by rw [List.length_append]; omega)
  have HM0 : Hid (m = [] → decE (enc p ++ m) = 0) := fun h => by
    rw [h, List.append_nil]; exact (dec_is (dec_enc hr hep hcu)).2
  have HM1 : Hid (m ≠ [] → decE (enc p ++ m) = 140) := fun h => (dec_not (dec_more p m h)).2
  generalize decPk (enc p ++ m) = Y at *
  generalize decE (enc p ++ m) = Z at *
  generalize (enc p).take n = C at *
  generalize enc p = D at *
  have hlz : (D.length : Int) ≤ 100000 := by omega
  have hmz : (m.length : Int) ≤ 1000 := by omega
  have hmz2 : ¬ (1000 : Int) < (m.length : Int) := by omega
  have hnz : (n : Int) < (D.length : Int) := by omega
  have hnz2 : ¬ (D.length : Int) ≤ (n : Int) := by omega
  have hnz3 : ¬ (n : Int) < 0 := by omega
  clear hE hr hep hcu hn hm hln e1 e2
  go_enter Tryd.func7, Tryd.ntmps7
  go_wp2_with (refine wpList_load_row rfl 26 _ rfl w.heap.size rfl 26 _ (0, 0) _ HP.out Tryd.underlying26 rfl (infoPk _) (Hid.out ?_))
  refine hid ?_
  go_wp2_with fail
  refine (HEn.out _ (HE.out.below HW.out HE.out.room)).mono ?_; rintro e w1 ⟨rfl, hb⟩
  have W1 := hid (HW.out.trans (hb.mono HW.out.size))
  clear hb HP HW HEn
  go_wp2_with fail
  refine (HD1.out _ (HE.out.below W1.out HE.out.room)).mono ?_; rintro e w2 ⟨rfl, hb⟩
  have W2 := hid (W1.out.trans (hb.mono W1.out.size))
  have HZ2 : Hid (PBox (w2.alloc (.cells (pkCells zeroP) 26)) w2.heap.size zeroP) := pbox_new w2 zeroP
  clear hb HD1 W1 hsl
  go_wp2_with (refine wpList_store_row rfl 26 _ _ rfl w2.heap.size (pkCells zeroP) rfl rfl 26 _ HZ2.out (infoPk _) (sizesPk _ _) (onePk _) (Hid.out ?_))
  have W3 : Hid (Below w.heap.size w ((w2.alloc (.cells (pkCells zeroP) 26)).setRow w2.heap.size (pkCells zeroP))) := below_setRow (W2.out.alloc W2.out.size _) W2.out.size _
  generalize (w2.alloc (.cells (pkCells zeroP) 26)).setRow w2.heap.size (pkCells zeroP) = w3 at W3 ⊢
  refine hid ?_
  clear HZ2 W2
  go_wp2_with fail
  refine (HD2.out _ (HE.out.below W3.out HE.out.room)).mono ?_; rintro e w4 ⟨rfl, hb⟩
  have W4 := hid (W3.out.trans (hb.mono W3.out.size))
  have HZ4 : Hid (PBox (w4.alloc (.cells (pkCells zeroP) 26)) w4.heap.size zeroP) := pbox_new w4 zeroP
  clear hb HD2 W3
  go_wp2_with (refine wpList_store_row rfl 26 _ _ rfl w4.heap.size (pkCells Y) rfl rfl 26 _ HZ4.out (infoPk _) (sizesPk _ _) (onePk _) (Hid.out ?_))
  have W5 : Hid (Below w.heap.size w ((w4.alloc (.cells (pkCells zeroP) 26)).setRow w4.heap.size (pkCells Y))) := below_setRow (W4.out.alloc W4.out.size _) W4.out.size _
  generalize (w4.alloc (.cells (pkCells zeroP) 26)).setRow w4.heap.size (pkCells Y) = w5 at W5 ⊢
  refine hid ?_
  clear HZ4 W4
  go_wp2_with fail
  refine (HA.out _ (HE.out.below W5.out HE.out.room)).mono ?_; rintro e w6 ⟨rfl, hb⟩
  have W6 := hid (W5.out.trans (hb.mono W5.out.size))
  clear hb W5
  by_cases hm : m = []
  · obtain rfl := HM0.out hm
    subst hm
    go_wp2_with fail
    go_ret
    exact ⟨rfl, W6.out⟩
  · obtain rfl := HM1.out hm
    have hm2 : (m == []) = false := by simpa using hm
    go_wp2_with fail
    go_ret
    exact ⟨rfl, W6.out⟩
/-- PacketCuts -/
theorem cuts_any (p : Pk) (n : Int) (m : Bs) (w : World) (hE : Env w) (hep : p.epoch < 18446744073709551616) (hcu : p.cur < 18446744073709551616) (hm : m.length ≤ 140737488351232) : Calls Tryd.prog 7 #[.agg (pkCells p), .int .i64 n, .string ⟨m.toArray⟩] w fun e w' => e = .returned (.bool true) ∧ Below w.heap.size w w' := by
  cases hr : rightP p
  · exact cuts_out p n m w hE hm (.inl hr)
  · by_cases h0 : n < 0
    · exact cuts_out p n m w hE hm (.inr (.inl h0))
    · by_cases h1 : ((enc p).length : Int) ≤ n
      · exact cuts_out p n m w hE hm (.inr (.inr (.inl h1)))
      · by_cases h2 : 1000 < m.length
        · exact cuts_out p n m w hE hm (.inr (.inr (.inr h2)))
        · obtain ⟨k, rfl⟩ := Int.eq_ofNat_of_zero_le (show 0 ≤ n by omega)
          exact cuts_in p k m w hE hr hep hcu (by omega) (by omega)

end Go.Proofs.YtgpdbcigogkkbaaDoor
