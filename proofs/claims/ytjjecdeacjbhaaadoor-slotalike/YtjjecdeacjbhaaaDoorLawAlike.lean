/- The walk of the law SlotAlike. -/
import Derived.Test.YtjjecdeacjbhaaaDoorAlive
namespace Go.Proofs.YtjjecdeacjbhaaaDoor
open Go.RowKit
open Slot

theorem str_add (x y : List UInt8) : ((⟨x.toArray⟩ : ByteArray) ++ ⟨y.toArray⟩) = ⟨(x ++ y).toArray⟩ := by
  apply ByteArray.ext
  simp
theorem slotOf_in {a t b : List UInt8} (h1 : (123 : UInt8) ∉ a) (h2 : (125 : UInt8) ∉ t) (h3 : t ≠ []) : slotOf (a ++ [123] ++ t ++ [125] ++ b) = slotOf t := by
  unfold slotOf
  have e : a ++ [123] ++ t ++ [125] ++ b = a ++ 123 :: (t ++ 125 :: b) := by simp
  rw [e, tag_in h1 h2 h3, tag_noclose h2]
theorem bytes_cell (w : World) (l : List UInt8) (k : Nat) (h : k < l.length) : (Lib.bytesWorld w 5 ⟨l.toArray⟩).cell? ⟨w.heap.size, k, none⟩ = some (.int .u8 (l[k].toNat : Int)) := by
  rw [Lib.bytesWorld_cell w 5 ⟨l.toArray⟩ k (by simpa [ByteArray.size] using h)]
  simp [List.getD, h]
theorem byte_eq (x c : UInt8) (z : Int) (hz : (c.toNat : Int) = z) : ((x.toNat : Int) == z) = decide (x = c) := by
  subst hz
  by_cases hc : x = c
  · simp [hc]
  · rw [decide_eq_false hc, beq_eq_false_iff_ne]
    intro h2
    exact hc (UInt8.toNat_inj.1 (by omega))

set_option maxHeartbeats 1000000 in
set_option maxRecDepth 100000 in
theorem slotAlike_walk (t a b : List UInt8) (w : World) (hE : Env w) (ht : t.length ≤ 140737488351232) (ha : a.length ≤ 140737488351232) (hb : b.length ≤ 140737488351232) :
    Calls Tryd.prog 5 #[.string ⟨t.toArray⟩, .string ⟨a.toArray⟩, .string ⟨b.toArray⟩] w fun e w' => e = .returned (.bool true) ∧ Below w.heap.size w w' := by
  have kc := fun (w : World) (s : ByteArray) => Lib.run_convert_string_bytes (P := Tryd.prog) w 9 26 5 s Tryd.underlying9 Tryd.underlying26 Tryd.underlying5
  obtain ⟨L, hL⟩ : ∃ L, L = a ++ t := ⟨_, rfl⟩
  obtain ⟨M1, hM1⟩ : ∃ L, L = a ++ [123] := ⟨_, rfl⟩
  obtain ⟨M2, hM2⟩ : ∃ L, L = M1 ++ t := ⟨_, rfl⟩
  obtain ⟨M3, hM3⟩ : ∃ L, L = M2 ++ [125] := ⟨_, rfl⟩
  obtain ⟨M4, hM4⟩ : ∃ L, L = M3 ++ b := ⟨_, rfl⟩
  have p0 : ((⟨a.toArray⟩ : ByteArray) ++ ⟨t.toArray⟩) = ⟨L.toArray⟩ := by rw [hL]; exact str_add _ _
  have p1 : ((⟨a.toArray⟩ : ByteArray) ++ ⟨#[123]⟩) = ⟨M1.toArray⟩ := by rw [hM1]; exact str_add a [123]
  have p2 : ((⟨M1.toArray⟩ : ByteArray) ++ ⟨t.toArray⟩) = ⟨M2.toArray⟩ := by rw [hM2]; exact str_add _ _
  have p3 : ((⟨M2.toArray⟩ : ByteArray) ++ ⟨#[125]⟩) = ⟨M3.toArray⟩ := by rw [hM3]; exact str_add M2 [125]
  have p4 : ((⟨M3.toArray⟩ : ByteArray) ++ ⟨b.toArray⟩) = ⟨M4.toArray⟩ := by rw [hM4]; exact str_add _ _
  have l0 : L.length ≤ 281474976702464 := by rw [hL]; simp; omega
  have l1 : M1.length ≤ 140737488351233 := by rw [hM1]; simp; omega
  have l2 : M2.length ≤ 281474976702465 := by rw [hM2]; simp; omega
  have l3 : M3.length ≤ 281474976702466 := by rw [hM3]; simp; omega
  have l4 : M4.length ≤ 422212465053698 := by rw [hM4]; simp; omega
  have HS : Hid ((∀ c ∈ L, c ≠ 123 ∧ c ≠ 125) → t ≠ [] → slotOf M4 = slotOf t) := fun h hne => by
    rw [hM4, hM3, hM2, hM1]
    rw [hL] at h
    exact slotOf_in (fun m => (h 123 (by simp [m])).1 rfl) (fun m => (h 125 (by simp [m])).2 rfl) hne
  clear hL hM1 hM2 hM3 hM4
  have HW0 := hid (bytesWorld_below w 5 ⟨L.toArray⟩)
  have HE0 := hid (hE.below HW0.out hE.room)
  have HA := hid (alive_any _ HE0.out)
  have HC := hid (fun k h => bytes_cell w L k h)
  have HO := hid fun (l : List UInt8) w (h : Env w) (hl : l.length ≤ 9223372036854775807) => of_any l w h.tab h.room hl
  clear hE
  go_enter Tryd.func5, Tryd.ntmps5
  go_wp2
  go_loop [14] (fun i => ∃ k : Nat, k ≤ L.length ∧ i = .int .i64 k ∧ Hid (∀ c ∈ L.take k, c ≠ 123 ∧ c ≠ 125)) (fun i => L.length - (intOf i).toNat)
  case atStart => exact ⟨0, Nat.zero_le _, rfl, fun c h => by simp at h⟩
  case round =>
    obtain ⟨k, hk, rfl, HK⟩ := hrel
    by_cases hlt : k < L.length
    · have hc := HC.out k hlt
      have b1 := byte_eq L[k] 123 123 (by decide)
      have b2 := byte_eq L[k] 125 125 (by decide)
      by_cases e1 : L[k] = 123
      · rw [decide_eq_true e1] at b1
        clear e1 b2
        go_wp2_with fail
        refine HA.out.mono ?_; rintro e w1 ⟨rfl, hb1⟩
        have HB := hid (HW0.out.trans (hb1.mono HW0.out.size))
        clear hb1
        go_wp2
        go_ret
        exact ⟨rfl, HB.out⟩
      · by_cases e2 : L[k] = 125
        · rw [decide_eq_false e1] at b1
          rw [decide_eq_true e2] at b2
          clear e1 e2
          go_wp2_with fail
          refine HA.out.mono ?_; rintro e w1 ⟨rfl, hb1⟩
          have HB := hid (HW0.out.trans (hb1.mono HW0.out.size))
          clear hb1
          go_wp2
          go_ret
          exact ⟨rfl, HB.out⟩
        · rw [decide_eq_false e1] at b1
          rw [decide_eq_false e2] at b2
          have HK1 : Hid (∀ c ∈ L.take (k + 1), c ≠ 123 ∧ c ≠ 125) := fun c m => by
            rw [List.take_succ_eq_append_getElem hlt] at m
            rcases List.mem_append.1 m with m | m
            · exact HK.out c m
            · rw [List.mem_singleton.1 m]; exact ⟨e1, e2⟩
          clear e1 e2
          go_wp2
          go_round
          case rel => exact ⟨k + 1, by omega, by go_num, HK1.out⟩
          case measure => simp [intOf]; omega
    · have hall : ∀ c ∈ L, c ≠ 123 ∧ c ≠ 125 := by
        have := HK.out
        rwa [List.take_of_length_le (by omega)] at this
      have HS1 := hid (HS.out hall)
      clear hall
      go_wp2_with fail
      refine HA.out.mono ?_; rintro e w1 ⟨rfl, hb1⟩
      have HB := hid (HW0.out.trans (hb1.mono HW0.out.size))
      have HE1 := hid (HE0.out.below hb1 HE0.out.room)
      clear hb1
      cases t with
      | nil =>
        go_wp2
        go_ret
        exact ⟨rfl, HB.out⟩
      | cons x t =>
        have hne : (x :: t).isEmpty = false := rfl
        have hs := HS1.out (by simp)
        have HS2 := hid hs
        generalize x :: t = T at *
        clear hs
        go_wp2_with fail
        refine (HO.out M4 _ HE1.out (by omega)).mono ?_; rintro e w2 ⟨rfl, hb2⟩
        have HB2 := hid (HB.out.trans (hb2.mono HB.out.size))
        have HE2 := hid (HE1.out.below hb2 HE1.out.room)
        clear hb2
        go_wp2_with fail
        refine (HO.out T _ HE2.out (by omega)).mono ?_; rintro e w3 ⟨rfl, hb3⟩
        have HB3 := hid (HB2.out.trans (hb3.mono HB2.out.size))
        clear hb3
        go_wp2
        go_ret
        exact ⟨ret_bool (by rw [HS2.out]; simp), HB3.out⟩

end Go.Proofs.YtjjecdeacjbhaaaDoor
