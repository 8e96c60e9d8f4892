/- A text as bytes of one's own; great: A to Z for a to z. -/
import Derived.Test.YtndmhfhihajbdaaPlace
import Derived.Lib.ConvBytes
import Derived.WalkLawsBesides
namespace Go.Proofs.Ytndmhfhihajbdaa
open Go.RowKit

/-- a block of bytes that a conversion laid -/
def Byt (w : World) (g : Nat) (l : Nm) : Prop := ∃ (C : Array Value) (lo : Nat), w.heap[g]? = some (.cells C 5 (lo, lo + 1)) ∧ l.length ≤ lo ∧ ∀ i (h : i < l.length), C[i]? = some (.int .u8 (l[i].toNat : Int))
theorem Byt.cell {w : World} {g : Nat} {l : Nm} (h : Byt w g l) (i : Nat) (hi : i < l.length) : w.cell? ⟨g, i, none⟩ = some (.int .u8 (l[i].toNat : Int)) := by
  obtain ⟨C, lo, h1, h2, h3⟩ := h
  rw [cell_of_row _ _ _ _ _ _ h1]
  exact h3 i hi
theorem Byt.frozen {w : World} {g : Nat} {l : Nm} (h : Byt w g l) (i : Nat) (hi : i < l.length) : w.frozen? ⟨g, i, none⟩ = false := by
  obtain ⟨C, lo, h1, h2, h3⟩ := h
  have : ¬ lo ≤ i := by omega
  simp [World.frozen?, h1, this]
theorem Byt.set {w : World} {g : Nat} {l : Nm} (h : Byt w g l) (i : Nat) (c : UInt8) : Byt (w.setCell ⟨g, i, none⟩ (.int .u8 (c.toNat : Int))) g (l.set i c) := by
  obtain ⟨C, lo, h1, h2, h3⟩ := h
  refine ⟨C.setIfInBounds i (.int .u8 (c.toNat : Int)), lo, ?_, by simpa using h2, fun j hj => ?_⟩
  · have hg : g < w.heap.size := (Array.getElem?_eq_some_iff.1 h1).1
    have h1' := (Array.getElem?_eq_some_iff.1 h1).2
    simp only [World.setCell, Array.getElem?_eq_getElem (Nat.lt_of_lt_of_eq hg (Array.size_modify ..).symm)]
    rw [Array.getElem_modify_self, h1']
    rfl
  · rw [List.length_set] at hj
    have hC := h3 j hj
    have hjC : j < C.size := (Array.getElem?_eq_some_iff.1 hC).1
    by_cases e : i = j
    · subst e
      simp [hjC]
    · rw [Array.getElem?_setIfInBounds_ne e, hC]
      simp [e]
theorem Byt.keep {w w' : World} {g : Nat} {l : Nm} (h : Byt w g l) (hk : w'.heap[g]? = w.heap[g]?) : Byt w' g l := by
  obtain ⟨C, lo, h1, h2⟩ := h
  exact ⟨C, lo, hk.trans h1, h2⟩
theorem Byt.lt {w : World} {g : Nat} {l : Nm} (h : Byt w g l) : g < w.heap.size := by
  obtain ⟨C, lo, h1, h2⟩ := h
  exact (Array.getElem?_eq_some_iff.1 h1).1
/-- a text made bytes -/
theorem conv_any (l : Nm) (w : World) : ∃ cap W, (convert 9 39 (txt l)).run Try.prog w = .ok (.slice (some ⟨w.heap.size, 0, none⟩) l.length cap) W ∧ Byt W w.heap.size l ∧ Below w.heap.size w W ∧ l.length ≤ cap := by
  have hr := Lib.run_convert_string_bytes (P := Try.prog) w 9 39 5 ⟨l.toArray⟩ Try.underlying9 Try.underlying39 Try.underlying5
  have hsz : (⟨l.toArray⟩ : ByteArray).size = l.length := by simp [ByteArray.size]
  refine ⟨_, _, by rw [hr, hsz], ⟨_, _, Lib.bytesWorld_at_new _ _ _, ?_, fun i hi => ?_⟩, ?_, ?_⟩
  · simp [Lib.bytesCells]
  · simp [Lib.bytesCells, Array.getElem?_append, hi]
  · exact ⟨rfl, rfl, rfl, by rw [Lib.bytesWorld_size]; omega, fun k hk => Lib.bytesWorld_at_old _ _ _ k hk⟩
  · exact grownCap_ge _ _ _ _
/-- and back -/
theorem back_any {W : World} {g : Nat} {l : Nm} (h : Byt W g l) (cap : Nat) : (convert 39 9 (.slice (some ⟨g, 0, none⟩) l.length cap)).run Try.prog W = .ok (txt l) W :=
  run_convert_bytes_back (P := Try.prog) W 39 9 5 ⟨g, 0, none⟩ cap l Try.underlying39 Try.underlying5 Try.underlying9 (fun j hj => by
    rw [Go.WideShapes.add_plain, Nat.zero_add]
    exact h.cell j hj)
/-- the first i letters made great -/
def upTo (i : Nat) (l : Nm) : Nm := great (l.take i) ++ l.drop i
theorem upTo_len (i : Nat) (l : Nm) : (upTo i l).length = l.length := by simp [upTo, great]; omega
theorem upTo_at {i : Nat} {l : Nm} (h : i < l.length) : (upTo i l)[i]'(by rw [upTo_len]; exact h) = l[i] := by
  have hm : min i l.length = i := by omega
  simp [upTo, great, hm]
theorem upTo_same {i : Nat} {l : Nm} (h : i < l.length) (hc : up l[i] = l[i]) : upTo (i + 1) l = upTo i l := by
  unfold upTo great
  rw [List.take_succ_eq_append_getElem h, List.drop_eq_getElem_cons h, List.map_append, List.append_assoc]
  simp [hc]
theorem upTo_set {i : Nat} {l : Nm} (h : i < l.length) : upTo (i + 1) l = (upTo i l).set i (up l[i]) := by
  unfold upTo great
  have hm : min i l.length = i := by omega
  have hd : l.drop i = l[i] :: l.drop (i + 1) := List.drop_eq_getElem_cons h
  rw [List.take_succ_eq_append_getElem h, List.map_append, List.append_assoc, List.set_append_right _ _ (by simp [hm])]
  simp [hm]
  rw [hd, List.set_cons_zero]
theorem upTo_all (l : Nm) : upTo l.length l = great l := by simp [upTo]
theorem up_small (c : UInt8) (h1 : 97 ≤ (c.toNat : Int)) (h2 : (c.toNat : Int) ≤ 122) : ((up c).toNat : Int) = (c.toNat : Int) - 97 + 65 := by
  have k1 : 97 ≤ c := UInt8.le_iff_toNat_le.2 (by simpa using (by omega : 97 ≤ c.toNat))
  have k2 : c ≤ 122 := UInt8.le_iff_toNat_le.2 (by simpa using (by omega : c.toNat ≤ 122))
  rw [up, if_pos ⟨k1, k2⟩, UInt8.toNat_sub_of_le _ _ (UInt8.le_iff_toNat_le.2 (by simpa using (by omega : 32 ≤ c.toNat)))]
  simp
  omega
theorem up_else (c : UInt8) (h : ¬ (97 ≤ (c.toNat : Int) ∧ (c.toNat : Int) ≤ 122)) : up c = c := by
  rw [up, if_neg]
  rintro ⟨k1, k2⟩
  have k1 := UInt8.le_iff_toNat_le.1 k1
  have k2 := UInt8.le_iff_toNat_le.1 k2
  simp at k1 k2
  omega
set_option maxHeartbeats 4000000 in
set_option maxRecDepth 100000 in
theorem great_any (l : Nm) (w : World) (hl : l.length ≤ 9223372036854775807) : Calls Try.prog 21 #[txt l] w fun e w' => e = .returned (txt (great l)) ∧ Hid (Below w.heap.size w w') := by
  obtain ⟨cap, W0, hconv, hB0, hW0, hcap⟩ := conv_any l w
  have HB0 := hid hB0
  have HW0 := hid hW0
  have hlz : (l.length : Int) ≤ 9223372036854775807 := by omega
  clear hB0 hW0
  go_enter Try.func21, Try.ntmps21
  go_wp2_with fail
  go_loopw [10] (fun v10 W => ∃ i : Nat, v10 = .int .i64 i ∧ i ≤ l.length ∧ Hid (Byt W w.heap.size (upTo i l)) ∧ Hid (Below w.heap.size w W)) (fun v10 _ => l.length - (intOf v10).toNat)
  case atStart => exact ⟨0, rfl, Nat.zero_le _, by simpa [Hid, upTo, great] using HB0.out, HW0.out⟩
  case round =>
    obtain ⟨i, rfl, hi, HB, HW⟩ := hrel
    by_cases hlt : i < l.length
    · have hiz : (i : Int) < (l.length : Int) := by omega
      have x0 := HB.out.cell i (by rw [upTo_len]; exact hlt)
      rw [upTo_at hlt] at x0
      have hf := HB.out.frozen i (by rw [upTo_len]; exact hlt)
      have Hup := hid (up_small l[i])
      have Hel := hid (up_else l[i])
      have HS := hid (HB.out.set i (up l[i]))
      rw [← upTo_set hlt] at HS
      have HW2 := hid (HW.out.setCell (p := ⟨w.heap.size, i, none⟩) (Nat.le_refl _) (.int .u8 ((up l[i]).toNat : Int)))
      have Hsame := hid (upTo_same hlt)
      have hz0 : 0 ≤ (l[i].toNat : Int) := by omega
      have hz1 : (l[i].toNat : Int) ≤ 255 := by have := UInt8.toNat_lt l[i]; omega
      generalize l[i] = c at *
      by_cases hr : 97 ≤ (c.toNat : Int) ∧ (c.toNat : Int) ≤ 122
      · obtain ⟨h1, h2⟩ := hr
        have hup := Hup.out h1 h2
        rw [hup] at HS HW2
        clear Hup Hel hup Hsame hconv
        generalize (c.toNat : Int) = z at *
        go_wp2_with fail
        exact ⟨⟨i + 1, by go_num, by omega, HS.out, HW2.out⟩, by simp [intOf]; omega⟩
      · have hs := Hsame.out (Hel.out hr)
        have HB2 : Hid (Byt wr w.heap.size (upTo (i + 1) l)) := by rw [hs]; exact HB
        clear Hup Hel Hsame hconv hs HS HW2
        generalize (c.toNat : Int) = z at *
        by_cases h1 : 97 ≤ z
        · have h2 : 122 < z := by omega
          go_wp2_with fail
          exact ⟨⟨i + 1, by go_num, by omega, HB2.out, HW.out⟩, by simp [intOf]; omega⟩
        · have h2 : z < 97 := by omega
          go_wp2_with fail
          exact ⟨⟨i + 1, by go_num, by omega, HB2.out, HW.out⟩, by simp [intOf]; omega⟩
    · obtain rfl : i = l.length := by omega
      have hbk := back_any HB.out cap
      rw [upTo_len, upTo_all] at hbk
      go_wp2_with fail
      go_ret
      exact ⟨rfl, HW.out⟩

end Go.Proofs.Ytndmhfhihajbdaa
