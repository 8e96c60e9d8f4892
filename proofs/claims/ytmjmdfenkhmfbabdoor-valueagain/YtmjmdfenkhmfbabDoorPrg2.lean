/- The program's Load. -/
import Derived.Test.YtmjmdfenkhmfbabDoorRdrVal
import Derived.Test.YtmjmdfenkhmfbabDoorPrg1
namespace Go.Proofs.YtmjmdfenkhmfbabDoor
open Go.RowKit

theorem byts_keep {W W' : World} {b g : Nat} {l : Nm} (h : Byts W (some ⟨g, 0, none⟩) l) (k : Keep (· ≠ b) W W') (hg : g ≠ b) (hl : g < W.heap.size) : Byts W' (some ⟨g, 0, none⟩) l := by
  refine ⟨h.1, fun hne => ?_⟩
  obtain ⟨b', o, e, hc⟩ := h.2 hne
  injection e with e
  injection e with e1 e2
  subst e1 e2
  refine ⟨g, 0, rfl, fun j hj => ?_⟩
  exact cell_turn (hc j hj) (k.block g hl hg)
set_option maxHeartbeats 4000000 in
set_option maxRecDepth 100000 in
/-- sumHolds -/
theorem pholds_any (s : Nm) (w : World) (hTb : Tab w) (hs : s.length ≤ 140737488351232) (h3 : 3 ≤ s.length) (V : Bool) (HV : Hid (V = true ↔ sumOk s)) :
    Calls Tryd.prog 9 #[txt s] w fun e w' => e = .returned (.bool V) ∧ Hid (Below w.heap.size w w') := by
  have hok := sumOk_num h3
  obtain ⟨T, hT⟩ : ∃ T : ByteArray, T = ⟨s.toArray⟩ := ⟨_, rfl⟩
  have hTs : T.size = s.length := by rw [hT]; simp [ByteArray.size]
  have htx : txt s = .string T := by rw [hT]
  rw [htx]
  have hsz : (T.size : Int) ≤ 140737488351232 := by omega
  obtain ⟨N, hN⟩ : ∃ N, N = s.length - 2 := ⟨_, rfl⟩
  have hNe : (T.size : Int) - 2 = (N : Int) := by omega
  have hN1 : (1 : Int) ≤ (N : Int) := by omega
  have hNz : (N : Int) ≤ (T.size : Int) := by omega
  have hNb : (N : Int) ≤ 140737488351232 := by omega
  obtain ⟨A, hA⟩ : ∃ A, A = s.take N := ⟨_, rfl⟩
  obtain ⟨B, hB⟩ : ∃ B, B = s.drop N := ⟨_, rfl⟩
  have e1 : T.extract 0 N = ⟨A.toArray⟩ := by rw [hT, hA]; apply ByteArray.ext; simp [ByteArray.data_extract]
  have e2 : T.extract N T.size = ⟨B.toArray⟩ := by
    rw [hTs, hT, hB]
    apply ByteArray.ext
    simp only [ByteArray.data_extract, List.extract_toArray, List.extract_eq_take_drop]
    rw [List.take_of_length_le (by simp)]
  have hAl : A.length ≤ 140737488351232 := by rw [hA]; simp; omega
  have hBl : B.length ≤ 140737488351232 := by rw [hB]; simp; omega
  have hB2 : B.take 2 = B := List.take_of_length_le (by rw [hB]; simp; omega)
  rw [← hN, ← hA, ← hB] at hok
  have kc := fun (w : World) (s : ByteArray) => Lib.run_convert_string_bytes (P := Tryd.prog) w 9 41 5 s Tryd.underlying9 Tryd.underlying41 Tryd.underlying5
  have HNm : Hid (∀ W, Box W w.heap.size B → Calls Tryd.prog 18 #[.pointer (some ⟨w.heap.size, 0, none⟩), .int .i64 2] W fun e w' => e = .returned (.int .i64 (numN B : Int)) ∧ Hid (RT w.heap.size W w' (B.drop 2))) := fun W h => by
    have := number_any w.heap.size B 2 W h hBl (by decide)
    rw [hB2] at this
    exact this
  have HSm := hid (fun a c W ht hb => psum_any a c A W ht hb)
  have hslt := sumN_lt A
  have hnlt : numN B < 65536 := by have := numN_2 B; rwa [hB2] at this
  have HVV : Hid (V = ((numN B : Int) == (sumN A : Int))) := by
    rw [Hid, Bool.eq_iff_iff, HV.out, hok, beq_iff_eq]
    omega
  have HBW := hid (fun W => bytesWorld_row W 5 A (by omega))
  generalize sumN A = sm at *
  generalize numN B = nb at *
  have hsmz : (sm : Int) < 65536 := by omega
  have hnbz : (nb : Int) < 65536 := by omega
  have hwr : IntKind.i64.wrap (sm : Int) = (sm : Int) := by rw [IntKind.wrap_i64]; omega
  have HTb := hid hTb
  have HAl := hid (below_alloc w (.cells #[txt B] 37))
  have HB1 := hid (heap_alloc_new w (.cells #[txt B] 37))
  have HBx1 : Hid (Box (w.alloc (.cells #[.string ⟨B.toArray⟩] 37)).drew w.heap.size B) := HB1.out
  have HW1 : Hid (Below w.heap.size w (w.alloc (.cells #[.string ⟨B.toArray⟩] 37)).drew) := HAl.out.drew
  have HWb := hid (bytesWorld_below (w.alloc (.cells #[.string ⟨B.toArray⟩] 37)).drew 5 ⟨A.toArray⟩)
  have HBx2 : Hid (Box (Lib.bytesWorld (w.alloc (.cells #[.string ⟨B.toArray⟩] 37)).drew 5 ⟨A.toArray⟩) w.heap.size B) := (HWb.out.block w.heap.size (Array.getElem?_eq_some_iff.1 HBx1.out).1).trans HBx1.out
  have HW2 := hid (HW1.out.trans (HWb.out.mono HW1.out.size))
  have hs1 : (w.alloc (.cells #[.string ⟨B.toArray⟩] 37)).drew.heap.size = w.heap.size + 1 := by simp
  have hs2 : (Lib.bytesWorld (w.alloc (.cells #[.string ⟨B.toArray⟩] 37)).drew 5 ⟨A.toArray⟩).heap.size = w.heap.size + 2 := by rw [Lib.bytesWorld_size, hs1]
  have HBy : Hid (Byts (Lib.bytesWorld (w.alloc (.cells #[.string ⟨B.toArray⟩] 37)).drew 5 ⟨A.toArray⟩) (some ⟨w.heap.size + 1, 0, none⟩) A) := by
    have := HBW.out (w.alloc (.cells #[.string ⟨B.toArray⟩] 37)).drew
    rwa [hs1] at this
  have HS2 := hid hs2
  clear hs1 hs2
  generalize hE : ((nb : Int) == (sm : Int)) = E at *
  obtain rfl := HVV.out
  clear hT hTs htx hN hA hB hok hAl hBl hB2 hs h3 hTb hslt hnlt HV HVV
  go_enter Tryd.func9, Tryd.ntmps9
  go_wp2_with fail
  go_region_law (first
    | (have _q := HBy2.out; clear _q; go_simp; go_at_call 16; refine (HSm.out _ _ _ (HTb.out.env HWN.out) HBy2.out).mono ?_; rintro e wS ⟨rfl, rfl⟩; have HWS := hid HWN.out)
    | (go_simp; go_at_call 16; refine (HSm.out _ _ _ (HTb.out.env HWM.out) (HBW.out wN)).mono ?_; rintro e wS ⟨rfl, rfl⟩; have HWS := hid HWM.out)
    | (go_simp; go_at_call 18; (with_reducible refine (HNm.out _ HBx2.out).mono ?_); rintro e wN ⟨rfl, hN⟩; have HWN := hid (Below.tail HW2.out hN.out.keep (fun i hi => by show i ≠ _; omega) HW2.out.size); have HBy2 := hid (byts_keep HBy.out hN.out.keep (by omega) (by rw [HS2.out]; omega)))
    | (go_simp; go_at_call 18; (with_reducible refine (HNm.out _ HBx1.out).mono ?_); rintro e wN ⟨rfl, hN⟩; have HWN := hid (Below.tail HW1.out hN.out.keep (fun i hi => by show i ≠ _; omega) HW1.out.size); have HWM := hid (HWN.out.trans ((bytesWorld_below wN 5 ⟨A.toArray⟩).mono HWN.out.size))))
  all_goals go_wp2_with fail
  all_goals go_ret
  all_goals exact ⟨rfl, HWS.out⟩

end Go.Proofs.YtmjmdfenkhmfbabDoor
