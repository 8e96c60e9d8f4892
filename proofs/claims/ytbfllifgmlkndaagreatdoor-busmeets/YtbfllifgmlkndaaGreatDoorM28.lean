/- PkRef2, PkDec, PkAlive, PkRDec. -/
import Derived.Test.YtbfllifgmlkndaaGreatDoorM23
import Derived.Test.YtbfllifgmlkndaaGreatDoorM25
import Derived.Test.YtbfllifgmlkndaaGreatDoorM19
namespace Go.Proofs.YtbfllifgmlkndaaGreatDoor
open Go.RowKit
open Slot

/-- what Decode tells -/
noncomputable def decPk (s : Bs) : Pk := match decP s with
  | some p => p
  | none => zeroP
noncomputable def decE (s : Bs) : Int := match decP s with
  | some _ => 0
  | none => 140
theorem dec_is {s : Bs} {p : Pk} (h : decP s = some p) : decPk s = p ∧ decE s = 0 := by unfold decPk decE; rw [h]; exact ⟨rfl, rfl⟩
theorem dec_not {s : Bs} (h : decP s = none) : decPk s = zeroP ∧ decE s = 140 := by unfold decPk decE; rw [h]; exact ⟨rfl, rfl⟩
set_option maxHeartbeats 2000000 in
theorem decode_short (s : Bs) (w : World) (hs : s.length < 23) : Calls Tryz.prog 40 #[.string ⟨s.toArray⟩] w fun e w' => e = .returned (.tuple #[.agg (pkCells zeroP), .int .i64 140]) ∧ Below w.heap.size w w' := by
  have hz := zeroPk
  have HP := hid (pbox_new w zeroP)
  have HW := hid (below_alloc w (.cells (pkCells zeroP) 53))
  have hl : (s.length : Int) < 23 := by omega
  go_enter Tryz.func40, Tryz.ntmps40
  go_wp2_with (refine wpList_store_row rfl 53 _ _ rfl w.heap.size (pkCells zeroP) rfl rfl 53 _ HP.out (infoPk _) (sizesPk _ _) (onePk _) ?_)
  exact bodyPost_ret (v := .tuple #[.agg (pkCells zeroP), .int .i64 140]) (ret_pk2 rfl rfl rfl (pbox_set HP.out)) rfl ⟨rfl, below_setRow HW.out (Nat.le_refl _) _⟩
set_option maxHeartbeats 2000000 in
set_option maxRecDepth 100000 in
theorem decode_sum (s : Bs) (w : World) (hE : Env w) (h0 : 23 ≤ s.length) (hs : s.length ≤ 281474976710656) (hn : sumN s ≠ 0) : Calls Tryz.prog 40 #[.string ⟨s.toArray⟩] w fun e w' => e = .returned (.tuple #[.agg (pkCells zeroP), .int .i64 140]) ∧ Below w.heap.size w w' := by
  have hz := zeroPk
  have HP := hid (pbox_new w zeroP)
  have HW := hid (below_alloc w (.cells (pkCells zeroP) 53))
  have HE1 := hid (hE.below HW.out hE.room)
  have kc := fun (w : World) (s : ByteArray) => Lib.run_convert_string_bytes (P := Tryz.prog) w 9 126 5 s Tryz.underlying9 Tryz.underlying126 Tryz.underlying5
  have HSu : Hid (∀ (c : Nat) (w : World), Env w → Calls Tryz.prog 66 #[.slice (some ⟨w.heap.size, 0, none⟩) s.length c] (Lib.bytesWorld w 5 ⟨s.toArray⟩) fun e w' => e = .returned (.int .u16 (sumN s : Int)) ∧ w' = Lib.bytesWorld w 5 ⟨s.toArray⟩) := fun c w hE => sum_of s c w hE.tab hE.room (by omega)
  have HS1 : Hid (∀ c : Nat, Calls Tryz.prog 66 #[.slice (some ⟨w.heap.size + 1, 0, none⟩) s.length c] (Lib.bytesWorld (w.alloc (.cells (pkCells zeroP) 53)) 5 ⟨s.toArray⟩) fun e w' => e = .returned (.int .u16 (sumN s : Int)) ∧ w' = Lib.bytesWorld (w.alloc (.cells (pkCells zeroP) 53)) 5 ⟨s.toArray⟩) := fun c => by
    have := HSu.out c _ HE1.out
    rwa [show (w.alloc (.cells (pkCells zeroP) 53)).heap.size = w.heap.size + 1 by simp] at this
  have HB2 := hid (bytesWorld_below (w.alloc (.cells (pkCells zeroP) 53)) 5 ⟨s.toArray⟩)
  have HP2 := hid (HP.out.below HB2.out HP.out.lt)
  have HW2 := hid (HW.out.trans (HB2.out.mono HW.out.size))
  have z2 : ¬ (sumN s : Int) = 0 := by omega
  have z1 : ((sumN s : Int) == 0) = false := beq_eq_false_iff_ne.2 z2
  clear hn HSu
  generalize (sumN s : Int) = Z at *
  have hl : ¬ (s.length : Int) < 23 := by omega
  have hlz : (s.length : Int) ≤ 281474976710656 := by omega
  clear hE h0 hs
  go_enter Tryz.func40, Tryz.ntmps40
  go_wp2_with fail
  refine (HS1.out _).mono ?_; rintro e w2 ⟨rfl, hw⟩
  rw [← hw] at HP2 HW2
  clear hw HS1 HB2 HP HW HE1 kc
  go_wp2_with (refine wpList_store_row rfl 53 _ _ rfl w.heap.size (pkCells zeroP) rfl rfl 53 _ HP2.out (infoPk _) (sizesPk _ _) (onePk _) ?_)
  exact bodyPost_ret (v := .tuple #[.agg (pkCells zeroP), .int .i64 140]) (ret_pk2 rfl rfl rfl (pbox_set HP2.out)) rfl ⟨rfl, below_setRow HW2.out (Nat.le_refl _) _⟩
set_option maxHeartbeats 4000000 in
theorem decode_long (s : Bs) (w : World) (hE : Env w) (h0 : 23 ≤ s.length) (hs : s.length ≤ 281474976710656) (hn : sumN s = 0) : Calls Tryz.prog 40 #[.string ⟨s.toArray⟩] w fun e w' => e = .returned (.tuple #[.agg (pkCells (decPk s)), .int .i64 (decE s)]) ∧ Below w.heap.size w w' := by
  have hz := zeroPk
  have HP := hid (pbox_new w zeroP)
  have HW := hid (below_alloc w (.cells (pkCells zeroP) 53))
  have HE := hid hE
  have HE1 := hid (hE.below HW.out hE.room)
  have kc := fun (w : World) (s : ByteArray) => Lib.run_convert_string_bytes (P := Tryz.prog) w 9 126 5 s Tryz.underlying9 Tryz.underlying126 Tryz.underlying5
  have HSu : Hid (∀ (c : Nat) (w : World), Env w → Calls Tryz.prog 66 #[.slice (some ⟨w.heap.size, 0, none⟩) s.length c] (Lib.bytesWorld w 5 ⟨s.toArray⟩) fun e w' => e = .returned (.int .u16 (sumN s : Int)) ∧ w' = Lib.bytesWorld w 5 ⟨s.toArray⟩) := fun c w hE => sum_of s c w hE.tab hE.room (by omega)
  have HS1 : Hid (∀ c : Nat, Calls Tryz.prog 66 #[.slice (some ⟨w.heap.size + 1, 0, none⟩) s.length c] (Lib.bytesWorld (w.alloc (.cells (pkCells zeroP) 53)) 5 ⟨s.toArray⟩) fun e w' => e = .returned (.int .u16 (sumN s : Int)) ∧ w' = Lib.bytesWorld (w.alloc (.cells (pkCells zeroP) 53)) 5 ⟨s.toArray⟩) := fun c => by
    have := HSu.out c _ HE1.out
    rwa [show (w.alloc (.cells (pkCells zeroP) 53)).heap.size = w.heap.size + 1 by simp] at this
  have hn0 : (sumN s : Int) = 0 := by rw [hn]; rfl
  rw [hn0] at HS1
  clear HSu hn0
  have HRd := hid (fun w h => read_any s w h h0 hs)
  have HEn := hid (fun w h => encode_any (rdP s) w h)
  have HB2 := hid (bytesWorld_below (w.alloc (.cells (pkCells zeroP) 53)) 5 ⟨s.toArray⟩)
  have HP2 := hid (HP.out.below HB2.out HP.out.lt)
  have HW2 := hid (HW.out.trans (HB2.out.mono HW.out.size))
  have HNo : Hid (¬ (rightP (rdP s) = true ∧ enc (rdP s) = s) → decPk s = zeroP ∧ decE s = 140) := fun h => dec_not (dec_bad h)
  have HYes : Hid (rightP (rdP s) = true → enc (rdP s) = s → decPk s = rdP s ∧ decE s = 0) := fun h1 h2 => dec_is (dec_good h0 h1 h2)
  unfold encS encE at HEn
  generalize rdP s = R at *
  generalize enc R = D at *
  generalize decPk s = DP at *
  generalize decE s = DE at *
  have hl : ¬ (s.length : Int) < 23 := by omega
  have hlz : (s.length : Int) ≤ 281474976710656 := by omega
  clear hE hn h0 hs
  go_enter Tryz.func40, Tryz.ntmps40
  go_wp2_with fail
  refine (HS1.out _).mono ?_; rintro e w2 ⟨rfl, rfl⟩
  go_wp2_with fail
  refine (HRd.out _ (HE.out.below HW2.out HE.out.room)).mono ?_; rintro e w3 ⟨rfl, hb⟩
  have HP3 := hid (HP2.out.below hb HP2.out.lt)
  have HW3 := hid (HW2.out.trans (hb.mono HW2.out.size))
  have HZ3 : Hid (PBox (w3.alloc (.cells (pkCells zeroP) 53)) w3.heap.size zeroP) := pbox_new w3 zeroP
  clear hb HP HW HE1 HS1 HRd HB2 HP2 HW2 kc
  go_wp2_with (refine wpList_store_row rfl 53 _ _ rfl w3.heap.size (pkCells R) rfl rfl 53 _ HZ3.out (infoPk _) (sizesPk _ _) (onePk _) (Hid.out ?_))
  have B4 : Hid (PBox ((w3.alloc (.cells (pkCells zeroP) 53)).setRow w3.heap.size (pkCells R)) w3.heap.size R) := pbox_set HZ3.out
  have W4 : Hid (Below w.heap.size w ((w3.alloc (.cells (pkCells zeroP) 53)).setRow w3.heap.size (pkCells R))) := below_setRow (HW3.out.alloc HW3.out.size _) HW3.out.size _
  have P4 : Hid (PBox ((w3.alloc (.cells (pkCells zeroP) 53)).setRow w3.heap.size (pkCells R)) w.heap.size zeroP) := (setRow_other _ _ _ _ (by have := HP3.out.lt; omega)).trans ((heap_alloc_old w3 _ HP3.out.lt).trans HP3.out)
  generalize (w3.alloc (.cells (pkCells zeroP) 53)).setRow w3.heap.size (pkCells R) = w4 at B4 W4 P4 ⊢
  generalize w3.heap.size = b at B4 ⊢
  refine hid ?_
  clear HP3 HW3 HZ3
  go_wp2_with (refine wpList_load_row rfl 53 _ rfl b rfl 53 _ (0, 0) _ B4.out Tryz.underlying53 rfl (infoPk _) (Hid.out ?_))
  refine hid ?_
  go_wp2_with fail
  refine (HEn.out _ (HE.out.below W4.out HE.out.room)).mono ?_; rintro e w5 ⟨rfl, hb⟩
  have B5 := hid (B4.out.below hb B4.out.lt)
  have W5 := hid (W4.out.trans (hb.mono W4.out.size))
  have P5 := hid (P4.out.below hb P4.out.lt)
  clear hb B4 W4 P4 HEn
  cases hr : rightP R with
  | false =>
    obtain ⟨rfl, rfl⟩ := HNo.out (fun h => by rw [hr] at h; exact absurd h.1 (by decide))
    clear HNo HYes
    rw [if_neg (by decide), if_neg (by decide)]
    go_wp2_with (refine wpList_store_row rfl 53 _ _ rfl w.heap.size (pkCells zeroP) rfl rfl 53 _ P5.out (infoPk _) (sizesPk _ _) (onePk _) ?_)
    exact bodyPost_ret (v := .tuple #[.agg (pkCells zeroP), .int .i64 140]) (ret_pk2 rfl rfl rfl (pbox_set P5.out)) rfl ⟨rfl, below_setRow W5.out (Nat.le_refl _) _⟩
  | true =>
    rw [if_pos rfl, if_pos rfl]
    by_cases hd : D = s
    · obtain ⟨rfl, rfl⟩ := HYes.out hr hd
      subst hd
      clear HNo HYes
      go_wp2_with (first | (refine wpList_load_row rfl 53 _ rfl b rfl 53 _ (0, 0) _ B5.out Tryz.underlying53 rfl (infoPk _) ?_) | (refine wpList_store_row rfl 53 _ _ rfl w.heap.size _ rfl rfl 53 _ P5.out (infoPk _) (sizesPk _ _) (onePk _) ?_))
      exact bodyPost_ret (v := .tuple #[.agg (pkCells DP), .int .i64 0]) (ret_pk2 rfl rfl rfl (pbox_set P5.out)) rfl ⟨rfl, below_setRow W5.out (Nat.le_refl _) _⟩
    · obtain ⟨rfl, rfl⟩ := HNo.out (fun h => hd h.2)
      clear HNo HYes
      have hd2 : (D == s) = false := by simpa using hd
      go_wp2_with (refine wpList_store_row rfl 53 _ _ rfl w.heap.size (pkCells zeroP) rfl rfl 53 _ P5.out (infoPk _) (sizesPk _ _) (onePk _) ?_)
      exact bodyPost_ret (v := .tuple #[.agg (pkCells zeroP), .int .i64 140]) (ret_pk2 rfl rfl rfl (pbox_set P5.out)) rfl ⟨rfl, below_setRow W5.out (Nat.le_refl _) _⟩
/-- Decode -/
theorem decode_any (s : Bs) (w : World) (hE : Env w) (hs : s.length ≤ 281474976710656) : Calls Tryz.prog 40 #[.string ⟨s.toArray⟩] w fun e w' => e = .returned (.tuple #[.agg (pkCells (decPk s)), .int .i64 (decE s)]) ∧ Below w.heap.size w w' := by
  by_cases h0 : 23 ≤ s.length
  · by_cases hn : sumN s = 0
    · exact decode_long s w hE h0 hs hn
    · obtain ⟨e1, e2⟩ := dec_not (dec_sum hn)
      rw [e1, e2]
      exact decode_sum s w hE h0 hs hn
  · obtain ⟨e1, e2⟩ := dec_not (dec_short (show s.length < 23 by omega))
    rw [e1, e2]
    exact decode_short s w (by omega)

end Go.Proofs.YtbfllifgmlkndaaGreatDoor

namespace Go.Proofs.YtbfllifgmlkndaaGreatDoor
open Go.RowKit
open Slot

/-- a packet's cells, whatever they are -/
def Rw (C : Array Value) : Prop := C.size = 261 ∧ C.all (·.oneCell') = true
theorem Rw.info {C : Array Value} (h : Rw C) : (Tryz.prog.info? 53).map (·.size) = some C.size := by rw [h.1]; kernel_rfl
def At (w : World) (b : Nat) (C : Array Value) : Prop := w.heap[b]? = some (.cells C 53 (0, 0))
theorem At.lt {w : World} {b : Nat} {C : Array Value} (h : At w b C) : b < w.heap.size := (Array.getElem?_eq_some_iff.1 h).1
theorem At.below {w w' : World} {n b : Nat} {C : Array Value} (h : At w b C) (hb : Below n w w') (hn : b < n) : At w' b C := (hb.block b hn).trans h
theorem At.set {w : World} {b : Nat} {C B : Array Value} (h : At w b C) : At (w.setRow b B) b B := setRow_heap w b _ _ _ _ h
theorem At.new (w : World) (C : Array Value) : At (w.alloc (.cells C 53)) w.heap.size C := heap_alloc_new w _
end Go.Proofs.YtbfllifgmlkndaaGreatDoor
