/- The call that asks whether packets live. -/
import Derived.Test.YtgpdbcigogkkbaaDoorPkDec
namespace Go.Proofs.YtgpdbcigogkkbaaDoor
open Go.RowKit
open Slot

def S5 : Nat → Bool := fun n => n == 5
def P0 : Pk := ⟨1, 1, 0, 2, 3, fun _ => false⟩
def P1 : Pk := ⟨1, 1, 0, 2, 3, S5⟩
theorem word5 : ∀ i : Fin 256, word S5 i.val = if i.val = 0 then 32 else 0 := by decide +kernel
theorem word0 : ∀ i : Fin 256, word (fun _ => false) i.val = 0 := by decide +kernel
theorem cells5 : (pkCells P0).setIfInBounds 5 (.int .u64 32) = pkCells P1 := by
  apply Array.ext_getElem?
  intro i
  by_cases h : i = 5
  · subst h
    have h1 := pk_hi P1 0
    rw [Nat.add_zero] at h1
    rw [Array.getElem?_setIfInBounds_self_of_lt (by rw [pkCells_size]; decide), h1, show P1.cl = S5 from rfl, cellsOf_get S5 0 (by decide), word5 ⟨0, by decide⟩]
    rfl
  · rw [Array.getElem?_setIfInBounds_ne (fun e => h e.symm)]
    by_cases h5 : i < 5
    · rw [pk_lo P0 h5, pk_lo P1 h5]; rfl
    · obtain ⟨j, rfl⟩ : ∃ j, i = 5 + j := ⟨i - 5, by omega⟩
      rw [pk_hi, pk_hi]
      by_cases hj : j < 256
      · rw [cellsOf_get _ j hj, cellsOf_get _ j hj, show P0.cl = fun _ => false from rfl, show P1.cl = S5 from rfl, word5 ⟨j, hj⟩, word0 ⟨j, hj⟩, if_neg (by simp only; omega)]
      · rw [Array.getElem?_eq_none (by rw [cellsOf_size]; omega), Array.getElem?_eq_none (by rw [cellsOf_size]; omega)]
theorem build_P0 (w : World) : (Instr.build 26 #[(0, .int .i64 1), (1, .int .i64 1), (3, .int .u64 2), (4, .int .u64 3)]).run Tryd.prog w = .ok (.agg (pkCells P0)) w := by
  refine run_build w _ _ _ ?_
  rw [built_any]
  have e : Instr.fill (fun i => placesP[i]?) (#[.int .i64 0, .int .i64 0, .int .i64 0, .int .u64 0, .int .u64 0] ++ Array.replicate 256 (.int .u64 0)) [(0, .int .i64 1), (1, .int .i64 1), (3, .int .u64 2), (4, .int .u64 3)] = some (#[.int .i64 1, .int .i64 1, .int .i64 0, .int .u64 2, .int .u64 3] ++ Array.replicate 256 (.int .u64 0)) := by kernel_rfl
  refine e.trans ?_
  rw [← zeroRep, zeroBits]
  rfl
set_option maxRecDepth 100000 in
theorem built_P0 : (((Tryd.zeroCells26.setIfInBounds 0 (Value.int IntKind.i64 1)).setIfInBounds 1 (Value.int IntKind.i64 1)).setIfInBounds 3 (Value.int IntKind.u64 2)).setIfInBounds 4 (Value.int IntKind.u64 3) = pkCells P0 := by
  have hz := zsize
  have a := fun w : World => build_P0 w
  simp only [go_sem] at a
  simp [hz] at a
  exact a
theorem runs5 : Runs S5 0 [(5, 5)] := by
  refine ⟨by omega, by omega, by decide, fun n h1 h2 => ?_, fun n h1 h2 => ?_, fun _ => rfl, fun n h1 h2 => ?_⟩
  · simp [S5]; omega
  · obtain rfl : n = 5 := by omega
    rfl
  · simp [S5]; omega
theorem ctext5 : ctext S5 = [53] := by
  rw [← ctext_eq runs5]
  show dec 5 ++ _ = _
  rw [show dec 5 = [UInt8.ofNat (48 + 5)] from Lib.decDigits_one (by decide), if_neg (by decide)]
  rfl
theorem enc5_len : (enc P1).length = 24 := by rw [enc_len, show P1.cl = S5 from rfl, ctext5]; rfl
theorem enc5_at (h : 21 < (enc P1).length) : (enc P1)[21].toNat = 53 := by
  have e : (enc P1)[21]? = some 53 := by
    show (headP P1 ++ _)[21]? = _
    rw [List.getElem?_append_left (by rw [headP, List.length_append, front_len, show P1.cl = S5 from rfl, ctext5]; decide)]
    show (front P1 _ ++ ctext P1.cl)[21]? = _
    rw [List.getElem?_append_right (by rw [front_len]; decide), front_len, show P1.cl = S5 from rfl, ctext5]
    rfl
  rw [List.getElem?_eq_getElem h] at e
  rw [Option.some.inj e]
  rfl
theorem right5 : rightP P1 = true := by decide
theorem dec5 : decPk (enc P1) = rdP (enc P1) ∧ decE (enc P1) = 0 := dec_is (dec_enc right5 (by decide) (by decide))
/-- a packet's cells, whatever they are -/
def Rw (C : Array Value) : Prop := C.size = 261 ∧ C.all (·.oneCell') = true
theorem Rw.info {C : Array Value} (h : Rw C) : (Tryd.prog.info? 26).map (·.size) = some C.size := by rw [h.1]; kernel_rfl
theorem Rw.sizes {C B : Array Value} (h : Rw C) (k : Rw B) : C.size = B.size := h.1.trans k.1.symm
theorem rw_pk (p : Pk) : Rw (pkCells p) := ⟨pkCells_size p, onePk p⟩
def At (w : World) (b : Nat) (C : Array Value) : Prop := w.heap[b]? = some (.cells C 26 (0, 0))
theorem At.lt {w : World} {b : Nat} {C : Array Value} (h : At w b C) : b < w.heap.size := (Array.getElem?_eq_some_iff.1 h).1
theorem At.below {w w' : World} {n b : Nat} {C : Array Value} (h : At w b C) (hb : Below n w w') (hn : b < n) : At w' b C := (hb.block b hn).trans h
theorem At.set {w : World} {b : Nat} {C B : Array Value} (h : At w b C) : At (w.setRow b B) b B := setRow_heap w b _ _ _ _ h
theorem At.new (w : World) (C : Array Value) : At (w.alloc (.cells C 26)) w.heap.size C := heap_alloc_new w _
theorem At.old {w : World} {b : Nat} {C : Array Value} (h : At w b C) (o : Obj) : At (w.alloc o) b C := (heap_alloc_old w o h.lt).trans h
theorem At.other {w : World} {b g : Nat} {C B : Array Value} (h : At w b C) (hne : b ≠ g) : At (w.setRow g B) b C := (setRow_other w g b B hne).trans h
set_option maxHeartbeats 4000000 in
set_option maxRecDepth 100000 in
theorem alive_core (Z0 C0 C1 RC : Array Value) (D : Bs) (w : World) (hE : Env w) (hz : Tryd.zeroCells26 = Z0) (rz : Rw Z0) (r0 : Rw C0) (r1 : Rw C1) (rr : Rw RC)
    (hbu : (((Z0.setIfInBounds 0 (Value.int IntKind.i64 1)).setIfInBounds 1 (Value.int IntKind.i64 1)).setIfInBounds 3 (Value.int IntKind.u64 2)).setIfInBounds 4 (Value.int IntKind.u64 3) = C0)
    (h5 : C0.setIfInBounds 5 (.int .u64 32) = C1) (h05 : C0[5]? = some (.int .u64 0))
    (hEn : ∀ w, Env w → Calls Tryd.prog 9 #[.agg C1] w fun e w' => e = .returned (.tuple #[.string ⟨D.toArray⟩, .int .i64 0]) ∧ Below w.heap.size w w')
    (hDe : ∀ w, Env w → Calls Tryd.prog 14 #[.string ⟨D.toArray⟩] w fun e w' => e = .returned (.tuple #[.agg RC, .int .i64 0]) ∧ Below w.heap.size w w')
    (heq : ∀ w, (Op.equalIn 10000 26 (.agg RC) (.agg C1)).run Tryd.prog w = .ok true w) (hlen : D.length = 24)
    (hix : ∀ W, (Instr.index 9 (.string ⟨D.toArray⟩) (.int .i64 21)).run Tryd.prog W = .ok (.int .u8 53) W) :
    Calls Tryd.prog 11 #[] w fun e w' => e = .returned (.bool true) ∧ Below w.heap.size w w' := by
  have hzs := rz.1
  have hze : ¬ Z0 = #[] := fun e => by rw [e] at hzs; cases hzs
  have HZ0 := hid (At.new w Z0)
  have HW0 := hid (below_alloc w (.cells Z0 26))
  have B1 : Hid (At ((w.alloc (.cells Z0 26)).setRow w.heap.size C0) w.heap.size C0) := HZ0.out.set
  have W1 : Hid (Below w.heap.size w ((w.alloc (.cells Z0 26)).setRow w.heap.size C0)) := below_setRow HW0.out (Nat.le_refl _) _
  have HE := hid hE
  have HEn := hid hEn
  have HDe := hid hDe
  have H5 := hid h5
  have H05 := hid h05
  have RZ := hid rz
  have R0 := hid r0
  have R1 := hid r1
  have RR := hid rr
  clear hE hEn hDe h5 h05 rz r0 r1 rr
  go_enter Tryd.func11, Tryd.ntmps11
  go_wp2_with (refine wpList_store_row rfl 26 _ _ rfl w.heap.size C0 rfl rfl 26 _ HZ0.out R0.out.info (RZ.out.sizes R0.out) R0.out.2 (Hid.out ?_))
  generalize (w.alloc (.cells Z0 26)).setRow w.heap.size C0 = w1 at B1 W1 ⊢
  refine hid ?_
  clear HZ0 HW0 hbu hzs
  have c5 : w1.cell? ⟨w.heap.size, 5, none⟩ = some (.int .u64 0) := by
    rw [cell_of_row w1 _ _ _ _ _ B1.out]; exact H05.out
  have f5 : w1.frozen? ⟨w.heap.size, 5, none⟩ = false := by
    have := B1.out
    unfold At at this
    simp [World.frozen?, this]
  have B2 : Hid (At (w1.setCell ⟨w.heap.size, 5, none⟩ (.int .u64 32)) w.heap.size C1) := by
    have := heap_setCell_same w1 w.heap.size 5 _ _ (.int .u64 32) B1.out
    rw [H5.out] at this
    exact this
  have W2 := hid (W1.out.setCell (p := ⟨w.heap.size, 5, none⟩) (Nat.le_refl _) (.int .u64 32))
  go_wp2_with (refine wpList_load_row rfl 26 _ rfl w.heap.size rfl 26 _ (0, 0) _ B2.out Tryd.underlying26 rfl R1.out.info (Hid.out ?_))
  refine hid ?_
  go_wp2_with fail
  refine (HEn.out _ (HE.out.below W2.out HE.out.room)).mono ?_; rintro e w3 ⟨rfl, hb⟩
  have B3 := hid (B2.out.below hb B2.out.lt)
  have W3 := hid (W2.out.trans (hb.mono W2.out.size))
  clear hb c5 f5 B1 W1 B2 W2 HEn
  go_wp2_with fail
  refine (HDe.out _ (HE.out.below W3.out HE.out.room)).mono ?_; rintro e w4 ⟨rfl, hb⟩
  have B4 := hid (B3.out.below hb B3.out.lt)
  have W4 := hid (W3.out.trans (hb.mono W3.out.size))
  have HZ4 := hid (At.new w4 Z0)
  clear hb HDe B3 W3
  go_wp2_with (refine wpList_store_row rfl 26 _ _ rfl w4.heap.size RC rfl rfl 26 _ HZ4.out RR.out.info (RZ.out.sizes RR.out) RR.out.2 (Hid.out ?_))
  have B5 : Hid (At ((w4.alloc (.cells Z0 26)).setRow w4.heap.size RC) w4.heap.size RC) := HZ4.out.set
  have W5 : Hid (Below w.heap.size w ((w4.alloc (.cells Z0 26)).setRow w4.heap.size RC)) := below_setRow (W4.out.alloc W4.out.size _) W4.out.size _
  have P5 : Hid (At ((w4.alloc (.cells Z0 26)).setRow w4.heap.size RC) w.heap.size C1) := (B4.out.old _).other (by have := B4.out.lt; omega)
  generalize (w4.alloc (.cells Z0 26)).setRow w4.heap.size RC = w5 at B5 W5 P5 ⊢
  generalize w4.heap.size = b at B5 ⊢
  refine hid ?_
  clear HZ4 B4 W4
  go_wp2_with (first | (refine wpList_load_want rfl 26 _ rfl b rfl 26 _ (0, 0) _ B5.out Tryd.underlying26 rfl RR.out.info ?_) | (refine wpList_load_want rfl 26 _ rfl w.heap.size rfl 26 _ (0, 0) _ P5.out Tryd.underlying26 rfl R1.out.info ?_))
  go_ret
  exact ⟨rfl, W5.out⟩
/-- alive -/
theorem alive_any (w : World) (hE : Env w) : Calls Tryd.prog 11 #[] w fun e w' => e = .returned (.bool true) ∧ Below w.heap.size w w' := by
  have hbu := built_P0
  rw [zeroPk] at hbu
  have hix := fun W => index_at (enc P1) 21 (by rw [enc5_len]; decide) W
  rw [enc5_at] at hix
  have heq := fun w => eq_packet (rdP (enc P1)) P1 w
  rw [(sameP_iff _ _).2 (rd_enc right5 (by decide) (by decide))] at heq
  refine alive_core (pkCells zeroP) (pkCells P0) (pkCells P1) (pkCells (rdP (enc P1))) (enc P1) w hE zeroPk (rw_pk _) (rw_pk _) (rw_pk _) (rw_pk _) hbu cells5 ?_ (fun w h => ?_) (fun w h => ?_) heq enc5_len hix
  · have h1 := pk_hi P0 0
    rw [Nat.add_zero] at h1
    rw [h1, show P0.cl = fun _ => false from rfl, cellsOf_get _ 0 (by decide), word0 ⟨0, by decide⟩]
    rfl
  · have := encode_any P1 w h
    unfold encS encE at this
    rwa [if_pos right5, if_pos right5] at this
  · have := decode_any (enc P1) w h (by rw [enc5_len]; decide)
    rwa [dec5.1, dec5.2] at this

end Go.Proofs.YtgpdbcigogkkbaaDoor
