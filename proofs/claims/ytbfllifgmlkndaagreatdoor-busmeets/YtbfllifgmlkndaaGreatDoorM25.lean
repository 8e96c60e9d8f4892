/- PkCut, PkRead. -/
import Derived.Laws.Strings2
import Derived.Test.YtbfllifgmlkndaaGreatDoorM24
namespace Go.Proofs.YtbfllifgmlkndaaGreatDoor
open Go.RowKit
open Slot

theorem ba_size (s : Bs) : (⟨s.toArray⟩ : ByteArray).size = s.length := by simp [ByteArray.size]
theorem index_at (s : Bs) (k : Nat) (h : k < s.length) (W : World) : (Instr.index 9 (.string ⟨s.toArray⟩) (.int .i64 (k : Int))).run Tryz.prog W = .ok (.int .u8 (s[k].toNat : Int)) W := by
  have hz := ba_size s
  rw [run_index_string W 9 ⟨s.toArray⟩ .i64 (k : Int) Tryz.underlying9, dif_pos ⟨by omega, by omega⟩]
  rfl
theorem slice_at (s : Bs) (a b : Nat) (za zb : Int) (ha : za = a) (hb : zb = b) (hab : a ≤ b) (h : b ≤ s.length) (W : World) : (Instr.slice 9 (.string ⟨s.toArray⟩) (some (.int .i64 za)) (some (.int .i64 zb)) none).run Tryz.prog W = .ok (.string ⟨((s.drop a).take (b - a)).toArray⟩) W := by
  have hz := ba_size s
  have := run_slice_string (P := Tryz.prog) W 9 ⟨s.toArray⟩ .i64 .i64 za zb Tryz.underlying9 (by omega) (by omega) (by omega)
  rw [show za.toNat = a by omega, show zb.toNat = b by omega, ByteArray.extract_mk] at this
  exact this

end Go.Proofs.YtbfllifgmlkndaaGreatDoor

namespace Go.Proofs.YtbfllifgmlkndaaGreatDoor
open Go.RowKit
open Slot

theorem parseVal_set (s : Bs) : ∃ z : Int, parseVal s = .tuple #[.agg (cellsOf (setOf s)), .int .i64 z] ∧ (z = 0 ↔ parseAll s ≠ none) := by
  cases h : parseAll s with
  | none => exact ⟨20, by rw [parseVal_bad h]; unfold setOf; rw [h], by simp⟩
  | some l => exact ⟨0, by rw [parseVal_ok h]; unfold setOf; rw [h], by simp⟩
theorem range_box {w : World} {b : Nat} {S : Nat → Bool} (h : Box w b S) : w.rangeAt b 0 (cellsOf S).toList := fun j v hv => by
  rw [cell_of_row w b _ _ _ _ h, Nat.zero_add, ← Array.getElem?_toList]; exact hv
theorem yieldsIf_load_arr {P : Program} {ops : Array Oper} {S : World → Prop} {op : Oper} {a : Act} {CX : Array Value} (ht : CX.toList.toArray = CX) (hw : Region.wanted op (yielded ops a.tmps) = true) (ty : TypeId) (x : Operand) (ho : op.op = .load ty x)
    (b o : Nat) (hx : a.eval x = .pointer (some ⟨b, o, none⟩)) {d : TypeDesc} (hS : ∀ w, S w → w.rangeAt b o CX.toList) (hu : P.underlying ty = some d) (hd : d.isRow = true) (hi : (P.info? ty).map (·.size) = some CX.toList.length) : YieldsIf P ops S op (.agg CX) a := by
  have := yieldsIf_load_mid (P := P) (S := S) hw ty x ho b o hx CX.toList d hS hu hd hi
  rwa [ht] at this
set_option maxHeartbeats 4000000 in
set_option maxRecDepth 100000 in
theorem read_core (S : ByteArray) (x0 x1 x2 : Nat) (E C M : Bs) (w : World) (hE : Env w) (h23 : 23 ≤ S.size) (hM : M.length ≤ 281474976710656) (hEl : E.length ≤ 8) (hCl : C.length ≤ 8) (hS : S.size ≤ 281474976710656)
    (i0 : ∀ w, (Instr.index 9 (.string S) (.int .i64 0)).run Tryz.prog w = .ok (.int .u8 x0) w) (i1 : ∀ w, (Instr.index 9 (.string S) (.int .i64 1)).run Tryz.prog w = .ok (.int .u8 x1) w) (i2 : ∀ w, (Instr.index 9 (.string S) (.int .i64 2)).run Tryz.prog w = .ok (.int .u8 x2) w)
    (s0 : ∀ w, (Instr.slice 9 (.string S) (some (.int .i64 3)) (some (.int .i64 11)) none).run Tryz.prog w = .ok (.string ⟨E.toArray⟩) w) (s1 : ∀ w, (Instr.slice 9 (.string S) (some (.int .i64 11)) (some (.int .i64 19)) none).run Tryz.prog w = .ok (.string ⟨C.toArray⟩) w)
    (s2 : ∀ w, (Instr.slice 9 (.string S) (some (.int .i64 21)) (some (.int .i64 ((S.size : Int) - 2))) none).run Tryz.prog w = .ok (.string ⟨M.toArray⟩) w) (b0 : x0 < 256) (b1 : x1 < 256) (b2 : x2 < 256) :
    Calls Tryz.prog 67 #[.string S] w fun e w' => e = .returned (.agg (pkCells ⟨x0, x1, x2, nb E, nb C, setOf M⟩)) ∧ Below w.heap.size w w' := by
  have hz := zeroPk
  have hzb := zeroBits
  obtain ⟨z, hpv, -⟩ := parseVal_set M
  have HW0 := hid (below_alloc w (.cells (pkCells zeroP) 53))
  have HP0 := hid (pbox_new w zeroP)
  have HPar : Hid (∀ w, Env w → Calls Tryz.prog 82 #[.string ⟨M.toArray⟩] w fun e w' => e = .returned (.tuple #[.agg (cellsOf (setOf M)), .int .i64 z]) ∧ Below w.heap.size w w') := fun w h => by
    have := parse_any M w h hM
    rwa [hpv] at this
  have HNE := hid (numberOf_any E hEl)
  have HNC := hid (numberOf_any C hCl)
  have hbu := built_form x0 x1 x2 (nb E) (nb C) (setOf M)
  have HE := hid hE
  clear hE hpv
  generalize setOf M = X at *
  generalize nb E = ne at *
  generalize nb C = nc at *
  go_enter Tryz.func67, Tryz.ntmps67
  go_wp2_with fail
  refine (HPar.out _ (HE.out.below HW0.out HE.out.room)).mono ?_; rintro e w1 ⟨rfl, hb⟩
  have HP1 := hid (HP0.out.below hb HP0.out.lt)
  have HW1 := hid (HW0.out.trans (hb.mono HW0.out.size))
  have HZ1 : Hid (Box (w1.alloc (.cells (cellsOf fun _ => false) 24)) w1.heap.size (fun _ => false)) := box_new w1 _
  clear hb
  go_wp2_with (refine wpList_store_row rfl 24 _ _ rfl w1.heap.size (cellsOf X) rfl rfl 24 _ HZ1.out (infoBits _) (sizes _ _) (oneCells _) (Hid.out ?_))
  have B2 : Hid (Box ((w1.alloc (.cells (cellsOf fun _ => false) 24)).setRow w1.heap.size (cellsOf X)) w1.heap.size X) := box_size HZ1.out
  have W2 : Hid (Below w.heap.size w ((w1.alloc (.cells (cellsOf fun _ => false) 24)).setRow w1.heap.size (cellsOf X))) := below_setRow (HW1.out.alloc HW1.out.size _) HW1.out.size _
  have P2 : Hid (PBox ((w1.alloc (.cells (cellsOf fun _ => false) 24)).setRow w1.heap.size (cellsOf X)) w.heap.size zeroP) := (setRow_other _ _ _ _ (by have := HP1.out.lt; omega)).trans ((heap_alloc_old w1 _ HP1.out.lt).trans HP1.out)
  have hne : w.heap.size ≠ w1.heap.size := by have := HP1.out.lt; omega
  generalize (w1.alloc (.cells (cellsOf fun _ => false) 24)).setRow w1.heap.size (cellsOf X) = w2 at B2 W2 P2 ⊢
  generalize w1.heap.size = b at B2 hne ⊢
  refine hid ?_
  clear HPar HP0 HP1 HW0 HW1 HZ1 s2 hz hzb
  have hzs := zsize
  have hsx : (cellsOf X).size = 256 := cellsOf_size X
  have hbv := hbu
  rw [hsx] at hbv
  have HU := hid (Below.refl w2.heap.size w2)
  have hr := range_box B2.out
  have u24 := Tryz.underlying24
  have hi24 := infoCl X
  have hst := fun (w' : World) h => store_cells w.heap.size ⟨x0, x1, x2, ne, nc, X⟩ zeroP w' h
  have hsp := pkCells_size ⟨x0, x1, x2, ne, nc, X⟩
  have v0 : IntKind.i64.wrap (x0 : Int) = x0 := by rw [IntKind.wrap_i64]; omega
  have v1 : IntKind.i64.wrap (x1 : Int) = x1 := by rw [IntKind.wrap_i64]; omega
  have v2 : IntKind.i64.wrap (x2 : Int) = x2 := by rw [IntKind.wrap_i64]; omega
  have HF : Hid (∀ w', PBox w' w.heap.size zeroP → PBox (w'.setRow w.heap.size (pkCells ⟨x0, x1, x2, ne, nc, X⟩)) w.heap.size ⟨x0, x1, x2, ne, nc, X⟩) := fun w' h => pbox_set h
  have hp : w2.heap[w.heap.size]? = some (.cells (pkCells zeroP) 53 (0, 0)) := P2.out
  have HPr : Hid (∀ w', PBox w' w.heap.size zeroP → w'.heap[w.heap.size]? = some (.cells (pkCells zeroP) 53 (0, 0))) := fun w' h => h
  have HBr : Hid (∀ w', Box w' b X → w'.rangeAt b 0 (cellsOf X).toList) := fun w' h => range_box h
  have hinf := infoPk ⟨x0, x1, x2, ne, nc, X⟩
  have hzz := sizesPk zeroP ⟨x0, x1, x2, ne, nc, X⟩
  have hone := onePk ⟨x0, x1, x2, ne, nc, X⟩
  have HRet : Hid (∀ w', PBox w' w.heap.size ⟨x0, x1, x2, ne, nc, X⟩ → ∀ tmps : Array Value, tmps.getD 2 undef = .pointer (some ⟨w.heap.size, 0, none⟩) → (results Tryz.f67 tmps).run Tryz.prog w' = .ok (.agg (pkCells ⟨x0, x1, x2, ne, nc, X⟩)) w') := fun w' h tmps ht => ret_pk rfl ht h
  generalize hPC : pkCells ⟨x0, x1, x2, ne, nc, X⟩ = PC at *
  have HPC := hid hPC
  clear hPC
  generalize pkCells zeroP = Z0 at *
  generalize cellsOf X = CX at *
  have ht : CX.toList.toArray = CX := Array.toArray_toList
  have hrd : w2.drew.rangeAt b 0 CX.toList := hr
  go_wp2_with fail
  refine wp_region_noPanic ?_
  refine wp_region_held_drew (S := fun w' => w'.rangeAt b 0 CX.toList) (by kernel_rfl) hrd (fun hHeld => ?_)
  refine wpAnyH_take (i := 0) (oi := { dst := some 14, op := Op.move (Operand.tmp 0), type := 9, pos := "packet.go:79", after := #[], guard := none }) (v := .string S) rfl (by kernel_rfl) (by kernel_rfl) (by kernel_rfl) (fun _ _ _ h => h) (Or.inl ⟨by rfl, fun w hSw => ?_⟩) (by assumption) ?_
  · clear hHeld hSw
    go_simp
  try simp only [Act.put, List.setIfInBounds_toArray, List.set_cons_zero, List.set_cons_succ]
  refine wpAnyH_take (i := 1) (oi := { dst := some 15, op := Op.index 9 (Operand.tmp 14) (Operand.const (Value.int IntKind.i64 0)), type := 5, pos := "packet.go:79", after := #[{ on := 0, ground := Ground.data }], guard := none }) (v := .int .u8 x0) rfl (by kernel_rfl) (by kernel_rfl) (by kernel_rfl) (fun _ _ _ h => h) (Or.inl ⟨by rfl, fun w hSw => ?_⟩) (by assumption) ?_
  · clear hHeld hSw
    go_simp
  try simp only [Act.put, List.setIfInBounds_toArray, List.set_cons_zero, List.set_cons_succ]
  refine wpAnyH_take (i := 2) (oi := { dst := some 16, op := Op.convert 5 3 (Operand.tmp 15), type := 3, pos := "packet.go:79", after := #[{ on := 1, ground := Ground.data }], guard := none }) (v := .int .i64 x0) rfl (by kernel_rfl) (by kernel_rfl) (by kernel_rfl) (fun _ _ _ h => h) (Or.inl ⟨by rfl, fun w hSw => ?_⟩) (by assumption) ?_
  · clear hHeld hSw
    go_simp
  try simp only [Act.put, List.setIfInBounds_toArray, List.set_cons_zero, List.set_cons_succ]
  refine wpAnyH_take (i := 3) (oi := { dst := some 17, op := Op.move (Operand.tmp 0), type := 9, pos := "packet.go:79", after := #[], guard := none }) (v := .string S) rfl (by kernel_rfl) (by kernel_rfl) (by kernel_rfl) (fun _ _ _ h => h) (Or.inl ⟨by rfl, fun w hSw => ?_⟩) (by assumption) ?_
  · clear hHeld hSw
    go_simp
  try simp only [Act.put, List.setIfInBounds_toArray, List.set_cons_zero, List.set_cons_succ]
  refine wpAnyH_take (i := 4) (oi := { dst := some 18, op := Op.index 9 (Operand.tmp 17) (Operand.const (Value.int IntKind.i64 1)), type := 5, pos := "packet.go:79", after := #[{ on := 3, ground := Ground.data }], guard := none }) (v := .int .u8 x1) rfl (by kernel_rfl) (by kernel_rfl) (by kernel_rfl) (fun _ _ _ h => h) (Or.inl ⟨by rfl, fun w hSw => ?_⟩) (by assumption) ?_
  · clear hHeld hSw
    go_simp
  try simp only [Act.put, List.setIfInBounds_toArray, List.set_cons_zero, List.set_cons_succ]
  refine wpAnyH_take (i := 5) (oi := { dst := some 19, op := Op.convert 5 3 (Operand.tmp 18), type := 3, pos := "packet.go:79", after := #[{ on := 4, ground := Ground.data }], guard := none }) (v := .int .i64 x1) rfl (by kernel_rfl) (by kernel_rfl) (by kernel_rfl) (fun _ _ _ h => h) (Or.inl ⟨by rfl, fun w hSw => ?_⟩) (by assumption) ?_
  · clear hHeld hSw
    go_simp
  try simp only [Act.put, List.setIfInBounds_toArray, List.set_cons_zero, List.set_cons_succ]
  refine wpAnyH_take (i := 6) (oi := { dst := some 20, op := Op.move (Operand.tmp 0), type := 9, pos := "packet.go:79", after := #[], guard := none }) (v := .string S) rfl (by kernel_rfl) (by kernel_rfl) (by kernel_rfl) (fun _ _ _ h => h) (Or.inl ⟨by rfl, fun w hSw => ?_⟩) (by assumption) ?_
  · clear hHeld hSw
    go_simp
  try simp only [Act.put, List.setIfInBounds_toArray, List.set_cons_zero, List.set_cons_succ]
  refine wpAnyH_take (i := 7) (oi := { dst := some 21, op := Op.index 9 (Operand.tmp 20) (Operand.const (Value.int IntKind.i64 2)), type := 5, pos := "packet.go:79", after := #[{ on := 6, ground := Ground.data }], guard := none }) (v := .int .u8 x2) rfl (by kernel_rfl) (by kernel_rfl) (by kernel_rfl) (fun _ _ _ h => h) (Or.inl ⟨by rfl, fun w hSw => ?_⟩) (by assumption) ?_
  · clear hHeld hSw
    go_simp
  try simp only [Act.put, List.setIfInBounds_toArray, List.set_cons_zero, List.set_cons_succ]
  refine wpAnyH_take (i := 8) (oi := { dst := some 22, op := Op.convert 5 3 (Operand.tmp 21), type := 3, pos := "packet.go:79", after := #[{ on := 7, ground := Ground.data }], guard := none }) (v := .int .i64 x2) rfl (by kernel_rfl) (by kernel_rfl) (by kernel_rfl) (fun _ _ _ h => h) (Or.inl ⟨by rfl, fun w hSw => ?_⟩) (by assumption) ?_
  · clear hHeld hSw
    go_simp
  try simp only [Act.put, List.setIfInBounds_toArray, List.set_cons_zero, List.set_cons_succ]
  refine wpAnyH_take (i := 9) (oi := { dst := some 23, op := Op.move (Operand.tmp 0), type := 9, pos := "packet.go:79", after := #[], guard := none }) (v := .string S) rfl (by kernel_rfl) (by kernel_rfl) (by kernel_rfl) (fun _ _ _ h => h) (Or.inl ⟨by rfl, fun w hSw => ?_⟩) (by assumption) ?_
  · clear hHeld hSw
    go_simp
  try simp only [Act.put, List.setIfInBounds_toArray, List.set_cons_zero, List.set_cons_succ]
  refine wpAnyH_take (i := 10) (oi := { dst := some 24, op := Op.slice 9 (Operand.tmp 23) (some (Operand.const (Value.int IntKind.i64 3))) (some (Operand.const (Value.int IntKind.i64 11))) none, type := 9, pos := "packet.go:79", after := #[{ on := 9, ground := Ground.data }], guard := none }) (v := .string ⟨E.toArray⟩) rfl (by kernel_rfl) (by kernel_rfl) (by kernel_rfl) (fun _ _ _ h => h) (Or.inl ⟨by rfl, fun w hSw => ?_⟩) (by assumption) ?_
  · clear hHeld hSw
    go_simp
  try simp only [Act.put, List.setIfInBounds_toArray, List.set_cons_zero, List.set_cons_succ]
  refine wpAnyH_take (i := 12) (oi := { dst := some 26, op := Op.move (Operand.tmp 0), type := 9, pos := "packet.go:79", after := #[], guard := none }) (v := .string S) rfl (by kernel_rfl) (by kernel_rfl) (by kernel_rfl) (fun _ _ _ h => h) (Or.inl ⟨by rfl, fun w hSw => ?_⟩) (by assumption) ?_
  · clear hHeld hSw
    go_simp
  try simp only [Act.put, List.setIfInBounds_toArray, List.set_cons_zero, List.set_cons_succ]
  refine wpAnyH_take (i := 13) (oi := { dst := some 27, op := Op.slice 9 (Operand.tmp 26) (some (Operand.const (Value.int IntKind.i64 11))) (some (Operand.const (Value.int IntKind.i64 19))) none, type := 9, pos := "packet.go:79", after := #[{ on := 12, ground := Ground.data }], guard := none }) (v := .string ⟨C.toArray⟩) rfl (by kernel_rfl) (by kernel_rfl) (by kernel_rfl) (fun _ _ _ h => h) (Or.inl ⟨by rfl, fun w hSw => ?_⟩) (by assumption) ?_
  · clear hHeld hSw
    go_simp
  try simp only [Act.put, List.setIfInBounds_toArray, List.set_cons_zero, List.set_cons_succ]
  refine wpAnyH_take (i := 15) (oi := { dst := some 29, op := Op.load 24 (Operand.tmp 3), type := 24, pos := "packet.go:79", after := #[], guard := none }) (v := .agg CX) rfl (by kernel_rfl) (by kernel_rfl) (by kernel_rfl) (fun _ _ _ h => h) (yieldsIf_load_arr Array.toArray_toList (by rfl) _ _ rfl _ _ rfl (fun _ h => h) u24 rfl hi24) (by assumption) ?_
  try simp only [Act.put, List.setIfInBounds_toArray, List.set_cons_zero, List.set_cons_succ]
  refine wpAnyH_ready (rs := [11]) (by kernel_rfl) (by simp) ?_
  refine AllReadyH.cons (o := { dst := some 25, op := Op.call { callee := Callee.value (Operand.func 83), args := #[Operand.tmp 24], argTypes := #[9] }, type := 22, pos := "packet.go:83", after := #[{ on := 10, ground := Ground.data }], guard := none }) rfl (fun K hK => ?_) AllReadyH.nil
  clear hHeld
  go_simp
  refine (HNE.out _).mono ?_; rintro e w3 ⟨rfl, hb⟩
  replace HU := hid (HU.out.drew.trans (hb.mono HU.out.size))
  replace hr := HBr.out _ (B2.out.below HU.out B2.out.lt)
  replace hp := HPr.out _ (P2.out.below HU.out P2.out.lt)
  clear hb
  go_wp2_with fail
  refine hK.out _ _ hr (fun hHeld => ?_)
  clear hK K
  try simp only [Act.put, List.setIfInBounds_toArray, List.set_cons_zero, List.set_cons_succ]
  refine wpAnyH_ready (rs := [14]) (by kernel_rfl) (by simp) ?_
  refine AllReadyH.cons (o := { dst := some 28, op := Op.call { callee := Callee.value (Operand.func 83), args := #[Operand.tmp 27], argTypes := #[9] }, type := 22, pos := "packet.go:84", after := #[{ on := 13, ground := Ground.data }, { on := 11, ground := Ground.chain }], guard := none }) rfl (fun K hK => ?_) AllReadyH.nil
  clear hHeld
  go_simp
  refine (HNC.out _).mono ?_; rintro e w4 ⟨rfl, hb⟩
  replace HU := hid (HU.out.trans (hb.mono HU.out.size))
  replace hr := HBr.out _ (B2.out.below HU.out B2.out.lt)
  replace hp := HPr.out _ (P2.out.below HU.out P2.out.lt)
  clear hb
  go_wp2_with fail
  refine hK.out _ _ hr (fun hHeld => ?_)
  clear hK K
  try simp only [Act.put, List.setIfInBounds_toArray, List.set_cons_zero, List.set_cons_succ]
  refine wpAnyH_take (i := 16) (oi := { dst := some 30, op := Op.build 53 #[(0, Operand.tmp 16), (1, Operand.tmp 19), (2, Operand.tmp 22), (3, Operand.tmp 25), (4, Operand.tmp 28), (5, Operand.tmp 29)], type := 53, pos := "packet.go:79", after := #[{ on := 2, ground := Ground.data }, { on := 5, ground := Ground.data }, { on := 8, ground := Ground.data }, { on := 11, ground := Ground.data }, { on := 14, ground := Ground.data }, { on := 15, ground := Ground.data }], guard := none }) (v := .agg PC) rfl (by kernel_rfl) (by kernel_rfl) (by kernel_rfl) (fun _ _ _ h => h) (Or.inl ⟨by rfl, fun w hSw => ?_⟩) (by assumption) ?_
  · clear hHeld hSw
    go_simp
  try simp only [Act.put, List.setIfInBounds_toArray, List.set_cons_zero, List.set_cons_succ]
  refine wpAnyH_ready (rs := [17]) (by kernel_rfl) (by simp) ?_
  refine AllReadyH.cons (o := { dst := none, op := Op.store 53 (Operand.tmp 2) (Operand.tmp 30), type := 0, pos := "packet.go:79", after := #[{ on := 16, ground := Ground.data }, { on := 14, ground := Ground.chain }, { on := 0, ground := Ground.phase }, { on := 1, ground := Ground.phase }, { on := 2, ground := Ground.phase }, { on := 3, ground := Ground.phase }, { on := 4, ground := Ground.phase }, { on := 5, ground := Ground.phase }, { on := 6, ground := Ground.phase }, { on := 7, ground := Ground.phase }, { on := 8, ground := Ground.phase }, { on := 9, ground := Ground.phase }, { on := 10, ground := Ground.phase }, { on := 11, ground := Ground.phase }, { on := 12, ground := Ground.phase }, { on := 13, ground := Ground.phase }, { on := 14, ground := Ground.phase }, { on := 15, ground := Ground.phase }, { on := 16, ground := Ground.phase }], guard := none }) rfl (fun K hK => ?_) AllReadyH.nil
  rw [if_pos (by rfl)]
  refine wp_store_row 53 _ _ rfl w.heap.size PC rfl rfl 53 Z0 hp hinf hzz hone ?_
  refine hK.out _ _ (range_setRow hr hne _) (fun hHeld => ?_)
  clear hK K hHeld
  refine wpAnyH_done (by kernel_rfl) ?_ _
  refine NoPanic.normal ?_
  go_wp2_with fail
  have HB5 := hid (HF.out _ (P2.out.below HU.out P2.out.lt))
  refine bodyPost_ret (v := .agg PC) ?_ rfl ?_
  · exact HRet.out _ HB5.out _ rfl
  · exact ⟨congrArg (fun c => Ending.returned (.agg c)) HPC.out.symm, below_setRow (W2.out.trans (HU.out.mono W2.out.size)) (Nat.le_refl _) _⟩
/-- read -/
theorem read_any (s : Bs) (w : World) (hE : Env w) (h0 : 23 ≤ s.length) (hs : s.length ≤ 281474976710656) : Calls Tryz.prog 67 #[.string ⟨s.toArray⟩] w fun e w' => e = .returned (.agg (pkCells (rdP s))) ∧ Below w.heap.size w w' := by
  have hz := ba_size s
  have g : ∀ k, k < s.length → ((s.getD k 0).toNat : Nat) = if h : k < s.length then s[k].toNat else 0 := fun k hk => by rw [dif_pos hk]; simp [List.getD, hk]
  have i : ∀ (k : Nat) (h : k < s.length) (W : World), (Instr.index 9 (.string ⟨s.toArray⟩) (.int .i64 (k : Int))).run Tryz.prog W = .ok (.int .u8 ((s.getD k 0).toNat : Int)) W := fun k h W => by
    rw [index_at s k h W, g k h, dif_pos h]
  exact read_core ⟨s.toArray⟩ (s.getD 0 0).toNat (s.getD 1 0).toNat (s.getD 2 0).toNat ((s.drop 3).take 8) ((s.drop 11).take 8) ((s.drop 21).take (s.length - 23)) w hE (by omega) (by rw [List.length_take]; omega) (by rw [List.length_take]; omega) (by rw [List.length_take]; omega) (by omega)
    (fun W => i 0 (by omega) W) (fun W => i 1 (by omega) W) (fun W => i 2 (by omega) W)
    (fun W => slice_at s 3 11 3 11 rfl rfl (by omega) (by omega) W) (fun W => slice_at s 11 19 11 19 rfl rfl (by omega) (by omega) W)
    (fun W => by
      have := slice_at s 21 (s.length - 2) 21 ((s.length : Int) - 2) rfl (by omega) (by omega) (by omega) W
      rw [show s.length - 2 - 21 = s.length - 23 by omega] at this
      rw [hz]
      exact this) (UInt8.toNat_lt _) (UInt8.toNat_lt _) (UInt8.toNat_lt _)

end Go.Proofs.YtbfllifgmlkndaaGreatDoor
