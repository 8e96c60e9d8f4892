/- PkRDec, VpC, VpD, VpE. -/
import Derived.Test.YtbfllifgmlkndaaGreatDoorM17
import Derived.Deep.RegionLaw
import Derived.Test.YtbfllifgmlkndaaGreatDoorM19
import Derived.Test.YtbfllifgmlkndaaGreatDoorM12
namespace Go.Proofs.YtbfllifgmlkndaaGreatDoor
open Go.RowKit
open Slot

theorem range_alloc {w : World} {b o : Nat} {cs : List Value} (h : w.rangeAt b o cs) (hb : b < w.heap.size) (x : Obj) : (w.alloc x).rangeAt b o cs := fun j v hv => by
  rw [World.cell?_of_block (w := w) (heap_alloc_old w x hb)]
  exact h j v hv
theorem ret_raw2 {fn : Func} {p q : Tmp} (h : fn.results = #[.cell p 53, .tmp q]) {tmps : Array Value} {w : World} {b : Nat} {C : Array Value} {v : Value} (hp : tmps.getD p undef = .pointer (some ⟨b, 0, none⟩)) (hq : tmps.getD q undef = v) (hB : At w b C) (hr : Rw C) :
    (results fn tmps).run Tryz.prog w = .ok (.tuple #[.agg C, v]) w := by
  have hp' : tmps[p]?.getD undef = .pointer (some ⟨b, 0, none⟩) := by simpa using hp
  have hq' : tmps[q]?.getD undef = v := by simpa using hq
  simp [results, h, hp', hq', asAddr, run_loadVar_row w b 53 53 C (0, 0) _ hB Tryz.underlying53 rfl hr.info]
set_option maxHeartbeats 2000000 in
set_option maxRecDepth 100000 in
theorem rdec_short (S : ByteArray) (w : World) (hs : S.size < 23) : Calls Tryz.prog 16 #[.string S] w fun e w' => e = .returned (.tuple #[.agg (pkCells zeroP), .int .i64 140]) ∧ Below w.heap.size w w' := by
  have hz := zeroPk
  have HP := hid (pbox_new w zeroP)
  have HW := hid (below_alloc w (.cells (pkCells zeroP) 53))
  have hl : (S.size : Int) < 23 := by omega
  go_enter Tryz.func16, Tryz.ntmps16
  go_wp2_with (refine wpList_store_row rfl 53 _ _ rfl w.heap.size (pkCells zeroP) rfl rfl 53 _ HP.out (infoPk _) (sizesPk _ _) (onePk _) ?_)
  exact bodyPost_ret (v := .tuple #[.agg (pkCells zeroP), .int .i64 140]) (ret_pk2 rfl rfl rfl (pbox_set HP.out)) rfl ⟨rfl, below_setRow HW.out (Nat.le_refl _) _⟩
set_option maxHeartbeats 8000000 in
set_option maxRecDepth 100000 in
theorem rdec_core (S : ByteArray) (s : Bs) (hSs : S = ⟨s.toArray⟩) (x0 x1 x2 ne nc : Nat) (E C M D : Bs) (CX CZ PC Z0 DC : Array Value) (z F DE : Int) (w : World) (h23 : 23 ≤ S.size) (hS : S.size ≤ 1048600)
    (hz : Tryz.zeroCells53 = Z0) (hzb : Tryz.zeroCells24 = CZ) (rz : Rw Z0) (rp : Rw PC) (hcx : CX.size = 256) (hcz : CZ.size = 256) (ox : CX.all (·.oneCell') = true)
    (hbu : Array.foldl (fun cs (x : Value × Nat) => cs.setIfInBounds (5 + x.snd) x.fst)
          (((((Z0.setIfInBounds 0 (Value.int IntKind.i64 x0)).setIfInBounds 1 (Value.int IntKind.i64 x1)).setIfInBounds 2 (Value.int IntKind.i64 x2)).setIfInBounds 3 (Value.int IntKind.u64 ne)).setIfInBounds 4 (Value.int IntKind.u64 nc))
          CX.zipIdx 0 256 = PC)
    (i0 : ∀ w, (Instr.index 9 (.string S) (.int .i64 0)).run Tryz.prog w = .ok (.int .u8 x0) w) (i1 : ∀ w, (Instr.index 9 (.string S) (.int .i64 1)).run Tryz.prog w = .ok (.int .u8 x1) w) (i2 : ∀ w, (Instr.index 9 (.string S) (.int .i64 2)).run Tryz.prog w = .ok (.int .u8 x2) w)
    (s0 : ∀ w, (Instr.slice 9 (.string S) (some (.int .i64 3)) (some (.int .i64 11)) none).run Tryz.prog w = .ok (.string ⟨E.toArray⟩) w) (s1 : ∀ w, (Instr.slice 9 (.string S) (some (.int .i64 11)) (some (.int .i64 19)) none).run Tryz.prog w = .ok (.string ⟨C.toArray⟩) w)
    (s2 : ∀ w, (Instr.slice 9 (.string S) (some (.int .i64 21)) (some (.int .i64 ((S.size : Int) - 2))) none).run Tryz.prog w = .ok (.string ⟨M.toArray⟩) w) (b0 : x0 < 256) (b1 : x1 < 256) (b2 : x2 < 256)
    (hPar : ∀ w, Calls Tryz.prog 37 #[.string ⟨M.toArray⟩] w fun e w' => e = .returned (.tuple #[.agg CX, .int .i64 z]) ∧ Below w.heap.size w w')
    (hNE : ∀ w, Calls Tryz.prog 38 #[.string ⟨E.toArray⟩] w fun e w' => e = .returned (.int .u64 (ne : Int)) ∧ w' = w)
    (hNC : ∀ w, Calls Tryz.prog 38 #[.string ⟨C.toArray⟩] w fun e w' => e = .returned (.int .u64 (nc : Int)) ∧ w' = w)
    (hEn : ∀ w, Calls Tryz.prog 39 #[.agg PC] w fun e w' => e = .returned (.tuple #[.string ⟨D.toArray⟩, .int .i64 F]) ∧ Below w.heap.size w w')
    (hNo : ¬ (z = 0 ∧ F = 0 ∧ D = s) → DC = Z0 ∧ DE = 140) (hYes : z = 0 → F = 0 → D = s → DC = PC ∧ DE = 0) :
    Calls Tryz.prog 16 #[.string S] w fun e w' => e = .returned (.tuple #[.agg DC, .int .i64 DE]) ∧ Below w.heap.size w w' := by
  have HZ0 := hid (At.new w Z0)
  have HW0 := hid (below_alloc w (.cells Z0 53))
  have HPar := hid hPar
  have HNE := hid hNE
  have HNC := hid hNC
  have HEn := hid hEn
  have HNo := hid hNo
  have HSs := hid hSs
  have HYes := hid hYes
  have RZ := hid rz
  have RP := hid rp
  have hzs := rz.1
  have hze : ¬ Z0 = #[] := fun e => by rw [e] at hzs; cases hzs
  have HCZ : Hid (CZ.size = CX.size) := hcz.trans hcx.symm
  have HOX := hid ox
  have hib : (Tryz.prog.info? 24).map (·.size) = some CX.size := by rw [hcx]; kernel_rfl
  have hi24 : (Tryz.prog.info? 24).map (·.size) = some CX.toList.length := by rw [Array.length_toList]; exact hib
  have HIB := hid hib
  have u24 := Tryz.underlying24
  have hl : ¬ (S.size : Int) < 23 := by omega
  have hlz : (S.size : Int) ≤ 1048600 := by omega
  have hlw : IntKind.i64.wrap ((S.size : Int) - 2) = (S.size : Int) - 2 := by rw [IntKind.wrap_i64]; omega
  have v0 : IntKind.i64.wrap (x0 : Int) = x0 := by rw [IntKind.wrap_i64]; omega
  have v1 : IntKind.i64.wrap (x1 : Int) = x1 := by rw [IntKind.wrap_i64]; omega
  have v2 : IntKind.i64.wrap (x2 : Int) = x2 := by rw [IntKind.wrap_i64]; omega
  clear hPar hNE hNC hEn hNo hYes rz rp ox hcz hSs
  go_enter Tryz.func16, Tryz.ntmps16
  go_wp2_with fail
  refine (HPar.out _).mono ?_; rintro e w1 ⟨rfl, hb⟩
  have HP1 := hid (HZ0.out.below hb HZ0.out.lt)
  have HW1 := hid (HW0.out.trans (hb.mono HW0.out.size))
  have HB1 : Hid ((w1.alloc (.cells CZ 24)).heap[w1.heap.size]? = some (.cells CZ 24 (0, 0))) := heap_alloc_new w1 _
  clear hb HZ0 HW0 HPar
  go_wp2_with (refine wpList_store_row rfl 24 _ _ rfl w1.heap.size CX rfl rfl 24 _ HB1.out HIB.out HCZ.out HOX.out (Hid.out ?_))
  have B2 : Hid (((w1.alloc (.cells CZ 24)).setRow w1.heap.size CX).heap[w1.heap.size]? = some (.cells CX 24 (0, 0))) := setRow_heap _ _ _ _ _ _ HB1.out
  have W2 : Hid (Below w.heap.size w ((w1.alloc (.cells CZ 24)).setRow w1.heap.size CX)) := below_setRow (HW1.out.alloc HW1.out.size _) HW1.out.size _
  have P2 : Hid (At ((w1.alloc (.cells CZ 24)).setRow w1.heap.size CX) w.heap.size Z0) := (HP1.out.old _).other (by have := HP1.out.lt; omega)
  generalize (w1.alloc (.cells CZ 24)).setRow w1.heap.size CX = w2 at B2 W2 P2 ⊢
  generalize w1.heap.size = b at B2 ⊢
  refine hid ?_
  clear HP1 HW1 HB1 s2 hzb
  have hblt : b < w2.heap.size := (Array.getElem?_eq_some_iff.1 B2.out).1
  have hr : w2.drew.rangeAt b 0 CX.toList := fun j v hv => by
    have : w2.drew.heap[b]? = some (.cells CX 24 (0, 0)) := B2.out
    rw [cell_of_row w2.drew b _ _ _ _ this, Nat.zero_add, ← Array.getElem?_toList]; exact hv
  have ha : ((w2.alloc (.cells Z0 53)).drew).rangeAt b 0 CX.toList := range_alloc hr hblt _
  have HG : Hid (At ((w2.alloc (.cells Z0 53)).drew) w2.heap.size Z0) := At.new w2.drew Z0
  have hf : (((w2.alloc (.cells Z0 53)).drew).setRow w2.heap.size PC).rangeAt b 0 CX.toList := range_setRow ha (by omega) _
  have B3 : Hid (At (((w2.alloc (.cells Z0 53)).drew).setRow w2.heap.size PC) w2.heap.size PC) := HG.out.set
  have W3 : Hid (Below w.heap.size w (((w2.alloc (.cells Z0 53)).drew).setRow w2.heap.size PC)) := below_setRow (W2.out.drew.alloc W2.out.size _) W2.out.size _
  have P3 : Hid (At (((w2.alloc (.cells Z0 53)).drew).setRow w2.heap.size PC) w.heap.size Z0) := by
    have h : At w2.drew w.heap.size Z0 := P2.out
    exact (h.old _).other (by have := P2.out.lt; omega)
  go_wp2_with fail
  refine wp_region_noPanic ?_
  refine wp_region_held_drew (S := fun w' => w'.rangeAt b 0 CX.toList) (by kernel_rfl) hr (fun hHeld => ?_)
  refine wpAnyH_take (i := 0) (oi := { dst := some 22, op := Op.move (Operand.tmp 0), type := 9, pos := "ref.go:64", after := #[], guard := none }) (v := .string S) rfl (by kernel_rfl) (by kernel_rfl) (by kernel_rfl) (fun _ _ _ h => h) (Or.inl ⟨by rfl, fun w hSw => ?_⟩) (by assumption) ?_
  · clear hHeld hSw
    go_simp
  try simp only [Act.put, List.setIfInBounds_toArray, List.set_cons_zero, List.set_cons_succ]
  refine wpAnyH_take (i := 1) (oi := { dst := some 23, op := Op.index 9 (Operand.tmp 22) (Operand.const (Value.int IntKind.i64 0)), type := 5, pos := "ref.go:64", after := #[{ on := 0, ground := Ground.data }], guard := none }) (v := .int .u8 x0) rfl (by kernel_rfl) (by kernel_rfl) (by kernel_rfl) (fun _ _ _ h => h) (Or.inl ⟨by rfl, fun w hSw => ?_⟩) (by assumption) ?_
  · clear hHeld hSw
    go_simp
  try simp only [Act.put, List.setIfInBounds_toArray, List.set_cons_zero, List.set_cons_succ]
  refine wpAnyH_take (i := 2) (oi := { dst := some 24, op := Op.convert 5 3 (Operand.tmp 23), type := 3, pos := "ref.go:64", after := #[{ on := 1, ground := Ground.data }], guard := none }) (v := .int .i64 x0) rfl (by kernel_rfl) (by kernel_rfl) (by kernel_rfl) (fun _ _ _ h => h) (Or.inl ⟨by rfl, fun w hSw => ?_⟩) (by assumption) ?_
  · clear hHeld hSw
    go_simp
  try simp only [Act.put, List.setIfInBounds_toArray, List.set_cons_zero, List.set_cons_succ]
  refine wpAnyH_take (i := 3) (oi := { dst := some 25, op := Op.move (Operand.tmp 0), type := 9, pos := "ref.go:64", after := #[], guard := none }) (v := .string S) rfl (by kernel_rfl) (by kernel_rfl) (by kernel_rfl) (fun _ _ _ h => h) (Or.inl ⟨by rfl, fun w hSw => ?_⟩) (by assumption) ?_
  · clear hHeld hSw
    go_simp
  try simp only [Act.put, List.setIfInBounds_toArray, List.set_cons_zero, List.set_cons_succ]
  refine wpAnyH_take (i := 4) (oi := { dst := some 26, op := Op.index 9 (Operand.tmp 25) (Operand.const (Value.int IntKind.i64 1)), type := 5, pos := "ref.go:64", after := #[{ on := 3, ground := Ground.data }], guard := none }) (v := .int .u8 x1) rfl (by kernel_rfl) (by kernel_rfl) (by kernel_rfl) (fun _ _ _ h => h) (Or.inl ⟨by rfl, fun w hSw => ?_⟩) (by assumption) ?_
  · clear hHeld hSw
    go_simp
  try simp only [Act.put, List.setIfInBounds_toArray, List.set_cons_zero, List.set_cons_succ]
  refine wpAnyH_take (i := 5) (oi := { dst := some 27, op := Op.convert 5 3 (Operand.tmp 26), type := 3, pos := "ref.go:64", after := #[{ on := 4, ground := Ground.data }], guard := none }) (v := .int .i64 x1) rfl (by kernel_rfl) (by kernel_rfl) (by kernel_rfl) (fun _ _ _ h => h) (Or.inl ⟨by rfl, fun w hSw => ?_⟩) (by assumption) ?_
  · clear hHeld hSw
    go_simp
  try simp only [Act.put, List.setIfInBounds_toArray, List.set_cons_zero, List.set_cons_succ]
  refine wpAnyH_take (i := 6) (oi := { dst := some 28, op := Op.move (Operand.tmp 0), type := 9, pos := "ref.go:64", after := #[], guard := none }) (v := .string S) rfl (by kernel_rfl) (by kernel_rfl) (by kernel_rfl) (fun _ _ _ h => h) (Or.inl ⟨by rfl, fun w hSw => ?_⟩) (by assumption) ?_
  · clear hHeld hSw
    go_simp
  try simp only [Act.put, List.setIfInBounds_toArray, List.set_cons_zero, List.set_cons_succ]
  refine wpAnyH_take (i := 7) (oi := { dst := some 29, op := Op.index 9 (Operand.tmp 28) (Operand.const (Value.int IntKind.i64 2)), type := 5, pos := "ref.go:64", after := #[{ on := 6, ground := Ground.data }], guard := none }) (v := .int .u8 x2) rfl (by kernel_rfl) (by kernel_rfl) (by kernel_rfl) (fun _ _ _ h => h) (Or.inl ⟨by rfl, fun w hSw => ?_⟩) (by assumption) ?_
  · clear hHeld hSw
    go_simp
  try simp only [Act.put, List.setIfInBounds_toArray, List.set_cons_zero, List.set_cons_succ]
  refine wpAnyH_take (i := 8) (oi := { dst := some 30, op := Op.convert 5 3 (Operand.tmp 29), type := 3, pos := "ref.go:64", after := #[{ on := 7, ground := Ground.data }], guard := none }) (v := .int .i64 x2) rfl (by kernel_rfl) (by kernel_rfl) (by kernel_rfl) (fun _ _ _ h => h) (Or.inl ⟨by rfl, fun w hSw => ?_⟩) (by assumption) ?_
  · clear hHeld hSw
    go_simp
  try simp only [Act.put, List.setIfInBounds_toArray, List.set_cons_zero, List.set_cons_succ]
  refine wpAnyH_take (i := 9) (oi := { dst := some 31, op := Op.move (Operand.tmp 0), type := 9, pos := "ref.go:64", after := #[], guard := none }) (v := .string S) rfl (by kernel_rfl) (by kernel_rfl) (by kernel_rfl) (fun _ _ _ h => h) (Or.inl ⟨by rfl, fun w hSw => ?_⟩) (by assumption) ?_
  · clear hHeld hSw
    go_simp
  try simp only [Act.put, List.setIfInBounds_toArray, List.set_cons_zero, List.set_cons_succ]
  refine wpAnyH_take (i := 10) (oi := { dst := some 32, op := Op.slice 9 (Operand.tmp 31) (some (Operand.const (Value.int IntKind.i64 3))) (some (Operand.const (Value.int IntKind.i64 11))) none, type := 9, pos := "ref.go:64", after := #[{ on := 9, ground := Ground.data }], guard := none }) (v := .string ⟨E.toArray⟩) rfl (by kernel_rfl) (by kernel_rfl) (by kernel_rfl) (fun _ _ _ h => h) (Or.inl ⟨by rfl, fun w hSw => ?_⟩) (by assumption) ?_
  · clear hHeld hSw
    go_simp
  try simp only [Act.put, List.setIfInBounds_toArray, List.set_cons_zero, List.set_cons_succ]
  refine wpAnyH_take (i := 12) (oi := { dst := some 34, op := Op.move (Operand.tmp 0), type := 9, pos := "ref.go:64", after := #[], guard := none }) (v := .string S) rfl (by kernel_rfl) (by kernel_rfl) (by kernel_rfl) (fun _ _ _ h => h) (Or.inl ⟨by rfl, fun w hSw => ?_⟩) (by assumption) ?_
  · clear hHeld hSw
    go_simp
  try simp only [Act.put, List.setIfInBounds_toArray, List.set_cons_zero, List.set_cons_succ]
  refine wpAnyH_take (i := 13) (oi := { dst := some 35, op := Op.slice 9 (Operand.tmp 34) (some (Operand.const (Value.int IntKind.i64 11))) (some (Operand.const (Value.int IntKind.i64 19))) none, type := 9, pos := "ref.go:64", after := #[{ on := 12, ground := Ground.data }], guard := none }) (v := .string ⟨C.toArray⟩) rfl (by kernel_rfl) (by kernel_rfl) (by kernel_rfl) (fun _ _ _ h => h) (Or.inl ⟨by rfl, fun w hSw => ?_⟩) (by assumption) ?_
  · clear hHeld hSw
    go_simp
  try simp only [Act.put, List.setIfInBounds_toArray, List.set_cons_zero, List.set_cons_succ]
  refine wpAnyH_take (i := 15) (oi := { dst := some 37, op := Op.load 24 (Operand.tmp 4), type := 24, pos := "ref.go:64", after := #[], guard := none }) (v := .agg CX) rfl (by kernel_rfl) (by kernel_rfl) (by kernel_rfl) (fun _ _ _ h => h) (yieldsIf_load_arr Array.toArray_toList (by rfl) _ _ rfl _ _ rfl (fun _ h => h) u24 rfl hi24) (by assumption) ?_
  try simp only [Act.put, List.setIfInBounds_toArray, List.set_cons_zero, List.set_cons_succ]
  refine wpAnyH_ready (rs := [11, 17]) (by kernel_rfl) (by simp) ?_
  refine AllReadyH.cons (o := { dst := some 33, op := Op.call { callee := Callee.value (Operand.func 38), args := #[Operand.tmp 32], argTypes := #[9] }, type := 22, pos := "ref.go:64", after := #[{ on := 10, ground := Ground.data }], guard := none }) rfl (fun K hK => ?_) ?_
  · clear hHeld
    go_simp
    refine (HNE.out _).mono ?_; rintro e w9 ⟨rfl, rfl⟩
    go_wp2_with fail
    refine hK.out _ _ hr (fun hHeld => ?_)
    clear hK K
    try simp only [Act.put, List.setIfInBounds_toArray, List.set_cons_zero, List.set_cons_succ]
    refine wpAnyH_ready (rs := [14, 17]) (by kernel_rfl) (by simp) ?_
    refine AllReadyH.cons (o := { dst := some 36, op := Op.call { callee := Callee.value (Operand.func 38), args := #[Operand.tmp 35], argTypes := #[9] }, type := 22, pos := "ref.go:64", after := #[{ on := 13, ground := Ground.data }, { on := 11, ground := Ground.chain }], guard := none }) rfl (fun K hK => ?_) ?_
    · clear hHeld
      go_simp
      refine (HNC.out _).mono ?_; rintro e w9 ⟨rfl, rfl⟩
      go_wp2_with fail
      refine hK.out _ _ hr (fun hHeld => ?_)
      clear hK K
      try simp only [Act.put, List.setIfInBounds_toArray, List.set_cons_zero, List.set_cons_succ]
      refine wpAnyH_take (i := 16) (oi := { dst := some 38, op := Op.build 53 #[(0, Operand.tmp 24), (1, Operand.tmp 27), (2, Operand.tmp 30), (3, Operand.tmp 33), (4, Operand.tmp 36), (5, Operand.tmp 37)], type := 53, pos := "ref.go:64", after := #[{ on := 2, ground := Ground.data }, { on := 5, ground := Ground.data }, { on := 8, ground := Ground.data }, { on := 11, ground := Ground.data }, { on := 14, ground := Ground.data }, { on := 15, ground := Ground.data }], guard := none }) (v := .agg PC) rfl (by kernel_rfl) (by kernel_rfl) (by kernel_rfl) (fun _ _ _ h => h) (Or.inl ⟨by rfl, fun w hSw => ?_⟩) (by assumption) ?_
      · clear hHeld hSw
        go_simp
      try simp only [Act.put, List.setIfInBounds_toArray, List.set_cons_zero, List.set_cons_succ]
      refine wpAnyH_ready (rs := [17]) (by kernel_rfl) (by simp) ?_
      refine AllReadyH.cons (o := { dst := some 6, op := Op.alloc 53, type := 0, pos := "ref.go:64", after := #[], guard := none }) rfl (fun K hK => ?_) AllReadyH.nil
      clear hHeld
      go_simp
      refine hK.out _ _ ha (fun hHeld => ?_)
      clear hK K
      try simp only [Act.put, List.setIfInBounds_toArray, List.set_cons_zero, List.set_cons_succ]
      refine wpAnyH_ready (rs := [18]) (by kernel_rfl) (by simp) ?_
      refine AllReadyH.cons (o := { dst := none, op := Op.store 53 (Operand.tmp 6) (Operand.tmp 38), type := 0, pos := "ref.go:64", after := #[{ on := 17, ground := Ground.data }, { on := 16, ground := Ground.data }, { on := 14, ground := Ground.chain }, { on := 0, ground := Ground.phase }, { on := 1, ground := Ground.phase }, { on := 2, ground := Ground.phase }, { on := 3, ground := Ground.phase }, { on := 4, ground := Ground.phase }, { on := 5, ground := Ground.phase }, { on := 6, ground := Ground.phase }, { on := 7, ground := Ground.phase }, { on := 8, ground := Ground.phase }, { on := 9, ground := Ground.phase }, { on := 10, ground := Ground.phase }, { on := 11, ground := Ground.phase }, { on := 12, ground := Ground.phase }, { on := 13, ground := Ground.phase }, { on := 14, ground := Ground.phase }, { on := 15, ground := Ground.phase }, { on := 16, ground := Ground.phase }, { on := 17, ground := Ground.phase }], guard := none }) rfl (fun K hK => ?_) AllReadyH.nil
      rw [if_pos (by rfl)]
      refine wp_store_row 53 _ _ rfl w2.heap.size PC rfl rfl 53 Z0 HG.out RP.out.info (RZ.out.sizes RP.out) RP.out.2 ?_
      refine hK.out _ _ hf (fun hHeld => ?_)
      clear hK K hHeld
      simp only [Act.put]
      refine wpAnyH_done (by kernel_rfl) ?_ _
      refine NoPanic.normal ?_
      generalize ((w2.alloc (.cells Z0 53)).drew).setRow w2.heap.size PC = w3 at B3 W3 P3 ⊢
      generalize w2.heap.size = g at B3 ⊢
      clear ha hf HG hr i0 i1 i2 s0 s1 hl hlz hlw h23 hS
      obtain rfl := HSs.out
      go_wp2_with (refine wpList_load_row rfl 53 _ rfl g rfl 53 _ (0, 0) _ B3.out Tryz.underlying53 rfl RP.out.info (Hid.out ?_))
      refine hid ?_
      go_wp2_with fail
      refine (HEn.out _).mono ?_; rintro e w5 ⟨rfl, hb⟩
      have B5 := hid (B3.out.below hb B3.out.lt)
      have W5 := hid (W3.out.trans (hb.mono W3.out.size))
      have P5 := hid (P3.out.below hb P3.out.lt)
      clear hb B3 W3 P3 HEn
      by_cases hy : z = 0
      · by_cases hF : F = 0
        · by_cases hd : D = s
          · obtain ⟨rfl, rfl⟩ := HYes.out hy hF hd
            subst hy
            subst hF
            clear HNo HYes
            have hd2 : (D == s) = true := by simpa using hd
            go_wp2_with (first | (refine wpList_load_row rfl 53 _ rfl g rfl 53 _ (0, 0) _ B5.out Tryz.underlying53 rfl RP.out.info ?_) | (refine wpList_store_row rfl 53 _ _ rfl w.heap.size _ rfl rfl 53 _ P5.out RP.out.info (RZ.out.sizes RP.out) RP.out.2 ?_))
            exact bodyPost_ret (v := .tuple #[.agg DC, .int .i64 0]) (ret_raw2 rfl rfl rfl P5.out.set RP.out) rfl ⟨rfl, below_setRow W5.out (Nat.le_refl _) _⟩
          · obtain ⟨rfl, rfl⟩ := HNo.out (fun h => hd h.2.2)
            subst hy
            subst hF
            clear HNo HYes
            have hd2 : (D == s) = false := by simpa using hd
            go_wp2_with (refine wpList_store_row rfl 53 _ _ rfl w.heap.size DC rfl rfl 53 _ P5.out RZ.out.info (RZ.out.sizes RZ.out) RZ.out.2 ?_)
            exact bodyPost_ret (v := .tuple #[.agg DC, .int .i64 140]) (ret_raw2 rfl rfl rfl P5.out.set RZ.out) rfl ⟨rfl, below_setRow W5.out (Nat.le_refl _) _⟩
        · obtain ⟨rfl, rfl⟩ := HNo.out (fun h => hF h.2.1)
          subst hy
          clear HNo HYes
          have hF2 : (F == 0) = false := beq_eq_false_iff_ne.2 hF
          go_wp2_with (refine wpList_store_row rfl 53 _ _ rfl w.heap.size DC rfl rfl 53 _ P5.out RZ.out.info (RZ.out.sizes RZ.out) RZ.out.2 ?_)
          exact bodyPost_ret (v := .tuple #[.agg DC, .int .i64 140]) (ret_raw2 rfl rfl rfl P5.out.set RZ.out) rfl ⟨rfl, below_setRow W5.out (Nat.le_refl _) _⟩
      · obtain ⟨rfl, rfl⟩ := HNo.out (fun h => hy h.1)
        clear HNo HYes
        have hy2 : (z == 0) = false := beq_eq_false_iff_ne.2 hy
        go_wp2_with (refine wpList_store_row rfl 53 _ _ rfl w.heap.size DC rfl rfl 53 _ P5.out RZ.out.info (RZ.out.sizes RZ.out) RZ.out.2 ?_)
        exact bodyPost_ret (v := .tuple #[.agg DC, .int .i64 140]) (ret_raw2 rfl rfl rfl P5.out.set RZ.out) rfl ⟨rfl, below_setRow W5.out (Nat.le_refl _) _⟩
    refine AllReadyH.cons (o := { dst := some 6, op := Op.alloc 53, type := 0, pos := "ref.go:64", after := #[], guard := none }) rfl (fun K hK => ?_) AllReadyH.nil
    clear hHeld
    go_simp
    refine hK.out _ _ ha (fun hHeld => ?_)
    clear hK K
    try simp only [Act.put, List.setIfInBounds_toArray, List.set_cons_zero, List.set_cons_succ]
    refine wpAnyH_ready (rs := [14]) (by kernel_rfl) (by simp) ?_
    refine AllReadyH.cons (o := { dst := some 36, op := Op.call { callee := Callee.value (Operand.func 38), args := #[Operand.tmp 35], argTypes := #[9] }, type := 22, pos := "ref.go:64", after := #[{ on := 13, ground := Ground.data }, { on := 11, ground := Ground.chain }], guard := none }) rfl (fun K hK => ?_) AllReadyH.nil
    clear hHeld
    go_simp
    refine (HNC.out _).mono ?_; rintro e w9 ⟨rfl, rfl⟩
    go_wp2_with fail
    refine hK.out _ _ ha (fun hHeld => ?_)
    clear hK K
    try simp only [Act.put, List.setIfInBounds_toArray, List.set_cons_zero, List.set_cons_succ]
    refine wpAnyH_take (i := 16) (oi := { dst := some 38, op := Op.build 53 #[(0, Operand.tmp 24), (1, Operand.tmp 27), (2, Operand.tmp 30), (3, Operand.tmp 33), (4, Operand.tmp 36), (5, Operand.tmp 37)], type := 53, pos := "ref.go:64", after := #[{ on := 2, ground := Ground.data }, { on := 5, ground := Ground.data }, { on := 8, ground := Ground.data }, { on := 11, ground := Ground.data }, { on := 14, ground := Ground.data }, { on := 15, ground := Ground.data }], guard := none }) (v := .agg PC) rfl (by kernel_rfl) (by kernel_rfl) (by kernel_rfl) (fun _ _ _ h => h) (Or.inl ⟨by rfl, fun w hSw => ?_⟩) (by assumption) ?_
    · clear hHeld hSw
      go_simp
    try simp only [Act.put, List.setIfInBounds_toArray, List.set_cons_zero, List.set_cons_succ]
    refine wpAnyH_ready (rs := [18]) (by kernel_rfl) (by simp) ?_
    refine AllReadyH.cons (o := { dst := none, op := Op.store 53 (Operand.tmp 6) (Operand.tmp 38), type := 0, pos := "ref.go:64", after := #[{ on := 17, ground := Ground.data }, { on := 16, ground := Ground.data }, { on := 14, ground := Ground.chain }, { on := 0, ground := Ground.phase }, { on := 1, ground := Ground.phase }, { on := 2, ground := Ground.phase }, { on := 3, ground := Ground.phase }, { on := 4, ground := Ground.phase }, { on := 5, ground := Ground.phase }, { on := 6, ground := Ground.phase }, { on := 7, ground := Ground.phase }, { on := 8, ground := Ground.phase }, { on := 9, ground := Ground.phase }, { on := 10, ground := Ground.phase }, { on := 11, ground := Ground.phase }, { on := 12, ground := Ground.phase }, { on := 13, ground := Ground.phase }, { on := 14, ground := Ground.phase }, { on := 15, ground := Ground.phase }, { on := 16, ground := Ground.phase }, { on := 17, ground := Ground.phase }], guard := none }) rfl (fun K hK => ?_) AllReadyH.nil
    rw [if_pos (by rfl)]
    refine wp_store_row 53 _ _ rfl w2.heap.size PC rfl rfl 53 Z0 HG.out RP.out.info (RZ.out.sizes RP.out) RP.out.2 ?_
    refine hK.out _ _ hf (fun hHeld => ?_)
    clear hK K hHeld
    simp only [Act.put]
    refine wpAnyH_done (by kernel_rfl) ?_ _
    refine NoPanic.normal ?_
    generalize ((w2.alloc (.cells Z0 53)).drew).setRow w2.heap.size PC = w3 at B3 W3 P3 ⊢
    generalize w2.heap.size = g at B3 ⊢
    clear ha hf HG hr i0 i1 i2 s0 s1 hl hlz hlw h23 hS
    obtain rfl := HSs.out
    go_wp2_with (refine wpList_load_row rfl 53 _ rfl g rfl 53 _ (0, 0) _ B3.out Tryz.underlying53 rfl RP.out.info (Hid.out ?_))
    refine hid ?_
    go_wp2_with fail
    refine (HEn.out _).mono ?_; rintro e w5 ⟨rfl, hb⟩
    have B5 := hid (B3.out.below hb B3.out.lt)
    have W5 := hid (W3.out.trans (hb.mono W3.out.size))
    have P5 := hid (P3.out.below hb P3.out.lt)
    clear hb B3 W3 P3 HEn
    by_cases hy : z = 0
    · by_cases hF : F = 0
      · by_cases hd : D = s
        · obtain ⟨rfl, rfl⟩ := HYes.out hy hF hd
          subst hy
          subst hF
          clear HNo HYes
          have hd2 : (D == s) = true := by simpa using hd
          go_wp2_with (first | (refine wpList_load_row rfl 53 _ rfl g rfl 53 _ (0, 0) _ B5.out Tryz.underlying53 rfl RP.out.info ?_) | (refine wpList_store_row rfl 53 _ _ rfl w.heap.size _ rfl rfl 53 _ P5.out RP.out.info (RZ.out.sizes RP.out) RP.out.2 ?_))
          exact bodyPost_ret (v := .tuple #[.agg DC, .int .i64 0]) (ret_raw2 rfl rfl rfl P5.out.set RP.out) rfl ⟨rfl, below_setRow W5.out (Nat.le_refl _) _⟩
        · obtain ⟨rfl, rfl⟩ := HNo.out (fun h => hd h.2.2)
          subst hy
          subst hF
          clear HNo HYes
          have hd2 : (D == s) = false := by simpa using hd
          go_wp2_with (refine wpList_store_row rfl 53 _ _ rfl w.heap.size DC rfl rfl 53 _ P5.out RZ.out.info (RZ.out.sizes RZ.out) RZ.out.2 ?_)
          exact bodyPost_ret (v := .tuple #[.agg DC, .int .i64 140]) (ret_raw2 rfl rfl rfl P5.out.set RZ.out) rfl ⟨rfl, below_setRow W5.out (Nat.le_refl _) _⟩
      · obtain ⟨rfl, rfl⟩ := HNo.out (fun h => hF h.2.1)
        subst hy
        clear HNo HYes
        have hF2 : (F == 0) = false := beq_eq_false_iff_ne.2 hF
        go_wp2_with (refine wpList_store_row rfl 53 _ _ rfl w.heap.size DC rfl rfl 53 _ P5.out RZ.out.info (RZ.out.sizes RZ.out) RZ.out.2 ?_)
        exact bodyPost_ret (v := .tuple #[.agg DC, .int .i64 140]) (ret_raw2 rfl rfl rfl P5.out.set RZ.out) rfl ⟨rfl, below_setRow W5.out (Nat.le_refl _) _⟩
    · obtain ⟨rfl, rfl⟩ := HNo.out (fun h => hy h.1)
      clear HNo HYes
      have hy2 : (z == 0) = false := beq_eq_false_iff_ne.2 hy
      go_wp2_with (refine wpList_store_row rfl 53 _ _ rfl w.heap.size DC rfl rfl 53 _ P5.out RZ.out.info (RZ.out.sizes RZ.out) RZ.out.2 ?_)
      exact bodyPost_ret (v := .tuple #[.agg DC, .int .i64 140]) (ret_raw2 rfl rfl rfl P5.out.set RZ.out) rfl ⟨rfl, below_setRow W5.out (Nat.le_refl _) _⟩
  refine AllReadyH.cons (o := { dst := some 6, op := Op.alloc 53, type := 0, pos := "ref.go:64", after := #[], guard := none }) rfl (fun K hK => ?_) AllReadyH.nil
  clear hHeld
  go_simp
  refine hK.out _ _ ha (fun hHeld => ?_)
  clear hK K
  try simp only [Act.put, List.setIfInBounds_toArray, List.set_cons_zero, List.set_cons_succ]
  refine wpAnyH_ready (rs := [11]) (by kernel_rfl) (by simp) ?_
  refine AllReadyH.cons (o := { dst := some 33, op := Op.call { callee := Callee.value (Operand.func 38), args := #[Operand.tmp 32], argTypes := #[9] }, type := 22, pos := "ref.go:64", after := #[{ on := 10, ground := Ground.data }], guard := none }) rfl (fun K hK => ?_) AllReadyH.nil
  clear hHeld
  go_simp
  refine (HNE.out _).mono ?_; rintro e w9 ⟨rfl, rfl⟩
  go_wp2_with fail
  refine hK.out _ _ ha (fun hHeld => ?_)
  clear hK K
  try simp only [Act.put, List.setIfInBounds_toArray, List.set_cons_zero, List.set_cons_succ]
  refine wpAnyH_ready (rs := [14]) (by kernel_rfl) (by simp) ?_
  refine AllReadyH.cons (o := { dst := some 36, op := Op.call { callee := Callee.value (Operand.func 38), args := #[Operand.tmp 35], argTypes := #[9] }, type := 22, pos := "ref.go:64", after := #[{ on := 13, ground := Ground.data }, { on := 11, ground := Ground.chain }], guard := none }) rfl (fun K hK => ?_) AllReadyH.nil
  clear hHeld
  go_simp
  refine (HNC.out _).mono ?_; rintro e w9 ⟨rfl, rfl⟩
  go_wp2_with fail
  refine hK.out _ _ ha (fun hHeld => ?_)
  clear hK K
  try simp only [Act.put, List.setIfInBounds_toArray, List.set_cons_zero, List.set_cons_succ]
  refine wpAnyH_take (i := 16) (oi := { dst := some 38, op := Op.build 53 #[(0, Operand.tmp 24), (1, Operand.tmp 27), (2, Operand.tmp 30), (3, Operand.tmp 33), (4, Operand.tmp 36), (5, Operand.tmp 37)], type := 53, pos := "ref.go:64", after := #[{ on := 2, ground := Ground.data }, { on := 5, ground := Ground.data }, { on := 8, ground := Ground.data }, { on := 11, ground := Ground.data }, { on := 14, ground := Ground.data }, { on := 15, ground := Ground.data }], guard := none }) (v := .agg PC) rfl (by kernel_rfl) (by kernel_rfl) (by kernel_rfl) (fun _ _ _ h => h) (Or.inl ⟨by rfl, fun w hSw => ?_⟩) (by assumption) ?_
  · clear hHeld hSw
    go_simp
  try simp only [Act.put, List.setIfInBounds_toArray, List.set_cons_zero, List.set_cons_succ]
  refine wpAnyH_ready (rs := [18]) (by kernel_rfl) (by simp) ?_
  refine AllReadyH.cons (o := { dst := none, op := Op.store 53 (Operand.tmp 6) (Operand.tmp 38), type := 0, pos := "ref.go:64", after := #[{ on := 17, ground := Ground.data }, { on := 16, ground := Ground.data }, { on := 14, ground := Ground.chain }, { on := 0, ground := Ground.phase }, { on := 1, ground := Ground.phase }, { on := 2, ground := Ground.phase }, { on := 3, ground := Ground.phase }, { on := 4, ground := Ground.phase }, { on := 5, ground := Ground.phase }, { on := 6, ground := Ground.phase }, { on := 7, ground := Ground.phase }, { on := 8, ground := Ground.phase }, { on := 9, ground := Ground.phase }, { on := 10, ground := Ground.phase }, { on := 11, ground := Ground.phase }, { on := 12, ground := Ground.phase }, { on := 13, ground := Ground.phase }, { on := 14, ground := Ground.phase }, { on := 15, ground := Ground.phase }, { on := 16, ground := Ground.phase }, { on := 17, ground := Ground.phase }], guard := none }) rfl (fun K hK => ?_) AllReadyH.nil
  rw [if_pos (by rfl)]
  refine wp_store_row 53 _ _ rfl w2.heap.size PC rfl rfl 53 Z0 HG.out RP.out.info (RZ.out.sizes RP.out) RP.out.2 ?_
  refine hK.out _ _ hf (fun hHeld => ?_)
  clear hK K hHeld
  simp only [Act.put]
  refine wpAnyH_done (by kernel_rfl) ?_ _
  refine NoPanic.normal ?_
  generalize ((w2.alloc (.cells Z0 53)).drew).setRow w2.heap.size PC = w3 at B3 W3 P3 ⊢
  generalize w2.heap.size = g at B3 ⊢
  clear ha hf HG hr i0 i1 i2 s0 s1 hl hlz hlw h23 hS
  obtain rfl := HSs.out
  go_wp2_with (refine wpList_load_row rfl 53 _ rfl g rfl 53 _ (0, 0) _ B3.out Tryz.underlying53 rfl RP.out.info (Hid.out ?_))
  refine hid ?_
  go_wp2_with fail
  refine (HEn.out _).mono ?_; rintro e w5 ⟨rfl, hb⟩
  have B5 := hid (B3.out.below hb B3.out.lt)
  have W5 := hid (W3.out.trans (hb.mono W3.out.size))
  have P5 := hid (P3.out.below hb P3.out.lt)
  clear hb B3 W3 P3 HEn
  by_cases hy : z = 0
  · by_cases hF : F = 0
    · by_cases hd : D = s
      · obtain ⟨rfl, rfl⟩ := HYes.out hy hF hd
        subst hy
        subst hF
        clear HNo HYes
        have hd2 : (D == s) = true := by simpa using hd
        go_wp2_with (first | (refine wpList_load_row rfl 53 _ rfl g rfl 53 _ (0, 0) _ B5.out Tryz.underlying53 rfl RP.out.info ?_) | (refine wpList_store_row rfl 53 _ _ rfl w.heap.size _ rfl rfl 53 _ P5.out RP.out.info (RZ.out.sizes RP.out) RP.out.2 ?_))
        exact bodyPost_ret (v := .tuple #[.agg DC, .int .i64 0]) (ret_raw2 rfl rfl rfl P5.out.set RP.out) rfl ⟨rfl, below_setRow W5.out (Nat.le_refl _) _⟩
      · obtain ⟨rfl, rfl⟩ := HNo.out (fun h => hd h.2.2)
        subst hy
        subst hF
        clear HNo HYes
        have hd2 : (D == s) = false := by simpa using hd
        go_wp2_with (refine wpList_store_row rfl 53 _ _ rfl w.heap.size DC rfl rfl 53 _ P5.out RZ.out.info (RZ.out.sizes RZ.out) RZ.out.2 ?_)
        exact bodyPost_ret (v := .tuple #[.agg DC, .int .i64 140]) (ret_raw2 rfl rfl rfl P5.out.set RZ.out) rfl ⟨rfl, below_setRow W5.out (Nat.le_refl _) _⟩
    · obtain ⟨rfl, rfl⟩ := HNo.out (fun h => hF h.2.1)
      subst hy
      clear HNo HYes
      have hF2 : (F == 0) = false := beq_eq_false_iff_ne.2 hF
      go_wp2_with (refine wpList_store_row rfl 53 _ _ rfl w.heap.size DC rfl rfl 53 _ P5.out RZ.out.info (RZ.out.sizes RZ.out) RZ.out.2 ?_)
      exact bodyPost_ret (v := .tuple #[.agg DC, .int .i64 140]) (ret_raw2 rfl rfl rfl P5.out.set RZ.out) rfl ⟨rfl, below_setRow W5.out (Nat.le_refl _) _⟩
  · obtain ⟨rfl, rfl⟩ := HNo.out (fun h => hy h.1)
    clear HNo HYes
    have hy2 : (z == 0) = false := beq_eq_false_iff_ne.2 hy
    go_wp2_with (refine wpList_store_row rfl 53 _ _ rfl w.heap.size DC rfl rfl 53 _ P5.out RZ.out.info (RZ.out.sizes RZ.out) RZ.out.2 ?_)
    exact bodyPost_ret (v := .tuple #[.agg DC, .int .i64 140]) (ret_raw2 rfl rfl rfl P5.out.set RZ.out) rfl ⟨rfl, below_setRow W5.out (Nat.le_refl _) _⟩
/-- the document's Decode -/
theorem rdecode_any (s : Bs) (w : World) (hs : s.length ≤ 1048576) : Calls Tryz.prog 16 #[.string ⟨s.toArray⟩] w fun e w' => e = .returned (.tuple #[.agg (pkCells (decPk s)), .int .i64 (decE s)]) ∧ Below w.heap.size w w' := by
  have hz := ba_size s
  by_cases h0 : 23 ≤ s.length
  · have i : ∀ (k : Nat) (h : k < s.length) (W : World), (Instr.index 9 (.string ⟨s.toArray⟩) (.int .i64 (k : Int))).run Tryz.prog W = .ok (.int .u8 ((s.getD k 0).toNat : Int)) W := fun k h W => by
      rw [index_at s k h W]
      simp [List.getD, h]
    obtain ⟨z, hpv, hpz⟩ := parseVal_set ((s.drop 21).take (s.length - 23))
    have hbu := built_form (s.getD 0 0).toNat (s.getD 1 0).toNat (s.getD 2 0).toNat (nb ((s.drop 3).take 8)) (nb ((s.drop 11).take 8)) (setOf ((s.drop 21).take (s.length - 23)))
    rw [zeroPk, cellsOf_size] at hbu
    have he8 : ((s.drop 3).take 8).length ≤ 8 := by rw [List.length_take]; omega
    have hc8 : ((s.drop 11).take 8).length ≤ 8 := by rw [List.length_take]; omega
    refine rdec_core ⟨s.toArray⟩ s rfl (s.getD 0 0).toNat (s.getD 1 0).toNat (s.getD 2 0).toNat (nb ((s.drop 3).take 8)) (nb ((s.drop 11).take 8)) ((s.drop 3).take 8) ((s.drop 11).take 8) ((s.drop 21).take (s.length - 23)) (encS (rdP s))
      (cellsOf (setOf ((s.drop 21).take (s.length - 23)))) (cellsOf fun _ => false) (pkCells (rdP s)) (pkCells zeroP) (pkCells (decPk s)) z (encE (rdP s)) (decE s) w (by omega) (by omega) zeroPk zeroBits (rw_pk _) (rw_pk _) (cellsOf_size _) (cellsOf_size _) (oneCells _) hbu
      (fun W => i 0 (by omega) W) (fun W => i 1 (by omega) W) (fun W => i 2 (by omega) W)
      (fun W => slice_at s 3 11 3 11 rfl rfl (by omega) (by omega) W) (fun W => slice_at s 11 19 11 19 rfl rfl (by omega) (by omega) W) (fun W => ?_) (UInt8.toNat_lt _) (UInt8.toNat_lt _) (UInt8.toNat_lt _) (fun W => ?_) (fun W => rnumber_any _ he8 W) (fun W => rnumber_any _ hc8 W) (fun W => rencode_any (rdP s) W (nb_u64 _ he8) (nb_u64 _ hc8)) (fun h => ?_) (fun h1 h2 h3 => ?_)
    · have := slice_at s 21 (s.length - 2) 21 ((s.length : Int) - 2) rfl (by omega) (by omega) (by omega) W
      rw [show s.length - 2 - 21 = s.length - 23 by omega] at this
      rw [hz]
      exact this
    · have := rParse_any ((s.drop 21).take (s.length - 23)) W (by rw [List.length_take]; omega)
      rwa [hpv] at this
    · have hn : decP s = none := by
        refine dec_bad fun hg => h ⟨?_, ?_, ?_⟩
        · refine hpz.2 fun hp => ?_
          exact parse_none hp hg.2
        · unfold encE; rw [if_pos hg.1]
        · unfold encS; rw [if_pos hg.1, hg.2]
      obtain ⟨e1, e2⟩ := dec_not hn
      rw [e1]; exact ⟨rfl, e2⟩
    · have hg : rightP (rdP s) = true := by
        cases e : rightP (rdP s)
        · unfold encE at h2; rw [e, if_neg (by decide)] at h2; exact absurd h2 (by decide)
        · rfl
      have hd : enc (rdP s) = s := by
        unfold encS at h3
        rwa [if_pos hg] at h3
      obtain ⟨e1, e2⟩ := dec_is (dec_good h0 hg hd)
      rw [e1]; exact ⟨rfl, e2⟩
  · obtain ⟨e1, e2⟩ := dec_not (dec_short (show s.length < 23 by omega))
    rw [e1, e2]
    exact rdec_short ⟨s.toArray⟩ w (by omega)

end Go.Proofs.YtbfllifgmlkndaaGreatDoor

namespace Go.Proofs.YtbfllifgmlkndaaGreatDoor
open Go.RowKit
open Slot

/-- the ranges of the slots below n -/
structure Gd (S : Nat → Bool) (n : Nat) (L : List (Nat × Nat)) : Prop where
  val : ∀ p ∈ L, p.1 ≤ p.2 ∧ p.2 < n
  mem : ∀ t, t < n → ofList L t = S t
theorem Gd.out {S : Nat → Bool} {n : Nat} {L : List (Nat × Nat)} (h : Gd S n L) {t : Nat} (ht : n ≤ t) : ofList L t = false := by
  unfold ofList
  rw [List.any_eq_false]
  intro p hp
  have := h.val p hp
  simp; omega
theorem Gd.no {S : Nat → Bool} {n : Nat} {L : List (Nat × Nat)} (h : Gd S n L) (hs : S n = false) : Gd S (n + 1) L :=
  ⟨fun p hp => by have := h.val p hp; omega, fun t ht => by
    by_cases e : t = n
    · subst e; rw [h.out (Nat.le_refl _), hs]
    · exact h.mem t (by omega)⟩
theorem Gd.push {S : Nat → Bool} {n : Nat} {L : List (Nat × Nat)} (h : Gd S n L) (hs : S n = true) : Gd S (n + 1) (L ++ [(n, n)]) :=
  ⟨fun p hp => by
    rcases List.mem_append.1 hp with hp | hp
    · have := h.val p hp; omega
    · rw [List.mem_singleton.1 hp]; exact ⟨Nat.le_refl _, Nat.lt_succ_self _⟩, fun t ht => by
    rw [ofList_snoc]
    unfold put
    by_cases e : t = n
    · subst e; rw [if_pos ⟨Nat.le_refl _, Nat.le_refl _⟩, hs]
    · rw [if_neg (by omega)]; exact h.mem t (by omega)⟩
theorem Gd.more {S : Nat → Bool} {n f t : Nat} {L : List (Nat × Nat)} (h : Gd S n (L ++ [(f, t)])) (hs : S n = true) (ht : t + 1 = n) : Gd S (n + 1) (L ++ [(f, n)]) := by
  have hf := h.val (f, t) (by simp)
  refine ⟨fun p hp => ?_, fun x hx => ?_⟩
  · rcases List.mem_append.1 hp with hp | hp
    · have := h.val p (List.mem_append_left _ hp); omega
    · rw [List.mem_singleton.1 hp]; exact ⟨by show f ≤ n; omega, Nat.lt_succ_self _⟩
  · have hm := fun y hy => h.mem y hy
    rw [ofList_snoc]
    simp only [ofList_snoc] at hm
    unfold put at hm ⊢
    by_cases e : x = n
    · subst e; rw [if_pos ⟨by omega, Nat.le_refl _⟩, hs]
    · have := hm x (by omega)
      by_cases c : f ≤ x
      · rw [if_pos ⟨c, by omega⟩] at this
        rw [if_pos ⟨c, by omega⟩]; exact this
      · rw [if_neg (by omega)] at this
        rw [if_neg (by omega)]; exact this
/-- what Claims' closure has captured -/
structure Cap (w : World) (a c b : Nat) (v : Vw) (m : Nat) : Prop where
  vb : VB w b v
  pv : w.cell? ⟨a, 0, none⟩ = some (.pointer (some ⟨b, 0, none⟩))
  pm : w.cell? ⟨c, 0, none⟩ = some (.int .i64 (m : Int))
theorem Cap.below {w w' : World} {a c b m n : Nat} {v : Vw} (h : Cap w a c b v m) (hb : Below n w w') (h1 : a < n) (h2 : c < n) (h3 : b < n) : Cap w' a c b v m :=
  ⟨h.vb.below hb h3, (hb.cell (p := ⟨a, 0, none⟩) h1).trans h.pv, (hb.cell (p := ⟨c, 0, none⟩) h2).trans h.pm⟩
theorem own_eq {v : Vw} {n m : Nat} (hm : m < 64) : (ownZ (v.own n) == (m : Int)) = v.cl m n := by
  unfold Vw.cl ownZ
  by_cases e : v.own n = m
  · rw [e, if_pos hm]; simp
  · rw [beq_eq_false_iff_ne.2 e, beq_eq_false_iff_ne]
    split <;> omega
set_option maxHeartbeats 2000000 in
set_option maxRecDepth 100000 in
theorem claims1_any (a c b m n : Nat) (v : Vw) (w : World) (h : Cap w a c b v m) (hm : m < 64) (hn : n < 16384) : Calls Tryz.prog 47 #[.int .i64 (n : Int), .pointer (some ⟨a, 0, none⟩), .pointer (some ⟨c, 0, none⟩)] w fun e w' => e = .returned (.bool (v.cl m n)) ∧ Below w.heap.size w w' := by
  have h1 := h.pv
  have h2 := h.pm
  have HO : Hid (Calls Tryz.prog 27 #[.pointer (some ⟨b, 0, none⟩), .int .i64 (n : Int)] w.drew fun e w' => e = .returned (.int .i64 (ownZ (v.own n))) ∧ w' = w.drew) := by
    have := owner_any b v (n : Int) w.drew (h.vb.turn rfl)
    rwa [ownI_in v hn] at this
  have he := own_eq (v := v) (n := n) hm
  generalize ownZ (v.own n) = z at *
  have HE := hid he
  have HW : Hid (Below w.heap.size w w.drew) := (Below.refl _ w).drew
  clear hm hn h he
  go_enter Tryz.func47, Tryz.ntmps47
  go_upto_region 1 with fail
  go_region_law (first
    | (go_simp; go_at_call 27; refine HO.out.mono ?_; rintro e w1 ⟨rfl, rfl⟩))
  all_goals go_wp2
  all_goals go_ret
  all_goals exact ⟨by rw [← HE.out]; rfl, HW.out⟩

end Go.Proofs.YtbfllifgmlkndaaGreatDoor

namespace Go.Proofs.YtbfllifgmlkndaaGreatDoor
open Go.RowKit
open Slot

theorem last_yes {t n : Nat} (h : t + 1 = n) : ((t : Int) == (n : Int) - 1) = true := by rw [beq_iff_eq]; omega
theorem last_ne {t n : Nat} (h : ¬ t + 1 = n) : ¬ (t : Int) = (n : Int) - 1 := by omega
theorem last_no {t n : Nat} (h : ¬ t + 1 = n) : ((t : Int) == (n : Int) - 1) = false := by rw [beq_eq_false_iff_ne]; omega

theorem gd_push {S : Nat → Bool} {n k : Nat} {p : Option Addr} {L : List (Nat × Nat)} {w w1 : World} (hG : Gd S n L) (hSn : S n = true) (hO : w1.ownsRow (w.heap.size + 1) 116 2 (.slice p L.length k) L.length (flat L)) (hZ : Box w1 w.heap.size (fun _ => false)) (hW : Below w.heap.size w w1) (hL : L.length ≤ 16384) :
    ∃ v' w3, (Builtin.append_ #[80, 80] 80 #[.slice p L.length k, .slice (some ⟨w1.heap.size, 0, none⟩) 1 1]).run Tryz.prog (w1.alloc (.cells #[.int .i64 (n : Int), .int .i64 (n : Int)] 116)) = .ok v' w3 ∧ (∃ p2 k2, v' = .slice p2 (L ++ [(n, n)]).length k2) ∧ w3.ownsRow (w.heap.size + 1) 116 2 v' (L ++ [(n, n)]).length (flat (L ++ [(n, n)])) ∧ Box w3 w.heap.size (fun _ => false) ∧ Below w.heap.size w w3 ∧ Gd S (n + 1) (L ++ [(n, n)]) := by
  have hs1 : w.heap.size + 1 ≤ w1.heap.size := hZ.lt
  obtain ⟨v', w3, hrun, ho3, hg3⟩ := push_run (w.heap.size + 1) w1 (.slice p L.length k) L n n hO hs1 hL
  have hb3 : Below (w.heap.size + 1) (w1.alloc (.cells #[.int .i64 (n : Int), .int .i64 (n : Int)] 116)) w3 := (Below.refl _ _).grown hg3 (by simp; omega) (fun q hq => (World.ownsRow.lt hO q hq).1)
  obtain ⟨g, cp, hv⟩ := owns_form ho3 (by simp)
  exact ⟨v', w3, hrun, ⟨_, _, hv⟩, ho3, (hZ.below (below_alloc w1 _) hZ.lt).below hb3 (by omega), (hW.alloc (by omega) _).trans (hb3.mono (by omega)), hG.push hSn⟩
set_option maxHeartbeats 1000000 in
set_option maxRecDepth 100000 in
theorem swhere_any (a c b m : Nat) (v : Vw) (w : World) (h : Cap w a c b v m) (hm : m < 64) (ha : a < w.heap.size) (hc : c < w.heap.size) : Calls Tryz.prog 46 #[.func (.func 47) #[] #[.pointer (some ⟨a, 0, none⟩), .pointer (some ⟨c, 0, none⟩)]] w fun e w' => e = .returned (.agg (cellsOf (v.cl m))) ∧ Below w.heap.size w w' := by
  have hz := zeroBits
  have hb := h.vb.lt
  have HZ0 : Hid (Box (w.alloc (.cells (cellsOf (fun _ => false)) 24)) w.heap.size (fun _ => false)) := heap_alloc_new w _
  have HW0 := hid (below_alloc w (.cells (cellsOf (fun _ => false)) 24))
  have HCl := hid (fun (n : Nat) (W : World) (hW : Below w.heap.size w W) (hn : n < 16384) => claims1_any a c b m n v W (h.below hW ha hc hb) hm hn)
  obtain ⟨S, hS⟩ : ∃ S, v.cl m = S := ⟨_, rfl⟩
  rw [hS] at HCl ⊢
  clear hS h
  go_enter Tryz.func46, Tryz.ntmps46
  go_wp2_with fail
  go_loopw [3, 8] (fun c3 c8 wr => ∃ (n : Nat) (p : Option Addr) (k : Nat) (L : List (Nat × Nat)), c8 = .int .i64 (n : Int) ∧ c3 = .slice p L.length k ∧ n ≤ 16384 ∧ L.length ≤ n ∧ Hid (Gd S n L) ∧ Hid (wr.ownsRow (w.heap.size + 1) 116 2 (.slice p L.length k) L.length (flat L)) ∧ Hid (Box wr w.heap.size (fun _ => false)) ∧ Hid (Below w.heap.size w wr)) (fun _ i _ => 16384 - (intOf i).toNat)
  case atStart => exact ⟨0, none, 0, [], rfl, rfl, Nat.zero_le _, Nat.le_refl _, ⟨fun _ h => (by cases h), fun t ht => absurd ht (Nat.not_lt_zero _)⟩, World.ownsRow_nil _ _ _ _, HZ0.out, HW0.out⟩
  case round =>
    obtain ⟨n, p, k, L, rfl, rfl, hn, hL, HG, HO, HZ, HW⟩ := hrel
    by_cases hlt : n < 16384
    · have hnz : (n : Int) < 16384 := by omega
      have HC := hid (HCl.out n wr HW.out hlt)
      go_wp2_with fail
      refine HC.out.mono ?_; rintro e w1 ⟨rfl, hb1⟩
      have HO1 := hid (owns_below HO.out hb1)
      have HZ1 := hid (HZ.out.below hb1 HZ.out.lt)
      have HW1 := hid (HW.out.trans (hb1.mono HW.out.size))
      have hs1 : w.heap.size + 1 ≤ w1.heap.size := HZ1.out.lt
      clear hb1 HC
      cases hSn : S n with
      | false =>
        have HG1 := hid (HG.out.no hSn)
        go_wp2_with fail
        go_roundw
        case rel => exact ⟨n + 1, p, k, L, by go_num, rfl, by omega, by omega, HG1.out, HO1.out, HZ1.out, HW1.out⟩
        case measure => simp [intOf]; omega
      | true =>
        have push := hid (gd_push HG.out hSn HO1.out HZ1.out HW1.out (by omega))
        rcases List.eq_nil_or_concat L with rfl | ⟨L0, ⟨f, t⟩, hL0⟩
        · obtain ⟨v', w3, hrun, ⟨p2, k2, rfl⟩, ho3, hz3, hw3, hg3⟩ := push.out
          have HR := hid hrun
          have HO3 := hid ho3
          have HZ3 := hid hz3
          have HW3 := hid hw3
          have HG3 := hid hg3
          clear push hrun ho3 hz3 hw3 hg3
          go_wp2_with (at_builtin; refine wpList_append_run rfl _ _ 80 rfl _ _ _ _ rfl rfl HR.out ?_)
          go_roundw
          case rel => exact ⟨n + 1, p2, k2, [] ++ [(n, n)], by go_num, rfl, by omega, by simp, HG3.out, HO3.out, HZ3.out, HW3.out⟩
          case measure => simp [intOf]; omega
        · rw [List.concat_eq_append] at hL0
          subst hL0
          have ln : (L0 ++ [(f, t)]).length = L0.length + 1 := by simp
          obtain ⟨g, cp, hv4⟩ := owns_form HO1.out (by rw [ln]; omega)
          injection hv4 with ea el ec
          subst ea
          subst ec
          have hcl : w1.cell? ⟨g, L0.length * 2 + 1, none⟩ = some (.int .i64 (t : Int)) := by
            rw [World.ownsRow.cellAt HO1.out _ (by rw [ln]; omega), flat_append, List.getElem?_append_right (by rw [flat_length]; omega), flat_length]
            simp [flat]
          have hgl := World.ownsRow.lt HO1.out g rfl
          have hfr : w1.frozen? ⟨g, L0.length * 2 + 1, none⟩ = false := World.ownsRow.frozenAt HO1.out _
          have HTn := hid (HG.out.val (f, t) (by simp))
          obtain ⟨K, hK⟩ : ∃ K, (L0 ++ [(f, t)]).length = K := ⟨_, rfl⟩
          obtain ⟨q, hq⟩ : ∃ q, L0.length = q := ⟨_, rfl⟩
          have h1 : (K : Int) - 1 = (q : Int) := by omega
          have h2 : (0 : Int) ≤ (q : Int) := by omega
          have h3 : (q : Int) < (K : Int) := by omega
          have HL2 : Hid (K ≤ n) := by rw [← hK]; exact hL
          have hKz : (K : Int) ≤ 16384 := by have := HL2.out; omega
          have HK := hid hK
          rw [hK]
          rw [hq] at hcl hfr
          by_cases hnt : t + 1 = n
          · have HG3 := hid (HG.out.more hSn hnt)
            have HO3 : Hid ((w1.setCell ⟨g, q * 2 + 1, none⟩ (.int .i64 (n : Int))).ownsRow (w.heap.size + 1) 116 2 (.slice (some ⟨g, 0, none⟩) (L0 ++ [(f, n)]).length k) (L0 ++ [(f, n)]).length (flat (L0 ++ [(f, n)]))) := by
              obtain ⟨ho3, -⟩ := World.ownsRow.stored HO1.out (L0.length * 2 + 1) (.int .i64 (n : Int))
              rw [flat_set, hK, hq] at ho3
              have e : (L0 ++ [(f, n)]).length = K := by rw [← hK]; simp
              rw [e]
              exact ho3
            have HLq : Hid ((L0 ++ [(f, n)]).length = K) := by rw [← hK]; simp [Hid]
            have HZ3 := hid (HZ1.out.below ((Below.refl (w.heap.size + 1) w1).setCell (p := ⟨g, q * 2 + 1, none⟩) hgl.1 (.int .i64 (n : Int))) (by omega))
            have HW3 := hid (HW1.out.setCell (p := ⟨g, q * 2 + 1, none⟩) (by show w.heap.size ≤ g; omega) (.int .i64 (n : Int)))
            have hb : ((t : Int) == (n : Int) - 1) = true := last_yes hnt
            clear push hK hq ln hL el hnt
            go_wp2_with (at_builtin; fail)
            go_roundw
            case rel => exact ⟨n + 1, some ⟨g, 0, none⟩, k, L0 ++ [(f, n)], by go_num, by rw [HLq.out], by omega, by rw [HLq.out]; have := HL2.out; omega, HG3.out, HO3.out, HZ3.out, HW3.out⟩
            case measure => simp [intOf]; omega
          · obtain ⟨v', w3, hrun, ⟨p2, k2, rfl⟩, ho3, hz3, hw3, hg3⟩ := push.out
            have HLe : Hid ((L0 ++ [(f, t)] ++ [(n, n)]).length = K + 1) := by rw [← hK]; simp [Hid]
            rw [hK] at hrun
            obtain ⟨K2, hK2⟩ : ∃ x, (L0 ++ [(f, t)] ++ [(n, n)]).length = x := ⟨_, rfl⟩
            rw [hK2] at hrun
            have HR := hid hrun
            have HK2 := hid hK2
            have HO3 := hid ho3
            have HZ3 := hid hz3
            have HW3 := hid hw3
            have HG3 := hid hg3
            have hb : ((t : Int) == (n : Int) - 1) = false := last_no hnt
            have hb2 : ¬ (t : Int) = (n : Int) - 1 := last_ne hnt
            clear push hrun ho3 hz3 hw3 hg3 hnt el hK hq ln hL hK2
            go_wp2_with (at_builtin; refine wpList_append_run rfl _ _ 80 rfl _ _ _ _ rfl rfl HR.out ?_)
            go_roundw
            case rel => exact ⟨n + 1, p2, k2, L0 ++ [(f, t)] ++ [(n, n)], by go_num, by rw [HK2.out], by omega, by rw [HLe.out]; have := HL2.out; omega, HG3.out, HO3.out, HZ3.out, HW3.out⟩
            case measure => simp [intOf]; omega
    · obtain rfl : n = 16384 := by omega
      have HMk := hid (make_own HO.out (by omega) (fun q hq => by have := HG.out.val q hq; unfold top; exact this))
      have HE : Hid (cellsOf (ofList L) = cellsOf S) := cellsOf_congr (fun t ht => HG.out.mem t ht)
      clear HCl
      go_wp2_with fail
      refine HMk.out.mono ?_; rintro e w2 ⟨rfl, hb2⟩
      have HZ2 := hid (HZ.out.below hb2 HZ.out.lt)
      have HW2 := hid (HW.out.trans (hb2.mono HW.out.size))
      clear hb2
      rw [HE.out]
      have HN2 : Hid (Box (w2.alloc (.cells (cellsOf (fun _ => false)) 24)) w2.heap.size (fun _ => false)) := heap_alloc_new w2 _
      have HN3 : Hid (Box ((w2.alloc (.cells (cellsOf (fun _ => false)) 24)).setRow w2.heap.size (cellsOf S)) w2.heap.size S) := setRow_heap _ _ _ _ _ _ HN2.out
      have HZ3 : Hid (Box ((w2.alloc (.cells (cellsOf (fun _ => false)) 24)).setRow w2.heap.size (cellsOf S)) w.heap.size (fun _ => false)) := (setRow_other _ _ _ _ (by have := HZ2.out.lt; omega)).trans (HZ2.out.below (below_alloc w2 _) HZ2.out.lt)
      go_wp2_with (first | (refine wpList_store_row rfl 24 _ _ rfl w2.heap.size _ rfl rfl 24 _ HN2.out (infoBits _) (sizes _ _) (oneCells _) ?_) | (refine wpList_load_row rfl 24 _ rfl w2.heap.size rfl 24 _ (0, 0) _ HN3.out Tryz.underlying24 rfl (infoBits _) ?_) | (refine wpList_store_row rfl 24 _ _ rfl w.heap.size _ rfl rfl 24 _ HZ3.out (infoBits _) (sizes _ _) (oneCells _) ?_))
      refine bodyPost_ret (v := .agg (cellsOf S)) (ret_box rfl rfl (setRow_heap _ _ _ _ _ _ HZ3.out)) rfl ⟨rfl, ?_⟩
      exact below_setRow (below_setRow (HW2.out.alloc HW2.out.size _) (HW2.out.size) _) (Nat.le_refl _) _
/-- what Claims tells -/
def clsI (v : Vw) (n : Int) : Nat → Bool := if nodeB n = true then v.cl n.toNat else fun _ => false
theorem clsI_in (v : Vw) {n : Nat} (h : n < 64) : clsI v n = v.cl n := by
  unfold clsI nodeB
  rw [if_pos (decide_eq_true (by omega)), Int.toNat_natCast]
theorem clsI_out (v : Vw) {n : Int} (h : nodeB n = false) : clsI v n = fun _ => false := by unfold clsI; rw [h]; simp
theorem build_bits0 (w : World) : (Instr.build 24 #[]).run Tryz.prog w = .ok (.agg (cellsOf (fun _ => false))) w := by
  rw [← zeroBits, zeroRep]
  refine run_build w _ _ _ ?_
  kernel_rfl

end Go.Proofs.YtbfllifgmlkndaaGreatDoor

namespace Go.Proofs.YtbfllifgmlkndaaGreatDoor
open Go.RowKit
open Slot

set_option maxHeartbeats 2000000 in
set_option maxRecDepth 100000 in
/-- Claims -/
theorem claims_any (b : Nat) (v : Vw) (n : Int) (w : World) (hV : VB w b v) : Calls Tryz.prog 20 #[.pointer (some ⟨b, 0, none⟩), .int .i64 n] w fun e w' => e = .returned (.agg (cellsOf (clsI v n))) ∧ Below w.heap.size w w' := by
  have hz := zeroBits
  have hb := hV.lt
  have hbl1 := below_alloc w (.cells #[.pointer (some ⟨b, 0, none⟩)] 50)
  have e1 : (w.alloc (.cells #[.pointer (some ⟨b, 0, none⟩)] 50)).heap.size = w.heap.size + 1 := by simp
  have e2 : ((w.alloc (.cells #[.pointer (some ⟨b, 0, none⟩)] 50)).alloc (.cells #[.int .i64 n] 3)).heap.size = w.heap.size + 2 := by simp
  have HW0 : Hid (Below w.heap.size w (((w.alloc (.cells #[.pointer (some ⟨b, 0, none⟩)] 50)).alloc (.cells #[.int .i64 n] 3)).alloc (.cells (cellsOf (fun _ => false)) 24))) := (hbl1.alloc (by omega) _).alloc (by omega) _
  have HV0 := hid (hV.below HW0.out hb)
  have hb3 := below_alloc ((w.alloc (.cells #[.pointer (some ⟨b, 0, none⟩)] 50)).alloc (.cells #[.int .i64 n] 3)) (.cells (cellsOf (fun _ => false)) 24)
  have HZ0 : Hid (Box (((w.alloc (.cells #[.pointer (some ⟨b, 0, none⟩)] 50)).alloc (.cells #[.int .i64 n] 3)).alloc (.cells (cellsOf (fun _ => false)) 24)) (w.heap.size + 2) (fun _ => false)) := by
    have := heap_alloc_new ((w.alloc (.cells #[.pointer (some ⟨b, 0, none⟩)] 50)).alloc (.cells #[.int .i64 n] 3)) (.cells (cellsOf (fun _ => false)) 24)
    rwa [e2] at this
  have c0 : (((w.alloc (.cells #[.pointer (some ⟨b, 0, none⟩)] 50)).alloc (.cells #[.int .i64 n] 3)).alloc (.cells (cellsOf (fun _ => false)) 24)).cell? ⟨w.heap.size, 0, none⟩ = some (.pointer (some ⟨b, 0, none⟩)) :=
    cell_of_row _ _ _ _ _ _ ((hb3.block _ (by omega)).trans (heap_alloc2_old w _ _))
  have c1 : (((w.alloc (.cells #[.pointer (some ⟨b, 0, none⟩)] 50)).alloc (.cells #[.int .i64 n] 3)).alloc (.cells (cellsOf (fun _ => false)) 24)).cell? ⟨w.heap.size + 1, 0, none⟩ = some (.int .i64 n) :=
    cell_of_row _ _ _ _ _ _ ((hb3.block _ (by omega)).trans (heap_alloc2_new w _ _))
  have HC0 := hid c0
  have HC1 := hid c1
  have hbu := build_bits0
  have HI := hid (fun W => isnode_any n W)
  have HB := hid hb
  clear hbl1 e1 e2 hb3 c0 hb
  cases hn : nodeB n with
  | false =>
    have HE := hid (clsI_out v hn)
    go_enter Tryz.func20, Tryz.ntmps20
    go_upto_region 1 with fail
    generalize (((w.alloc (.cells #[.pointer (some ⟨b, 0, none⟩)] 50)).alloc (.cells #[.int .i64 n] 3)).alloc (.cells (cellsOf (fun _ => false)) 24)) = w3 at *
    go_wp2_with fail
    refine (HI.out _).mono ?_; rintro e w4 ⟨rfl, rfl⟩
    rw [hn]
    go_wp2_with (refine wpList_store_row rfl 24 _ _ rfl (w.heap.size + 2) _ rfl rfl 24 _ HZ0.out (infoBits _) (sizes _ _) (oneCells _) ?_)
    refine bodyPost_ret (v := .agg (cellsOf (fun _ => false))) (ret_box rfl rfl (setRow_heap _ _ _ _ _ _ HZ0.out)) rfl ⟨by rw [HE.out], below_setRow HW0.out (by omega) _⟩
  | true =>
    have h := of_decide_eq_true hn
    obtain ⟨m, rfl⟩ := Int.eq_ofNat_of_zero_le h.1
    have HE := hid (clsI_in v (n := m) (by omega))
    have HCp : Hid (Cap (((w.alloc (.cells #[.pointer (some ⟨b, 0, none⟩)] 50)).alloc (.cells #[.int .i64 (m : Int)] 3)).alloc (.cells (cellsOf (fun _ => false)) 24)) w.heap.size (w.heap.size + 1) b v m) := ⟨HV0.out, HC0.out, HC1.out⟩
    have HS := hid (swhere_any w.heap.size (w.heap.size + 1) b m v _ HCp.out (by omega) (by have := HZ0.out.lt; omega) (by have := HZ0.out.lt; omega))
    clear h hbu
    go_enter Tryz.func20, Tryz.ntmps20
    go_upto_region 1 with fail
    generalize (((w.alloc (.cells #[.pointer (some ⟨b, 0, none⟩)] 50)).alloc (.cells #[.int .i64 (m : Int)] 3)).alloc (.cells (cellsOf (fun _ => false)) 24)) = w3 at *
    go_wp2_with fail
    refine (HI.out _).mono ?_; rintro e w4 ⟨rfl, rfl⟩
    rw [hn]
    go_wp2_with fail
    refine HS.out.mono ?_; rintro e w5 ⟨rfl, hb5⟩
    have HZ5 := hid (HZ0.out.below hb5 HZ0.out.lt)
    have HW5 := hid (HW0.out.trans (hb5.mono HW0.out.size))
    clear hb5
    go_wp2_with (refine wpList_store_row rfl 24 _ _ rfl (w.heap.size + 2) _ rfl rfl 24 _ HZ5.out (infoBits _) (sizes _ _) (oneCells _) ?_)
    refine bodyPost_ret (v := .agg (cellsOf (v.cl m))) (ret_box rfl rfl (setRow_heap _ _ _ _ _ _ HZ5.out)) rfl ⟨by rw [HE.out], below_setRow HW5.out (by omega) _⟩

end Go.Proofs.YtbfllifgmlkndaaGreatDoor
